/- Plain words of layer 3: names, hosts, paths, as lists of bytes.; DERIVED: THE SHELF's CONTRACTS AT THIS DUMP, IN PLAIN WORDS (tools/lay-plain.mjs out of 'YtjfjliobencppaaGreatDoorShelfL.lean', which tools/lay-shelf.mjs wrote): THE SAME DECLARATIONS UNDER THE SAME NAMES: 'import', 'namespace', 'open', 'def', 'theorem' AND NOTHING ELSE: no command of the shelf's: FOR A HAND-IN. Each laying: the table of numbers ('.._ren') and one theorem, a field a fact of the dump's own or the kernel's comparison; each contract: ONE APPLICATION.; The small functions of package label: a byte's kind, each byte of a text.; label.Name and its answer by definition.; Slices of strings: how they read, and append; a text cut by a byte. -/
import Derived.Lib.SplitLaws
import Derived.Shelf.Strings.Builder1
import Derived.Shelf.Strings.Builder2
import Derived.Shelf.Strings.OnBuilder
import Derived.Shelf.Small.Strs
import Derived.Shelf.Strings.BuilderF
import Derived.Shelf.LaysM
import Derived.Shelf.Strconv.Clone
import Derived.Shelf.Strings.Search1
import Derived.Shelf.Strings.Search2
import Derived.Shelf.Strings.Search3
import Derived.Shelf.Strings.Cut
import Derived.Shelf.Strings.Count
import Derived.Shelf.Strings.Prefix
import Derived.Shelf.Strings.Split
import Derived.Shelf.Slices.Equal
import Derived.Shelf.Slices.Empties2
import Derived.Test.YtjfjliobencppaaGreatDoorProg
import Derived.Test.YtjfjliobencppaaGreatDoorRows
import Derived.WalkKit
import Derived.WalkLawsBesides
import Derived.Outline
import Derived.Laws.IdiomStrings
import Derived.Lib.Hide
import Derived.WalkSpells
import Derived.Deep.DeepCutAuto
import Derived.Deep.CutBlock
import Derived.Deep.QuietTactic
import Derived.BigQuiet
import Derived.Deep.LoopGhost
import Derived.Deep.DeepFit
import Derived.Deep.Light
import Derived.Laws.Externs
set_option linter.unusedVariables false
set_option linter.unusedSimpArgs false
namespace Go.Proofs.YtjfjliobencppaaGreatDoor.Sp

/-- Is a byte a small letter? -/
def letterB (c : UInt8) : Bool := decide (97 ≤ c.toNat) && decide (c.toNat ≤ 122)
/-- Is it a digit? -/
def digitB (c : UInt8) : Bool := decide (48 ≤ c.toNat) && decide (c.toNat ≤ 57)
/-- A small letter, a digit, or one of signs. -/
def plainB (x : List UInt8) (c : UInt8) : Bool := letterB c || digitB c || x.contains c
def nameB (l : List UInt8) : Bool := decide (1 ≤ l.length) && decide (l.length ≤ 32) && letterB (l.headD 0) && l.all (plainB [45, 95])
def lowC (c : UInt8) : UInt8 := if 65 ≤ c.toNat ∧ c.toNat ≤ 90 then UInt8.ofNat (c.toNat + 32) else c
def low (l : List UInt8) : List UInt8 := l.map lowC
/-- A text, parted by a byte. -/
def cut (c : UInt8) : List UInt8 → List (List UInt8)
  | [] => [[]]
  | x :: xs => if x = c then [] :: cut c xs else match cut c xs with
    | [] => [[x]]
    | h :: t => (x :: h) :: t
def partB (l : List UInt8) : Bool := decide (0 < l.length) && decide (l.length ≤ 32) && l.headD 0 != 45 && l.getLastD 0 != 45 && l.all (plainB [45])
def hostP (l : List UInt8) : List (List UInt8) := if 1 < (cut 46 l).length ∧ (cut 46 l).headD [] = [42] then (cut 46 l).tail else cut 46 l
def hostN (l : List UInt8) : Nat := if l.length = 0 then 3 else if 64 < l.length then 5 else if (hostP l).all partB then 0 else 4
def seenB (c : UInt8) : Bool := decide (33 ≤ c.toNat) && decide (c.toNat ≤ 126)
/-- Are there two slashes, one behind the other? -/
def twoB : List UInt8 → Bool
  | a :: b :: t => (a == 47 && b == 47) || twoB (b :: t)
  | _ => false
def pathN (l : List UInt8) : Nat := if (l.headD 0 == 47 && !twoB l && l.all seenB) = true then (if 128 < l.length then 5 else 0) else 4
def parts (l : List UInt8) : List (List UInt8) := (cut 47 l).filter (fun p => !p.isEmpty)
def underB (a b : List UInt8) : Bool := (parts a).isPrefixOf (parts b)
/-- Of parts already cut. -/
def coverP (p h : List (List UInt8)) : Bool := p.headD [] == [42] && decide (p.tail.length < h.length) && (h.drop (h.length - p.tail.length) == p.tail)
def coverB (p h : List UInt8) : Bool := low p == low h || coverP (cut 46 (low p)) (cut 46 (low h))
def coverR (p h : List UInt8) : Bool := low p == low h || (decide (2 ≤ (cut 46 (low p)).length) && coverP (cut 46 (low p)) (cut 46 (low h)))

/-! ### Cutting -/
theorem cut_ne (c : UInt8) (l : List UInt8) : cut c l ≠ [] := by
  cases l with
  | nil => simp [cut]
  | cons x xs =>
    unfold cut
    split
    · simp
    · split <;> simp
theorem cut_cons_ne {c x : UInt8} (h : x ≠ c) (l : List UInt8) : cut c (x :: l) = (x :: (cut c l).headD []) :: (cut c l).tail := by
  rw [cut, if_neg h]
  cases e : cut c l with
  | nil => exact absurd e (cut_ne c l)
  | cons a t => rfl
theorem cut_cons_eq (c : UInt8) (l : List UInt8) : cut c (c :: l) = [] :: cut c l := by rw [cut, if_pos rfl]
/-- Two texts with the byte between. -/
theorem cut_mid (c : UInt8) (a b : List UInt8) : cut c (a ++ c :: b) = cut c a ++ cut c b := by
  induction a with
  | nil => rw [List.nil_append, cut_cons_eq]; rfl
  | cons x xs ih =>
    by_cases h : x = c
    · subst h; rw [List.cons_append, cut_cons_eq, cut_cons_eq, ih]; rfl
    · rw [List.cons_append, cut_cons_ne h, cut_cons_ne h, ih]
      cases e : cut c xs with
      | nil => exact absurd e (cut_ne c xs)
      | cons a t => rfl
theorem cut_none {c : UInt8} {l : List UInt8} (h : c ∉ l) : cut c l = [l] := by
  induction l with
  | nil => rfl
  | cons x xs ih =>
    rw [cut_cons_ne (show x ≠ c from by rintro rfl; exact h List.mem_cons_self), ih (fun e => h (List.mem_cons_of_mem _ e))]; rfl
theorem cut_free {c : UInt8} {l p : List UInt8} (h : p ∈ cut c l) : c ∉ p := by
  induction l generalizing p with
  | nil => simp [cut] at h; subst h; simp
  | cons x xs ih =>
    by_cases e : x = c
    · subst e
      rw [cut_cons_eq] at h
      rcases List.mem_cons.1 h with rfl | h
      · simp
      · exact ih h
    · rw [cut_cons_ne e] at h
      cases e2 : cut c xs with
      | nil => exact absurd e2 (cut_ne c xs)
      | cons a t =>
        rw [e2] at h ih
        rcases List.mem_cons.1 h with rfl | h
        · intro h2
          rcases List.mem_cons.1 h2 with h2 | h2
          · exact e h2.symm
          · exact ih (p := a) List.mem_cons_self h2
        · exact ih (List.mem_cons_of_mem _ h)
theorem cut_append_none {c : UInt8} {a : List UInt8} (h : c ∉ a) (b : List UInt8) : cut c (a ++ c :: b) = a :: cut c b := by rw [cut_mid, cut_none h]; rfl
theorem cut_length (c : UInt8) (l : List UInt8) : (cut c l).length = l.count c + 1 := by
  induction l with
  | nil => rfl
  | cons x xs ih =>
    by_cases h : x = c
    · subst h; rw [cut_cons_eq, List.length_cons, ih, List.count_cons_self]
    · rw [cut_cons_ne h, List.length_cons, List.count_cons_of_ne (by simpa using h), List.length_tail, ih]; omega
theorem cut_part_len {c : UInt8} {l p : List UInt8} (h : p ∈ cut c l) : p.length ≤ l.length := by
  induction l generalizing p with
  | nil => simp [cut] at h; subst h; simp
  | cons x xs ih =>
    by_cases e : x = c
    · subst e
      rw [cut_cons_eq] at h
      rcases List.mem_cons.1 h with rfl | h
      · simp
      · have := ih h; simp; omega
    · rw [cut_cons_ne e] at h
      cases e2 : cut c xs with
      | nil => exact absurd e2 (cut_ne c xs)
      | cons a t =>
        rw [e2] at h ih
        rcases List.mem_cons.1 h with rfl | h
        · have := ih (p := a) List.mem_cons_self; simp; omega
        · have := ih (List.mem_cons_of_mem _ h); simp; omega

/-- What the library's cut at one byte gives. -/
theorem index_one_miss (c : UInt8) (l : List UInt8) (h : Lib.index l [c] = -1) : c ∉ l := by
  intro hm
  rcases Lib.index_spec l [c] with ⟨_, h2⟩ | ⟨i, h1, _⟩
  · obtain ⟨j, hj, e⟩ := List.mem_iff_getElem.1 hm
    have := h2 j (by omega)
    simp [Lib.occAt, List.drop_eq_getElem_cons hj, e, List.isPrefixOf] at this
  · omega
theorem index_one_hit (c : UInt8) (l : List UInt8) (i : Nat) (h : Lib.index l [c] = i) : ∃ a b, l = a ++ c :: b ∧ a.length = i ∧ c ∉ a := by
  rcases Lib.index_spec l [c] with ⟨h1, _⟩ | ⟨j, h1, h2, h3, h4⟩
  · omega
  · obtain rfl : i = j := by omega
    have hr := Lib.occAt_head (s := l) (sub := [c]) (i := i) rfl h3
    obtain ⟨hi, e⟩ := List.getElem?_eq_some_iff.1 hr
    refine ⟨l.take i, l.drop (i + 1), ?_, by simp; omega, ?_⟩
    · rw [← e, List.getElem_cons_drop, List.take_append_drop]
    · intro hm
      obtain ⟨k, hk, ek⟩ := List.mem_iff_getElem.1 hm
      simp at hk ek
      have := h4 k (by omega)
      simp [Lib.occAt, List.drop_eq_getElem_cons (show k < l.length by omega), ek, List.isPrefixOf] at this
theorem splitK_cut (c : UInt8) : ∀ (k : Nat) (l : List UInt8), l.count c = k → Lib.splitK [c] 0 k l = cut c l
  | 0, l, h => by
    rw [cut_none (List.count_eq_zero.1 h)]; rfl
  | k + 1, l, h => by
    unfold Lib.splitK
    have hge := Lib.index_ge l [c]
    by_cases hm : Lib.index l [c] = -1
    · have := index_one_miss c l hm
      rw [List.count_eq_zero.2 this] at h; omega
    · obtain ⟨i, hi⟩ : ∃ i : Nat, Lib.index l [c] = i := ⟨(Lib.index l [c]).toNat, by omega⟩
      obtain ⟨a, b, rfl, ha, hc⟩ := index_one_hit c l i hi
      rw [if_neg (by simpa using hm), hi]
      have hcount : b.count c = k := by
        rw [List.count_append, List.count_eq_zero.2 hc, List.count_cons_self] at h; omega
      rw [cut_append_none hc, ← splitK_cut c k b hcount]
      subst ha
      simp
theorem splitB_cut (c : UInt8) (s : ByteArray) : (Lib.splitB ⟨#[c]⟩ 0 (Lib.countB s ⟨#[c]⟩) s).map (·.data.toList) = cut c s.data.toList := by
  rw [Lib.splitB_data]
  refine splitK_cut c _ _ ?_
  show _ = Lib.count s.data.toList [c]
  rw [Lib.count_one]

/-! ### A path's parts -/
theorem parts_mid (a b : List UInt8) : parts (a ++ 47 :: b) = parts a ++ parts b := by unfold parts; rw [cut_mid, List.filter_append]
theorem parts_one {p : List UInt8} (h : 47 ∉ p) (h2 : p ≠ []) : parts p = [p] := by unfold parts; rw [cut_none h]; simp [h2]
theorem parts_nil : parts [] = [] := rfl
theorem parts_slash : parts [47] = [] := rfl
theorem parts_mem {l p : List UInt8} (h : p ∈ parts l) : p ≠ [] ∧ 47 ∉ p ∧ p.length ≤ l.length := by
  unfold parts at h
  obtain ⟨h1, h2⟩ := List.mem_filter.1 h
  exact ⟨by simpa using h2, cut_free h1, cut_part_len h1⟩
/-- Parts, put together. -/
def glue (ps : List (List UInt8)) : List UInt8 := ps.flatMap (fun p => 47 :: p)
theorem parts_glue : ∀ ps : List (List UInt8), (∀ p ∈ ps, p ≠ [] ∧ 47 ∉ p) → parts (glue ps) = ps
  | [], _ => rfl
  | [p], h => by
    have := h p List.mem_cons_self
    show parts ([] ++ 47 :: (p ++ [])) = _
    rw [parts_mid, List.append_nil, parts_one this.2 this.1]; rfl
  | p :: q :: r, h => by
    have h1 := h p List.mem_cons_self
    have ih := parts_glue (q :: r) (fun x hx => h x (List.mem_cons_of_mem _ hx))
    have e : glue (p :: q :: r) = [] ++ 47 :: (p ++ 47 :: (q ++ glue r)) := rfl
    rw [e, parts_mid, parts_mid, parts_one h1.2 h1.1]
    have e2 : parts (glue (q :: r)) = parts [] ++ parts (q ++ glue r) := parts_mid [] _
    rw [ih] at e2
    rw [← show parts (q ++ glue r) = q :: r from by simpa [parts_nil] using e2.symm]
    rfl
theorem under_refl (a : List UInt8) : underB a a = true := by unfold underB; rw [List.isPrefixOf_iff_prefix]; exact List.prefix_refl _
theorem under_trans {a b c : List UInt8} (h : underB a b = true) (h2 : underB b c = true) : underB a c = true := by
  unfold underB at *
  rw [List.isPrefixOf_iff_prefix] at *
  exact h.trans h2
theorem under_slash (a : List UInt8) : underB [47] a = true := by unfold underB; rw [parts_slash]; rfl
theorem under_more (a : List UInt8) : underB a (a ++ [47, 120]) = true := by
  unfold underB
  rw [show ([47, 120] : List UInt8) = 47 :: [120] from rfl, parts_mid, List.isPrefixOf_iff_prefix]
  exact List.prefix_append _ _
theorem under_of_parts {a b : List UInt8} (h : parts a = parts b) : underB a b = true := by
  unfold underB; rw [h, List.isPrefixOf_iff_prefix]; exact List.prefix_refl _

end Go.Proofs.YtjfjliobencppaaGreatDoor.Sp

namespace Go.Proofs
open Go.Shelf
def Tryz.z_laysM316_ren : Go.Shelf.Ren := ⟨fun | 316 => 118 | n => n, fun | 9 => 9 | 3 => 3 | 4 => 4 | 37 => 113 | 0 => 0 | 127 => 196 | 5 => 5 | n => n, fun | n => n⟩
theorem Tryz.z_laysM316 : Go.Proofs.LaysM.n316 Tryz.prog Tryz.z_laysM316_ren := {
  mixed := by kernel_rfl
  f316 := Tryz.func118.trans (congrArg some (by kernel_rfl))
  t0 := Tryz.underlying0
  a0 := Tryz.isAgg0
  z0 := Tryz.sizeOf0
  v0 := Tryz.zeroValue0
  t3 := Tryz.underlying3
  a3 := Tryz.isAgg3
  z3 := Tryz.sizeOf3
  v3 := Tryz.zeroValue3
  t4 := Tryz.underlying4
  a4 := Tryz.isAgg4
  z4 := Tryz.sizeOf4
  v4 := Tryz.zeroValue4
  t9 := Tryz.underlying9
  a9 := Tryz.isAgg9
  z9 := Tryz.sizeOf9
  v9 := Tryz.zeroValue9
  t37 := Tryz.underlying113
  a37 := Tryz.isAgg113
  z37 := Tryz.sizeOf113
  v37 := Tryz.zeroValue113
  t127 := Tryz.underlying196
  a127 := Tryz.isAgg196
  z127 := Tryz.sizeOf196
  v127 := Tryz.zeroValue196
  t5 := Tryz.underlying5
  a5 := Tryz.isAgg5
  z5 := Tryz.sizeOf5
  v5 := Tryz.zeroValue5
  i0 := by kernel_rfl
  i3 := by kernel_rfl
  i4 := by kernel_rfl
  i5 := by kernel_rfl
  i9 := by kernel_rfl
  i37 := by kernel_rfl
  i127 := by kernel_rfl }
open Go.RowKit in
/-- internal/stringslite.Clone (what strings.Clone calls): "Clone returns a fresh copy of s.": THE SAME BYTES. Of what was there nothing has turned (a new row is laid, and frozen, where s is not empty). (LAID: no walk: one application.) -/
theorem Tryz.z_stringslite_Clone (s : ByteArray) (w : World) (hlim : s.size ≤ 281474976710656) :
    Calls Tryz.prog 118 #[.string s] w fun e w' => e = .returned (.string s) ∧ Below w.heap.size w w' := Any.stringslite_Clone Tryz.z_laysM316 s w hlim
end Go.Proofs

namespace Go.Proofs.YtjfjliobencppaaGreatDoor.Sp
open Go.RowKit

theorem ret_bool {a b : Bool} (h : a = b) : Ending.returned (.bool a) = Ending.returned (.bool b) := by rw [h]
theorem ret_int {k : IntKind} {a b : Int} (h : a = b) : Ending.returned (.int k a) = .returned (.int k b) := by rw [h]

theorem indexByte_mem (l : List UInt8) (c : UInt8) : 0 ≤ Lib.indexByte l c ↔ c ∈ l := by
  induction l with
  | nil => simp [Lib.indexByte]
  | cons b l ih =>
    unfold Lib.indexByte
    by_cases h : b = c
    · subst h; simp
    · rw [if_neg (by simpa using h)]
      have hge := Lib.indexByte_ge l c
      by_cases hm : Lib.indexByte l c = -1
      · rw [if_pos (by simpa using hm)]
        have : ¬ c ∈ l := fun e => by have := ih.2 e; omega
        simp [this, Ne.symm h]
      · rw [if_neg (by simpa using hm)]
        have : c ∈ l := ih.1 (by omega)
        simp [this]; omega
theorem all_stop (l : List UInt8) (p : UInt8 → Bool) (k : Nat) (h : k < l.length) (hp : p l[k] = false) : l.all p = false := by
  rw [List.all_eq_false]; exact ⟨l[k], List.getElem_mem h, by simp [hp]⟩
theorem all_snoc (l : List UInt8) (p : UInt8 → Bool) (k : Nat) (h : k < l.length) (ha : (l.take k).all p = true) (hp : p l[k] = true) : (l.take (k + 1)).all p = true := by
  rw [List.take_succ_eq_append_getElem h, List.all_append, ha]; simp [hp]

end Go.Proofs.YtjfjliobencppaaGreatDoor.Sp

namespace Go.Proofs.YtjfjliobencppaaGreatDoor.Sp
open Go.RowKit

theorem cell_one (w : World) (v : Value) (t : TypeId) : (w.alloc (.cells #[v] t)).cell? ⟨w.heap.size, 0, none⟩ = some v := by
  rw [World.cell?_alloc_new]; rfl

theorem head_get (s : ByteArray) (h : 0 < s.size) : s.data.toList.headD 0 = s[0] := by
  obtain ⟨⟨l⟩⟩ := s
  cases l with
  | nil => simp [ByteArray.size] at h
  | cons a t => rfl

/-- What the loop asks of a byte. -/
def NameAt (j : Nat) (c : UInt8) : Prop := letterB c = true ∨ (0 < j ∧ plainB [45, 95] c = true)
theorem getD_at (s : ByteArray) (k : Nat) (h : k < s.size) : s.data.toList.getD k 0 = s[k] := by
  have h2 : k < s.data.toList.length := by rw [← Lib.size_eq]; exact h
  rw [List.getD_eq_getElem?_getD, List.getElem?_eq_getElem h2]; rfl
theorem getD_mem {l : List UInt8} {k : Nat} (h : k < l.length) : l.getD k 0 ∈ l := by
  rw [List.getD_eq_getElem?_getD, List.getElem?_eq_getElem h]; exact List.getElem_mem h
theorem mem_getD {l : List UInt8} {x : UInt8} (h : x ∈ l) : ∃ k, k < l.length ∧ l.getD k 0 = x := by
  obtain ⟨j, hj, rfl⟩ := List.mem_iff_getElem.1 h
  exact ⟨j, hj, by rw [List.getD_eq_getElem?_getD, List.getElem?_eq_getElem hj]; rfl⟩
theorem nameB_iff (l : List UInt8) : nameB l = true ↔ 0 < l.length ∧ l.length ≤ 32 ∧ ∀ j, j < l.length → NameAt j (l.getD j 0) := by
  unfold nameB
  cases l with
  | nil => simp
  | cons a t =>
    simp only [Bool.and_eq_true, decide_eq_true_eq, List.all_eq_true, List.headD_cons]
    constructor
    · rintro ⟨⟨⟨h1, h2⟩, h3⟩, h4⟩
      refine ⟨h1, h2, fun j hj => ?_⟩
      cases j with
      | zero => exact Or.inl h3
      | succ j => exact Or.inr ⟨by omega, h4 _ (getD_mem hj)⟩
    · rintro ⟨h1, h2, h3⟩
      have h0 := (h3 0 h1).resolve_right (by simp)
      refine ⟨⟨⟨h1, h2⟩, h0⟩, fun x hx => ?_⟩
      obtain ⟨j, hj, rfl⟩ := mem_getD hx
      rcases h3 j hj with h | h
      · unfold plainB; simp only [h, Bool.true_or]
      · exact h.2
theorem byte_eq (c d : UInt8) : c = d ↔ c.toNat = d.toNat := UInt8.toNat_inj.symm
theorem nameAt_iff (j : Nat) (c : UInt8) : NameAt j c ↔ (97 ≤ c.toNat ∧ c.toNat ≤ 122) ∨ (0 < j ∧ ((48 ≤ c.toNat ∧ c.toNat ≤ 57) ∨ c.toNat = 45 ∨ c.toNat = 95)) := by
  unfold NameAt plainB letterB digitB
  simp [byte_eq]
  omega
theorem neq_int {n m : Nat} (h : n ≠ m) : ((n : Int) == (m : Int)) = false := by rw [beq_eq_false_iff_ne]; omega
theorem all_below {P : Nat → Prop} {k : Nat} (h : ∀ j, j < k → P j) (hk : P k) : ∀ j, j < k + 1 → P j := by
  intro j hj
  by_cases e : j = k
  · subst e; exact hk
  · exact h j (by omega)

/-- No byte of those that are asked for one by one. -/
def Apart (n : Nat) : Prop := ((n : Int) == 45) = false ∧ ((n : Int) == 95) = false ∧ ((n : Int) == 47) = false
theorem apart_of {n : Nat} (h : n ≠ 45) (h2 : n ≠ 95) (h3 : n ≠ 47) : Apart n := ⟨neq_int h, neq_int h2, neq_int h3⟩
theorem byte_class (n : Nat) : (0 ≤ n ∧ n ≤ 44 ∧ Apart n) ∨ n = 45 ∨ (46 ≤ n ∧ n ≤ 46 ∧ Apart n) ∨ n = 47 ∨ (48 ≤ n ∧ n ≤ 57 ∧ Apart n) ∨ (58 ≤ n ∧ n ≤ 94 ∧ Apart n) ∨ n = 95 ∨ (96 ≤ n ∧ n ≤ 96 ∧ Apart n) ∨ (97 ≤ n ∧ n ≤ 122 ∧ Apart n) ∨ (123 ≤ n ∧ 0 ≤ n ∧ Apart n) := by
  by_cases h1 : n = 45
  · simp [h1]
  by_cases h2 : n = 95
  · simp [h2]
  by_cases h3 : n = 47
  · simp [h3]
  have := apart_of h1 h2 h3
  simp only [this, and_true]
  omega
theorem zero_class (k : Nat) : k = 0 ∨ (0 < k ∧ ((k : Int) == 0) = false) := by
  rcases Nat.eq_zero_or_pos k with h | h
  · exact Or.inl h
  · exact Or.inr ⟨h, neq_int (m := 0) (by omega)⟩

end Go.Proofs.YtjfjliobencppaaGreatDoor.Sp

namespace Go.Proofs.YtjfjliobencppaaGreatDoor.Sp
open Go.RowKit

/-- The string of a list of bytes. -/
def str (l : List UInt8) : ByteArray := ⟨l.toArray⟩
theorem str_data (l : List UInt8) : (str l).data.toList = l := rfl
theorem str_of (s : ByteArray) : str s.data.toList = s := Lib.mk_data s
theorem str_size (l : List UInt8) : (str l).size = l.length := Lib.size_eq (str l)
theorem str_inj {a b : List UInt8} (h : str a = str b) : a = b := by rw [← str_data a, h, str_data]
theorem str_extract (s : ByteArray) (a b : Nat) : s.extract a b = str ((s.data.toList.drop a).take (b - a)) := Lib.extract_eq s a b
/-- Cells of texts. -/
def scells (l : List (List UInt8)) : List Value := l.map fun p => .string (str p)
theorem scells_snoc (l : List (List UInt8)) (p : List UInt8) : scells l ++ [.string (str p)] = scells (l ++ [p]) := by simp [scells]
theorem scells_len (l : List (List UInt8)) : (scells l).length = l.length := by simp [scells]
theorem scells_at (l : List (List UInt8)) (j : Nat) (h : j < l.length) : (scells l)[j]? = some (.string (str (l.getD j []))) := by
  simp [scells, h]

/-- What a slice of strings reads as. -/
def Reads (w : World) (v : Value) (l : List (List UInt8)) : Prop :=
  ∃ a c, v = .slice a l.length c ∧ l.length ≤ c ∧ l.length ≤ 4294967296 ∧ (0 < l.length → ∃ b o, a = some ⟨b, o, none⟩ ∧ b < w.heap.size ∧ ∀ j, j < l.length → w.cell? ⟨b, o + j, none⟩ = some (.string (str (l.getD j []))))
theorem Reads.later {w w' : World} {v : Value} {l : List (List UInt8)} (h : Reads w v l) (hb : Below w.heap.size w w') : Reads w' v l := by
  obtain ⟨a, c, hv, hc, hN, h⟩ := h
  refine ⟨a, c, hv, hc, hN, fun h0 => ?_⟩
  obtain ⟨b, o, ha, hbl, hcell⟩ := h h0
  exact ⟨b, o, ha, Nat.lt_of_lt_of_le hbl hb.size, fun j hj => by rw [hb.cell (p := ⟨b, o + j, none⟩) hbl]; exact hcell j hj⟩
theorem reads_own {w : World} {B : Nat} {v : Value} {l : List (List UInt8)} (h : w.ownsRow B 9 1 v l.length (scells l)) (hl : l.length ≤ 4294967296) : Reads w v l := by
  rcases h.2 with ⟨rfl, h0⟩ | ⟨g, cap, cur, rfl, hg, hcur, hcap, _⟩
  · exact ⟨none, 0, by rw [h0], by omega, hl, fun h => by omega⟩
  · refine ⟨_, cap, rfl, hcap, hl, fun _ => ⟨g, 0, rfl, (h.lt g rfl).2, fun j hj => ?_⟩⟩
    have := h.cells (g := g) rfl j _ (scells_at l j hj)
    rw [show (⟨g, 0, none⟩ : Addr).add j = ⟨g, 0 + j, none⟩ by unfold Addr.add; by_cases e : j = 0 <;> simp [e]] at this
    exact this

theorem own_later {B : Nat} {e : TypeId} {k : Nat} {v : Value} {n : Nat} {xs : List Value} {w w' : World} (h : w.ownsRow B e k v n xs) (hb : Below w.heap.size w w') : w'.ownsRow B e k v n xs :=
  h.kept (row := none) ⟨hb.os, hb.tape, hb.output, hb.size, fun j hj _ => hb.block j hj⟩ (by cases hv : v.ownBlock <;> simp)
theorem str_full {p : List UInt8} (h : p ≠ []) : (str p).toList.isEmpty = false ∧ (!(str p).toList.isEmpty) = true := by
  rw [Lib.toList_data, str_data]
  cases p with
  | nil => exact absurd rfl h
  | cons a t => exact ⟨rfl, rfl⟩

theorem str_neq {p q : List UInt8} (h : p ≠ q) : ((str p).toList == (str q).toList) = false := by
  rw [Lib.toList_data, Lib.toList_data, str_data, str_data, beq_eq_false_iff_ne]; exact h

theorem info9 : (Tryz.prog.info? 9).map (fun i => (i.zero, i.size, i.bytes)) = some (some (.string ByteArray.empty), 1, 16) := by kernel_rfl

/-- 'out = append(out, p)' of one text, out nil or the call's own. -/
theorem wpList_append_str (W : World) {ops : Array Oper} {rest : List Oper} {o : Oper} {a : Act} {Q : Exit → Act → World → Prop} (hgd : o.guard = none) (s x : Operand)
    (ho : o.op = .call { callee := .builtin .append, args := #[s, x], argTypes := #[114, 114] })
    (B : Nat) (v : Value) (l : List (List UInt8)) (hs : a.eval s = v) (hown : W.ownsRow B 9 1 v l.length (scells l))
    (y : ByteArray) (p : List UInt8) (hy : y = str p) (hx : a.eval x = .slice (some ⟨W.heap.size, 0, none⟩) 1 1)
    (hk : l.length + 1 ≤ 4294967296) (hB : B ≤ W.heap.size)
    (h : ∀ v' w', w'.ownsRow B 9 1 v' (l ++ [p]).length (scells (l ++ [p])) → Below B W w' → wpList Tryz.prog ops Q rest (a.put o.dst v') w') :
    wpList Tryz.prog ops Q (o :: rest) a (W.alloc (.cells #[.string y] 9)) := by
  subst hy
  obtain ⟨i0, hi, hz0, hz1, hz2⟩ := info_parts info9
  refine wpList_append_own _ hgd s x 114 ho B 9 i0 (.string ByteArray.empty) 1 16 Tryz.underlying114 hi hz0 hz1 hz2 rfl (by decide) v l.length (scells l) hs (hown.alloc _) ⟨W.heap.size, 0, none⟩ 1 1 [.string (str p)] hx rfl ?_ ?_ ?_ ?_ ?_ ?_
  · intro j u hj
    match j, hj with
    | 0, hj => simp at hj; subst hj; simp [Addr.add]
  · intro u hu; simp at hu; subst hu; rfl
  · unfold maxLen; omega
  · omega
  · simp; omega
  · intro v' w' h1 h2 _
    rw [scells_snoc l p, show l.length + 1 = (l ++ [p]).length by simp] at h1
    refine h v' w' h1 ?_
    refine (((Below.refl B W).alloc hB _).grown h2 (by simp; omega) ?_)
    intro g hg
    exact (hown.lt g hg).1

/-- Where the text behind 'at' has the byte first at k. -/
theorem cut_step (c : UInt8) (l : List UInt8) (a k : Nat) (hak : a ≤ k) (hk : k < l.length) (hc : l.getD k 0 = c) (hn : ∀ j, a ≤ j → j < k → l.getD j 0 ≠ c) :
    cut c (l.drop a) = (l.drop a).take (k - a) :: cut c (l.drop (k + 1)) := by
  have e : l.drop a = (l.drop a).take (k - a) ++ c :: l.drop (k + 1) := by
    conv => lhs; rw [← List.take_append_drop (k - a) (l.drop a)]
    rw [List.drop_drop, show a + (k - a) = k by omega, List.drop_eq_getElem_cons hk]
    rw [List.getD_eq_getElem?_getD, List.getElem?_eq_getElem hk] at hc
    rw [← hc]; rfl
  have hnot : c ∉ (l.drop a).take (k - a) := by
    intro hm
    obtain ⟨j, hj, ej⟩ := List.mem_iff_getElem.1 hm
    simp at hj ej
    refine hn (a + j) (by omega) (by omega) ?_
    rw [List.getD_eq_getElem?_getD, List.getElem?_eq_getElem (by omega)]; simpa using ej
  rw [e, cut_append_none hnot, ← e]
theorem cut_last (c : UInt8) (l : List UInt8) (a : Nat) (hn : ∀ j, a ≤ j → j < l.length → l.getD j 0 ≠ c) : cut c (l.drop a) = [(l.drop a).take (l.length - a)] := by
  rw [List.take_of_length_le (by simp), cut_none]
  intro hm
  obtain ⟨j, hj, ej⟩ := List.mem_iff_getElem.1 hm
  simp at hj ej
  refine hn (a + j) (by omega) (by omega) ?_
  rw [List.getD_eq_getElem?_getD, List.getElem?_eq_getElem (by omega)]; simpa using ej
theorem cut_le (c : UInt8) (l : List UInt8) : (cut c l).length ≤ l.length + 1 := by rw [cut_length]; have := List.count_le_length (a := c) (l := l); omega

/-- An answer that is a slice of strings. -/
def Gives (w : World) (l : List (List UInt8)) (e : Ending) (w' : World) : Prop := ∃ v, e = .returned v ∧ Reads w' v l ∧ Below w.heap.size w w'
def CutJ (c : UInt8) (l : List UInt8) (k a : Nat) (acc : List (List UInt8)) : Prop :=
  acc.length ≤ k ∧ (k ≤ l.length → a ≤ k ∧ acc ++ cut c (l.drop a) = cut c l ∧ ∀ j, a ≤ j → j < k → l.getD j 0 ≠ c) ∧ (l.length < k → acc = cut c l)

end Go.Proofs.YtjfjliobencppaaGreatDoor.Sp
