/- Ledgers, plainly: entries by rising prints (a print: the number of its 16 bytes).; The plain words of layer 1, bytes of numbers, and what the call's own bytes give as a string.; Walk of word.Put.; DERIVED: THE SHELF's CONTRACTS AT THIS DUMP, IN PLAIN WORDS (tools/lay-plain.mjs out of 'YtpcmmejlmhbcdaaGreatLay.lean', which tools/lay-shelf.mjs wrote): THE SAME DECLARATIONS UNDER THE SAME NAMES: 'import', 'namespace', 'open', 'def', 'theorem' AND NOTHING ELSE: no command of the shelf's: FOR A HAND-IN. Each laying: the table of numbers ('.._ren') and one theorem, a field a fact of the dump's own or the kernel's comparison; each contract: ONE APPLICATION. -/
import Derived.Test.YtpcmmejlmhbcdaaGreatRows
import Derived.WalkKit
import Derived.WalkLawsBesides
import Derived.Outline
import Derived.Laws.IdiomStrings
import Derived.Lib.Hide
import Derived.WalkSpells
import Derived.Deep.DeepCutAuto
import Derived.Deep.CutBlock
import Derived.Deep.QuietTactic
import Derived.BigQuiet
import Derived.Deep.RegionHeld3
import Derived.Deep.LoopGhost
import Derived.StillTailTactics
import Derived.Deep.RegionWith
import Derived.Deep.DeepFit
import Derived.Deep.Light
import Derived.Deep.RegionLaw
import Derived.Laws.Externs
import Derived.Shelf.LaysM
import Derived.Shelf.Strconv.Clone
import Derived.Shelf.SlIter.Nil
import Derived.Shelf.SortM.Plain
import Derived.Shelf.SortM.SortNone
import Derived.Shelf.SlMaps.Clone
import Derived.Test.YtpcmmejlmhbcdaaGreatProg
set_option linter.unusedVariables false
set_option linter.unusedSimpArgs false
namespace Go.Proofs.YtpcmmejlmhbcdaaGreat

/-- An entry: its print (the number of its 16 bytes, the highest first), its deaths, whether it is held. -/
structure En where
  k : Nat
  d : Nat
  h : Bool
instance : Inhabited En := ⟨⟨0, 0, false⟩⟩
/-- Does it tell anything? -/
def En.tells (e : En) : Bool := decide (0 < e.d) || e.h
/-- By rising prints. -/
def srt (L : List En) : Prop := L.Pairwise (fun a b => a.k < b.k)
/-- Where a print's entry is, or would be. -/
def plc (L : List En) (k : Nat) : Nat := L.countP (fun e => decide (e.k < k))
def has (L : List En) (k : Nat) : Bool := L.any (fun e => decide (e.k = k))
def get (L : List En) (k : Nat) : En := (L.find? (fun e => decide (e.k = k))).getD ⟨k, 0, false⟩
/-- With an entry in place of its print's. -/
def wi (L : List En) (x : En) : List En := L.filter (fun e => decide (e.k < x.k)) ++ ((if x.tells then [x] else []) ++ L.filter (fun e => decide (x.k < e.k)))

theorem low_none {L : List En} {k : Nat} (h : ∀ e ∈ L, k ≤ e.k) : plc L k = 0 ∧ L.filter (fun e => decide (e.k < k)) = [] := by
  constructor
  · unfold plc
    rw [List.countP_eq_zero]
    intro e he
    have := h e he
    simp; omega
  · rw [List.filter_eq_nil_iff]
    intro e he
    have := h e he
    simp; omega
theorem high_all {L : List En} {k : Nat} (h : ∀ e ∈ L, k < e.k) : L.filter (fun e => decide (k < e.k)) = L ∧ has L k = false := by
  constructor
  · rw [List.filter_eq_self]
    intro e he
    have := h e he
    simp; omega
  · unfold has
    rw [List.any_eq_false]
    intro e he
    have := h e he
    simp; omega
theorem take_plc : ∀ {L : List En} (k : Nat), srt L → L.take (plc L k) = L.filter (fun e => decide (e.k < k))
  | [], k, _ => rfl
  | e :: R, k, h => by
    obtain ⟨h1, h2⟩ := List.pairwise_cons.1 h
    by_cases hk : e.k < k
    · have e1 : plc (e :: R) k = plc R k + 1 := by unfold plc; rw [List.countP_cons_of_pos (by simpa using hk)]
      rw [e1, List.take_succ_cons, take_plc k h2, List.filter_cons_of_pos (by simpa using hk)]
    · obtain ⟨a1, a2⟩ := low_none (L := e :: R) (k := k) (fun x hx => by
        rcases List.mem_cons.1 hx with rfl | hx
        · omega
        · have := h1 x hx; omega)
      rw [a1, a2]; rfl
theorem drop_plc : ∀ {L : List En} (k : Nat), srt L → L.drop (plc L k + if has L k then 1 else 0) = L.filter (fun e => decide (k < e.k))
  | [], k, _ => by simp
  | e :: R, k, h => by
    obtain ⟨h1, h2⟩ := List.pairwise_cons.1 h
    by_cases hk : e.k < k
    · have e1 : plc (e :: R) k = plc R k + 1 := by unfold plc; rw [List.countP_cons_of_pos (by simpa using hk)]
      have e2 : has (e :: R) k = has R k := by
        have : decide (e.k = k) = false := by simp; omega
        unfold has; rw [List.any_cons, this, Bool.false_or]
      rw [e1, e2, show plc R k + 1 + (if has R k then 1 else 0) = (plc R k + if has R k then 1 else 0) + 1 by omega, List.drop_succ_cons, drop_plc k h2, List.filter_cons_of_neg (by simp; omega)]
    · have a1 := (low_none (L := e :: R) (k := k) (fun x hx => by
        rcases List.mem_cons.1 hx with rfl | hx
        · omega
        · have := h1 x hx; omega)).1
      rw [a1]
      by_cases he : e.k = k
      · have e2 : has (e :: R) k = true := by
          have : decide (e.k = k) = true := by simpa using he
          unfold has; rw [List.any_cons, this, Bool.true_or]
        rw [e2, if_pos rfl, List.filter_cons_of_neg (by simp; omega), (high_all (L := R) (k := k) (fun x hx => by have := h1 x hx; omega)).1]
        rfl
      · obtain ⟨b1, b2⟩ := high_all (L := e :: R) (k := k) (fun x hx => by
          rcases List.mem_cons.1 hx with rfl | hx
          · omega
          · have := h1 x hx; omega)
        rw [b2, b1]
        rfl
theorem wi_parts {L : List En} (x : En) (h : srt L) : wi L x = L.take (plc L x.k) ++ ((if x.tells then [x] else []) ++ L.drop (plc L x.k + if has L x.k then 1 else 0)) := by
  rw [take_plc _ h, drop_plc _ h]; rfl
/-- What lies at the place. -/
theorem at_plc : ∀ {L : List En} (k : Nat), srt L → (∀ e, L[plc L k]? = some e → k ≤ e.k) ∧ (has L k = true → L[plc L k]? = some (get L k)) ∧ (has L k = false → get L k = ⟨k, 0, false⟩ ∧ ∀ e, L[plc L k]? = some e → k < e.k)
  | [], k, _ => by simp [has, get]
  | e :: R, k, h => by
    obtain ⟨h1, h2⟩ := List.pairwise_cons.1 h
    by_cases hk : e.k < k
    · have e1 : plc (e :: R) k = plc R k + 1 := by unfold plc; rw [List.countP_cons_of_pos (by simpa using hk)]
      have e0 : decide (e.k = k) = false := by simp; omega
      have e2 : has (e :: R) k = has R k := by unfold has; rw [List.any_cons, e0, Bool.false_or]
      have e3 : get (e :: R) k = get R k := by unfold get; rw [List.find?_cons_of_neg (by simp; omega)]
      rw [e1, e2, e3, List.getElem?_cons_succ]
      exact at_plc k h2
    · have a1 := (low_none (L := e :: R) (k := k) (fun x hx => by
        rcases List.mem_cons.1 hx with rfl | hx
        · omega
        · have := h1 x hx; omega)).1
      rw [a1, List.getElem?_cons_zero]
      by_cases he : e.k = k
      · have e0 : decide (e.k = k) = true := by simpa using he
        have e2 : has (e :: R) k = true := by unfold has; rw [List.any_cons, e0, Bool.true_or]
        have e3 : get (e :: R) k = e := by unfold get; rw [List.find?_cons_of_pos (by simpa using he)]; rfl
        rw [e2, e3]
        refine ⟨fun x hx => ?_, fun _ => rfl, fun h => by cases h⟩
        cases hx; omega
      · obtain ⟨_, b2⟩ := high_all (L := e :: R) (k := k) (fun x hx => by
          rcases List.mem_cons.1 hx with rfl | hx
          · omega
          · have := h1 x hx; omega)
        refine ⟨fun x hx => (by cases hx; omega), fun h => (by rw [b2] at h; cases h), fun _ => ⟨?_, fun x hx => (by cases hx; omega)⟩⟩
        unfold get
        rw [List.find?_eq_none.2]
        · rfl
        · intro x hx
          have hb := b2
          unfold has at hb
          rw [List.any_eq_false] at hb
          exact hb x hx
theorem plc_le (L : List En) (k : Nat) : plc L k ≤ L.length := List.countP_le_length
theorem has_lt {L : List En} {k : Nat} (hs : srt L) (h : has L k = true) : plc L k < L.length := by
  have := (at_plc k hs).2.1 h
  rcases Nat.lt_or_ge (plc L k) L.length with hl | hl
  · exact hl
  · rw [List.getElem?_eq_none hl] at this; cases this
theorem srt_wi {L : List En} (x : En) (h : srt L) : srt (wi L x) := by
  unfold srt wi
  rw [List.pairwise_append, List.pairwise_append]
  refine ⟨h.filter _, ⟨?_, h.filter _, ?_⟩, ?_⟩
  · split
    · exact List.pairwise_singleton _ _
    · exact List.Pairwise.nil
  · intro a ha b hb
    have hb' := (List.mem_filter.1 hb).2
    split at ha
    · cases List.mem_singleton.1 ha
      simpa using hb'
    · cases ha
  · intro a ha b hb
    have ha' := (List.mem_filter.1 ha).2
    simp only [decide_eq_true_eq] at ha'
    rcases List.mem_append.1 hb with hb | hb
    · split at hb
      · cases List.mem_singleton.1 hb; exact ha'
      · cases hb
    · have hb' := (List.mem_filter.1 hb).2
      simp only [decide_eq_true_eq] at hb'
      omega
theorem len_wi (L : List En) (x : En) : (wi L x).length ≤ L.length + 1 := by
  unfold wi
  rw [List.length_append, List.length_append]
  have h1 : (L.filter (fun e => decide (e.k < x.k))).length + (L.filter (fun e => decide (x.k < e.k))).length ≤ L.length := by
    induction L with
    | nil => simp
    | cons e R ih =>
      simp only [List.filter_cons]
      by_cases a : e.k < x.k
      · have b : ¬ x.k < e.k := by omega
        simp [a, b]; omega
      · by_cases b : x.k < e.k
        · simp [a, b]; omega
        · simp [a, b]; omega
  have h2 : (if x.tells then [x] else []).length ≤ 1 := by split <;> simp
  omega
theorem keys_wi (L : List En) (x : En) (e : En) (he : e ∈ wi L x) : e.k = x.k ∨ e ∈ L := by
  unfold wi at he
  rcases List.mem_append.1 he with h | h
  · exact Or.inr (List.mem_filter.1 h).1
  · rcases List.mem_append.1 h with h | h
    · split at h
      · cases List.mem_singleton.1 h; exact Or.inl rfl
      · cases h
    · exact Or.inr (List.mem_filter.1 h).1
theorem find_ext {L : List En} (hs : srt L) {e : En} (he : e ∈ L) : get L e.k = e := by
  have hh : has L e.k = true := by unfold has; rw [List.any_eq_true]; exact ⟨e, he, by simp⟩
  induction L with
  | nil => cases he
  | cons a R ih =>
    obtain ⟨h1, h2⟩ := List.pairwise_cons.1 hs
    rcases List.mem_cons.1 he with rfl | he
    · unfold get; rw [List.find?_cons_of_pos (by simp)]; rfl
    · have hne : a.k ≠ e.k := by have := h1 e he; omega
      have : get (a :: R) e.k = get R e.k := by unfold get; rw [List.find?_cons_of_neg (by simpa using hne)]
      rw [this]
      exact ih h2 he (by unfold has; rw [List.any_eq_true]; exact ⟨e, he, by simp⟩)
theorem get_k (L : List En) (k : Nat) : (get L k).k = k := by
  unfold get
  cases h : L.find? (fun e => decide (e.k = k)) with
  | none => rfl
  | some e => have := List.find?_some h; simpa using this
theorem get_none {L : List En} {k : Nat} (h : ∀ e ∈ L, e.k ≠ k) : get L k = ⟨k, 0, false⟩ := by
  unfold get
  rw [List.find?_eq_none.2 (fun x hx => by simpa using h x hx)]; rfl
theorem get_mem {L : List En} {k : Nat} (h : has L k = true) : get L k ∈ L := by
  unfold has at h
  unfold get
  cases hf : L.find? (fun e => decide (e.k = k)) with
  | none =>
    rw [List.find?_eq_none] at hf
    rw [List.any_eq_true] at h
    obtain ⟨e, he, h2⟩ := h
    exact absurd h2 (hf e he)
  | some e => exact List.mem_of_find?_eq_some hf
/-- What a print has behind an entry's putting. -/
theorem get_wi {L : List En} (x : En) (h : srt L) (q : Nat) : get (wi L x) q = if q = x.k then (if x.tells then x else ⟨x.k, 0, false⟩) else get L q := by
  have hs := srt_wi x h
  by_cases hq : q = x.k
  · subst hq
    rw [if_pos rfl]
    by_cases ht : x.tells
    · rw [if_pos ht]
      have hm : x ∈ wi L x := by unfold wi; rw [if_pos ht]; simp
      exact find_ext hs hm
    · rw [if_neg ht]
      refine get_none (fun e he => ?_)
      unfold wi at he
      rw [if_neg ht] at he
      rcases List.mem_append.1 he with he | he
      · have := (List.mem_filter.1 he).2; simp only [decide_eq_true_eq] at this; omega
      · rcases List.mem_append.1 he with he | he
        · cases he
        · have := (List.mem_filter.1 he).2; simp only [decide_eq_true_eq] at this; omega
  · rw [if_neg hq]
    cases hh : has L q with
    | true =>
      have hm := get_mem hh
      have hk := get_k L q
      have hm2 : get L q ∈ wi L x := by
        unfold wi
        rw [List.mem_append, List.mem_append]
        by_cases hlt : (get L q).k < x.k
        · exact Or.inl (List.mem_filter.2 ⟨hm, by simpa using hlt⟩)
        · exact Or.inr (Or.inr (List.mem_filter.2 ⟨hm, by simp; omega⟩))
      have := find_ext hs hm2
      rw [hk] at this
      exact this
    | false =>
      have hno : ∀ e ∈ L, e.k ≠ q := by
        intro e he
        unfold has at hh
        rw [List.any_eq_false] at hh
        have := hh e he
        simpa using this
      rw [get_none hno]
      refine get_none (fun e he => ?_)
      rcases keys_wi L x e he with h1 | h1
      · omega
      · exact hno e h1

end Go.Proofs.YtpcmmejlmhbcdaaGreat

namespace Go.Proofs.YtpcmmejlmhbcdaaGreat.W
open Go.RowKit

/-- The cells of a row of bytes. -/
def bcells (l : List UInt8) : List Value := l.map fun c => .int .u8 (c.toNat : Int)
/-- The string of a list of bytes. -/
def str (l : List UInt8) : ByteArray := ⟨l.toArray⟩

/-- A number by sevens of bits. -/
def sh (n : Nat) : List UInt8 := if h : 127 < n then UInt8.ofNat (n % 128 + 128) :: sh (n / 128) else [UInt8.ofNat n]
termination_by n
decreasing_by omega

theorem Tryz.info5 : (Tryz.prog.info? 5).map (fun i => (i.zero, i.size, i.bytes)) = some (some (.int .u8 0), 1, 1) := by kernel_rfl

theorem own_string {w : World} {B n : Nat} {v : Value} {l : List UInt8} (h : w.ownsRow B 5 1 v n (bcells l)) :
    (convert 117 9 v).run Tryz.prog w = .ok (.string (str l)) w := by
  have hlen : l.length = n := by have := h.1; simpa [bcells] using this
  rcases h.2 with ⟨rfl, hn⟩ | ⟨g, cap, cur, rfl, _⟩
  · have hl : l = [] := List.eq_nil_of_length_eq_zero (by omega)
    subst hl
    rw [run_convert_bytes_string w 117 9 5 none 0 0 Tryz.underlying117 Tryz.underlying5 Tryz.underlying9]; rfl
  · have h2 := run_convert_bytes_back (P := Tryz.prog) w 117 9 5 ⟨g, 0, none⟩ cap l Tryz.underlying117 Tryz.underlying5 Tryz.underlying9 (fun j hj => by
      have := h.cells (g := g) rfl j (.int .u8 (l[j].toNat : Int)) (by simp [bcells, hj])
      exact this)
    rw [hlen] at h2
    exact h2

theorem bcells_snoc (l : List UInt8) (n : Nat) (h : n < 256) : bcells l ++ [.int .u8 (n : Int)] = bcells (l ++ [UInt8.ofNat n]) := by
  simp [bcells, Nat.mod_eq_of_lt h]

/-- 'b = append(b, c)' of one byte, b nil or the call's own. -/
theorem wpList_append_byte (W : World) {ops : Array Oper} {rest : List Oper} {o : Oper} {a : Act} {Q : Exit → Act → World → Prop} (hgd : o.guard = none) (s x : Operand)
    (ho : o.op = .call { callee := .builtin .append, args := #[s, x], argTypes := #[117, 117] })
    (B : Nat) (v : Value) (k : Nat) (l : List UInt8) (hs : a.eval s = v) (hown : W.ownsRow B 5 1 v k (bcells l))
    (c : Int) (n : Nat) (hc : c = (n : Int)) (hn : n < 256) (hx : a.eval x = .slice (some ⟨W.heap.size, 0, none⟩) 1 1)
    (hk : k + 1 ≤ 140737488355328) (hB : B ≤ W.heap.size)
    (h : ∀ v' w', w'.ownsRow B 5 1 v' (k + 1) (bcells (l ++ [UInt8.ofNat n])) → Below B W w' → wpList Tryz.prog ops Q rest (a.put o.dst v') w') :
    wpList Tryz.prog ops Q (o :: rest) a (W.alloc (.cells #[.int .u8 c] 5)) := by
  subst hc
  obtain ⟨i0, hi, hz0, hz1, hz2⟩ := info_parts Tryz.info5
  refine wpList_append_own _ hgd s x 117 ho B 5 i0 (.int .u8 0) 1 1 Tryz.underlying117 hi hz0 hz1 hz2 rfl (by decide) v k (bcells l) hs (hown.alloc _) ⟨W.heap.size, 0, none⟩ 1 1 [.int .u8 (n : Int)] hx rfl ?_ ?_ ?_ ?_ ?_ ?_
  · intro j u hj
    match j, hj with
    | 0, hj => simp at hj; subst hj; simp [Addr.add]
  · intro u hu; simp at hu; subst hu; rfl
  · unfold maxLen; omega
  · omega
  · simp; omega
  · intro v' w' h1 h2 _
    rw [bcells_snoc l n hn] at h1
    refine h v' w' h1 ?_
    refine (((Below.refl B W).alloc hB _).grown h2 (by simp; omega) ?_)
    intro g hg
    exact (hown.lt g hg).1

/-- A pass that lowers the measure is a pass. -/
theorem jump_less {l : Nat} {J : Act → World → Prop} {R : Act → World → Prop} {Q : Exit → Act → World → Prop} (e : Exit) (a : Act) (w : World)
    (h : Exit.jump l (fun a' w' => J a' w' ∧ R a' w') Q e a w) : Exit.jump l J Q e a w := by
  cases e <;> first | exact h | exact ⟨h.1, h.2.1⟩
end Go.Proofs.YtpcmmejlmhbcdaaGreat.W

namespace Go.Proofs.YtpcmmejlmhbcdaaGreat.W
open Go.RowKit

/-- The last k bytes of a number, the highest first. -/
def be (n : Nat) : Nat → List UInt8
  | 0 => []
  | k + 1 => UInt8.ofNat (n / 256 ^ k) :: be n k

theorem be_length (n k : Nat) : (be n k).length = k := by induction k with
  | zero => rfl
  | succ k ih => simp [be, ih]

theorem byte_at (n k : Nat) : (n : Int) / 2 ^ (8 * k) % 256 = ((UInt8.ofNat (n / 256 ^ k)).toNat : Int) := by
  have e : (2 : Int) ^ (8 * k) = ((256 ^ k : Nat) : Int) := by
    rw [Int.pow_mul]; simp
  rw [e]
  simp

theorem put_step {wr : World} {B g s k t n : Nat} (hk : k < s) (ht : t = s - 1 - k)
    (h : wr.ownsRow B 5 1 (.slice (some ⟨g, 0, none⟩) s s) s (bcells (List.replicate (s - k) 0 ++ be n k))) :
    (wr.setCell ⟨g, t, none⟩ (.int .u8 ((n : Int) / 2 ^ (8 * k) % 256))).ownsRow B 5 1 (.slice (some ⟨g, 0, none⟩) s s) s (bcells (List.replicate (s - (k + 1)) 0 ++ be n (k + 1))) := by
  have h1 := (h.stored t (.int .u8 ((n : Int) / 2 ^ (8 * k) % 256))).1
  have e : (bcells (List.replicate (s - k) 0 ++ be n k)).set t (.int .u8 ((n : Int) / 2 ^ (8 * k) % 256)) = bcells (List.replicate (s - (k + 1)) 0 ++ be n (k + 1)) := by
    rw [byte_at]
    have e2 : s - k = (s - (k + 1)) + 1 := by omega
    have e3 : t = (s - (k + 1)) := by omega
    rw [e2, e3, List.replicate_succ', bcells, bcells, be]
    simp [List.map_append]
  rw [e] at h1
  exact h1

/-- What word.Put makes of a size. -/
def clip (size : Int) : Nat := (min (max size 0) 8).toNat

set_option maxRecDepth 1000000 in
theorem put_any (n : Nat) (size : Int) (hn : n ≤ 18446744073709551615) (w : World) :
    Calls Tryz.prog 93 #[.int .u64 n, .int .i64 size] w fun e w' => e = .returned (.string (str (be n (clip size)))) ∧ Below w.heap.size w w' := by
  have HN := Lib.hid hn
  clear hn
  obtain ⟨s, hs⟩ : ∃ s, s = clip size := ⟨_, rfl⟩
  have hs8 : s ≤ 8 := by rw [hs]; unfold clip; omega
  have hm : min (max size 0) 8 = (s : Int) := by rw [hs]; unfold clip; omega
  have HS := Lib.hid hs
  clear hs
  obtain ⟨i0, hi, hz0, hz1, hz2⟩ := info_parts Tryz.info5
  go_enter Tryz.func93, Tryz.ntmps93
  go_upto_region 1 with (fail)
  go_cut [1] from 7 (fun s1 w1 => s1 = .int .i64 (s : Int) ∧ w = w1)
  case first =>
    go_wp2_with fail
    all_goals (go_meet; case rel => exact ⟨by first | (congr 1; done) | (congr 1; omega), rfl⟩)
  case rest =>
    obtain ⟨rfl, rfl⟩ := hcut
    clear hm
    go_wp2_with (first | (at_make; refine wpList_make_full w rfl (.tmp 10) (.tmp 10) 117 rfl w.heap.size 5 i0 (.int .u8 0) 1 Tryz.underlying117 hi hz0 hz1 .i64 .i64 s s s rfl rfl rfl rfl (by rw [hz2]; omega) (by unfold maxLen; omega) (Nat.le_refl _) ?_; intro w1 hown hgr))
    have hb0 : Below w.heap.size w w1 := (Below.refl _ _).grown hgr (Nat.le_refl _) (by simp)
    have hown0 : w1.ownsRow w.heap.size 5 1 (Value.slice (some ⟨w.heap.size, 0, none⟩) s s) s (bcells (List.replicate (s - 0) 0 ++ be n 0)) := by
      have e : (madeCells (Value.int IntKind.u8 0).cells (s * 1)).toList = bcells (List.replicate (s - 0) 0 ++ be n 0) := by
        rw [Nat.mul_one]
        simp [bcells, be, Value.cells, toList_madeCells_one]
      rw [e] at hown
      exact hown
    have HB0 := Lib.hid hb0
    have HO0 := Lib.hid hown0
    clear hb0 hown0 hown hgr hi hz0 hz1 hz2
    go_loopw [13] (fun i wr => ∃ k : Nat, k ≤ s ∧ i = .int .i64 k ∧ wr.ownsRow w.heap.size 5 1 (Value.slice (some ⟨w.heap.size, 0, none⟩) s s) s (bcells (List.replicate (s - k) 0 ++ be n k)) ∧ Below w.heap.size w wr) (fun i _ => s - (intOf i).toNat)
    case atStart => exact ⟨0, Nat.zero_le _, rfl, HO0.out, HB0.out⟩
    case round =>
      obtain ⟨k, hk, rfl, hown, hb⟩ := hrel
      by_cases hlt : k < s
      · obtain ⟨t, ht⟩ : ∃ t, t = s - 1 - k := ⟨_, rfl⟩
        have e1 : (s : Int) - 1 - k = (t : Int) := by omega
        have hts : t < s := by omega
        have hz := hown.frozenAt t
        have hc : wr.cell? ⟨w.heap.size, t, none⟩ = some (.int .u8 0) := by
          rw [hown.cellAt t (by omega)]
          rw [bcells, List.getElem?_map, List.getElem?_append_left (by simp; omega), List.getElem?_replicate, if_pos (by omega)]
          rfl
        have hst := put_step hlt ht hown
        have hsb := hb.setCell (p := ⟨w.heap.size, t, none⟩) (Nat.le_refl _) (.int .u8 ((n : Int) / 2 ^ (8 * k) % 256))
        have HST := Lib.hid hst
        have HSB := Lib.hid hsb
        clear hst hsb ht hk hown hb
        go_wp2
        go_roundw
        case rel => exact ⟨k + 1, by omega, by go_num, HST.out, HSB.out⟩
        case measure => simp [intOf]; omega
      · have hcv := own_string hown
        have HO := Lib.hid hown
        clear hown
        go_wp2
        go_ret
        refine ⟨?_, hb⟩
        have e : k = s := by omega
        subst e
        rw [← HS.out]
        simp
end Go.Proofs.YtpcmmejlmhbcdaaGreat.W

namespace Go.Proofs
open Go.Shelf
def Tryz.laysM316_ren : Go.Shelf.Ren := ⟨fun | 316 => 110 | n => n, fun | 9 => 9 | 3 => 3 | 4 => 4 | 37 => 117 | 0 => 0 | 127 => 173 | 5 => 5 | n => n, fun | n => n⟩
theorem Tryz.laysM316 : Go.Proofs.LaysM.n316 Tryz.prog Tryz.laysM316_ren := {
  mixed := by kernel_rfl
  f316 := Tryz.func110.trans (congrArg some (by kernel_rfl))
  t0 := Tryz.underlying0
  a0 := Tryz.isAgg0
  z0 := Tryz.sizeOf0
  v0 := Tryz.zeroValue0
  t3 := Tryz.underlying3
  a3 := Tryz.isAgg3
  z3 := Tryz.sizeOf3
  v3 := Tryz.zeroValue3
  t4 := Tryz.underlying4
  a4 := Tryz.isAgg4
  z4 := Tryz.sizeOf4
  v4 := Tryz.zeroValue4
  t9 := Tryz.underlying9
  a9 := Tryz.isAgg9
  z9 := Tryz.sizeOf9
  v9 := Tryz.zeroValue9
  t37 := Tryz.underlying117
  a37 := Tryz.isAgg117
  z37 := Tryz.sizeOf117
  v37 := Tryz.zeroValue117
  t127 := Tryz.underlying173
  a127 := Tryz.isAgg173
  z127 := Tryz.sizeOf173
  v127 := Tryz.zeroValue173
  t5 := Tryz.underlying5
  a5 := Tryz.isAgg5
  z5 := Tryz.sizeOf5
  v5 := Tryz.zeroValue5
  i0 := by kernel_rfl
  i3 := by kernel_rfl
  i4 := by kernel_rfl
  i5 := by kernel_rfl
  i9 := by kernel_rfl
  i37 := by kernel_rfl
  i127 := by kernel_rfl }
def Tryz.keys40_ren : Go.Shelf.Ren := ⟨fun | 7 => 104 | 10 => 114 | n => n, fun | 23 => 97 | 26 => 9 | 3 => 102 | 28 => 160 | 0 => 0 | 27 => 159 | 33 => 52 | 4 => 4 | n => n, fun | n => n⟩
theorem Tryz.keys40 : Go.Proofs.SlLaysZ.n7 Tryz.prog Tryz.keys40_ren := {
  mixed := by kernel_rfl
  f7 := ⟨Tryz.f104.name, by decide, Tryz.func104.trans (congrArg some (by kernel_rfl))⟩
  f10 := ⟨Tryz.f114.name, by decide, Tryz.func114.trans (congrArg some (by kernel_rfl))⟩
  t0 := Tryz.underlying0
  a0 := Tryz.isAgg0
  z0 := Tryz.sizeOf0
  v0 := Tryz.zeroValue0
  t4 := Tryz.underlying4
  a4 := Tryz.isAgg4
  z4 := Tryz.sizeOf4
  v4 := Tryz.zeroValue4
  t23 := Tryz.underlying97
  a23 := Tryz.isAgg97
  z23 := Tryz.sizeOf97
  v23 := Tryz.zeroValue97
  t26 := Tryz.underlying9
  a26 := Tryz.isAgg9
  z26 := Tryz.sizeOf9
  v26 := Tryz.zeroValue9
  t27 := Tryz.underlying159
  a27 := Tryz.isAgg159
  z27 := Tryz.sizeOf159
  v27 := Tryz.zeroValue159
  t28 := Tryz.underlying160
  a28 := Tryz.isAgg160
  z28 := Tryz.sizeOf160
  v28 := Tryz.zeroValue160
  t33 := Tryz.underlying52
  a33 := Tryz.isAgg52
  z33 := Tryz.sizeOf52
  v33 := Tryz.zeroValue52 }
def Tryz.sorted39_ren : Go.Shelf.Ren := ⟨fun | 6 => 103 | 8 => 112 | 9 => 113 | 11 => 125 | 13 => 127 | 12 => 126 | 23 => 146 | 24 => 147 | 14 => 137 | 15 => 138 | 16 => 139 | 17 => 140 | 18 => 141 | 19 => 142 | 20 => 143 | 21 => 144 | 22 => 145 | 25 => 155 | 26 => 156 | 27 => 157 | 28 => 158 | 29 => 159 | 30 => 160 | 31 => 165 | n => n, fun | 26 => 9 | 28 => 160 | 24 => 103 | 0 => 0 | 3 => 3 | 37 => 138 | 48 => 175 | 50 => 78 | 4 => 4 | 40 => 201 | 39 => 200 | 45 => 74 | 5 => 5 | 9 => 9 | 51 => 214 | 55 => 218 | 57 => 227 | 58 => 228 | 33 => 52 | n => n, fun | n => n⟩
theorem Tryz.sorted39 : Go.Proofs.SlLaysZ.n6 Tryz.prog Tryz.sorted39_ren := {
  mixed := by kernel_rfl
  f6 := ⟨Tryz.f103.name, by decide, Tryz.func103.trans (congrArg some (by kernel_rfl))⟩
  f8 := ⟨Tryz.f112.name, by decide, Tryz.func112.trans (congrArg some (by kernel_rfl))⟩
  f11 := ⟨Tryz.f125.name, by decide, Tryz.func125.trans (congrArg some (by kernel_rfl))⟩
  t0 := Tryz.underlying0
  a0 := Tryz.isAgg0
  z0 := Tryz.sizeOf0
  v0 := Tryz.zeroValue0
  t24 := Tryz.underlying103
  a24 := Tryz.isAgg103
  z24 := Tryz.sizeOf103
  v24 := Tryz.zeroValue103
  t26 := Tryz.underlying9
  a26 := Tryz.isAgg9
  z26 := Tryz.sizeOf9
  v26 := Tryz.zeroValue9
  t28 := Tryz.underlying160
  a28 := Tryz.isAgg160
  z28 := Tryz.sizeOf160
  v28 := Tryz.zeroValue160
  i26 := by kernel_rfl }
def Tryz.sort43_ren : Go.Shelf.Ren := ⟨fun | 6 => 113 | 8 => 127 | 9 => 126 | 19 => 146 | 20 => 147 | 21 => 137 | 22 => 138 | 23 => 139 | 24 => 140 | 25 => 141 | 26 => 142 | 27 => 143 | 28 => 144 | 29 => 145 | 36 => 155 | 31 => 156 | 32 => 157 | 37 => 158 | 38 => 159 | 39 => 160 | 41 => 165 | n => n, fun | 27 => 103 | 29 => 9 | 3 => 3 | 32 => 138 | 26 => 103 | 0 => 0 | 44 => 175 | 46 => 78 | 4 => 4 | 36 => 201 | 35 => 200 | 41 => 74 | 5 => 5 | 9 => 9 | 53 => 214 | 57 => 218 | 63 => 227 | 64 => 228 | n => n, fun | n => n⟩
theorem Tryz.sort43 : Go.Proofs.SlLaysM.n6 Tryz.prog Tryz.sort43_ren := {
  mixed := by kernel_rfl
  f6 := ⟨Tryz.f113.name, by decide, Tryz.func113.trans (congrArg some (by kernel_rfl))⟩
  f8 := Tryz.func127.trans (congrArg some (by kernel_rfl))
  f9 := ⟨Tryz.f126.name, by decide, Tryz.func126.trans (congrArg some (by kernel_rfl))⟩
  f19 := Tryz.func146.trans (congrArg some (by kernel_rfl))
  f20 := Tryz.func147.trans (congrArg some (by kernel_rfl))
  f21 := ⟨Tryz.f137.name, by decide, Tryz.func137.trans (congrArg some (by kernel_rfl))⟩
  f22 := ⟨Tryz.f138.name, by decide, Tryz.func138.trans (congrArg some (by kernel_rfl))⟩
  f23 := ⟨Tryz.f139.name, by decide, Tryz.func139.trans (congrArg some (by kernel_rfl))⟩
  f24 := ⟨Tryz.f140.name, by decide, Tryz.func140.trans (congrArg some (by kernel_rfl))⟩
  f25 := ⟨Tryz.f141.name, by decide, Tryz.func141.trans (congrArg some (by kernel_rfl))⟩
  f26 := ⟨Tryz.f142.name, by decide, Tryz.func142.trans (congrArg some (by kernel_rfl))⟩
  f27 := ⟨Tryz.f143.name, by decide, Tryz.func143.trans (congrArg some (by kernel_rfl))⟩
  f28 := ⟨Tryz.f144.name, by decide, Tryz.func144.trans (congrArg some (by kernel_rfl))⟩
  f29 := ⟨Tryz.f145.name, by decide, Tryz.func145.trans (congrArg some (by kernel_rfl))⟩
  f31 := Tryz.func156.trans (congrArg some (by kernel_rfl))
  f32 := Tryz.func157.trans (congrArg some (by kernel_rfl))
  f36 := ⟨Tryz.f155.name, by decide, Tryz.func155.trans (congrArg some (by kernel_rfl))⟩
  f37 := ⟨Tryz.f158.name, by decide, Tryz.func158.trans (congrArg some (by kernel_rfl))⟩
  f38 := ⟨Tryz.f159.name, by decide, Tryz.func159.trans (congrArg some (by kernel_rfl))⟩
  f39 := ⟨Tryz.f160.name, by decide, Tryz.func160.trans (congrArg some (by kernel_rfl))⟩
  f41 := ⟨Tryz.f165.name, by decide, Tryz.func165.trans (congrArg some (by kernel_rfl))⟩
  t0 := Tryz.underlying0
  a0 := Tryz.isAgg0
  z0 := Tryz.sizeOf0
  v0 := Tryz.zeroValue0
  t3 := Tryz.underlying3
  a3 := Tryz.isAgg3
  z3 := Tryz.sizeOf3
  v3 := Tryz.zeroValue3
  t4 := Tryz.underlying4
  a4 := Tryz.isAgg4
  z4 := Tryz.sizeOf4
  v4 := Tryz.zeroValue4
  t5 := Tryz.underlying5
  a5 := Tryz.isAgg5
  z5 := Tryz.sizeOf5
  v5 := Tryz.zeroValue5
  t9 := Tryz.underlying9
  a9 := Tryz.isAgg9
  z9 := Tryz.sizeOf9
  v9 := Tryz.zeroValue9
  t26 := Tryz.underlying103
  a26 := Tryz.isAgg103
  z26 := Tryz.sizeOf103
  v26 := Tryz.zeroValue103
  t27 := Tryz.underlying103
  a27 := Tryz.isAgg103
  z27 := Tryz.sizeOf103
  v27 := Tryz.zeroValue103
  t29 := Tryz.underlying9
  a29 := Tryz.isAgg9
  z29 := Tryz.sizeOf9
  v29 := Tryz.zeroValue9
  t32 := Tryz.underlying138
  a32 := Tryz.isAgg138
  z32 := Tryz.sizeOf138
  v32 := Tryz.zeroValue138
  t35 := Tryz.underlying200
  a35 := Tryz.isAgg200
  z35 := Tryz.sizeOf200
  v35 := Tryz.zeroValue200
  t36 := Tryz.underlying201
  a36 := Tryz.isAgg201
  z36 := Tryz.sizeOf201
  v36 := Tryz.zeroValue201
  t41 := Tryz.underlying74
  a41 := Tryz.isAgg74
  z41 := Tryz.sizeOf74
  v41 := Tryz.zeroValue74
  t44 := Tryz.underlying175
  a44 := Tryz.isAgg175
  z44 := Tryz.sizeOf175
  v44 := Tryz.zeroValue175
  t46 := Tryz.underlying78
  a46 := Tryz.isAgg78
  z46 := Tryz.sizeOf78
  v46 := Tryz.zeroValue78
  t53 := Tryz.underlying214
  a53 := Tryz.isAgg214
  z53 := Tryz.sizeOf214
  v53 := Tryz.zeroValue214
  t57 := Tryz.underlying218
  a57 := Tryz.isAgg218
  z57 := Tryz.sizeOf218
  v57 := Tryz.zeroValue218
  t63 := Tryz.underlying227
  a63 := Tryz.isAgg227
  z63 := Tryz.sizeOf227
  v63 := Tryz.zeroValue227
  t64 := Tryz.underlying228
  a64 := Tryz.isAgg228
  z64 := Tryz.sizeOf228
  v64 := Tryz.zeroValue228 }
def Tryz.clone30_ren : Go.Shelf.Ren := ⟨fun | 5 => 50 | 7 => 78 | n => n, fun | 23 => 97 | 25 => 9 | 3 => 102 | 4 => 4 | 20 => 20 | n => n, fun | n => n⟩
theorem Tryz.clone30 : Go.Proofs.SlLaysW.n5 Tryz.prog Tryz.clone30_ren := {
  mixed := by kernel_rfl
  f5 := ⟨Tryz.f50.name, by decide, Tryz.func50.trans (congrArg some (by kernel_rfl))⟩
  f7 := Tryz.func78.trans (congrArg some (by kernel_rfl))
  t4 := Tryz.underlying4
  a4 := Tryz.isAgg4
  z4 := Tryz.sizeOf4
  v4 := Tryz.zeroValue4
  t20 := Tryz.underlying20
  a20 := Tryz.isAgg20
  z20 := Tryz.sizeOf20
  v20 := Tryz.zeroValue20
  t23 := Tryz.underlying97
  a23 := Tryz.isAgg97
  z23 := Tryz.sizeOf97
  v23 := Tryz.zeroValue97 }
end Go.Proofs
