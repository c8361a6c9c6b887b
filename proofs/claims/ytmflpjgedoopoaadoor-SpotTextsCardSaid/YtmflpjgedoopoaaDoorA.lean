/- Plain words of layer 3: names, hosts, paths, as lists of bytes. -/
import Derived.Lib.SplitLaws
namespace Go.Proofs.YtmflpjgedoopoaaDoor

/-- Is a byte a small letter? -/
def letterB (c : UInt8) : Bool := decide (97 ≤ c.toNat) && decide (c.toNat ≤ 122)
/-- Is it a digit? -/
def digitB (c : UInt8) : Bool := decide (48 ≤ c.toNat) && decide (c.toNat ≤ 57)
/-- A small letter, a digit, or one of signs. -/
def plainB (x : List UInt8) (c : UInt8) : Bool := letterB c || digitB c || x.contains c
def nameB (l : List UInt8) : Bool := decide (1 ≤ l.length) && decide (l.length ≤ 32) && letterB (l.headD 0) && l.all (plainB [45, 95])
def lowC (c : UInt8) : UInt8 := if 65 ≤ c.toNat ∧ c.toNat ≤ 90 then UInt8.ofNat (c.toNat + 32) else c
def low (l : List UInt8) : List UInt8 := l.map lowC
/-- A text, parted by a byte. -/
def cut (c : UInt8) : List UInt8 → List (List UInt8)
  | [] => [[]]
  | x :: xs => if x = c then [] :: cut c xs else match cut c xs with
    | [] => [[x]]
    | h :: t => (x :: h) :: t
def partB (l : List UInt8) : Bool := decide (0 < l.length) && decide (l.length ≤ 32) && l.headD 0 != 45 && l.getLastD 0 != 45 && l.all (plainB [45])
def hostP (l : List UInt8) : List (List UInt8) := if 1 < (cut 46 l).length ∧ (cut 46 l).headD [] = [42] then (cut 46 l).tail else cut 46 l
def hostN (l : List UInt8) : Nat := if l.length = 0 then 3 else if 64 < l.length then 5 else if (hostP l).all partB then 0 else 4
def seenB (c : UInt8) : Bool := decide (33 ≤ c.toNat) && decide (c.toNat ≤ 126)
/-- Are there two slashes, one behind the other? -/
def twoB : List UInt8 → Bool
  | a :: b :: t => (a == 47 && b == 47) || twoB (b :: t)
  | _ => false
def pathN (l : List UInt8) : Nat := if (l.headD 0 == 47 && !twoB l && l.all seenB) = true then (if 128 < l.length then 5 else 0) else 4
def parts (l : List UInt8) : List (List UInt8) := (cut 47 l).filter (fun p => !p.isEmpty)
def underB (a b : List UInt8) : Bool := (parts a).isPrefixOf (parts b)
/-- Of parts already cut. -/
def coverP (p h : List (List UInt8)) : Bool := p.headD [] == [42] && decide (p.tail.length < h.length) && (h.drop (h.length - p.tail.length) == p.tail)
def coverB (p h : List UInt8) : Bool := low p == low h || coverP (cut 46 (low p)) (cut 46 (low h))
def coverR (p h : List UInt8) : Bool := low p == low h || (decide (2 ≤ (cut 46 (low p)).length) && coverP (cut 46 (low p)) (cut 46 (low h)))

/-! ### Cutting -/
theorem cut_ne (c : UInt8) (l : List UInt8) : cut c l ≠ [] := by
  cases l with
  | nil => simp [cut]
  | cons x xs =>
    unfold cut
    split
    · simp
    · split <;> simp
theorem cut_cons_ne {c x : UInt8} (h : x ≠ c) (l : List UInt8) : cut c (x :: l) = (x :: (cut c l).headD []) :: (cut c l).tail := by
  rw [cut, if_neg h]
  cases e : cut c l with
  | nil => exact absurd e (cut_ne c l)
  | cons a t => rfl
theorem cut_cons_eq (c : UInt8) (l : List UInt8) : cut c (c :: l) = [] :: cut c l := by rw [cut, if_pos rfl]
/-- Two texts with the byte between. -/
theorem cut_mid (c : UInt8) (a b : List UInt8) : cut c (a ++ c :: b) = cut c a ++ cut c b := by
  induction a with
  | nil => rw [List.nil_append, cut_cons_eq]; rfl
  | cons x xs ih =>
    by_cases h : x = c
    · subst h; rw [List.cons_append, cut_cons_eq, cut_cons_eq, ih]; rfl
    · rw [List.cons_append, cut_cons_ne h, cut_cons_ne h, ih]
      cases e : cut c xs with
      | nil => exact absurd e (cut_ne c xs)
      | cons a t => rfl
theorem cut_none {c : UInt8} {l : List UInt8} (h : c ∉ l) : cut c l = [l] := by
  induction l with
  | nil => rfl
  | cons x xs ih =>
    rw [cut_cons_ne (show x ≠ c from by rintro rfl; exact h List.mem_cons_self), ih (fun e => h (List.mem_cons_of_mem _ e))]; rfl
theorem cut_free {c : UInt8} {l p : List UInt8} (h : p ∈ cut c l) : c ∉ p := by
  induction l generalizing p with
  | nil => simp [cut] at h; subst h; simp
  | cons x xs ih =>
    by_cases e : x = c
    · subst e
      rw [cut_cons_eq] at h
      rcases List.mem_cons.1 h with rfl | h
      · simp
      · exact ih h
    · rw [cut_cons_ne e] at h
      cases e2 : cut c xs with
      | nil => exact absurd e2 (cut_ne c xs)
      | cons a t =>
        rw [e2] at h ih
        rcases List.mem_cons.1 h with rfl | h
        · intro h2
          rcases List.mem_cons.1 h2 with h2 | h2
          · exact e h2.symm
          · exact ih (p := a) List.mem_cons_self h2
        · exact ih (List.mem_cons_of_mem _ h)
theorem cut_append_none {c : UInt8} {a : List UInt8} (h : c ∉ a) (b : List UInt8) : cut c (a ++ c :: b) = a :: cut c b := by rw [cut_mid, cut_none h]; rfl
theorem cut_length (c : UInt8) (l : List UInt8) : (cut c l).length = l.count c + 1 := by
  induction l with
  | nil => rfl
  | cons x xs ih =>
    by_cases h : x = c
    · subst h; rw [cut_cons_eq, List.length_cons, ih, List.count_cons_self]
    · rw [cut_cons_ne h, List.length_cons, List.count_cons_of_ne (by simpa using h), List.length_tail, ih]; omega
theorem cut_part_len {c : UInt8} {l p : List UInt8} (h : p ∈ cut c l) : p.length ≤ l.length := by
  induction l generalizing p with
  | nil => simp [cut] at h; subst h; simp
  | cons x xs ih =>
    by_cases e : x = c
    · subst e
      rw [cut_cons_eq] at h
      rcases List.mem_cons.1 h with rfl | h
      · simp
      · have := ih h; simp; omega
    · rw [cut_cons_ne e] at h
      cases e2 : cut c xs with
      | nil => exact absurd e2 (cut_ne c xs)
      | cons a t =>
        rw [e2] at h ih
        rcases List.mem_cons.1 h with rfl | h
        · have := ih (p := a) List.mem_cons_self; simp; omega
        · have := ih (List.mem_cons_of_mem _ h); simp; omega

/-- What the library's cut at one byte gives. -/
theorem index_one_miss (c : UInt8) (l : List UInt8) (h : Lib.index l [c] = -1) : c ∉ l := by
  intro hm
  rcases Lib.index_spec l [c] with ⟨_, h2⟩ | ⟨i, h1, _⟩
  · obtain ⟨j, hj, e⟩ := List.mem_iff_getElem.1 hm
    have := h2 j (by omega)
    simp [Lib.occAt, List.drop_eq_getElem_cons hj, e, List.isPrefixOf] at this
  · omega
theorem index_one_hit (c : UInt8) (l : List UInt8) (i : Nat) (h : Lib.index l [c] = i) : ∃ a b, l = a ++ c :: b ∧ a.length = i ∧ c ∉ a := by
  rcases Lib.index_spec l [c] with ⟨h1, _⟩ | ⟨j, h1, h2, h3, h4⟩
  · omega
  · obtain rfl : i = j := by omega
    have hr := Lib.occAt_head (s := l) (sub := [c]) (i := i) rfl h3
    obtain ⟨hi, e⟩ := List.getElem?_eq_some_iff.1 hr
    refine ⟨l.take i, l.drop (i + 1), ?_, by simp; omega, ?_⟩
    · rw [← e, List.getElem_cons_drop, List.take_append_drop]
    · intro hm
      obtain ⟨k, hk, ek⟩ := List.mem_iff_getElem.1 hm
      simp at hk ek
      have := h4 k (by omega)
      simp [Lib.occAt, List.drop_eq_getElem_cons (show k < l.length by omega), ek, List.isPrefixOf] at this
theorem splitK_cut (c : UInt8) : ∀ (k : Nat) (l : List UInt8), l.count c = k → Lib.splitK [c] 0 k l = cut c l
  | 0, l, h => by
    rw [cut_none (List.count_eq_zero.1 h)]; rfl
  | k + 1, l, h => by
    unfold Lib.splitK
    have hge := Lib.index_ge l [c]
    by_cases hm : Lib.index l [c] = -1
    · have := index_one_miss c l hm
      rw [List.count_eq_zero.2 this] at h; omega
    · obtain ⟨i, hi⟩ : ∃ i : Nat, Lib.index l [c] = i := ⟨(Lib.index l [c]).toNat, by omega⟩
      obtain ⟨a, b, rfl, ha, hc⟩ := index_one_hit c l i hi
      rw [if_neg (by simpa using hm), hi]
      have hcount : b.count c = k := by
        rw [List.count_append, List.count_eq_zero.2 hc, List.count_cons_self] at h; omega
      rw [cut_append_none hc, ← splitK_cut c k b hcount]
      subst ha
      simp
theorem splitB_cut (c : UInt8) (s : ByteArray) : (Lib.splitB ⟨#[c]⟩ 0 (Lib.countB s ⟨#[c]⟩) s).map (·.data.toList) = cut c s.data.toList := by
  rw [Lib.splitB_data]
  refine splitK_cut c _ _ ?_
  show _ = Lib.count s.data.toList [c]
  rw [Lib.count_one]

/-! ### A path's parts -/
theorem parts_mid (a b : List UInt8) : parts (a ++ 47 :: b) = parts a ++ parts b := by unfold parts; rw [cut_mid, List.filter_append]
theorem parts_one {p : List UInt8} (h : 47 ∉ p) (h2 : p ≠ []) : parts p = [p] := by unfold parts; rw [cut_none h]; simp [h2]
theorem parts_nil : parts [] = [] := rfl
theorem parts_slash : parts [47] = [] := rfl
theorem parts_mem {l p : List UInt8} (h : p ∈ parts l) : p ≠ [] ∧ 47 ∉ p ∧ p.length ≤ l.length := by
  unfold parts at h
  obtain ⟨h1, h2⟩ := List.mem_filter.1 h
  exact ⟨by simpa using h2, cut_free h1, cut_part_len h1⟩
/-- Parts, put together. -/
def glue (ps : List (List UInt8)) : List UInt8 := ps.flatMap (fun p => 47 :: p)
theorem parts_glue : ∀ ps : List (List UInt8), (∀ p ∈ ps, p ≠ [] ∧ 47 ∉ p) → parts (glue ps) = ps
  | [], _ => rfl
  | [p], h => by
    have := h p List.mem_cons_self
    show parts ([] ++ 47 :: (p ++ [])) = _
    rw [parts_mid, List.append_nil, parts_one this.2 this.1]; rfl
  | p :: q :: r, h => by
    have h1 := h p List.mem_cons_self
    have ih := parts_glue (q :: r) (fun x hx => h x (List.mem_cons_of_mem _ hx))
    have e : glue (p :: q :: r) = [] ++ 47 :: (p ++ 47 :: (q ++ glue r)) := rfl
    rw [e, parts_mid, parts_mid, parts_one h1.2 h1.1]
    have e2 : parts (glue (q :: r)) = parts [] ++ parts (q ++ glue r) := parts_mid [] _
    rw [ih] at e2
    rw [← show parts (q ++ glue r) = q :: r from by simpa [parts_nil] using e2.symm]
    rfl
theorem under_refl (a : List UInt8) : underB a a = true := by unfold underB; rw [List.isPrefixOf_iff_prefix]; exact List.prefix_refl _
theorem under_trans {a b c : List UInt8} (h : underB a b = true) (h2 : underB b c = true) : underB a c = true := by
  unfold underB at *
  rw [List.isPrefixOf_iff_prefix] at *
  exact h.trans h2
theorem under_slash (a : List UInt8) : underB [47] a = true := by unfold underB; rw [parts_slash]; rfl
theorem under_more (a : List UInt8) : underB a (a ++ [47, 120]) = true := by
  unfold underB
  rw [show ([47, 120] : List UInt8) = 47 :: [120] from rfl, parts_mid, List.isPrefixOf_iff_prefix]
  exact List.prefix_append _ _
theorem under_of_parts {a b : List UInt8} (h : parts a = parts b) : underB a b = true := by
  unfold underB; rw [h, List.isPrefixOf_iff_prefix]; exact List.prefix_refl _

end Go.Proofs.YtmflpjgedoopoaaDoor
