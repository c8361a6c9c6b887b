/- label.Name and its answer by definition. -/
import Derived.Test.YtmflpjgedoopoaaDoorB
namespace Go.Proofs.YtmflpjgedoopoaaDoor
open Go.RowKit

theorem plain_any (x : ByteArray) (w : World) :
    Calls Tryd.prog 43 #[.string x] w fun e w' => e = .returned (.func (.func 62) #[] #[.pointer (some ⟨w.heap.size, 0, none⟩)]) ∧ w.alloc (.cells #[.string x] 9) = w' := by
  have hmf : ∀ (fn : Fn) (first cap : Array Value) (w : World), (Instr.makeFunc fn first cap).run Tryd.prog w = .ok (.func fn first cap) w := fun _ _ _ _ => rfl
  go_enter Tryd.func43, Tryd.ntmps43
  go_wp2
  go_ret
  exact ⟨rfl, rfl⟩

theorem cell_one (w : World) (v : Value) (t : TypeId) : (w.alloc (.cells #[v] t)).cell? ⟨w.heap.size, 0, none⟩ = some v := by
  rw [World.cell?_alloc_new]; rfl

theorem head_get (s : ByteArray) (h : 0 < s.size) : s.data.toList.headD 0 = s[0] := by
  obtain ⟨⟨l⟩⟩ := s
  cases l with
  | nil => simp [ByteArray.size] at h
  | cons a t => rfl

theorem name_any (s : ByteArray) (w : World) (hs : s.size ≤ 4294967280) :
    Calls Tryd.prog 13 #[.string s] w fun e w' => e = .returned (.bool (nameB s.data.toList)) ∧ Below w.heap.size w w' := by
  have HL := Lib.hid (Lib.size_eq s)
  have HE := Lib.hid (each_plain s ⟨#[45, 95]⟩ w.heap.size (w.alloc (.cells #[.string ⟨#[45, 95]⟩] 9)) hs (cell_one w _ _))
  obtain ⟨R, hR⟩ : ∃ R, R = s.data.toList.all (plainB (⟨#[45, 95]⟩ : ByteArray).data.toList) := ⟨_, rfl⟩
  rw [← hR] at HE
  have HR := Lib.hid hR
  clear hR
  by_cases h0 : 0 < s.size
  · obtain ⟨v, hv⟩ : ∃ v, v = letterB s[0] := ⟨_, rfl⟩
    have KK := Lib.hid (letter_any s[0])
    rw [← hv] at KK
    have HV := Lib.hid hv
    clear hv
    have fin : ∀ q : Bool, (q = true ↔ s.size ≤ 32 ∧ v = true ∧ R = true) → q = nameB s.data.toList := by
      intro q h
      rw [Bool.eq_iff_iff, h, HV.out, HR.out]
      unfold nameB
      rw [head_get s h0, ← HL.out]
      simp
      constructor
      · rintro ⟨a, b, c⟩; exact ⟨⟨⟨by omega, a⟩, b⟩, c⟩
      · rintro ⟨⟨⟨_, a⟩, b⟩, c⟩; exact ⟨a, b, c⟩
    have F := Lib.hid fin
    clear fin
    cases v
    all_goals
      go_enter Tryd.func13, Tryd.ntmps13
      go_wp2_with (first
        | (go_at_call 41; ((with_reducible refine (KK.out _).mono ?_); rintro e w1 ⟨rfl, rfl⟩))
        | (go_at_call 43; ((with_reducible refine (plain_any _ _).mono ?_); rintro e w1 ⟨rfl, rfl⟩))
        | (go_at_call 42; ((with_reducible refine (HE.out).mono ?_); rintro e w1 ⟨rfl, rfl⟩)))
      all_goals
        go_ret
        refine ⟨ret_bool (F.out _ ?_), ?_⟩
        · simp
          try omega
        · first | exact Below.refl _ _ | exact (Below.refl _ _).alloc (Nat.le_refl _) _
  · go_enter Tryd.func13, Tryd.ntmps13
    go_wp2
    go_ret
    refine ⟨ret_bool ?_, Below.refl _ _⟩
    unfold nameB
    rw [← HL.out]
    simp; omega

/-- What the loop asks of a byte. -/
def NameAt (j : Nat) (c : UInt8) : Prop := letterB c = true ∨ (0 < j ∧ plainB [45, 95] c = true)
theorem getD_at (s : ByteArray) (k : Nat) (h : k < s.size) : s.data.toList.getD k 0 = s[k] := by
  have h2 : k < s.data.toList.length := by rw [← Lib.size_eq]; exact h
  rw [List.getD_eq_getElem?_getD, List.getElem?_eq_getElem h2]; rfl
theorem getD_mem {l : List UInt8} {k : Nat} (h : k < l.length) : l.getD k 0 ∈ l := by
  rw [List.getD_eq_getElem?_getD, List.getElem?_eq_getElem h]; exact List.getElem_mem h
theorem mem_getD {l : List UInt8} {x : UInt8} (h : x ∈ l) : ∃ k, k < l.length ∧ l.getD k 0 = x := by
  obtain ⟨j, hj, rfl⟩ := List.mem_iff_getElem.1 h
  exact ⟨j, hj, by rw [List.getD_eq_getElem?_getD, List.getElem?_eq_getElem hj]; rfl⟩
theorem nameB_iff (l : List UInt8) : nameB l = true ↔ 0 < l.length ∧ l.length ≤ 32 ∧ ∀ j, j < l.length → NameAt j (l.getD j 0) := by
  unfold nameB
  cases l with
  | nil => simp
  | cons a t =>
    simp only [Bool.and_eq_true, decide_eq_true_eq, List.all_eq_true, List.headD_cons]
    constructor
    · rintro ⟨⟨⟨h1, h2⟩, h3⟩, h4⟩
      refine ⟨h1, h2, fun j hj => ?_⟩
      cases j with
      | zero => exact Or.inl h3
      | succ j => exact Or.inr ⟨by omega, h4 _ (getD_mem hj)⟩
    · rintro ⟨h1, h2, h3⟩
      have h0 := (h3 0 h1).resolve_right (by simp)
      refine ⟨⟨⟨h1, h2⟩, h0⟩, fun x hx => ?_⟩
      obtain ⟨j, hj, rfl⟩ := mem_getD hx
      rcases h3 j hj with h | h
      · unfold plainB; simp only [h, Bool.true_or]
      · exact h.2
theorem byte_eq (c d : UInt8) : c = d ↔ c.toNat = d.toNat := UInt8.toNat_inj.symm
theorem nameAt_iff (j : Nat) (c : UInt8) : NameAt j c ↔ (97 ≤ c.toNat ∧ c.toNat ≤ 122) ∨ (0 < j ∧ ((48 ≤ c.toNat ∧ c.toNat ≤ 57) ∨ c.toNat = 45 ∨ c.toNat = 95)) := by
  unfold NameAt plainB letterB digitB
  simp [byte_eq]
  omega
theorem neq_int {n m : Nat} (h : n ≠ m) : ((n : Int) == (m : Int)) = false := by rw [beq_eq_false_iff_ne]; omega
theorem all_below {P : Nat → Prop} {k : Nat} (h : ∀ j, j < k → P j) (hk : P k) : ∀ j, j < k + 1 → P j := by
  intro j hj
  by_cases e : j = k
  · subst e; exact hk
  · exact h j (by omega)

/-- No byte of those that are asked for one by one. -/
def Apart (n : Nat) : Prop := ((n : Int) == 45) = false ∧ ((n : Int) == 95) = false ∧ ((n : Int) == 47) = false
theorem apart_of {n : Nat} (h : n ≠ 45) (h2 : n ≠ 95) (h3 : n ≠ 47) : Apart n := ⟨neq_int h, neq_int h2, neq_int h3⟩
theorem byte_class (n : Nat) : (0 ≤ n ∧ n ≤ 44 ∧ Apart n) ∨ n = 45 ∨ (46 ≤ n ∧ n ≤ 46 ∧ Apart n) ∨ n = 47 ∨ (48 ≤ n ∧ n ≤ 57 ∧ Apart n) ∨ (58 ≤ n ∧ n ≤ 94 ∧ Apart n) ∨ n = 95 ∨ (96 ≤ n ∧ n ≤ 96 ∧ Apart n) ∨ (97 ≤ n ∧ n ≤ 122 ∧ Apart n) ∨ (123 ≤ n ∧ 0 ≤ n ∧ Apart n) := by
  by_cases h1 : n = 45
  · simp [h1]
  by_cases h2 : n = 95
  · simp [h2]
  by_cases h3 : n = 47
  · simp [h3]
  have := apart_of h1 h2 h3
  simp only [this, and_true]
  omega
theorem zero_class (k : Nat) : k = 0 ∨ (0 < k ∧ ((k : Int) == 0) = false) := by
  rcases Nat.eq_zero_or_pos k with h | h
  · exact Or.inl h
  · exact Or.inr ⟨h, neq_int (m := 0) (by omega)⟩

set_option maxHeartbeats 2000000 in
theorem rname_any (s : ByteArray) (w : World) (hs : s.size ≤ 4294967280) :
    Calls Tryd.prog 14 #[.string s] w fun e w' => e = .returned (.bool (nameB s.data.toList)) ∧ w = w' := by
  have HL := Lib.hid (Lib.size_eq s)
  obtain ⟨R, hR⟩ : ∃ R, R = nameB s.data.toList := ⟨_, rfl⟩
  rw [← hR]
  have HR := Lib.hid hR
  clear hR
  go_enter Tryd.func14, Tryd.ntmps14
  go_wp2
  go_loop [3] (fun i => ∃ k : Nat, k ≤ s.size ∧ i = .int .i64 k ∧ Hid (∀ j, j < k → NameAt j (s.data.toList.getD j 0))) (fun i => s.size - (intOf i).toNat)
  case atStart => exact ⟨0, by omega, rfl, Lib.hid (by simp)⟩
  case round =>
    obtain ⟨k, hk, rfl, ha⟩ := hrel
    by_cases hlt : k < s.size
    · have HN := Lib.hid (nameAt_iff k (s.data.toList.getD k 0))
      have hn0 := getD_at s k hlt
      have Y : Hid (NameAt k (s.data.toList.getD k 0) → ∀ j, j < k + 1 → NameAt j (s.data.toList.getD j 0)) := Lib.hid (all_below ha.out)
      have NO : Hid (¬ NameAt k (s.data.toList.getD k 0) → R = false) := Lib.hid (by
        intro h
        rw [HR.out, Bool.eq_false_iff]
        intro h2
        exact h (((nameB_iff _).1 h2).2.2 k (by rw [← HL.out]; exact hlt)))
      rw [hn0] at HN Y NO
      clear hn0
      generalize hn : s[k].toNat = n at HN
      generalize NameAt k s[k] = C at HN Y NO
      by_cases hC : (97 ≤ n ∧ n ≤ 122) ∨ (0 < k ∧ ((48 ≤ n ∧ n ≤ 57) ∨ n = 45 ∨ n = 95))
      · have C0 := Lib.hid (Y.out (HN.out.2 hC))
        clear NO Y HN
        rcases byte_class n with ⟨h1, h2, q1, q2, q3⟩ | rfl | ⟨h1, h2, q1, q2, q3⟩ | rfl | ⟨h1, h2, q1, q2, q3⟩ | ⟨h1, h2, q1, q2, q3⟩ | rfl | ⟨h1, h2, q1, q2, q3⟩ | ⟨h1, h2, q1, q2, q3⟩ | ⟨h1, h2, q1, q2, q3⟩
        all_goals rcases zero_class k with rfl | ⟨k0, q0⟩
        all_goals try (exfalso; omega)
        all_goals clear hC
        all_goals go_wp2
        all_goals
          go_round
          case rel => exact ⟨_, by omega, by first | rfl | go_num, C0⟩
          case measure => simp [intOf] <;> omega
      · have C0 : Hid (R = false) := Lib.hid (NO.out (fun h => hC (HN.out.1 h)))
        clear NO Y HN
        rcases byte_class n with ⟨h1, h2, q1, q2, q3⟩ | rfl | ⟨h1, h2, q1, q2, q3⟩ | rfl | ⟨h1, h2, q1, q2, q3⟩ | ⟨h1, h2, q1, q2, q3⟩ | rfl | ⟨h1, h2, q1, q2, q3⟩ | ⟨h1, h2, q1, q2, q3⟩ | ⟨h1, h2, q1, q2, q3⟩
        all_goals rcases zero_class k with rfl | ⟨k0, q0⟩
        all_goals try (exfalso; omega)
        all_goals clear hC
        all_goals go_wp2
        all_goals first | (go_ret; exact ⟨ret_bool C0.out.symm, rfl⟩) | (rename_i hx; exfalso; simp at hx; omega)
    · have F : Hid (∀ q : Bool, (q = true ↔ 0 < s.size ∧ s.size ≤ 32) → q = R) := Lib.hid (by
        intro q h
        rw [Bool.eq_iff_iff, h, HR.out, nameB_iff, ← HL.out]
        constructor
        · rintro ⟨a, b⟩; exact ⟨a, b, fun j hj => ha.out j (by omega)⟩
        · rintro ⟨a, b, _⟩; exact ⟨a, b⟩)
      clear HR ha
      go_wp2
      all_goals
        go_ret
        refine ⟨ret_bool (F.out _ ?_), rfl⟩
        simp
        try omega
end Go.Proofs.YtmflpjgedoopoaaDoor
