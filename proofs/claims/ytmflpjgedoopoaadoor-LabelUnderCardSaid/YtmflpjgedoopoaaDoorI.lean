/- Whether a path is under another one, by definition. -/
import Derived.Test.YtmflpjgedoopoaaDoorH
namespace Go.Proofs.YtmflpjgedoopoaaDoor
open Go.RowKit

theorem prefix_at {A B : List (List UInt8)} (h : A.isPrefixOf B = true) (j : Nat) (hj : j < A.length) : A.getD j [] = B.getD j [] := by
  obtain ⟨t, rfl⟩ := List.isPrefixOf_iff_prefix.1 h
  rw [List.getD_eq_getElem?_getD, List.getD_eq_getElem?_getD, List.getElem?_append_left hj]
theorem prefix_of {A B : List (List UInt8)} (hl : A.length ≤ B.length) (h : ∀ j, j < A.length → A.getD j [] = B.getD j []) : A.isPrefixOf B = true := by
  rw [prefix_take, decide_eq_true_eq]
  apply List.ext_getElem
  · simp; omega
  · intro j h1 h2
    have := h j h1
    rw [List.getD_eq_getElem?_getD, List.getD_eq_getElem?_getD, List.getElem?_eq_getElem h1, List.getElem?_eq_getElem (by omega)] at this
    simpa using this

set_option maxHeartbeats 1000000 in
theorem runder_any (a b : ByteArray) (w : World) (ha : a.size ≤ 4294967280) (hb : b.size ≤ 4294967280) :
    Calls Tryd.prog 25 #[.string a, .string b] w fun e w' => e = .returned (.bool (underB a.data.toList b.data.toList)) ∧ Below w.heap.size w w' := by
  have K1 := Lib.hid (rparts_any a w ha)
  have K2 := Lib.hid (fun w' => rparts_any b w' hb)
  obtain ⟨R, hR⟩ : ∃ R, R = underB a.data.toList b.data.toList := ⟨_, rfl⟩
  rw [← hR]
  unfold underB at hR
  generalize parts a.data.toList = A at K1 hR
  generalize parts b.data.toList = B at K2 hR
  have HR := Lib.hid hR
  clear hR ha hb
  go_enter Tryd.func25, Tryd.ntmps25
  go_wp2_with fail
  refine (K1.out).mono ?_
  rintro e w1 ⟨v1, rfl, hr1, hb1⟩
  obtain ⟨a1, c1, rfl, hc1, hN1, hr1⟩ := hr1
  have HR1 := Lib.hid hr1
  have HC1 := Lib.hid hc1
  clear hr1 hc1
  go_wp2_with fail
  refine (K2.out _).mono ?_
  rintro e w2 ⟨v2, rfl, hr2, hb2⟩
  obtain ⟨a2, c2, rfl, hc2, hN2, hr2⟩ := hr2
  have HR2 := Lib.hid hr2
  clear hr2
  have HB := Lib.hid (hb1.trans (hb2.mono hb1.size))
  by_cases hle : A.length ≤ B.length
  · rcases Nat.eq_zero_or_pos A.length with h0 | h0
    · have HT : Hid (R = true) := Lib.hid (HR.out.trans (prefix_of hle (fun j hj => absurd hj (by omega))))
      go_wp2
      refine wp_loop_rounds 1 ?_
      rw [rounds_succ]
      go_wp2
      go_ret
      exact ⟨ret_bool HT.out.symm, HB.out⟩
    · obtain ⟨b1, o1, rfl, hbl1, hcell1⟩ := HR1.out h0
      obtain ⟨b2, o2, rfl, hbl2, hcell2⟩ := HR2.out (by omega)
      have hbl1' : b1 < w2.heap.size := Nat.lt_of_lt_of_le hbl1 hb2.size
      have HC1' : Hid (∀ j, j < A.length → w2.cell? ⟨b1, o1 + j, none⟩ = some (.string (str (A.getD j [])))) := Lib.hid (fun j hj => by rw [hb2.cell (p := ⟨b1, o1 + j, none⟩) hbl1]; exact hcell1 j hj)
      have HC2' := Lib.hid hcell2
      clear hcell1 hcell2 HR1 HR2 hb1 hb2
      go_wp2
      go_loopw [19] (fun i wr => ∃ k : Nat, k ≤ A.length ∧ i = .int .i64 k ∧ Below w2.heap.size w2 wr ∧ Hid (∀ j, j < k → A.getD j [] = B.getD j [])) (fun i _ => A.length - (intOf i).toNat)
      case atStart => exact ⟨0, by omega, rfl, Below.refl _ _, Lib.hid (by simp)⟩
      case round =>
        obtain ⟨k, hk, rfl, hbr, hj⟩ := hrel
        by_cases hlt : k < A.length
        · have g1 : wr.cell? ⟨b1, o1 + k, none⟩ = some (.string (str (A.getD k []))) := by rw [hbr.cell (p := ⟨b1, o1 + k, none⟩) hbl1']; exact HC1'.out k hlt
          have g2 : wr.cell? ⟨b2, o2 + k, none⟩ = some (.string (str (B.getD k []))) := by rw [hbr.cell (p := ⟨b2, o2 + k, none⟩) hbl2]; exact HC2'.out k (by omega)
          have hltB : k < B.length := by omega
          have Y : Hid (A.getD k [] = B.getD k [] → ∀ j, j < k + 1 → A.getD j [] = B.getD j []) := Lib.hid (all_below hj.out)
          have NO : Hid (A.getD k [] ≠ B.getD k [] → R = false) := Lib.hid (fun h => by
            rw [HR.out, Bool.eq_false_iff]
            intro h2
            exact h (prefix_at h2 k hlt))
          generalize A.getD k [] = p at g1 Y NO
          generalize B.getD k [] = q at g2 Y NO
          by_cases he : p = q
          · subst he
            have C0 := Lib.hid (Y.out rfl)
            clear Y NO
            go_wp2
            go_quiet (fail)
            go_wp2
            go_roundw
            case rel => exact ⟨k + 1, by omega, by go_num, below_drewN hbr _, C0⟩
            case measure => simp [intOf] <;> omega
          · have C0 := Lib.hid (NO.out he)
            have hne := str_neq he
            clear Y NO he
            go_wp2
            go_quiet (fail)
            go_wp2
            go_ret
            exact ⟨ret_bool C0.out.symm, HB.out.trans ((below_drewN hbr _).mono HB.out.size)⟩
        · have HT : Hid (R = true) := Lib.hid (HR.out.trans (prefix_of hle (fun j h => hj.out j (by omega))))
          go_wp2
          go_ret
          exact ⟨ret_bool HT.out.symm, HB.out.trans (hbr.mono HB.out.size)⟩
  · have HF : Hid (R = false) := Lib.hid (by
      rw [HR.out, Bool.eq_false_iff]
      intro h
      exact hle (List.isPrefixOf_iff_prefix.1 h).length_le)
    go_wp2
    go_ret
    exact ⟨ret_bool HF.out.symm, HB.out⟩
end Go.Proofs.YtmflpjgedoopoaaDoor
