/- Which pattern covers which host, by definition. -/
import Derived.Test.YtmflpjgedoopoaaDoorM
namespace Go.Proofs.YtmflpjgedoopoaaDoor
open Go.RowKit

theorem coverP_iff (P Q : List (List UInt8)) (hP : 0 < P.length) (hst : P.headD [] = [42]) (d : Nat) (hd : Q.length = d + P.length) :
    coverP P Q = true ↔ ∀ j, 1 ≤ j → j < P.length → P.getD j [] = Q.getD (d + j) [] := by
  unfold coverP
  rw [hst, decide_eq_true (by rw [List.length_tail]; omega), List.length_tail]
  simp only [beq_self_eq_true, Bool.true_and, beq_iff_eq]
  rw [show Q.length - (P.length - 1) = d + 1 by omega]
  constructor
  · intro h j h1 h2
    have e : P.tail.getD (j - 1) [] = (Q.drop (d + 1)).getD (j - 1) [] := by rw [h]
    rw [getD_tail, getD_drop, show j - 1 + 1 = j by omega, show d + 1 + (j - 1) = d + j by omega] at e
    exact e
  · intro h
    apply List.ext_getElem
    · rw [List.length_drop, List.length_tail]; omega
    · intro j h1 h2
      rw [List.length_tail] at h2
      have e := h (j + 1) (by omega) (by omega)
      rw [← getD_tail, show d + (j + 1) = d + 1 + j by omega, ← getD_drop] at e
      rw [List.getD_eq_getElem?_getD, List.getD_eq_getElem?_getD, List.getElem?_eq_getElem h1, List.getElem?_eq_getElem (by rw [List.length_tail]; exact h2)] at e
      exact e.symm

set_option maxRecDepth 1000000 in
set_option maxHeartbeats 1000000 in
theorem rcovers_any (p h : ByteArray) (w : World) (hp : p.size ≤ 4294967280) (hh : h.size ≤ 4294967280) :
    Calls Tryd.prog 27 #[.string p, .string h] w fun e w' => e = .returned (.bool (coverR p.data.toList h.data.toList)) ∧ Below w.heap.size w w' := by
  have K1 := Lib.hid (fun w => rlower_any p w (by omega))
  have K2 := Lib.hid (fun w => rlower_any h w (by omega))
  obtain ⟨R, hR⟩ : ∃ R, R = coverR p.data.toList h.data.toList := ⟨_, rfl⟩
  rw [← hR]
  unfold coverR at hR
  have hp2 : (str (low p.data.toList)).size ≤ 4294967280 := by rw [str_size, low_len, ← Lib.size_eq]; exact hp
  have hh2 : (str (low h.data.toList)).size ≤ 4294967280 := by rw [str_size, low_len, ← Lib.size_eq]; exact hh
  generalize low p.data.toList = lp at K1 hR hp2
  generalize low h.data.toList = lh at K2 hR hh2
  have K3 := Lib.hid (fun w => show Calls Tryd.prog 45 #[.string (str lp), .int .u8 46] w (Gives w (cut 46 (str lp).data.toList)) from rcut_any (str lp) 46 w hp2)
  have K4 := Lib.hid (fun w => show Calls Tryd.prog 45 #[.string (str lh), .int .u8 46] w (Gives w (cut 46 (str lh).data.toList)) from rcut_any (str lh) 46 w hh2)
  rw [str_data] at K3 K4
  have hne1 := cut_ne 46 lp
  have hne2 := cut_ne 46 lh
  have HRR := Lib.hid hR
  have hcase : lp = lh ∨ (lp ≠ lh) := by by_cases e : lp = lh; exact Or.inl e; exact Or.inr e
  have HT : Hid (lp = lh → R = true) := Lib.hid (fun e => by rw [HRR.out, beq_iff_eq.2 e, Bool.true_or])
  have HF : Hid (lp ≠ lh → R = (decide (2 ≤ (cut 46 lp).length) && coverP (cut 46 lp) (cut 46 lh))) := Lib.hid (fun e => by rw [HRR.out, beq_eq_false_iff_ne.2 e, Bool.false_or])
  have HN : Hid (lp ≠ lh → ((str lp).toList == (str lh).toList) = false) := Lib.hid (fun e => str_neq e)
  clear hR HRR hp2 hh2 hp hh
  generalize cut 46 lp = P at *
  generalize cut 46 lh = Q at *
  go_enter Tryd.func27, Tryd.ntmps27
  go_wp2_with fail
  refine (K1.out _).mono ?_
  rintro e w1 ⟨rfl, hb1⟩
  have HB1 := Lib.hid hb1
  clear hb1
  go_wp2_with fail
  refine (K3.out _).mono ?_
  rintro e w2 ⟨v3, rfl, hr3, hb2⟩
  have HB2 := Lib.hid (HB1.out.trans (hb2.mono HB1.out.size))
  clear hb2
  go_wp2_with fail
  refine (K2.out _).mono ?_
  rintro e w3 ⟨rfl, hb3⟩
  have HB3 := Lib.hid (HB2.out.trans (hb3.mono HB2.out.size))
  have hr3' := hr3.later hb3
  clear hr3 hb3
  go_wp2_with fail
  refine (K4.out _).mono ?_
  rintro e w4 ⟨v4, rfl, hr4, hb4⟩
  have HB4 := Lib.hid (HB3.out.trans (hb4.mono HB3.out.size))
  have hr3 := hr3'.later hb4
  clear hr3' hb4
  go_wp2_with fail
  refine (K1.out _).mono ?_
  rintro e w5 ⟨rfl, hb5⟩
  have HB5 := Lib.hid (HB4.out.trans (hb5.mono HB4.out.size))
  have hr3' := hr3.later hb5
  have hr4' := hr4.later hb5
  clear hr3 hr4 hb5
  go_wp2_with fail
  refine (K2.out _).mono ?_
  rintro e w6 ⟨rfl, hb6⟩
  have HB6 := Lib.hid (HB5.out.trans (hb6.mono HB5.out.size))
  have hr3 := hr3'.later hb6
  have hr4 := hr4'.later hb6
  clear hr3' hr4' hb6 HB1 HB2 HB3 HB4 HB5
  rcases hcase with rfl | hne
  · have C0 := Lib.hid (HT.out rfl)
    clear HT HF HN
    go_wp2
    go_ret
    exact ⟨ret_bool C0.out.symm, HB6.out⟩
  · have HR := Lib.hid (HF.out hne)
    have hsn := HN.out hne
    clear HT HF HN hne K1 K2 K3 K4
    generalize str lp = sp at *
    generalize str lh = sh at *
    have hP0 : 0 < P.length := List.length_pos_iff.2 hne1
    have hQ0 : 0 < Q.length := List.length_pos_iff.2 hne2
    obtain ⟨a1, c1, rfl, hc1, hN1, hr3⟩ := hr3
    obtain ⟨a2, c2, rfl, hc2, hN2, hr4⟩ := hr4
    obtain ⟨b1, o1, rfl, hl1, hcell1⟩ := hr3 hP0
    obtain ⟨b2, o2, rfl, hl2, hcell2⟩ := hr4 hQ0
    have HC1 := Lib.hid hcell1
    have HC2 := Lib.hid hcell2
    have ha := hcell1 0 hP0
    have hd0 : P.getD 0 [] = P.headD [] := by cases P <;> rfl
    rw [hd0, Nat.add_zero] at ha
    have HI := Lib.hid (coverP_iff P Q hP0)
    have HCN : Hid (P.headD [] ≠ [42] → coverP P Q = false) := Lib.hid (fun e => by unfold coverP; rw [beq_eq_false_iff_ne.2 e, Bool.false_and, Bool.false_and])
    have HCL : Hid (Q.length < P.length → coverP P Q = false) := Lib.hid (fun e => by unfold coverP; rw [decide_eq_false (by rw [List.length_tail]; omega), Bool.and_false, Bool.false_and])
    clear hcell1 hcell2 hr3 hr4 hd0 hne1 hne2
    generalize coverP P Q = V at *
    generalize P.headD [] = a at *
    generalize hq1 : P.length = n1 at *
    generalize hq2 : Q.length = n2 at *
    clear hq1 hq2
    by_cases hst : a = [42]
    · subst hst
      rw [show str [42] = ({ data := #[42] } : ByteArray) from rfl] at ha
      by_cases h2 : 2 ≤ n1
      · by_cases hle : n1 ≤ n2
        · obtain ⟨d, rfl⟩ : ∃ d, n2 = d + n1 := ⟨n2 - n1, by omega⟩
          have HV : Hid (R = true ↔ ∀ j, 1 ≤ j → j < n1 → P.getD j [] = Q.getD (d + j) []) := Lib.hid (by
            rw [HR.out, decide_eq_true h2, Bool.true_and]; exact HI.out rfl d rfl)
          clear HR HI HCN HCL
          have d1 : decide ((n1 : Int) < 2) = false := decide_eq_false (by omega)
          have d2 : decide ((d : Int) + (n1 : Int) < (n1 : Int)) = false := decide_eq_false (by omega)
          go_wp2
          go_loopw [7] (fun i wr => ∃ k : Nat, 1 ≤ k ∧ k ≤ n1 ∧ i = .int .i64 k ∧ Below w6.heap.size w6 wr ∧ Hid (∀ j, 1 ≤ j → j < k → P.getD j [] = Q.getD (d + j) [])) (fun i _ => n1 - (intOf i).toNat)
          case atStart => exact ⟨1, by omega, by omega, rfl, Below.refl _ _, Lib.hid (fun j h1 h2 => absurd h1 (by omega))⟩
          case round =>
            obtain ⟨k, hk1, hk, rfl, hb, hj⟩ := hrel
            by_cases hlt : k < n1
            · have g1 : wr.cell? ⟨b1, o1 + k, none⟩ = some (.string (str (P.getD k []))) := by rw [hb.cell (p := ⟨b1, o1 + k, none⟩) hl1]; exact HC1.out k hlt
              have g2 : wr.cell? ⟨b2, o2 + (d + k), none⟩ = some (.string (str (Q.getD (d + k) []))) := by rw [hb.cell (p := ⟨b2, o2 + (d + k), none⟩) hl2]; exact HC2.out (d + k) (by omega)
              have Y : Hid (P.getD k [] = Q.getD (d + k) [] → ∀ j, 1 ≤ j → j < k + 1 → P.getD j [] = Q.getD (d + j) []) := Lib.hid (fun h j h1 h2 => by
                by_cases e : j = k
                · subst e; exact h
                · exact hj.out j h1 (by omega))
              have NO : Hid (P.getD k [] ≠ Q.getD (d + k) [] → R = false) := Lib.hid (fun h => by
                rw [Bool.eq_false_iff]
                intro h2
                exact h (HV.out.1 h2 k hk1 hlt))
              generalize P.getD k [] = x at g1 Y NO
              generalize Q.getD (d + k) [] = y at g2 Y NO
              have e1 : IntKind.i64.wrap ((d : Int) + (n1 : Int) - (n1 : Int)) = (d : Int) := by rw [IntWalk.i64_in _ (by omega)]; omega
              have e2 : IntKind.i64.wrap ((d : Int) + (k : Int)) = (d : Int) + (k : Int) := IntWalk.i64_in _ (by omega)
              have e3 : 0 ≤ (d : Int) + (k : Int) := by omega
              have e4 : ((d : Int) + (k : Int)).toNat = d + k := by omega
              have e5 : (d : Int) + (k : Int) < (d : Int) + (n1 : Int) := by omega
              by_cases he : x = y
              · subst he
                have C0 := Lib.hid (Y.out rfl)
                clear Y NO
                go_wp2
                go_quiet (fail)
                go_wp2
                go_roundw
                case rel => exact ⟨k + 1, by omega, by omega, by go_num, below_drewN hb _, C0⟩
                case measure => simp [intOf] <;> omega
              · have C0 := Lib.hid (NO.out he)
                have hxy := str_neq he
                clear Y NO he
                go_wp2
                go_quiet (fail)
                go_wp2
                go_ret
                exact ⟨ret_bool C0.out.symm, HB6.out.trans ((below_drewN hb _).mono HB6.out.size)⟩
            · have C0 : Hid (R = true) := Lib.hid (HV.out.2 fun j h1 h2 => hj.out j h1 (by omega))
              go_wp2
              go_ret
              exact ⟨ret_bool C0.out.symm, HB6.out.trans (hb.mono HB6.out.size)⟩
        · have C0 : Hid (R = false) := Lib.hid (by rw [HR.out, HCL.out (by omega), Bool.and_false])
          have d1 : decide ((n1 : Int) < 2) = false := decide_eq_false (by omega)
          have d2 : decide ((n2 : Int) < (n1 : Int)) = true := decide_eq_true (by omega)
          clear HR HI HCN HCL
          go_wp2
          go_ret
          exact ⟨ret_bool C0.out.symm, HB6.out⟩
      · have C0 : Hid (R = false) := Lib.hid (by rw [HR.out, decide_eq_false h2, Bool.false_and])
        have d1 : decide ((n1 : Int) < 2) = true := decide_eq_true (by omega)
        clear HR HI HCN HCL
        go_wp2
        go_ret
        exact ⟨ret_bool C0.out.symm, HB6.out⟩
    · have C0 : Hid (R = false) := Lib.hid (by rw [HR.out, HCN.out hst, Bool.and_false])
      have hne := str_neq hst
      have hne2 : ((str a).toList == [42]) = false := by rw [← hne, show (str [42]).toList = [42] from Lib.toList_data _]
      clear HR HI HCN HCL hst
      generalize str a = y at *
      go_wp2
      go_ret
      exact ⟨ret_bool C0.out.symm, HB6.out⟩
end Go.Proofs.YtmflpjgedoopoaaDoor
