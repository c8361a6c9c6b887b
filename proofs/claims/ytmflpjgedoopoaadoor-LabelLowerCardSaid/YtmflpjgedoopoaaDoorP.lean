/- The chapter's example of layer 3; LabelTexts and LabelUnder, walked. -/
import Derived.Test.YtmflpjgedoopoaaDoorO
import Derived.Test.YtmflpjgedoopoaaDoorE
import Derived.Test.YtmflpjgedoopoaaDoorI
namespace Go.Proofs.YtmflpjgedoopoaaDoor
open Go.RowKit

set_option maxRecDepth 1000000 in
theorem awake_any (m : Int) (w : World) (hm : Mx w m) : Calls Tryd.prog 12 #[] w fun e w' => e = .returned (.bool true) ∧ Below w.heap.size w w' := by
  have k1 := fun w (hm : Mx w m) => covers_any ⟨#[42, 46, 97, 46, 98]⟩ ⟨#[120, 46, 121, 46, 97, 46, 98]⟩ m w (by decide) (by decide) hm
  have k2 := fun w (hm : Mx w m) => covers_any ⟨#[42, 46, 97, 46, 98]⟩ ⟨#[97, 46, 98]⟩ m w (by decide) (by decide) hm
  have k3 := fun w => name_any ⟨#[119, 101, 98, 45, 49]⟩ w (by decide)
  rw [show coverB (⟨#[42, 46, 97, 46, 98]⟩ : ByteArray).data.toList (⟨#[120, 46, 121, 46, 97, 46, 98]⟩ : ByteArray).data.toList = true by decide] at k1
  rw [show coverB (⟨#[42, 46, 97, 46, 98]⟩ : ByteArray).data.toList (⟨#[97, 46, 98]⟩ : ByteArray).data.toList = false by decide] at k2
  rw [show nameB (⟨#[119, 101, 98, 45, 49]⟩ : ByteArray).data.toList = true by decide] at k3
  have K1 := Lib.hid k1
  have K2 := Lib.hid k2
  have K3 := Lib.hid k3
  have HMX := Lib.hid hm
  clear k1 k2 k3 hm
  go_enter Tryd.func12, Tryd.ntmps12
  go_wp2_with fail
  refine (K1.out _ HMX.out).mono ?_
  rintro e w1 ⟨rfl, hb1⟩
  go_wp2_with fail
  refine (K2.out _ (HMX.out.later hb1)).mono ?_
  rintro e w2 ⟨rfl, hb2⟩
  go_wp2_with fail
  refine (K3.out _).mono ?_
  rintro e w3 ⟨rfl, hb3⟩
  go_wp2
  go_ret
  exact ⟨rfl, hb1.trans ((hb2.trans (hb3.mono hb2.size)).mono hb1.size)⟩

set_option maxRecDepth 1000000 in
set_option maxHeartbeats 1000000 in
theorem labelTexts_walk (s : ByteArray) (hs : s.size ≤ 140737488351232) (m : Int) (w : World) (hm : Mx w m) :
    Calls Tryd.prog 3 #[.string s] w fun e w' => e = .returned (.bool true) ∧ Below w.heap.size w w' := by
  have HA := Lib.hid (awake_any m w hm)
  have HMX := Lib.hid hm
  clear hm
  by_cases h3 : s.size ≤ 300
  · have K13 := Lib.hid (fun w => name_any s w (by omega))
    have K14 := Lib.hid (fun w => rname_any s w (by omega))
    have K15 := Lib.hid (fun w (hm : Mx w m) => host_any s m w hs hm)
    have K16 := Lib.hid (fun w => rhost_any s w hs)
    have K17 := Lib.hid (fun w (hm : Mx w m) => path_any s m w (by omega) hm)
    have K18 := Lib.hid (fun w => rpath_any s w (by omega))
    have K20 := Lib.hid (fun w (hm : Mx w m) => parts_any s m w (by omega) hm)
    have K21 := Lib.hid (fun w => rparts_any s w (by omega))
    have K22 := Lib.hid (fun w => lower_any s w hs)
    have K23 := Lib.hid (fun w => rlower_any s w hs)
    generalize nameB s.data.toList = v1 at *
    generalize hostN s.data.toList = v2 at *
    generalize pathN s.data.toList = v3 at *
    generalize parts s.data.toList = v4 at *
    generalize str (low s.data.toList) = v5 at *
    go_enter Tryd.func3, Tryd.ntmps3
    go_wp2_with fail
    refine (HA.out).mono ?_
    rintro e w1 ⟨rfl, hb1⟩
    have B1 := Lib.hid hb1
    go_wp2_with fail
    refine (K13.out _).mono ?_
    rintro e w2 ⟨rfl, hb2⟩
    have B2 := Lib.hid (B1.out.trans (hb2.mono B1.out.size))
    go_wp2_with fail
    refine (K14.out _).mono ?_
    rintro e w3 ⟨rfl, rfl⟩
    go_wp2_with fail
    refine (K15.out _ (HMX.out.later B2.out)).mono ?_
    rintro e w3 ⟨rfl, hb3⟩
    have B3 := Lib.hid (B2.out.trans (hb3.mono B2.out.size))
    go_wp2_with fail
    refine (K16.out _).mono ?_
    rintro e w4 ⟨rfl, hb4⟩
    have B4 := Lib.hid (B3.out.trans (hb4.mono B3.out.size))
    go_wp2_with fail
    refine (K17.out _ (HMX.out.later B4.out)).mono ?_
    rintro e w5 ⟨rfl, rfl⟩
    go_wp2_with fail
    refine (K18.out _).mono ?_
    rintro e w5 ⟨rfl, rfl⟩
    go_wp2_with fail
    refine (K20.out _ (HMX.out.later B4.out)).mono ?_
    rintro e w5 ⟨x1, rfl, hr1, hb5⟩
    have B5 := Lib.hid (B4.out.trans (hb5.mono B4.out.size))
    go_wp2_with fail
    refine (K21.out _).mono ?_
    rintro e w6 ⟨x2, rfl, hr2, hb6⟩
    have B6 := Lib.hid (B5.out.trans (hb6.mono B5.out.size))
    go_wp2_with fail
    refine (equal_any _ _ _ _ _ (hr1.later hb6) hr2).mono ?_
    rintro e w7 ⟨rfl, hb7⟩
    have B7 := Lib.hid (B6.out.trans (hb7.mono B6.out.size))
    go_wp2_with fail
    refine (K22.out _).mono ?_
    rintro e w8 ⟨rfl, hb8⟩
    have B8 := Lib.hid (B7.out.trans (hb8.mono B7.out.size))
    go_wp2_with fail
    refine (K23.out _).mono ?_
    rintro e w9 ⟨rfl, hb9⟩
    have B9 := Lib.hid (B8.out.trans (hb9.mono B8.out.size))
    go_wp2
    go_ret
    exact ⟨rfl, B9.out⟩
  · go_enter Tryd.func3, Tryd.ntmps3
    go_wp2_with fail
    refine (HA.out).mono ?_
    rintro e w1 ⟨rfl, hb1⟩
    go_wp2
    go_ret
    exact ⟨rfl, hb1⟩

theorem under_v (a b : ByteArray) (v : Bool) (hv : underB a.data.toList b.data.toList = v) (m : Int) (ha : a.size ≤ 4294967280) (hb : b.size ≤ 4294967280) (w : World) (hm : Mx w m) :
    Calls Tryd.prog 24 #[.string a, .string b] w fun e w' => e = .returned (.bool v) ∧ Below w.heap.size w w' := by
  subst hv; exact under_any a b m w ha hb hm
theorem runder_v (a b : ByteArray) (v : Bool) (hv : underB a.data.toList b.data.toList = v) (ha : a.size ≤ 4294967280) (hb : b.size ≤ 4294967280) (w : World) :
    Calls Tryd.prog 25 #[.string a, .string b] w fun e w' => e = .returned (.bool v) ∧ Below w.heap.size w w' := by
  subst hv; exact runder_any a b w ha hb

set_option maxRecDepth 1000000 in
set_option maxHeartbeats 2000000 in
theorem labelUnder_walk (a b c : ByteArray) (m : Int) (w : World) (hm : Mx w m) :
    Calls Tryd.prog 4 #[.string a, .string b, .string c] w fun e w' => e = .returned (.bool true) ∧ Below w.heap.size w w' := by
  have HA := Lib.hid (awake_any m w hm)
  have HMX := Lib.hid hm
  clear hm
  by_cases h3 : a.size ≤ 300 ∧ b.size ≤ 300 ∧ c.size ≤ 300
  · obtain ⟨ha, hb, hc⟩ := h3
    obtain ⟨x, hx⟩ : ∃ x, underB a.data.toList b.data.toList = x := ⟨_, rfl⟩
    obtain ⟨y, hy⟩ : ∃ y, underB b.data.toList c.data.toList = y := ⟨_, rfl⟩
    obtain ⟨z, hz⟩ : ∃ z, underB a.data.toList c.data.toList = z := ⟨_, rfl⟩
    have hxyz : x = true → y = true → z = true := fun h1 h2 => by rw [← hz]; exact under_trans (hx.trans h1) (hy.trans h2)
    have hadd : ∀ w, (Op.stringOp .add a ⟨#[47, 120]⟩).run Tryd.prog w = .ok (.string (a ++ ⟨#[47, 120]⟩)) w := fun w => run_string_add_sum w a ⟨#[47, 120]⟩ (by have : (⟨#[47, 120]⟩ : ByteArray).size = 2 := rfl; omega)
    have had : (a ++ ⟨#[47, 120]⟩ : ByteArray).data.toList = a.data.toList ++ [47, 120] := by simp
    have hsz : (a ++ ⟨#[47, 120]⟩ : ByteArray).size ≤ 4294967280 := by rw [Lib.size_eq, had, List.length_append, ← Lib.size_eq]; simp; omega
    have hux : underB a.data.toList (a ++ ⟨#[47, 120]⟩ : ByteArray).data.toList = true := by rw [had]; exact under_more _
    generalize (a ++ ⟨#[47, 120]⟩ : ByteArray) = ax at hadd hsz hux
    clear had
    have K1 := Lib.hid (under_v a b x hx m (by omega) (by omega))
    have K2 := Lib.hid (under_v b c y hy m (by omega) (by omega))
    have K3 := Lib.hid (under_v a c z hz m (by omega) (by omega))
    have K4 := Lib.hid (runder_v a b x hx (by omega) (by omega))
    have K5 := Lib.hid (runder_v b c y hy (by omega) (by omega))
    have K6 := Lib.hid (under_v a a true (under_refl _) m (by omega) (by omega))
    have K7 := Lib.hid (under_v ⟨#[47]⟩ a true (under_slash _) m (by decide) (by omega))
    have K8 := Lib.hid (under_v a ax true hux m (by omega) hsz)
    have hv : (!x || !y || z) = true := by
      cases x
      · rfl
      · cases y
        · rfl
        · exact hxyz rfl rfl
    clear hx hy hz hxyz hsz hux
    cases x <;> cases y <;> cases z
    all_goals first | exact absurd hv (by decide) | clear hv
    all_goals
      go_enter Tryd.func4, Tryd.ntmps4
      go_wp2_with fail
      refine (HA.out).mono ?_
      rintro e w1 ⟨rfl, hb1⟩
      have B1 := Lib.hid hb1
      go_upto_region 3 with (fail)
      go_cut [19] (fun v wx => w1 = wx ∧ v = .bool false)
      case first =>
        go_wp2
        all_goals (go_meet; (case rel => exact ⟨by trivial, by congr 1; exact decide_eq_false (by omega)⟩))
      obtain ⟨rfl, rfl⟩ := hcut
      go_wp2_with fail
      refine (K1.out _ (HMX.out.later B1.out)).mono ?_
      rintro e w2 ⟨rfl, hb2⟩
      have B2 := Lib.hid (B1.out.trans (hb2.mono B1.out.size))
      go_wp2_with fail
      refine (K2.out _ (HMX.out.later B2.out)).mono ?_
      rintro e w3 ⟨rfl, hb3⟩
      have B3 := Lib.hid (B2.out.trans (hb3.mono B2.out.size))
      go_wp2_with fail
      refine (K3.out _ (HMX.out.later B3.out)).mono ?_
      rintro e w4 ⟨rfl, hb4⟩
      have B4 := Lib.hid (B3.out.trans (hb4.mono B3.out.size))
      go_wp2_with fail
      refine (K4.out _).mono ?_
      rintro e w5 ⟨rfl, hb5⟩
      have B5 := Lib.hid (B4.out.trans (hb5.mono B4.out.size))
      go_wp2_with fail
      refine (K5.out _).mono ?_
      rintro e w6 ⟨rfl, hb6⟩
      have B6 := Lib.hid (B5.out.trans (hb6.mono B5.out.size))
      go_wp2_with fail
      refine (K6.out _ (HMX.out.later B6.out)).mono ?_
      rintro e w7 ⟨rfl, hb7⟩
      have B7 := Lib.hid (B6.out.trans (hb7.mono B6.out.size))
      go_wp2_with fail
      refine (K7.out _ (HMX.out.later B7.out)).mono ?_
      rintro e w8 ⟨rfl, hb8⟩
      have B8 := Lib.hid (B7.out.trans (hb8.mono B7.out.size))
      go_wp2_with fail
      refine (K8.out _ (HMX.out.later B8.out)).mono ?_
      rintro e w9 ⟨rfl, hb9⟩
      have B9 := Lib.hid (B8.out.trans (hb9.mono B8.out.size))
      go_wp2
      go_ret
      exact ⟨rfl, B9.out⟩
  · go_enter Tryd.func4, Tryd.ntmps4
    go_wp2_with fail
    refine (HA.out).mono ?_
    rintro e w1 ⟨rfl, hb1⟩
    go_wp2
    all_goals (go_ret; exact ⟨rfl, hb1⟩)
end Go.Proofs.YtmflpjgedoopoaaDoor
