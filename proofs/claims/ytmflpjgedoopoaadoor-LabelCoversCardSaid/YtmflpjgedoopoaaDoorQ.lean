/- LabelCovers, walked. -/
import Derived.Test.YtmflpjgedoopoaaDoorP
namespace Go.Proofs.YtmflpjgedoopoaaDoor
open Go.RowKit

theorem covers_v (a b : ByteArray) (v : Bool) (hv : coverB a.data.toList b.data.toList = v) (m : Int) (ha : a.size ≤ 4294967280) (hb : b.size ≤ 4294967280) (w : World) (hm : Mx w m) :
    Calls Tryd.prog 26 #[.string a, .string b] w fun e w' => e = .returned (.bool v) ∧ Below w.heap.size w w' := by
  subst hv; exact covers_any a b m w ha hb hm
theorem host_sizes {l : List UInt8} (h : hostN l = 0) : 0 < l.length ∧ l.length ≤ 64 := by
  unfold hostN at h
  split at h
  · omega
  · split at h
    · omega
    · omega
theorem host_parts {l : List UInt8} (h : hostN l = 0) : (hostP l).all partB = true := by
  unfold hostN at h
  split at h
  · omega
  · split at h
    · omega
    · split at h
      · assumption
      · omega
theorem host_star {l : List UInt8} (h : hostN l = 0) (hs : (cut 46 l).headD [] = [42]) : 2 ≤ (cut 46 l).length := by
  have h2 := (hostP_iff l).1 (host_parts h) 0 (List.length_pos_iff.2 (cut_ne _ _))
  rw [show (cut 46 l).getD 0 [] = (cut 46 l).headD [] by cases cut 46 l <;> rfl, hs] at h2
  rcases h2 with h2 | ⟨_, _, h2⟩
  · rw [star_part] at h2; cases h2
  · omega
theorem cover_same {p h : List UInt8} (hp : hostN (low p) = 0) : coverB p h = coverR p h := by
  unfold coverB coverR
  by_cases hs : (cut 46 (low p)).headD [] = [42]
  · rw [decide_eq_true (host_star hp hs), Bool.true_and]
  · have e : coverP (cut 46 (low p)) (cut 46 (low h)) = false := by unfold coverP; rw [beq_eq_false_iff_ne.2 hs, Bool.false_and, Bool.false_and]
    rw [e, Bool.and_false]
theorem cover_refl (h : List UInt8) : coverB h h = true := by unfold coverB; rw [beq_self_eq_true, Bool.true_or]
theorem low_append (a b : List UInt8) : low (a ++ b) = low a ++ low b := by unfold low; rw [List.map_append]
theorem cut_front (x : UInt8) (hx : x ≠ 46) (l : List UInt8) : cut 46 ([x, 46] ++ l) = [x] :: cut 46 l := by
  rw [show [x, 46] ++ l = [x] ++ 46 :: l from rfl, cut_append_none]
  intro h
  have : (46 : UInt8) = x := by simpa using h
  exact hx this.symm
theorem cover_more (h : List UInt8) : coverB ([42, 46] ++ h) ([120, 46] ++ h) = true := by
  unfold coverB
  rw [low_append, low_append, show low [42, 46] = [42, 46] by decide, show low [120, 46] = [120, 46] by decide, cut_front 42 (by decide), cut_front 120 (by decide)]
  unfold coverP
  simp
theorem cover_less (h : List UInt8) : coverB ([42, 46] ++ h) h = false := by
  unfold coverB
  rw [low_append, show low [42, 46] = [42, 46] by decide, cut_front 42 (by decide)]
  have e : ([42, 46] ++ low h == low h) = false := by
    rw [beq_eq_false_iff_ne]
    intro e
    have := congrArg List.length e
    simp at this
    omega
  rw [e, Bool.false_or]
  unfold coverP
  simp

theorem add_run (a b : ByteArray) (h : a.size + b.size ≤ 9223372036854775807) : ∃ y : ByteArray, y.data.toList = a.data.toList ++ b.data.toList ∧ y.size = a.size + b.size ∧ ∀ w, (Op.stringOp .add a b).run Tryd.prog w = .ok (.string y) w :=
  ⟨a ++ b, by simp, by simp, fun w => run_string_add_sum w a b h⟩

set_option maxRecDepth 1000000 in
set_option maxHeartbeats 2000000 in
theorem labelCovers_walk (p h : ByteArray) (hp : p.size ≤ 140737488351232) (hh : h.size ≤ 140737488351232) (m : Int) (w : World) (hm : Mx w m) :
    Calls Tryd.prog 5 #[.string p, .string h] w fun e w' => e = .returned (.bool true) ∧ Below w.heap.size w w' := by
  have HA := Lib.hid (awake_any m w hm)
  have HMX := Lib.hid hm
  clear hm
  have K1 := Lib.hid (fun w => rlower_any p w hp)
  have K2 := Lib.hid (fun w => rlower_any h w hh)
  have K3 := Lib.hid (fun w => rhost_any (str (low p.data.toList)) w (by rw [str_size, low_len, ← Lib.size_eq]; exact hp))
  have K4 := Lib.hid (fun w => rhost_any (str (low h.data.toList)) w (by rw [str_size, low_len, ← Lib.size_eq]; exact hh))
  rw [str_data] at K3 K4
  have HP := Lib.hid hp
  have HH := Lib.hid hh
  obtain ⟨n1, hn1⟩ : ∃ n1, n1 = hostN (low p.data.toList) := ⟨_, rfl⟩
  obtain ⟨n2, hn2⟩ : ∃ n2, n2 = hostN (low h.data.toList) := ⟨_, rfl⟩
  rw [← hn1] at K3
  rw [← hn2] at K4
  have HN1 := Lib.hid hn1
  have HN2 := Lib.hid hn2
  clear hn1 hn2 hp hh
  by_cases e1 : n1 = 0
  · subst e1
    by_cases e2 : n2 = 0
    · subst e2
      have hs1 := host_sizes HN1.out.symm
      have hs2 := host_sizes HN2.out.symm
      rw [low_len, ← Lib.size_eq] at hs1 hs2
      have K5 := Lib.hid (covers_v p h _ rfl m (by omega) (by omega))
      have K6 := Lib.hid (fun w => rcovers_any p h w (by omega) (by omega))
      rw [← cover_same HN1.out.symm] at K6
      have K7 := Lib.hid (covers_v h h true (cover_refl _) m (by omega) (by omega))
      obtain ⟨sh, hsh, hshl, hadd1⟩ := add_run ⟨#[42, 46]⟩ h (by have : (⟨#[42, 46]⟩ : ByteArray).size = 2 := rfl; omega)
      obtain ⟨xh, hxh, hxhl, hadd2⟩ := add_run ⟨#[120, 46]⟩ h (by have : (⟨#[120, 46]⟩ : ByteArray).size = 2 := rfl; omega)
      have hz2 : (⟨#[42, 46]⟩ : ByteArray).size = 2 := rfl
      have hz3 : (⟨#[120, 46]⟩ : ByteArray).size = 2 := rfl
      have K8 := Lib.hid (covers_v sh xh true (by rw [hsh, hxh]; exact cover_more _) m (by omega) (by omega))
      have K9 := Lib.hid (covers_v sh h false (by rw [hsh]; exact cover_less _) m (by omega) (by omega))
      have hpos := hs2.1
      generalize coverB p.data.toList h.data.toList = V at *
      clear hsh hxh hshl hxhl hz2 hz3 hs1 hs2
      generalize hc : h[0].toNat = c
      have hcc : c = 42 ∨ ((c : Int) == 42) = false := by
        by_cases e : c = 42
        · exact Or.inl e
        · exact Or.inr (neq_int e)
      go_enter Tryd.func5, Tryd.ntmps5
      go_wp2_with fail
      refine (HA.out).mono ?_
      rintro e w1 ⟨rfl, hb1⟩
      have B1 := Lib.hid hb1
      go_wp2_with fail
      refine (K1.out _).mono ?_
      rintro e w2 ⟨rfl, hb2⟩
      have B2 := Lib.hid (B1.out.trans (hb2.mono B1.out.size))
      go_wp2_with fail
      refine (K3.out _).mono ?_
      rintro e w3 ⟨rfl, hb3⟩
      have B3 := Lib.hid (B2.out.trans (hb3.mono B2.out.size))
      go_wp2_with fail
      refine (K2.out _).mono ?_
      rintro e w4 ⟨rfl, hb4⟩
      have B4 := Lib.hid (B3.out.trans (hb4.mono B3.out.size))
      go_wp2_with fail
      refine (K4.out _).mono ?_
      rintro e w5 ⟨rfl, hb5⟩
      have B5 := Lib.hid (B4.out.trans (hb5.mono B4.out.size))
      go_wp2_with fail
      refine (K5.out _ (HMX.out.later B5.out)).mono ?_
      rintro e w6 ⟨rfl, hb6⟩
      have B6 := Lib.hid (B5.out.trans (hb6.mono B5.out.size))
      go_wp2_with fail
      refine (K6.out _).mono ?_
      rintro e w7 ⟨rfl, hb7⟩
      have B7 := Lib.hid (B6.out.trans (hb7.mono B6.out.size))
      go_wp2_with fail
      refine (K7.out _ (HMX.out.later B7.out)).mono ?_
      rintro e w8 ⟨rfl, hb8⟩
      have B8 := Lib.hid (B7.out.trans (hb8.mono B7.out.size))
      rcases hcc with rfl | hcc
      · go_wp2
        go_ret
        exact ⟨rfl, B8.out⟩
      · go_wp2_with fail
        refine (K8.out _ (HMX.out.later B8.out)).mono ?_
        rintro e w9 ⟨rfl, hb9⟩
        have B9 := Lib.hid (B8.out.trans (hb9.mono B8.out.size))
        go_wp2_with fail
        refine (K9.out _ (HMX.out.later B9.out)).mono ?_
        rintro e w10 ⟨rfl, hb10⟩
        have B10 := Lib.hid (B9.out.trans (hb10.mono B9.out.size))
        go_wp2
        go_ret
        exact ⟨rfl, B10.out⟩
    · have q2 : ((n2 : Int) == 0) = false := neq_int e2
      have q2' : ((n2 : Int) != 0) = true := by unfold bne; rw [q2]; rfl
      go_enter Tryd.func5, Tryd.ntmps5
      go_wp2_with fail
      refine (HA.out).mono ?_
      rintro e w1 ⟨rfl, hb1⟩
      have B1 := Lib.hid hb1
      go_wp2_with fail
      refine (K1.out _).mono ?_
      rintro e w2 ⟨rfl, hb2⟩
      have B2 := Lib.hid (B1.out.trans (hb2.mono B1.out.size))
      go_wp2_with fail
      refine (K3.out _).mono ?_
      rintro e w3 ⟨rfl, hb3⟩
      have B3 := Lib.hid (B2.out.trans (hb3.mono B2.out.size))
      go_wp2_with fail
      refine (K2.out _).mono ?_
      rintro e w4 ⟨rfl, hb4⟩
      have B4 := Lib.hid (B3.out.trans (hb4.mono B3.out.size))
      go_wp2_with fail
      refine (K4.out _).mono ?_
      rintro e w5 ⟨rfl, hb5⟩
      have B5 := Lib.hid (B4.out.trans (hb5.mono B4.out.size))
      go_wp2
      go_ret
      exact ⟨rfl, B5.out⟩
  · have q1 : ((n1 : Int) == 0) = false := neq_int e1
    have q1' : ((n1 : Int) != 0) = true := by unfold bne; rw [q1]; rfl
    go_enter Tryd.func5, Tryd.ntmps5
    go_wp2_with fail
    refine (HA.out).mono ?_
    rintro e w1 ⟨rfl, hb1⟩
    have B1 := Lib.hid hb1
    go_wp2_with fail
    refine (K1.out _).mono ?_
    rintro e w2 ⟨rfl, hb2⟩
    have B2 := Lib.hid (B1.out.trans (hb2.mono B1.out.size))
    go_wp2_with fail
    refine (K3.out _).mono ?_
    rintro e w3 ⟨rfl, hb3⟩
    have B3 := Lib.hid (B2.out.trans (hb3.mono B2.out.size))
    go_wp2
    go_ret
    exact ⟨rfl, B3.out⟩
end Go.Proofs.YtmflpjgedoopoaaDoor
