/- LabelLower, walked. -/
import Derived.Test.YtmflpjgedoopoaaDoorQ
namespace Go.Proofs.YtmflpjgedoopoaaDoor
open Go.RowKit

theorem lowC_lowC (c : UInt8) : lowC (lowC c) = lowC c := by
  rw [byte_eq, lowC_nat (lowC c), lowC_nat c]
  split <;> (try split) <;> omega
theorem low_low (l : List UInt8) : low (low l) = low l := by
  unfold low
  rw [List.map_map]
  apply List.map_congr_left
  intro c _
  exact lowC_lowC c
theorem low_name {l : List UInt8} (h : nameB l = true) : low l = l := by
  unfold low
  have h2 : ∀ c ∈ l, lowC c = c := by
    intro c hc
    have hall : l.all (plainB [45, 95]) = true := by
      unfold nameB at h
      simp only [Bool.and_eq_true] at h
      exact h.2
    have := List.all_eq_true.1 hall c hc
    rw [byte_eq, lowC_nat]
    rw [if_neg]
    unfold plainB letterB digitB at this
    simp [byte_eq] at this
    omega
  rw [List.map_congr_left h2]
  simp
theorem glue_take (L : List (List UInt8)) (k : Nat) (h : k < L.length) : glue (L.take (k + 1)) = glue (L.take k) ++ 47 :: L.getD k [] := by
  unfold glue
  rw [List.take_succ_eq_append_getElem h, List.flatMap_append, List.getD_eq_getElem?_getD, List.getElem?_eq_getElem h]
  simp
theorem name_v (a : ByteArray) (v : Bool) (hv : nameB a.data.toList = v) (ha : a.size ≤ 4294967280) (w : World) :
    Calls Tryd.prog 13 #[.string a] w fun e w' => e = .returned (.bool v) ∧ Below w.heap.size w w' := by
  subst hv; exact name_any a w ha
theorem lower_v (a : ByteArray) (y : ByteArray) (hy : str (low a.data.toList) = y) (ha : a.size ≤ 140737488351232) (w : World) :
    Calls Tryd.prog 22 #[.string a] w fun e w' => e = .returned (.string y) ∧ Below w.heap.size w w' := by
  subst hy; exact lower_any a w ha
theorem parts_v (a : ByteArray) (v : List (List UInt8)) (hv : parts a.data.toList = v) (m : Int) (ha : a.size ≤ 4294967280) (w : World) (hm : Mx w m) : Calls Tryd.prog 20 #[.string a] w (Gives w v) := by
  subst hv; exact parts_any a m w ha hm

set_option maxRecDepth 1000000 in
set_option maxHeartbeats 2000000 in
theorem labelLower_walk (s : ByteArray) (m : Int) (w : World) (hm : Mx w m) :
    Calls Tryd.prog 6 #[.string s] w fun e w' => e = .returned (.bool true) ∧ Below w.heap.size w w' := by
  have HA := Lib.hid (awake_any m w hm)
  have HMX := Lib.hid hm
  clear hm
  by_cases h3 : s.size ≤ 300
  · obtain ⟨t, ht⟩ : ∃ t, str (low s.data.toList) = t := ⟨_, rfl⟩
    have htd : t.data.toList = low s.data.toList := by rw [← ht, str_data]
    have hts : t.size = s.size := by rw [Lib.size_eq, htd, low_len, ← Lib.size_eq]
    have K1 := Lib.hid (lower_v s t ht (by omega))
    have K2 := Lib.hid (lower_v t t (by rw [htd, low_low, ← ht]) (by omega))
    obtain ⟨v, hv⟩ : ∃ v, nameB s.data.toList = v := ⟨_, rfl⟩
    have K3 := Lib.hid (name_v s v hv (by omega))
    have hvt : v = true → t = s := fun h => by rw [← ht, low_name (hv.trans h), str_of]
    obtain ⟨L, hL⟩ : ∃ L, parts s.data.toList = L := ⟨_, rfl⟩
    have K4 := Lib.hid (parts_v s L hL m (by omega))
    have hmem : ∀ p ∈ L, p ≠ [] ∧ 47 ∉ p ∧ p.length ≤ s.size := fun p hp => by rw [Lib.size_eq]; rw [← hL] at hp; exact parts_mem hp
    have hLlen : L.length ≤ s.size + 1 := by
      rw [← hL]
      have h1 := List.length_filter_le (fun p : List UInt8 => !p.isEmpty) (cut 47 s.data.toList)
      have h2 := cut_le 47 s.data.toList
      rw [← Lib.size_eq] at h2
      unfold parts; omega
    have hglue : parts (glue L) = L := parts_glue L (fun p hp => ⟨(hmem p hp).1, (hmem p hp).2.1⟩)
    have HU : Hid (underB (glue L) s.data.toList = true ∧ underB s.data.toList (glue L) = true) := Lib.hid ⟨under_of_parts (hglue.trans hL.symm), under_of_parts (hL.trans hglue.symm)⟩
    have HM := Lib.hid hmem
    have HLL := Lib.hid hLlen
    clear ht htd hv hL hmem hLlen hglue
    go_enter Tryd.func6, Tryd.ntmps6
    go_wp2_with fail
    refine (HA.out).mono ?_
    rintro e w1 ⟨rfl, hb1⟩
    have B1 := Lib.hid hb1
    clear hb1
    go_wp2_with fail
    refine (K1.out _).mono ?_
    rintro e w2 ⟨rfl, hb2⟩
    have B2 := Lib.hid (B1.out.trans (hb2.mono B1.out.size))
    clear hb2
    go_upto_region 6 with (fail)
    go_cut [33] (fun x wx => x = .bool false ∧ Below w.heap.size w wx)
    case first =>
      go_wp2_with fail
      refine (K2.out _).mono ?_
      rintro e w3 ⟨rfl, hb3⟩
      have B3 := Lib.hid (B2.out.trans (hb3.mono B2.out.size))
      clear hb3
      go_wp2_with fail
      refine (K3.out _).mono ?_
      rintro e w4 ⟨rfl, hb4⟩
      have B4 := Lib.hid (B3.out.trans (hb4.mono B3.out.size))
      clear hb4
      cases v
      · clear hvt
        go_wp2
        go_meet
        case rel => exact ⟨rfl, B4.out⟩
      · obtain rfl := hvt rfl
        go_wp2
        go_meet
        case rel => exact ⟨rfl, B4.out⟩
    case rest =>
      obtain ⟨rfl, hb4⟩ := hcut
      have B4 := Lib.hid hb4
      clear hb4 hvt
      go_wp2_with fail
      refine (K4.out _ (HMX.out.later B4.out)).mono ?_
      rintro e w5 ⟨x, rfl, ⟨a, c, rfl, hc, hN, hr⟩, hb5⟩
      have B5 := Lib.hid (B4.out.trans (hb5.mono B4.out.size))
      have HC2 := Lib.hid hc
      have HR := Lib.hid hr
      clear hb5 hc hr
      rcases Nat.eq_zero_or_pos L.length with h0 | h0
      · obtain rfl : L = [] := List.eq_nil_of_length_eq_zero h0
        have K6 := Lib.hid (under_v ⟨#[]⟩ s true HU.out.1 m (by decide) (by omega))
        have K7 := Lib.hid (under_v s ⟨#[]⟩ true HU.out.2 m (by omega) (by decide))
        go_wp2
        refine wp_loop_rounds 1 ?_
        rw [rounds_succ]
        go_wp2_with fail
        refine (K6.out _ (HMX.out.later B5.out)).mono ?_
        rintro e w7 ⟨rfl, hb7⟩
        have B7 := Lib.hid (B5.out.trans (hb7.mono B5.out.size))
        clear hb7
        go_wp2_with fail
        refine (K7.out _ (HMX.out.later B7.out)).mono ?_
        rintro e w8 ⟨rfl, hb8⟩
        have B8 := Lib.hid (B7.out.trans (hb8.mono B7.out.size))
        clear hb8
        go_wp2
        go_ret
        exact ⟨rfl, B8.out⟩
      · obtain ⟨b, o, rfl, hbl, hcell⟩ := HR.out h0
        have HC := Lib.hid hcell
        clear hcell HR
        go_wp2
        go_loopw [4, 37] (fun al i wr => ∃ (k : Nat) (acc : List UInt8), k ≤ L.length ∧ al = .string (str acc) ∧ i = .int .i64 k ∧ Below w5.heap.size w5 wr ∧ Hid (acc = glue (L.take k) ∧ acc.length ≤ k * 301)) (fun _ i _ => L.length - (intOf i).toNat)
        case atStart => exact ⟨0, [], Nat.zero_le _, rfl, rfl, Below.refl _ _, Lib.hid ⟨rfl, Nat.zero_le _⟩⟩
        case round =>
          obtain ⟨k, acc, hk, rfl, rfl, hb, hj⟩ := hrel
          by_cases hlt : k < L.length
          · have hcl : wr.cell? ⟨b, o + k, none⟩ = some (.string (str (L.getD k []))) := by rw [hb.cell (p := ⟨b, o + k, none⟩) hbl]; exact HC.out k hlt
            have hpm := HM.out (L.getD k []) (by rw [List.getD_eq_getElem?_getD, List.getElem?_eq_getElem hlt]; exact List.getElem_mem hlt)
            have GT := Lib.hid (glue_take L k hlt)
            have hal := hj.out.2
            have hLl := HLL.out
            generalize L.getD k [] = p at hcl hpm GT
            obtain ⟨hp1, hp2, hp3⟩ := hpm
            have hone := parts_one hp2 hp1
            have K5 := Lib.hid (parts_v (str p) [p] (by rw [str_data]; exact hone) m (by rw [str_size]; omega))
            have hadd1 := run_str_add [47] p (by simp; omega)
            have hadd2 := run_str_add acc (47 :: p) (by simp; omega)
            obtain ⟨n1, n2⟩ := str_full hp1
            have NX : Hid (acc ++ 47 :: p = glue (L.take (k + 1)) ∧ (acc ++ 47 :: p).length ≤ (k + 1) * 301) := Lib.hid ⟨by rw [GT.out, hj.out.1], by simp; omega⟩
            rw [show str [47] = ({ data := #[47] } : ByteArray) from rfl, List.singleton_append] at hadd1
            clear hp1 hp2 hp3 hone hal GT
            generalize acc ++ 47 :: p = acc2 at *
            generalize str (47 :: p) = y2 at *
            generalize str p = y at *
            go_wp2_with fail
            refine (K5.out _ (HMX.out.later (B5.out.trans (hb.mono B5.out.size)))).mono ?_
            rintro e w7 ⟨x, rfl, ⟨a3, c3, rfl, hc3, hN3, hr3⟩, hb7⟩
            go_wp2
            go_roundw
            case rel => exact ⟨k + 1, acc2, by omega, rfl, by go_num, hb.trans (hb7.mono hb.size), NX⟩
            case measure => simp [intOf] <;> omega
          · have hkl : k = L.length := by omega
            have hg := hj.out.1
            rw [hkl, List.take_length] at hg
            subst hg
            have hal := hj.out.2
            have hLl := HLL.out
            have BR := Lib.hid (B5.out.trans (hb.mono B5.out.size))
            have K6 := Lib.hid (under_v (str (glue L)) s true HU.out.1 m (by rw [str_size]; omega) (by omega))
            have K7 := Lib.hid (under_v s (str (glue L)) true HU.out.2 m (by omega) (by rw [str_size]; omega))
            clear hkl hal
            generalize str (glue L) = g at *
            go_wp2_with fail
            refine (K6.out _ (HMX.out.later BR.out)).mono ?_
            rintro e w7 ⟨rfl, hb7⟩
            have B7 := Lib.hid (BR.out.trans (hb7.mono BR.out.size))
            clear hb7
            go_wp2_with fail
            refine (K7.out _ (HMX.out.later B7.out)).mono ?_
            rintro e w8 ⟨rfl, hb8⟩
            have B8 := Lib.hid (B7.out.trans (hb8.mono B7.out.size))
            clear hb8
            go_wp2
            go_ret
            exact ⟨rfl, B8.out⟩
  · go_enter Tryd.func6, Tryd.ntmps6
    go_wp2_with fail
    refine (HA.out).mono ?_
    rintro e w1 ⟨rfl, hb1⟩
    go_wp2
    go_ret
    exact ⟨rfl, hb1⟩
end Go.Proofs.YtmflpjgedoopoaaDoor
