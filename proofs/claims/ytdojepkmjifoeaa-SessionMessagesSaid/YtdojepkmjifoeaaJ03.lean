/- The document's Long of any text. -/
import Derived.Test.YtdojepkmjifoeaaJ02
set_option linter.unusedVariables false
set_option linter.unusedSimpArgs false
namespace Go.Proofs.Ytdojepkmjifoeaa
open Go.RowKit

theorem vl_step (V U r : Nat) : IntKind.u64.wrap ((V : Int) + IntKind.u64.wrap ((r : Int) * (U : Int))) = (((V + r * U) % 18446744073709551616 : Nat) : Int) := by
  obtain ⟨P, hP⟩ : ∃ P : Nat, r * U = P := ⟨_, rfl⟩
  have hPi : (r : Int) * (U : Int) = (P : Int) := by rw [← hP]; exact (Int.natCast_mul r U).symm
  rw [hPi, hP, IntKind.wrap_u64, IntKind.wrap_u64]
  omega
theorem un_step (U : Nat) : IntKind.u64.wrap ((U : Int) * 128) = ((U * 128 % 18446744073709551616 : Nat) : Int) := by
  rw [IntKind.wrap_u64]
  omega
theorem vl_mod (s : ByteArray) (k : Nat) (h : k < s.size) : (vl (s.data.toList.take k) % 18446744073709551616 + s[k].toNat % 128 * (128 ^ k % 18446744073709551616)) % 18446744073709551616 = vl (s.data.toList.take (k + 1)) % 18446744073709551616 := by
  have hl : k < s.data.toList.length := by simpa using h
  have e : s.data.toList.take (k + 1) = s.data.toList.take k ++ [s[k]] := by
    rw [List.take_succ_eq_append_getElem hl]
    rfl
  rw [e, vl_app, List.length_take, Nat.min_eq_left (by omega), Nat.mul_comm (128 ^ k)]
  generalize vl (s.data.toList.take k) = V
  generalize s[k].toNat % 128 = r
  generalize 128 ^ k = U
  rw [Nat.add_mod, Nat.mod_mod, Nat.mul_mod r (U % _), Nat.mod_mod, ← Nat.mul_mod, ← Nat.add_mod]
/-- q bytes go on, and it isn't told yet. -/
def LgI (R : Nat × Nat × Nat) (s : ByteArray) (q : Nat) : Prop := (∀ x ∈ s.data.toList.take q, 127 < x.toNat) ∧ ((q < 10 ∧ R = lngA (vl (s.data.toList.take q)) q (s.data.toList.drop q)) ∨ (10 ≤ q ∧ R = (0, 0, 4)))
theorem take_one (s : ByteArray) (k : Nat) (h : k < s.size) : s.data.toList.take (k + 1) = s.data.toList.take k ++ [s[k]] := by
  have hl : k < s.data.toList.length := by simpa using h
  rw [List.take_succ_eq_append_getElem hl]
  rfl
theorem drop_one (s : ByteArray) (k : Nat) (h : k < s.size) : s.data.toList.drop k = s[k] :: s.data.toList.drop (k + 1) := by
  have hl : k < s.data.toList.length := by simpa using h
  rw [List.drop_eq_getElem_cons hl]
  rfl
theorem len_take (s : ByteArray) (k : Nat) (h : k ≤ s.size) : (s.data.toList.take k).length = k := by
  rw [List.length_take, Nat.min_eq_left (by simpa using h)]
theorem LgI.on {R : Nat × Nat × Nat} {s : ByteArray} {q : Nat} (H : LgI R s q) (h : q < s.size) (hc : 127 < s[q].toNat) : LgI R s (q + 1) := by
  have hl := len_take s q (by omega)
  refine ⟨?_, ?_⟩
  · rw [take_one s q h]
    intro x hx
    rcases List.mem_append.1 hx with hx | hx
    · exact H.1 x hx
    · rw [List.mem_singleton.1 hx]; exact hc
  · rcases H.2 with ⟨hq, hR⟩ | ⟨hq, hR⟩
    · rw [drop_one s q h] at hR
      have e := lng_on (s.data.toList.take q) (s.data.toList.drop (q + 1)) s[q] (by omega) hc
      rw [← take_one s q h, hl, len_take s (q + 1) (by omega)] at e
      rw [e] at hR
      rcases Nat.lt_or_ge (q + 1) 10 with h9 | h9
      · exact Or.inl ⟨h9, hR⟩
      · have e10 : q + 1 = 10 := by omega
        refine Or.inr ⟨h9, ?_⟩
        rw [hR, e10, lngA_ten]
    · exact Or.inr ⟨by omega, hR⟩
theorem LgI.stop {R : Nat × Nat × Nat} {s : ByteArray} {q : Nat} (H : LgI R s q) (h : 10 ≤ q) : R = (0, 0, 4) := by
  rcases H.2 with ⟨hq, _⟩ | ⟨_, hR⟩
  · omega
  · exact hR
theorem LgI.end {R : Nat × Nat × Nat} {s : ByteArray} (H : LgI R s s.size) (h : s.size < 10) : R = (0, 0, 3) := by
  rcases H.2 with ⟨_, hR⟩ | ⟨hq, _⟩
  · rw [List.drop_eq_nil_of_le (by simp)] at hR
    rw [hR]; exact lngA_nil _ _ (by omega)
  · omega
theorem LgI.fin {R : Nat × Nat × Nat} {s : ByteArray} {q : Nat} (H : LgI R s q) (h : q < s.size) (hq : q < 10) (hc : ¬ 127 < s[q].toNat) : R = if sh (vl (s.data.toList.take (q + 1)) % 18446744073709551616) = s.data.toList.take (q + 1) then (vl (s.data.toList.take (q + 1)) % 18446744073709551616, q + 1, 0) else (0, 0, 4) := by
  have hl := len_take s q (by omega)
  rcases H.2 with ⟨_, hR⟩ | ⟨hq, _⟩
  · rw [drop_one s q h] at hR
    rw [take_one s q h]
    by_cases he : sh (vl (s.data.toList.take q ++ [s[q]]) % 18446744073709551616) = s.data.toList.take q ++ [s[q]]
    · rw [if_pos he]
      have := lng_ok (s.data.toList.take q) (s.data.toList.drop (q + 1)) s[q] (by omega) H.1 (by omega) he
      rw [hl] at this
      rw [hR, this]
    · rw [if_neg he]
      have := lng_no (s.data.toList.take q) (s.data.toList.drop (q + 1)) s[q] (by omega) H.1 (by omega) he
      rw [hl] at this
      rw [hR, this]
  · omega
set_option maxRecDepth 1000000 in
set_option maxHeartbeats 2000000 in
theorem rlong_any (s : ByteArray) (hmax : s.size ≤ 1000000000) (w : World) : Calls Try.prog 52 #[.string s] w fun e w' => e = .returned (lonV (lngA 0 0 s.data.toList)) ∧ Below w.heap.size w w' := by
  obtain ⟨R, hR⟩ : ∃ R, lngA 0 0 s.data.toList = R := ⟨_, rfl⟩
  rw [hR]
  have H0 : Hid (LgI R s 0) := Lib.hid ⟨by simp, Or.inl ⟨by omega, by simpa [vl] using hR.symm⟩⟩
  clear hR
  go_enter Try.func52, Try.ntmps52
  go_wp2
  go_loop [5] (fun i => ∃ z q : Nat, z = q + 1 ∧ q ≤ s.size ∧ i = .int .i64 (z : Int) ∧ Hid (LgI R s q)) (fun i => s.size + 2 - (intOf i).toNat)
  case atStart => exact ⟨1, 0, rfl, by omega, rfl, H0⟩
  case round =>
    obtain ⟨z, q, hz, hq, rfl, HI⟩ := hrel
    by_cases hlt : q < s.size
    · have hzi : (z : Int) - 1 = (q : Int) := by omega
      have hzs : (z : Int) ≤ (s.size : Int) := by omega
      obtain ⟨c, hc⟩ : ∃ c, s[q].toNat = c := ⟨_, rfl⟩
      have hc256 : c < 256 := by rw [← hc]; exact s[q].toNat_lt
      have HC : Hid (∃ h : q < s.size, s[q].toNat = c) := Lib.hid ⟨hlt, hc⟩
      by_cases h127 : 127 < c
      · have HN : Hid (LgI R s (q + 1)) := Lib.hid (HI.out.on hlt (by rw [hc]; exact h127))
        have h127i : (127 : Int) < (c : Int) := by omega
        clear HI H0
        go_wp2
        exact ⟨⟨z + 1, q + 1, by omega, by omega, by go_num, HN⟩, by simp [intOf]; omega⟩
      · have h127i : ¬ (127 : Int) < (c : Int) := by omega
        by_cases h10 : 10 ≤ q
        · have hr := HI.out.stop h10
          have HRR := Lib.hid hr
          have h10i : (10 : Int) < (z : Int) := by omega
          clear hr HI H0
          go_wp2
          go_ret3
          exact ⟨by rw [HRR.out]; rfl, Below.refl _ _⟩
        · have h10i : ¬ (10 : Int) < (z : Int) := by omega
          have HF := Lib.hid (HI.out.fin hlt (by omega) (by rw [hc]; exact h127))
          clear HI H0
          go_wp2
          go_loop [6, 7, 8] (fun n u i => ∃ k : Nat, k ≤ z ∧ i = .int .i64 (k : Int) ∧ ∃ V U : Nat, n = .int .u64 (V : Int) ∧ u = .int .u64 (U : Int) ∧ Hid (V = vl (s.data.toList.take k) % 18446744073709551616 ∧ U = 128 ^ k % 18446744073709551616)) (fun _ _ i => z - (intOf i).toNat)
          case atStart => exact ⟨0, by omega, rfl, 0, 1, rfl, rfl, Lib.hid ⟨by simp [vl], by simp⟩⟩
          case round =>
            obtain ⟨k, hk, rfl, V, U, rfl, rfl, HV⟩ := hrel
            by_cases hkz : k < z
            · have hks : k < s.size := by omega
              have e : ((s[k].toNat % 128 : Nat) : Int) = (s[k].toNat : Int) % 128 := by omega
              have hst := vl_step V U (s[k].toNat % 128)
              rw [e] at hst
              have HST := Lib.hid hst
              have HN : Hid ((V + s[k].toNat % 128 * U) % 18446744073709551616 = vl (s.data.toList.take (k + 1)) % 18446744073709551616 ∧ U * 128 % 18446744073709551616 = 128 ^ (k + 1) % 18446744073709551616) := Lib.hid ⟨by rw [HV.out.1, HV.out.2]; exact vl_mod s k hks, by rw [HV.out.2, Nat.pow_succ, Nat.mul_mod, Nat.mod_mod, ← Nat.mul_mod]⟩
              clear e hst HV
              go_wp2
              exact ⟨⟨k + 1, by omega, by go_num, _, _, by rw [HST.out], by rw [un_step], HN⟩, by simp [intOf]; omega⟩
            · obtain rfl : k = q + 1 := by omega
              have hV64 : V ≤ 18446744073709551615 := by have := HV.out.1; omega
              have hrf := HF.out
              rw [← HV.out.1] at hrf
              have HRF := Lib.hid hrf
              have KS : Hid (∀ wz, Calls Try.prog 66 #[.int .u64 (V : Int)] wz fun e w' => e = .returned (.string (str (sh V))) ∧ Below wz.heap.size wz w') := Lib.hid (fun wz => rshort_any V hV64 wz)
              clear HV HF hrf hV64
              have h0q : (0 : Int) ≤ (q : Int) + 1 := by omega
              go_wp2
              refine wp_region_held_drew (S := fun _ => True) (by kernel_rfl) trivial (fun hHeld => ?_)
              refine wpAnyH_take (i := 0) (oi := ⟨some 38, _, _, _, _, _⟩) (v := ?_) rfl (by kernel_rfl) (by kernel_rfl) (by kernel_rfl) (fun _ _ _ h => h) (Or.inl ⟨by rfl, by (intro w hSw; (try dsimp only at hSw); go_simp; try with_reducible rfl)⟩) hHeld ?_
              try simp only [Act.put, List.setIfInBounds_toArray, List.set_cons_zero, List.set_cons_succ]
              refine wpAnyH_take (i := 2) (oi := ⟨some 40, _, _, _, _, _⟩) (v := ?_) rfl (by kernel_rfl) (by kernel_rfl) (by kernel_rfl) (fun _ _ _ h => h) (Or.inl ⟨by rfl, by (intro w hSw; (try dsimp only at hSw); go_simp; try with_reducible rfl)⟩) hHeld ?_
              try simp only [Act.put, List.setIfInBounds_toArray, List.set_cons_zero, List.set_cons_succ]
              refine wpAnyH_take (i := 3) (oi := ⟨some 41, _, _, _, _, _⟩) (v := ?_) rfl (by kernel_rfl) (by kernel_rfl) (by kernel_rfl) (fun _ _ _ h => h) (Or.inl ⟨by rfl, by (intro w hSw; (try dsimp only at hSw); go_simp; try with_reducible rfl)⟩) hHeld ?_
              try simp only [Act.put, List.setIfInBounds_toArray, List.set_cons_zero, List.set_cons_succ]
              refine wpAnyH_take (i := 4) (oi := ⟨some 42, _, _, _, _, _⟩) (v := ?_) rfl (by kernel_rfl) (by kernel_rfl) (by kernel_rfl) (fun _ _ _ h => h) (Or.inl ⟨by rfl, by (intro w hSw; (try dsimp only at hSw); go_simp; try with_reducible rfl)⟩) hHeld ?_
              try simp only [Act.put, List.setIfInBounds_toArray, List.set_cons_zero, List.set_cons_succ]
              refine wpAnyH_ready (rs := [1]) (by kernel_rfl) (by simp) ?_
              refine AllReadyH.cons (o := ⟨some 39, _, _, _, _, _⟩) rfl (fun K hK => ?_) ?_
              · go_simp
                refine (KS.out _).mono ?_
                rintro ze w1 ⟨rfl, hb1⟩
                have HB1 := Lib.hid hb1
                clear hb1
                try go_simp
                refine hK.out _ _ trivial (fun hHeld2 => ?_)
                clear hK K hHeld
                have hHeld := hHeld2
                clear hHeld2
                try simp only [Act.put, List.setIfInBounds_toArray, List.set_cons_zero, List.set_cons_succ]
                refine wpAnyH_take (i := 5) (oi := ⟨some 43, _, _, _, _, _⟩) (v := ?_) rfl (by kernel_rfl) (by kernel_rfl) (by kernel_rfl) (fun _ _ _ h => h) (Or.inl ⟨by rfl, by (intro w hSw; (try dsimp only at hSw); go_simp; try with_reducible rfl)⟩) hHeld ?_
                try simp only [Act.put, List.setIfInBounds_toArray, List.set_cons_zero, List.set_cons_succ]
                refine wpAnyH_done (by kernel_rfl) ?_ _
                simp only [Exit.inBlock, Exit.then]
                apply_assumption
                have HBW : Hid (Below w.heap.size w w1) := Lib.hid (((Below.refl w.heap.size w).drew).trans HB1.out)
                have hx : ((str (sh V)).toList == (s.extract 0 (q + 1)).toList) = decide (sh V = s.data.toList.take (q + 1)) := by
                  have e1 : (str (sh V)).toList = sh V := by simp [ByteArray.toList_eq, str]
                  have e2 : (s.extract 0 (q + 1)).toList = s.data.toList.take (q + 1) := by simp [ByteArray.toList_eq]
                  rw [e1, e2]
                  exact Bool.eq_iff_iff.2 (by simp)
                rw [hx]
                clear hx HB1
                by_cases he : sh V = s.data.toList.take (q + 1)
                · have HE := Lib.hid (HRF.out.trans (if_pos he))
                  rw [decide_eq_true he]
                  clear he HRF
                  go_wp2
                  go_ret3
                  exact ⟨by rw [HE.out]; rfl, HBW.out⟩
                · have HE := Lib.hid (HRF.out.trans (if_neg he))
                  rw [decide_eq_false he]
                  clear he HRF
                  go_wp2
                  go_ret3
                  exact ⟨by rw [HE.out]; rfl, HBW.out⟩
              · exact AllReadyH.nil
    · have hqs : q = s.size := by omega
      have hzs : ¬ (z : Int) ≤ (s.size : Int) := by omega
      by_cases h10 : 10 ≤ s.size
      · have HRR := Lib.hid (HI.out.stop (by omega))
        have h10i : (10 : Int) ≤ (s.size : Int) := by omega
        clear HI H0
        go_wp2
        go_ret3
        exact ⟨by rw [HRR.out]; rfl, Below.refl _ _⟩
      · subst hqs
        have HRR := Lib.hid (HI.out.end (by omega))
        have h10i : ¬ (10 : Int) ≤ (s.size : Int) := by omega
        clear HI H0
        go_wp2
        go_ret3
        exact ⟨by rw [HRR.out]; rfl, Below.refl _ _⟩
end Go.Proofs.Ytdojepkmjifoeaa
