/- The law SessionMessages. -/
import Derived.Test.YtdojepkmjifoeaaJ38
import Derived.Test.YtdojepkmjifoeaaJ48
set_option linter.unusedVariables false
set_option linter.unusedSimpArgs false
namespace Go.Proofs.Ytdojepkmjifoeaa
open Go.RowKit

set_option maxRecDepth 100000 in
set_option maxHeartbeats 4000000 in
theorem nequal_any (l : List Nat) (ρ1 ρ2 : Option Nat) (o1 o2 : Option Addr) (c1 c2 : Nat) (w : World) (hl : l.length ≤ 1000000) (hv : NRow ρ1 o1 c1 l w) (hu : NRow ρ2 o2 c2 l w) (nl : Nat) (hnl : nl = l.length) :
    Calls Try.prog 11 #[.slice o1 nl c1, .slice o2 nl c2] w fun e w' => e = .returned (.bool true) ∧ Below w.heap.size w w' := by
  have HV := Lib.hid (fun wz (h : Below w.heap.size w wz) => hv.later h)
  have HU := Lib.hid (fun wz (h : Below w.heap.size w wz) => hu.later h)
  have hle : nl ≤ 1000000 := by omega
  have HNL := Lib.hid hnl
  clear hnl hv hu hl
  go_enter Try.func11, Try.ntmps11
  go_wp2
  go_loopw [5, 13] (fun _ i wr => ∃ k : Nat, k ≤ nl ∧ i = .int .i64 k ∧ Hid (Below w.heap.size w wr)) (fun _ i _ => nl - (intOf i).toNat)
  case atStart => exact ⟨0, by omega, rfl, Lib.hid (Below.refl _ _)⟩
  case round =>
    obtain ⟨k, hk, rfl, HB⟩ := hrel
    by_cases hlt : k < nl
    · have hkl : k < l.length := by rw [← HNL.out]; exact hlt
      obtain ⟨b1, _, e1, k1⟩ := (HV.out wr HB.out).cell k hkl
      obtain ⟨b2, _, e2, k2⟩ := (HU.out wr HB.out).cell k hkl
      subst e1 e2
      generalize l[k] = y at *
      have HBd : Hid (∀ q, Hid (Below w.heap.size w (wr.drewN q))) := Lib.hid (fun q => Lib.hid ⟨HB.out.os, HB.out.tape, HB.out.output, HB.out.size, HB.out.block⟩)
      clear hkl
      go_wp2_with (fail)
      go_quiet (fail)
      go_wp2
      go_roundw
      case rel => exact ⟨k + 1, by omega, by go_num, HBd.out _⟩
      case measure => simp [intOf]; omega
    · go_wp2
      go_ret
      exact ⟨rfl, HB.out⟩

/-- One text, read by both. -/
def Both (T : ByteArray) : Prop :=
  (∃ (k e : Nat) (b : ByteArray) (ns : List Nat), 1 ≤ k ∧ ns.length ≤ 1000000 ∧
    (∀ w, Calls Try.prog 9 #[.string T] w fun r w' => (∃ ρ o cap, r = .returned (.tuple #[.int .i64 (k : Int), .int .u64 (e : Int), .slice o ns.length cap, .string b, .int .i64 0]) ∧ NRow ρ o cap ns w') ∧ Below w.heap.size w w') ∧
    (∀ w, Calls Try.prog 10 #[.string T] w fun r w' => (∃ ρ o cap, r = .returned (.tuple #[.int .i64 (k : Int), .int .u64 (e : Int), .slice o ns.length cap, .string b]) ∧ NRow ρ o cap ns w') ∧ Below w.heap.size w w')) ∨
  ((∀ w, Calls Try.prog 9 #[.string T] w fun r w' => r = .returned (.tuple #[.int .i64 0, .int .u64 0, .slice none 0 0, .string ⟨#[]⟩, .int .i64 4]) ∧ Below w.heap.size w w') ∧
    (∀ w, Calls Try.prog 10 #[.string T] w fun r w' => r = .returned (.tuple #[.int .i64 0, .int .u64 0, .slice none 0 0, .string ⟨#[]⟩]) ∧ Below w.heap.size w w'))
theorem both_any (T : ByteArray) (hT : T.size ≤ 100000) : Both T := by
  by_cases h : okM T
  · have hR := okM_okR h
    obtain ⟨_, eN, eB, eK, eE⟩ := okR_okM hR
    have hk0 := (codeS_kind hR.1).1
    refine Or.inl ⟨kindS T, epS T, msB T, msN T, by omega, ?_, fun w => ?_, fun w => ?_⟩
    · have hn := hR.2.2.2.2.1
      have := numK_len (k := kindS T) ⟨by omega, hR.2.2.1⟩
      rw [this] at hn
      split at hn <;> (try split at hn) <;> (try split at hn) <;> omega
    · refine (read_ok T (by omega) h w).mono ?_
      rintro r w' ⟨ρ, o, cap, rfl, hp⟩
      rw [eK, eE]
      exact ⟨⟨ρ, o, cap, rfl, hp.2.1⟩, hp.1⟩
    · refine (rread_any T hT w).mono ?_
      rintro r w' ⟨hb, h1 | h1⟩
      · obtain ⟨b, ns, ρ, o, cap, h2, rfl, h3⟩ := h1
        obtain ⟨_, rfl, rfl, _⟩ := okR_okM h2
        exact ⟨⟨ρ, o, cap, rfl, h3⟩, hb⟩
      · exact absurd ⟨_, _, hR⟩ h1.1
  · refine Or.inr ⟨fun w => read_bad T (by omega) h w, fun w => ?_⟩
    refine (rread_any T hT w).mono ?_
    rintro r w' ⟨hb, h1 | h1⟩
    · obtain ⟨b, ns, ρ, o, cap, h2, _⟩ := h1
      exact absurd (okR_okM h2).1 h
    · exact ⟨h1.2, hb⟩
theorem msgV_size (kd : Int) (e : Nat) (b : ByteArray) (ns : List Nat) : (msgV kd e b ns).size ≤ 100000 := by
  unfold msgV
  split
  · rename_i h
    rw [str_size, frameL_length]
    have : (fdB kd b ns).data.toList.length = (fdB kd b ns).size := by simp
    omega
  · decide
theorem row_text (kd : Int) (b : ByteArray) (ns : List Nat) (hb : b.size ≤ 100000) (hn : ns.length ≤ 1000) (h : ∀ n ∈ ns, n ≤ 18446744073709551615) : (txtT (rowT kd b ns)).length ≤ 100000000 := by
  have e3 : txtT (rowT kd b ns) = 3 :: (sh (rowL kd b ns).length ++ txtL (rowL kd b ns)) := by unfold rowT txtT; simp
  have h1 := txt_nums ns (if kd = 2 then [strT b] else []) h
  have h2 : (txtL (if kd = 2 then [strT b] else [])).length ≤ 100020 := by
    split
    · have e5 : txtL [strT b] = 2 :: (sh b.size ++ b.data.toList) := by simp [txtL, strT, txtT]
      have := sh_ten b.size (by omega)
      have : b.data.toList.length = b.size := by simp
      rw [e5]; simp only [List.length_cons, List.length_append]; omega
    · simp [txtL]
  have h3 := sh_ten (rowL kd b ns).length (by rw [row_len]; split <;> omega)
  rw [e3]
  simp only [List.length_cons, List.length_append]
  unfold rowL at *
  omega

set_option maxRecDepth 1000000 in
set_option maxHeartbeats 8000000 in
theorem messages_any (kd : Int) (e : Nat) (b : ByteArray) (ns : List Nat) (t : ByteArray) (o : Option Addr) (cap B off : Nat) (he : e ≤ 18446744073709551615) (w : World) (ho : 0 < ns.length → o = some ⟨B, off, none⟩ ∧ B < w.heap.size) (hc : NsIn w B off ns) (hb0 : b.size ≤ 140737488351232) (ht0 : t.size ≤ 140737488351232) :
    Calls Try.prog 3 #[.int .i64 kd, .int .u64 (e : Int), .string b, .slice o ns.length cap, .string t] w fun r w' => r = .returned (.bool true) ∧ Below w.heap.size w w' := by
  have K6 := Lib.hid awake19_any
  by_cases h10 : 10 < ns.length
  · have h10i : (10 : Int) < (ns.length : Int) := by omega
    generalize ns.length = m at *
    clear ho hc
    go_enter Try.func3, Try.ntmps3
    go_wp2_with (go_at_call 6; ((with_reducible refine (K6.out _).mono ?_); rintro x w1 ⟨rfl, hb1⟩; have HB1 := Lib.hid hb1; clear hb1))
    go_ret
    exact ⟨rfl, HB1.out⟩
  have h10i : ¬ (10 : Int) < (ns.length : Int) := by omega
  by_cases h9 : 9000 < b.size ∨ 9000 < t.size
  · generalize ns.length = m at *
    obtain ⟨mx, hmx⟩ : ∃ mx : Nat, mx = max b.size t.size := ⟨_, rfl⟩
    have h9i : (9000 : Int) < (mx : Int) := by omega
    have hmi : max (b.size : Int) (t.size : Int) = (mx : Int) := by omega
    clear ho hc
    go_enter Try.func3, Try.ntmps3
    go_upto_region 3 with (go_at_call 6; ((with_reducible refine (K6.out _).mono ?_); rintro x w1 ⟨rfl, hb1⟩; have HB1 := Lib.hid hb1; clear hb1))
    go_wp2
    go_ret
    exact ⟨rfl, HB1.out⟩
  have h9i : ¬ (9000 : Int) < ((max b.size t.size : Nat) : Int) := by omega
  have hns : ∀ n ∈ ns, n ≤ 18446744073709551615 := fun n hn => by
    obtain ⟨i, hi, rfl⟩ := List.getElem_of_mem hn
    exact (hc i hi).2
  have HT := row_text kd b ns (by omega) (by omega) hns
  obtain ⟨M, hM⟩ : ∃ M, msgV kd e b ns = M := ⟨_, rfl⟩
  have K7 : Hid (∀ wz, Below w.heap.size w wz → Calls Try.prog 7 #[.int .i64 kd, .int .u64 (e : Int), .string b, .slice o ns.length cap] wz fun r w' => r = .returned (.string M) ∧ Below wz.heap.size wz w') := Lib.hid (fun wz hbz => by
    rw [← hM]
    exact message_any kd e b ns o cap B off (by omega) he wz (fun hp => ⟨(ho hp).1, Nat.lt_of_lt_of_le (ho hp).2 hbz.size⟩) (fun i hi => ⟨(hbz.cell (p := ⟨B, off + i, none⟩) (ho (by omega)).2).trans (hc i hi).1, (hc i hi).2⟩))
  have K8 : Hid (∀ wz, Below w.heap.size w wz → Calls Try.prog 8 #[.int .i64 kd, .int .u64 (e : Int), .string b, .slice o ns.length cap] wz fun r w' => r = .returned (.string M) ∧ Below wz.heap.size wz w') := Lib.hid (fun wz hbz => by
    rw [← hM]
    exact rmessage_any kd e b ns o cap B off (by omega) (by omega) he HT wz (fun hp => ⟨(ho hp).1, Nat.lt_of_lt_of_le (ho hp).2 hbz.size⟩) (fun i hi => ⟨(hbz.cell (p := ⟨B, off + i, none⟩) (ho (by omega)).2).trans (hc i hi).1, (hc i hi).2⟩))
  have HM := Lib.hid (both_any M (by rw [← hM]; exact msgV_size _ _ _ _))
  have HTT := Lib.hid (both_any t (by omega))
  generalize ns.length = m at *
  clear ho hc hM hns HT
  go_enter Try.func3, Try.ntmps3
  go_upto_region 8 with (first
    | (go_at_call 6; ((with_reducible refine (K6.out _).mono ?_); rintro x w1 ⟨rfl, hb1⟩; have HB1 := Lib.hid hb1; clear hb1))
    | (go_at_call 7; ((with_reducible refine (K7.out _ HB1.out).mono ?_); rintro x w2 ⟨rfl, hb2⟩; have HB2 := Lib.hid (bel' HB1.out hb2); clear hb2))
    | (go_at_call 8; ((with_reducible refine (K8.out _ HB2.out).mono ?_); rintro x w3 ⟨rfl, hb3⟩; have HB3 := Lib.hid (bel' HB2.out hb3); clear hb3)))
  go_wp2
  have HB4 := Lib.hid (bel' HB3.out (alloc_below w3 (.cells #[.string M, .string t] 9)))
  have HTX : Hid (∀ i, i < 2 → ∃ T, (∀ wz, Below (w3.alloc (.cells #[.string M, .string t] 9)).heap.size (w3.alloc (.cells #[.string M, .string t] 9)) wz → wz.cell? ⟨w3.heap.size, i, none⟩ = some (.string T)) ∧ Both T) := Lib.hid (fun i hi => by
    match i, hi with
    | 0, _ => exact ⟨M, fun wz hb => (hb.cell (p := ⟨w3.heap.size, 0, none⟩) (by simp)).trans (by simp), HM.out⟩
    | 1, _ => exact ⟨t, fun wz hb => (hb.cell (p := ⟨w3.heap.size, 1, none⟩) (by simp)).trans (by simp), HTT.out⟩)
  generalize w3.alloc (.cells #[.string M, .string t] 9) = w4 at *
  generalize w3.heap.size = g at *
  clear HB1 HB2 HB3 K6 K7 K8 HM HTT
  go_loopw [13, 14, 15, 16, 17, 18, 19, 20, 21, 22, 52] (fun _ _ _ _ _ _ _ _ _ _ i wz => ∃ j : Nat, j ≤ 2 ∧ i = .int .i64 (j : Int) ∧ Hid (Below w4.heap.size w4 wz)) (fun _ _ _ _ _ _ _ _ _ _ i _ => 2 - (intOf i).toNat)
  case atStart => exact ⟨0, by omega, rfl, Lib.hid (Below.refl _ _)⟩
  case round =>
    obtain ⟨j, hj, rfl, HB⟩ := hrel
    by_cases hlt : j < 2
    · obtain ⟨T, hT, hboth⟩ := HTX.out j hlt
      have hcell := hT wr HB.out
      have hlti : (j : Int) < 2 := by omega
      clear hT
      rcases hboth with ⟨k, e2, b2, ns2, hk1, hn2, k9, k10⟩ | ⟨k9, k10⟩
      · have K9 := Lib.hid k9
        have K10 := Lib.hid k10
        have K11 : Hid (∀ (ρ1 ρ2 : Option Nat) (o1 o2 : Option Addr) (c1 c2 : Nat) (wz : World), NRow ρ1 o1 c1 ns2 wz → NRow ρ2 o2 c2 ns2 wz → Calls Try.prog 11 #[.slice o1 ns2.length c1, .slice o2 ns2.length c2] wz fun e w' => e = .returned (.bool true) ∧ Below wz.heap.size wz w') := Lib.hid (fun ρ1 ρ2 o1 o2 c1 c2 wz h1 h2 => nequal_any ns2 ρ1 ρ2 o1 o2 c1 c2 wz hn2 h1 h2 _ rfl)
        have hk0 : ((k : Int) == 0) = false := by rw [beq_eq_false_iff_ne]; omega
        have hk0' : ((k : Int) != 0) = true := by rw [bne_iff_ne]; omega
        generalize ns2.length = q2 at *
        clear k9 k10 hn2
        go_wp2_with (first
          | (go_at_call 9; ((with_reducible refine (K9.out _).mono ?_); rintro x w5 ⟨⟨ρ1, o1, c1, rfl, hr1⟩, hb5⟩; have HR1 := Lib.hid hr1; have HB5 := Lib.hid (bel' HB.out hb5); clear hr1 hb5))
          | (go_at_call 10; ((with_reducible refine (K10.out _).mono ?_); rintro x w6 ⟨⟨ρ2, o2, c2, rfl, hr2⟩, hb6⟩; have HR2 := Lib.hid hr2; have HR1b := Lib.hid (HR1.out.later hb6); have HB6 := Lib.hid (bel' HB5.out hb6); clear hr2 hb6))
          | (go_at_call 11; ((with_reducible refine (K11.out _ _ _ _ _ _ _ HR1b.out HR2.out).mono ?_); rintro x w7 ⟨rfl, hb7⟩; have HB7 := Lib.hid (bel' HB6.out hb7); clear hb7)))
        go_roundw
        case rel => exact ⟨j + 1, by omega, by go_num, HB7⟩
        case measure => simp [intOf]; omega
      · have K9 := Lib.hid k9
        have K10 := Lib.hid k10
        have K11 : Hid (∀ (wz : World), Calls Try.prog 11 #[.slice none 0 0, .slice none 0 0] wz fun e w' => e = .returned (.bool true) ∧ Below wz.heap.size wz w') := Lib.hid (fun wz => nequal_any [] none none none none 0 0 wz (by decide) (NRow.nil _) (NRow.nil _) 0 rfl)
        clear k9 k10
        go_wp2_with (first
          | (go_at_call 9; ((with_reducible refine (K9.out _).mono ?_); rintro x w5 ⟨rfl, hb5⟩; have HB5 := Lib.hid (bel' HB.out hb5); clear hb5))
          | (go_at_call 10; ((with_reducible refine (K10.out _).mono ?_); rintro x w6 ⟨rfl, hb6⟩; have HB6 := Lib.hid (bel' HB5.out hb6); clear hb6))
          | (go_at_call 11; ((with_reducible refine (K11.out _).mono ?_); rintro x w7 ⟨rfl, hb7⟩; have HB7 := Lib.hid (bel' HB6.out hb7); clear hb7)))
        go_roundw
        case rel => exact ⟨j + 1, by omega, by go_num, HB7⟩
        case measure => simp [intOf]; omega
    · go_wp2
      go_ret
      exact ⟨rfl, bel' HB4.out HB.out⟩
end Go.Proofs.Ytdojepkmjifoeaa
