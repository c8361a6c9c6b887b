/- Walk of digest.Print.; word.Long of any text.; Walk of file.Seal.; Walk of strings.CutPrefix of OT; what opens, plainly. -/
import Derived.Test.YtpcmmejlmhbcdaaGreatJ23
import Derived.Test.YtpcmmejlmhbcdaaGreatJ12
import Derived.Test.YtpcmmejlmhbcdaaGreatJ18
set_option linter.unusedVariables false
set_option linter.unusedSimpArgs false
namespace Go.Proofs.YtpcmmejlmhbcdaaGreat.Dg
open Go.RowKit

theorem info48 (l : List UInt8) (h : l.length = 16) : (Tryz.prog.info? 24).map (·.size) = some (W.bcells l).toArray.size := by
  rw [show (W.bcells l).toArray.size = l.length by simp [W.bcells], h]; kernel_rfl
theorem size48 (l : List UInt8) (h : l.length = 16) : (W.bcells zb16).toArray.size = (W.bcells l).toArray.size := by
  rw [show (W.bcells l).toArray.size = l.length by simp [W.bcells], h]; rfl
theorem bb_new48 (w : World) (l : List UInt8) : BB w.heap.size 24 l (w.alloc (.cells (W.bcells l).toArray 24)) := bb_new w l 24

set_option maxRecDepth 1000000 in
set_option maxHeartbeats 2000000 in
theorem print_any (l : List UInt8) (hl : l.length ≤ 200000) (w : World) : Calls Tryz.prog 100 #[.string (W.str l)] w fun e w' => e = .returned (.agg (W.bcells ((sumL l).take 16)).toArray) ∧ Below w.heap.size w w' := by
  have KS1 : Hid (∀ (b : Nat) (w : World), b < w.heap.size → w.cell? ⟨b, 0, none⟩ = some (.string (W.str l)) → Calls Tryz.prog 111 #[.slice (some ⟨b, 0, none⟩) 1 1] w fun e w' => e = .returned (.agg (W.bcells (sumL l)).toArray) ∧ Below w.heap.size w w') := Lib.hid (fun b w hb h0 =>
    sum_core _ l hl w (fun w' hbw => by
      have hJ := Tryz.strings_Join b 0 1 [W.str l] ⟨#[]⟩ w' (by
        intro j x hx
        have hc : ∀ k, w'.cell? ⟨b, k, none⟩ = w.cell? ⟨b, k, none⟩ := fun k => World.cell?_of_block (hbw.block b hb)
        match j, hx with
        | 0, hx => simp at hx; subst hx; rw [hc]; exact h0) (Nat.lt_of_lt_of_le hb hbw.size) (by simp) (by simp) (by
          show (Lib.join [l] []).length ≤ _
          simp [Lib.join]; omega)
      have e : Lib.join [l] [] = l := by simp [Lib.join]
      have e2 : (⟨(Lib.join ([W.str l].map (·.data.toList)) (⟨#[]⟩ : ByteArray).data.toList).toArray⟩ : ByteArray) = W.str l := by
        show W.str (Lib.join [l] []) = W.str l
        rw [e]
      rw [e2] at hJ
      exact hJ))
  have hlen := sumL_len l
  generalize sumL l = o at *
  have HI42 := Lib.hid (info42 o hlen)
  have HSZ := Lib.hid (size42 o hlen)
  have HONE := Lib.hid (bcells_one o)
  have HLEN := Lib.hid hlen
  have h16 : (o.take 16).length = 16 := by simp [hlen]
  have HI48 := Lib.hid (info48 _ h16)
  have HSZ48 := Lib.hid (size48 _ h16)
  have HONE48 := Lib.hid (bcells_one (o.take 16))
  clear hl hlen h16
  generalize W.str l = s at *
  go_enter Tryz.func100, Tryz.ntmps100
  go_upto_region 2 with (fail)
  rw [zb16_is]
  have s1 : (w.alloc (.cells (W.bcells zb16).toArray 24)).heap.size = w.heap.size + 1 := by simp
  have b1 := bb_new48 w zb16
  have b2 := bb_new48 (w.alloc (.cells (W.bcells zb16).toArray 24)) zb16
  rw [s1] at b2
  have st := (Below.refl (w.alloc (.cells (W.bcells zb16).toArray 24)).heap.size (w.alloc (.cells (W.bcells zb16).toArray 24))).alloc (Nat.le_refl _) (.cells (W.bcells zb16).toArray 24)
  refine gen_wp (S := fun wz => Hid (BB w.heap.size 24 zb16 wz) ∧ Hid (BB (w.heap.size + 1) 24 zb16 wz) ∧ Hid (Below w.heap.size w wz)) ⟨Lib.hid (b1.later st), Lib.hid b2, Lib.hid (((Below.refl _ _).alloc (Nat.le_refl _) _).alloc (by simp) _)⟩ ?_
  intro W1 H1
  obtain ⟨hA, hP, hB⟩ := H1
  clear s1 b1 b2 st
  go_upto_region 3 with (first
    | (go_at_call 111; ((with_reducible refine (KS1.out _ _ ?_ ?_).mono ?_); (simp [go_sem]); (simp [go_sem]); rintro e w2 ⟨rfl, hb2⟩))
    | (refine wpList_plain rfl fun _ hK => wp_store_row 167 (.tmp 4) (.tmp 7) rfl _ (W.bcells o).toArray rfl rfl 167 (W.bcells zb32).toArray (bb_lit _ zb32_is) HI42.out HSZ.out HONE.out (hK _ _ ?_)))
  rw [zb32_is]
  have hX : Below W1.heap.size W1 w2 := ((Below.refl _ _).alloc (Nat.le_refl _) _).trans (hb2.mono (by simp))
  have st := (Below.refl w2.heap.size w2).alloc (Nat.le_refl _) (.cells (W.bcells zb32).toArray 167)
  have hl1 := (hP.out.later hX).lt
  have hl0 := (hA.out.later hX).lt
  have hA2 := (hA.out.later hX).later st
  have hP2 := (hP.out.later hX).later st
  have hB2 := (hB.out.trans (hX.mono hB.out.size)).trans (st.mono (by have := hB.out.size; have := hX.size; omega))
  have hG2 := setRow_heap _ _ _ (W.bcells o).toArray _ _ (bb_new w2 zb32 167)
  refine gen_wp (S := fun wz => Hid (BB w.heap.size 24 zb16 wz) ∧ Hid (BB (w.heap.size + 1) 24 zb16 wz) ∧ Hid (BB w2.heap.size 167 o wz) ∧ Hid (Below w.heap.size w wz)) ⟨Lib.hid (by unfold BB; rw [setRow_other _ _ _ _ (by omega)]; exact hA2), Lib.hid (by unfold BB; rw [setRow_other _ _ _ _ (by omega)]; exact hP2), Lib.hid hG2, Lib.hid (below_row hB2 (by omega) _)⟩ ?_
  intro W3 H3
  obtain ⟨hA3, hP3, hG3, hB3⟩ := H3
  clear hX st hl1 hl0 hA2 hP2 hB2 hG2 hA hP hB hb2
  generalize w2.heap.size = g at *
  obtain ⟨W4, hcp, r1, r2, r3, r4, r5, r6⟩ := print_copy (w.heap.size + 1) g o HLEN.out W3.drew hP3.out hG3.out
  have hR := Lib.hid ((r2 w.heap.size (by omega)).trans hA3.out)
  have hQ := Lib.hid r1
  have hB4 : Hid (Below w.heap.size w W4) := Lib.hid ⟨r4.trans hB3.out.os, r5.trans hB3.out.tape, r6.trans hB3.out.output, by rw [r3]; exact hB3.out.size, fun b hb => (r2 b (by omega)).trans (hB3.out.block b hb)⟩
  clear r1 r2 r3 r4 r5 r6 hA3 hP3 hG3 hB3
  dsimp only [Act.put]
  go_region_held3 (fun _ => True) (first | exact True.intro) (first | fail)
  simp only [Exit.then]
  apply_assumption
  have HRR := Lib.hid (setRow_heap W4 w.heap.size (W.bcells zb16).toArray (W.bcells (o.take 16)).toArray 24 _ hR.out)
  have HBB := Lib.hid (below_row hB4.out (Nat.le_refl _) (W.bcells (o.take 16)).toArray)
  go_wp2_with (first
    | (refine wpList_load_row rfl 24 (.tmp 3) rfl (w.heap.size + 1) rfl 24 (W.bcells (o.take 16)).toArray (0, 0) _ hQ.out Tryz.underlying24 rfl HI48.out ?_)
    | (refine wpList_plain rfl fun _ hK => wp_store_row 24 (.tmp 2) (.tmp 11) rfl w.heap.size (W.bcells (o.take 16)).toArray rfl rfl 24 (W.bcells zb16).toArray hR.out HI48.out HSZ48.out HONE48.out (hK _ _ ?_)))
  refine bodyPost_ret (v := .agg (W.bcells (o.take 16)).toArray) ?_ rfl ⟨rfl, HBB.out⟩
  exact results_cell_row rfl _ _ w.heap.size 24 (W.bcells (o.take 16)).toArray (0, 0) _ rfl HRR.out Tryz.underlying24 rfl HI48.out
end Go.Proofs.YtpcmmejlmhbcdaaGreat.Dg

namespace Go.Proofs.YtpcmmejlmhbcdaaGreat.Cd
open Go.RowKit

/-- The number by sevens that a text begins with: it, of how many bytes, the error. -/
def lngA (acc j : Nat) : List UInt8 → Nat × Nat × Nat
  | [] => if j = 10 then (0, 0, 4) else (0, 0, 3)
  | c :: cs => if j = 10 then (0, 0, 4) else if 128 ≤ c.toNat then lngA (acc + 128 ^ j * (c.toNat % 128)) (j + 1) cs else if 0 < j ∧ c.toNat = 0 then (0, 0, 4) else if j = 9 ∧ 1 < c.toNat then (0, 0, 4) else (acc + 128 ^ j * c.toNat, j + 1, 0)

theorem lngA_sh (rest : List UInt8) : ∀ (m n j acc : Nat), n ≤ 18446744073709551615 → 1 ≤ m ∨ j = 0 → n = acc + 128 ^ j * m → acc < 128 ^ j → j + (sh m).length = (sh n).length → lngA acc j (sh m ++ rest) = (n, (sh n).length, 0) := by
  intro m
  induction m using Nat.strongRecOn with
  | _ m ih =>
    intro n j acc hn hm1 hnm hacc hlen
    have h10 := sh_ten n hn
    have hp := sh_pos m
    have hj : j ≠ 10 := by omega
    by_cases hm : 127 < m
    · rw [sh_more m hm] at hlen ⊢
      rw [List.cons_append, lngA, if_neg hj]
      have hc : (UInt8.ofNat (m % 128 + 128)).toNat = m % 128 + 128 := by rw [UInt8.toNat_ofNat']; omega
      rw [hc, if_pos (by omega), show (m % 128 + 128) % 128 = m % 128 by omega]
      refine ih (m / 128) (by omega) n (j + 1) _ hn (Or.inl (by omega)) ?_ ?_ ?_
      · have h2 : m = 128 * (m / 128) + m % 128 := by omega
        rw [Nat.pow_succ, Nat.mul_assoc, Nat.add_assoc, ← Nat.mul_add, Nat.add_comm (m % 128), ← h2]
        exact hnm
      · have h1 : 128 ^ j * (m % 128) ≤ 128 ^ j * 127 := Nat.mul_le_mul_left _ (by omega)
        rw [Nat.pow_succ]; omega
      · simp only [List.length_cons] at hlen; omega
    · rw [sh_last m hm] at hlen ⊢
      rw [List.cons_append, lngA, if_neg hj]
      have hc : (UInt8.ofNat m).toNat = m := by rw [UInt8.toNat_ofNat']; omega
      rw [hc, if_neg (by omega), if_neg (by omega)]
      have h9 : ¬ (j = 9 ∧ 1 < m) := by
        rintro ⟨h, hm2⟩
        subst h
        have h3 : (128 : Nat) ^ 9 = 9223372036854775808 := by rfl
        rw [h3] at hnm; omega
      rw [if_neg h9, ← hnm]
      simp only [List.length_cons, List.length_nil] at hlen
      rw [← hlen]
theorem lngA_ok (n : Nat) (rest : List UInt8) (hn : n ≤ 18446744073709551615) : lngA 0 0 (sh n ++ rest) = (n, (sh n).length, 0) :=
  lngA_sh rest n n 0 0 hn (Or.inr rfl) (by simp) (by simp) (by simp)

theorem lngA_at (s : ByteArray) (j acc : Nat) (h : j < s.size) : lngA acc j (s.data.toList.drop j) = if j = 10 then (0, 0, 4) else if 128 ≤ s[j].toNat then lngA (acc + 128 ^ j * (s[j].toNat % 128)) (j + 1) (s.data.toList.drop (j + 1)) else if 0 < j ∧ s[j].toNat = 0 then (0, 0, 4) else if j = 9 ∧ 1 < s[j].toNat then (0, 0, 4) else (acc + 128 ^ j * s[j].toNat, j + 1, 0) := by
  have hl : j < s.data.toList.length := by simpa using h
  rw [List.drop_eq_getElem_cons hl, lngA]
  rfl
theorem lngA_ten (l : List UInt8) (acc : Nat) : lngA acc 10 l = (0, 0, 4) := by
  cases l <;> (rw [lngA]; simp)
theorem lngA_nil (j acc : Nat) (h : j ≠ 10) : lngA acc j [] = (0, 0, 3) := by rw [lngA, if_neg h]

/-- At 'next', j bytes read. -/
def LongK (s : ByteArray) (R : Nat × Nat × Nat) (w : World) (a' : Act) (w' : World) : Prop :=
  w' = w ∧ ∃ (j acc : Nat) (z : Int) (u1 u2 u3 u4 u7 u8 u9 u10 u11 u12 u13 u14 u15 u16 u17 u18 u19 u20 u21 u22 u23 u24 u25 u26 u27 u28 u29 u30 u31 u32 u33 u34 u35 u36 u37 u38 u39 u40 u41 u42 : Value),
    a' = { tmps := #[.string s, u1, u2, u3, u4, .int .u64 z, .int .i64 j, u7, u8, u9, u10, u11, u12, u13, u14, u15, u16, u17, u18, u19, u20, u21, u22, u23, u24, u25, u26, u27, u28, u29, u30, u31, u32, u33, u34, u35, u36, u37, u38, u39, u40, u41, u42], defers := [] } ∧
    1 ≤ j ∧ j ≤ 10 ∧ j ≤ s.size ∧ (j ≤ 9 → z = (acc : Int) ∧ acc < 128 ^ j) ∧ lngA acc j (s.data.toList.drop j) = R

def lonV (R : Nat × Nat × Nat) : Value := .tuple #[.int .u64 (R.1 : Int), .int .i64 (R.2.1 : Int), .int .i64 (R.2.2 : Int)]
theorem long_next (j acc c : Nat) (hj : j ≤ 8) (hacc : acc < 128 ^ j) (hc : c < 256) :
    bits BinOp.or IntKind.u64 (acc : Int) (IntKind.u64.wrap (((c % 128 : Nat) : Int) * 2 ^ (7 * j))) = ((acc + 128 ^ j * (c % 128) : Nat) : Int) ∧ acc + 128 ^ j * (c % 128) < 128 ^ (j + 1) := by
  have h1 : 128 ^ j * (c % 128) ≤ 128 ^ j * 127 := Nat.mul_le_mul_left _ (by omega)
  have h2 : (128 : Nat) ^ j ≤ 128 ^ 8 := Nat.pow_le_pow_right (by omega) hj
  have h3 : (128 : Nat) ^ 8 = 72057594037927936 := by rfl
  have hs := long_step (acc + 128 ^ j * (c % 128)) j (c % 128) acc (c % 128) (by omega) rfl hacc (by omega)
  rw [hs.1, hs.2]
  exact ⟨rfl, by rw [Nat.pow_succ]; omega⟩

set_option maxRecDepth 1000000 in
set_option maxHeartbeats 1000000 in
theorem long_any (s : ByteArray) (hmax : s.size ≤ 1000000000) (w : World) : Calls Tryz.prog 89 #[.string s] w fun e w' => e = .returned (lonV (lngA 0 0 s.data.toList)) ∧ w = w' := by
  obtain ⟨R, hR⟩ : ∃ R, lngA 0 0 s.data.toList = R := ⟨_, rfl⟩
  rw [hR]
  have HR := Lib.hid hR
  have HM := Lib.hid hmax
  clear hR
  go_enter Tryz.func89, Tryz.ntmps89
  go_wp2
  refine wp_scope_jumps 0 (LongK s R w) (fun a' _ => 20 - (intOf (a'.tmps.getD 6 undef)).toNat) rfl ?_ ?_
  · by_cases h0 : s.size = 0
    · have hz : ((0 : Int) == (s.size : Int)) = true := by rw [beq_iff_eq]; omega
      have hz2 : ((s.size : Int) == 0) = true := by rw [beq_iff_eq]; omega
      have hl : s.data.toList = [] := List.eq_nil_of_length_eq_zero (by simpa using h0)
      have hr : R = (0, 0, 3) := by rw [← HR.out, hl]; rfl
      have HRR := Lib.hid hr
      clear hl hr h0
      go_wp2
      go_step3
      go_wp2
      simp only [Exit.jump]
      refine bodyPost_ret (v := .tuple #[.int .u64 0, .int .i64 0, .int .i64 3]) (by simp [results, Tryz.results89, go_sem]) rfl ⟨?_, rfl⟩
      rw [HRR.out]; rfl
    · have hz : ((s.size : Int) == 0) = false := by rw [beq_eq_false_iff_ne]; omega
      have hz2 : ((0 : Int) == (s.size : Int)) = false := by rw [beq_eq_false_iff_ne]; omega
      have hat := lngA_at s 0 0 (by omega)
      rw [List.drop_zero, HR.out, if_neg (by omega)] at hat
      have f1 : bits BinOp.and IntKind.u8 (s[0].toNat : Int) 127 = ((s[0].toNat % 128 : Nat) : Int) := mask_byte _ s[0].toNat_lt
      have f2 : IntKind.u64.wrap ((s[0].toNat % 128 : Nat) : Int) = ((s[0].toNat % 128 : Nat) : Int) := IntWalk.u64_in _ (by omega)
      have f5 : bits BinOp.or IntKind.u64 0 ((s[0].toNat % 128 : Nat) : Int) = ((s[0].toNat % 128 : Nat) : Int) := by
        have := u64_or_nat 0 (s[0].toNat % 128) (by omega) (by omega)
        rw [Nat.zero_or] at this
        exact this
      have h0' : 0 < s.size := by omega
      obtain ⟨c, hc⟩ : ∃ c, s[0].toNat = c := ⟨_, rfl⟩
      have hc256 : c < 256 := by rw [← hc]; exact s[0].toNat_lt
      obtain ⟨r, hr⟩ : ∃ r, r = c % 128 := ⟨_, rfl⟩
      rw [hc, ← hr] at f1 f2 f5
      rw [hc] at hat
      have HRC := Lib.hid hr
      by_cases h128 : 128 ≤ c
      · have g1 : (128 : Int) ≤ (c : Int) := by omega
        rw [if_pos h128] at hat
        have HAT := Lib.hid hat
        have HS := Lib.hid (show 1 ≤ s.size by omega)
        clear hat hr
        go_wp2
        go_step3
        go_wp2
        go_step3
        refine ⟨rfl, rfl, 1, r, (r : Int), _, _, _, _, _, _, _, _, _, _, _, _, _, _, _, _, _, _, _, _, _, _, _, _, _, _, _, _, _, _, _, _, _, _, _, _, _, _, _, _, rfl, Nat.le_refl _, by omega, HS.out, fun _ => ⟨rfl, ?_⟩, ?_⟩
        · rw [Nat.pow_one, HRC.out]; omega
        · rw [HAT.out, HRC.out]; simp
      · have g1 : ¬ (128 : Int) ≤ (c : Int) := by omega
        rw [if_neg h128, if_neg (by omega), if_neg (by omega)] at hat
        have hrc : r = c := by omega
        rw [hrc] at f1 f2 f5
        have HRR : Hid (R = (c, 1, 0)) := Lib.hid (by rw [hat]; simp)
        clear hat hr hrc
        go_wp2
        go_step3
        go_wp2
        simp only [Exit.jump]
        refine bodyPost_ret (v := .tuple #[.int .u64 c, .int .i64 1, .int .i64 0]) (by simp [results, Tryz.results89, go_sem]) rfl ⟨?_, rfl⟩
        rw [HRR.out]; rfl
  · rintro a' w' ⟨rfl, j, acc, z, u1, u2, u3, u4, u7, u8, u9, u10, u11, u12, u13, u14, u15, u16, u17, u18, u19, u20, u21, u22, u23, u24, u25, u26, u27, u28, u29, u30, u31, u32, u33, u34, u35, u36, u37, u38, u39, u40, u41, u42, rfl, hj1, hj10, hjs, hz, hl⟩
    by_cases h10 : j = 10
    · subst h10
      have hr : R = (0, 0, 4) := by rw [← hl, lngA_ten]
      have HRR := Lib.hid hr
      clear hr hl hz
      go_wp2
      simp only [Exit.jump]
      refine bodyPost_ret (v := .tuple #[.int .u64 0, .int .i64 0, .int .i64 4]) (by simp [results, Tryz.results89, go_sem]) rfl ⟨?_, rfl⟩
      rw [HRR.out]; rfl
    · have hj10' : ((j : Int) == 10) = false := by rw [beq_eq_false_iff_ne]; omega
      obtain ⟨rfl, hacc⟩ := hz (by omega)
      by_cases hend : j = s.size
      · have he : ((j : Int) == (s.size : Int)) = true := by rw [beq_iff_eq]; omega
        have hr : R = (0, 0, 3) := by
          rw [← hl, List.drop_of_length_le (by simp; omega), lngA_nil _ _ h10]
        have HRR := Lib.hid hr
        clear hr hl hz hend
        go_wp2
        simp only [Exit.jump]
        refine bodyPost_ret (v := .tuple #[.int .u64 0, .int .i64 0, .int .i64 3]) (by simp [results, Tryz.results89, go_sem]) rfl ⟨?_, rfl⟩
        rw [HRR.out]; rfl
      · have hlt : j < s.size := by omega
        have he : ((j : Int) == (s.size : Int)) = false := by rw [beq_eq_false_iff_ne]; omega
        have ij : (j : Int) < (s.size : Int) := by omega
        have ij9 : (j : Int) ≤ 9 := by omega
        have hat := lngA_at s j acc hlt
        rw [hl, if_neg h10] at hat
        have f1 : bits BinOp.and IntKind.u8 (s[j].toNat : Int) 127 = ((s[j].toNat % 128 : Nat) : Int) := mask_byte _ s[j].toNat_lt
        have f2 : IntKind.u64.wrap ((s[j].toNat % 128 : Nat) : Int) = ((s[j].toNat % 128 : Nat) : Int) := IntWalk.u64_in _ (by omega)
        have hc256 : s[j].toNat < 256 := s[j].toNat_lt
        obtain ⟨c, hc⟩ : ∃ c, s[j].toNat = c := ⟨_, rfl⟩
        rw [hc] at f1 f2 hc256 hat
        obtain ⟨r, hr⟩ : ∃ r, r = c % 128 := ⟨_, rfl⟩
        rw [← hr] at f1 f2
        obtain ⟨Z1, q3⟩ : ∃ z, IntKind.u64.wrap ((r : Int) * 2 ^ (7 * j)) = z := ⟨_, rfl⟩
        obtain ⟨Z2, q4⟩ : ∃ z, bits BinOp.or IntKind.u64 (acc : Int) Z1 = z := ⟨_, rfl⟩
        have HQ : Hid (j ≤ 8 → Z2 = ((acc + 128 ^ j * r : Nat) : Int) ∧ acc + 128 ^ j * r < 128 ^ (j + 1)) := Lib.hid (fun h8 => by
          have := long_next j acc c h8 hacc hc256
          rw [← hr, q3, q4] at this
          exact this)
        have HZ9 : Hid (j = 9 → c ≤ 1 → Z2 = ((acc + 128 ^ j * c : Nat) : Int)) := Lib.hid (fun h9 h1 => by
          have h3 : (128 : Nat) ^ 9 = 9223372036854775808 := by rfl
          have h4 : 128 ^ 9 * c ≤ 128 ^ 9 * 1 := Nat.mul_le_mul_left _ h1
          have := long_step (acc + 128 ^ j * c) j c acc r (by rw [h9] at hacc ⊢; omega) rfl hacc hr
          rw [q3, show r = c by omega] at this
          rw [← q4, this.1, this.2])
        have HRC := Lib.hid hr
        have HLT := Lib.hid hlt
        clear hl hz hacc
        by_cases h128 : 128 ≤ c
        · have g1 : (128 : Int) ≤ (c : Int) := by omega
          rw [if_pos h128] at hat
          have HAT := Lib.hid hat
          clear hat hr
          go_wp2
          go_step3
          refine ⟨rfl, ⟨rfl, j + 1, acc + 128 ^ j * r, Z2, _, _, _, _, _, _, _, _, _, _, _, _, _, _, _, _, _, _, _, _, _, _, _, _, _, _, _, _, _, _, _, _, _, _, _, _, _, _, _, _, rfl, by omega, by omega, HLT.out, fun h => HQ.out (by omega), ?_⟩, ?_⟩
          · rw [HAT.out, HRC.out]
          · simp [intOf]; omega
        · have g1 : ¬ (128 : Int) ≤ (c : Int) := by omega
          rw [if_neg h128] at hat
          by_cases h0 : c = 0
          · have g2 : ((c : Int) == 0) = true := by rw [beq_iff_eq]; omega
            rw [if_pos ⟨hj1, h0⟩] at hat
            have HRR := Lib.hid hat
            clear hat hr h0
            go_wp2
            simp only [Exit.jump]
            refine bodyPost_ret (v := .tuple #[.int .u64 0, .int .i64 0, .int .i64 4]) (by simp [results, Tryz.results89, go_sem]) rfl ⟨?_, rfl⟩
            rw [HRR.out]; rfl
          · have g2 : ((c : Int) == 0) = false := by rw [beq_eq_false_iff_ne]; omega
            rw [if_neg (fun h => h0 h.2)] at hat
            by_cases h9 : j = 9
            · have hj1' : ((j : Int) + 1 == 10) = true := by rw [beq_iff_eq]; omega
              by_cases h1 : 1 < c
              · have g3 : (1 : Int) < (c : Int) := by omega
                rw [if_pos ⟨h9, h1⟩] at hat
                have HRR := Lib.hid hat
                clear hat hr h9
                go_wp2
                simp only [Exit.jump]
                refine bodyPost_ret (v := .tuple #[.int .u64 0, .int .i64 0, .int .i64 4]) (by simp [results, Tryz.results89, go_sem]) rfl ⟨?_, rfl⟩
                rw [HRR.out]; rfl
              · have g3 : ¬ (1 : Int) < (c : Int) := by omega
                rw [if_neg (fun h => h1 h.2)] at hat
                have HRR := Lib.hid hat
                have hzz := HZ9.out h9 (by omega)
                have HZZ := Lib.hid hzz
                clear hat hr h9 hzz
                go_wp2
                simp only [Exit.jump]
                refine bodyPost_ret (v := .tuple #[.int .u64 Z2, .int .i64 ((j : Int) + 1), .int .i64 0]) (by simp [results, Tryz.results89, go_sem]) rfl ⟨?_, rfl⟩
                rw [HRR.out, HZZ.out]; rfl
            · have hj1' : ((j : Int) + 1 == 10) = false := by rw [beq_eq_false_iff_ne]; omega
              rw [if_neg (fun h => h9 h.1)] at hat
              have HRR := Lib.hid hat
              have hrc : r = c := by omega
              have hzz := (HQ.out (by omega)).1
              rw [hrc] at hzz
              have HZZ := Lib.hid hzz
              clear hat hr h9 hzz hrc
              go_wp2
              simp only [Exit.jump]
              refine bodyPost_ret (v := .tuple #[.int .u64 Z2, .int .i64 ((j : Int) + 1), .int .i64 0]) (by simp [results, Tryz.results89, go_sem]) rfl ⟨?_, rfl⟩
              rw [HRR.out, HZZ.out]; rfl
end Go.Proofs.YtpcmmejlmhbcdaaGreat.Cd

namespace Go.Proofs.YtpcmmejlmhbcdaaGreat.Fi
open Go.RowKit

theorem gen_wp {P : Program} {c : Code} {Q : Exit → Act → World → Prop} {a : Act} {wz : World} {S : World → Prop} (h : S wz) (k : ∀ wz, S wz → c.wp P Q a wz) : c.wp P Q a wz := k _ h
/-- What a text is sealed with. -/
def preL (t : List UInt8) : List UInt8 := [79, 84] ++ Cd.sh t.length ++ t
def sealL (t : List UInt8) : List UInt8 := preL t ++ (Dg.sumL (preL t)).take 16
theorem str_same (l : List UInt8) : Cd.str l = W.str l := rfl
theorem str_list (t : ByteArray) : W.str t.data.toList = t := by
  apply ByteArray.ext
  simp [W.str]
theorem sh_len : ∀ (n : Nat), (Cd.sh n).length ≤ n + 1 := by
  intro n
  induction n using Nat.strongRecOn with
  | _ n ih =>
    rw [Cd.sh]
    split
    · have := ih (n / 128) (by omega)
      simp only [List.length_cons]
      omega
    · simp
theorem sh_len10 (n : Nat) (h : n ≤ 200000) : (Cd.sh n).length ≤ 3 := by
  have one : ∀ m, m ≤ 127 → (Cd.sh m).length = 1 := fun m hm => by rw [Cd.sh]; rw [dif_neg (by omega)]; rfl
  have two : ∀ m, m ≤ 16383 → (Cd.sh m).length ≤ 2 := fun m hm => by
    rw [Cd.sh]
    split
    · simp only [List.length_cons]; have := one (m / 128) (by omega); omega
    · simp
  rw [Cd.sh]
  split
  · simp only [List.length_cons]; have := two (n / 128) (by omega); omega
  · simp
theorem preL_len (t : List UInt8) (h : t.length ≤ 190000) : (preL t).length ≤ t.length + 5 ∧ t.length + 2 ≤ (preL t).length := by
  unfold preL
  have := sh_len10 t.length (by omega)
  simp only [List.length_append, List.length_cons, List.length_nil]
  omega
theorem sealL_len (t : List UInt8) : (sealL t).length = (preL t).length + 16 := by
  unfold sealL
  rw [List.length_append, List.length_take, Dg.sumL_len]
  rfl
theorem conv48 {g : Nat} {l : List UInt8} {w : World} (h : Dg.BB g 24 l w) (hl : l.length = 16) : (convert 117 9 (.slice (some ⟨g, 0, none⟩) 16 16)).run Tryz.prog w = .ok (.string (W.str l)) w := by
  have h2 := run_convert_bytes_back (P := Tryz.prog) w 117 9 5 ⟨g, 0, none⟩ 16 l Tryz.underlying117 Tryz.underlying5 Tryz.underlying9 (fun j hj => by
    have := h.cell j hj
    have hadd : (⟨g, 0, none⟩ : Addr).add j = ⟨g, j, none⟩ := by unfold Addr.add; split <;> simp_all
    rw [hadd]; exact this)
  rw [hl] at h2
  exact h2
theorem bb_lit16 (w : World) {A : Array Value} (hA : A = (W.bcells Dg.zb16).toArray) : Dg.BB w.heap.size 24 Dg.zb16 (w.alloc (.cells A 24)) := by subst hA; exact Dg.bb_new w Dg.zb16 24
set_option maxRecDepth 1000000 in
set_option maxHeartbeats 2000000 in
theorem seal_any (t : ByteArray) (ht : t.size ≤ 100000) (w : World) : Calls Tryz.prog 71 #[.string t] w fun e w' => e = .returned (.string (W.str (sealL t.data.toList))) ∧ Below w.heap.size w w' := by
  obtain ⟨l, hl⟩ : ∃ l, l = t.data.toList := ⟨_, rfl⟩
  obtain ⟨n, hn⟩ : ∃ n, n = t.size := ⟨_, rfl⟩
  have hln : l.length = n := by rw [hl, hn]; rfl
  have htl : t = W.str l := by rw [hl, str_list]
  have K28 : Hid (∀ w, Calls Tryz.prog 94 #[.int .u64 (n : Int)] w fun e w' => e = .returned (.string (W.str (Cd.sh n))) ∧ Below w.heap.size w w') := Lib.hid (fun w => Cd.short_any n (by omega) w)
  have hpl := preL_len l (by omega)
  have A1 : ∀ W0, (Op.stringOp .add ⟨#[79, 84]⟩ (W.str (Cd.sh n))).run Tryz.prog W0 = .ok (.string (W.str ([79, 84] ++ Cd.sh n))) W0 := fun W0 => W.run_str_add [79, 84] _ (by have := sh_len10 n (by omega); simp; omega) W0
  have A2 : ∀ W0, (Op.stringOp .add (W.str ([79, 84] ++ Cd.sh n)) t).run Tryz.prog W0 = .ok (.string (W.str (preL l))) W0 := fun W0 => by
    rw [htl, W.run_str_add _ _ (by have := sh_len10 n (by omega); simp; omega) W0]
    unfold preL; rw [hln]
  have K29 : Hid (∀ w, Calls Tryz.prog 100 #[.string (W.str (preL l))] w fun e w' => e = .returned (.agg (W.bcells ((Dg.sumL (preL l)).take 16)).toArray) ∧ Below w.heap.size w w') := Lib.hid (fun w => Dg.print_any (preL l) (by omega) w)
  have A3 : ∀ W0, (Op.stringOp .add (W.str (preL l)) (W.str ((Dg.sumL (preL l)).take 16))).run Tryz.prog W0 = .ok (.string (W.str (sealL l))) W0 := fun W0 => by
    rw [W.run_str_add _ _ (by simp; omega) W0]; rfl
  have HT := Lib.hid htl
  rw [← hl]
  have e4 : IntKind.u64.wrap (n : Int) = (n : Int) := IntWalk.u64_in _ ⟨by omega, by omega⟩
  have h16 : ((Dg.sumL (preL l)).take 16).length = 16 := by rw [List.length_take, Dg.sumL_len]; rfl
  generalize (Dg.sumL (preL l)).take 16 = o at *
  have HI48 := Lib.hid (Dg.info48 o h16)
  have HSZ48 := Lib.hid (Dg.size48 o h16)
  have HONE48 := Lib.hid (Dg.bcells_one o)
  have H16 := Lib.hid h16
  clear hl hln htl hpl h16 HT
  subst hn
  generalize W.str (sealL l) = s3 at *
  generalize W.str (preL l) = s2 at *
  generalize W.str ([79, 84] ++ Cd.sh t.size) = s1 at *
  generalize W.str (Cd.sh t.size) = s0 at *
  go_enter Tryz.func71, Tryz.ntmps71
  go_upto_region 3 with (first
    | (go_at_call 94; ((with_reducible refine (K28.out _).mono ?_); rintro e w1 ⟨rfl, hb1⟩))
    | (go_at_call 100; ((with_reducible refine (K29.out _).mono ?_); rintro e w2 ⟨rfl, hb2⟩))
    | (refine wpList_plain rfl fun _ hK => wp_store_row 24 (.tmp 4) (.tmp 13) rfl _ (W.bcells o).toArray rfl rfl 24 (W.bcells Dg.zb16).toArray (bb_lit16 _ Dg.zb16_is) HI48.out HSZ48.out HONE48.out (hK _ _ ?_)))
  rw [Dg.zb16_is]
  have hbw := (hb1.trans (hb2.mono hb1.size)).alloc (Nat.le_trans hb1.size hb2.size) (.cells (W.bcells Dg.zb16).toArray 24)
  refine gen_wp (S := fun wz => Hid (Dg.BB w2.heap.size 24 o wz) ∧ Hid (Below w.heap.size w wz)) ⟨Lib.hid (setRow_heap _ _ _ _ _ _ (Dg.bb_new w2 Dg.zb16 24)), Lib.hid (Dg.below_row hbw (Nat.le_trans hb1.size hb2.size) _)⟩ ?_
  intro W2 H2
  obtain ⟨hB, hW⟩ := H2
  have hcv := conv48 hB.out H16.out
  go_wp2
  go_ret
  exact ⟨rfl, hW.out⟩
end Go.Proofs.YtpcmmejlmhbcdaaGreat.Fi

namespace Go.Proofs.YtpcmmejlmhbcdaaGreat.Fi
open Go.RowKit

def otB (l : List UInt8) : Bool := Lib.hasPrefix l [79, 84]
theorem otB_iff (l : List UInt8) : otB l = true ↔ ∃ r, l = 79 :: 84 :: r := by
  unfold otB Lib.hasPrefix
  constructor
  · intro h
    obtain ⟨t, ht⟩ := List.isPrefixOf_iff_prefix.1 h
    exact ⟨t, ht.symm⟩
  · rintro ⟨r, rfl⟩
    rfl
theorem extract_str (s : ByteArray) (a b : Nat) : s.extract a b = W.str ((s.data.toList.drop a).take (b - a)) := by
  apply ByteArray.ext
  rw [ByteArray.data_extract]
  apply Array.ext'
  rw [Array.toList_extract]
  simp [W.str, List.extract_eq_take_drop]
theorem sl_has (s p : ByteArray) (w : World) : Calls Tryz.prog 128 #[.string s, .string p] w fun e w' => e = .returned (.bool (Lib.hasPrefix s.data.toList p.data.toList)) ∧ w' = w :=
  Any.stringslite_HasPrefix (ρ := Tryz.lays99_ren) { Tryz.lays99 with } s p w
set_option maxRecDepth 1000000 in
theorem slcut_any (s : ByteArray) (hs : s.size ≤ 1000000000) (w : World) : Calls Tryz.prog 115 #[.string s, .string ⟨#[79, 84]⟩] w fun e w' => e = .returned (.tuple #[.string (if otB s.data.toList then W.str (s.data.toList.drop 2) else s), .bool (otB s.data.toList)]) ∧ w' = w := by
  have K88 := Lib.hid (sl_has s ⟨#[79, 84]⟩)
  have hd : (⟨#[79, 84]⟩ : ByteArray).data.toList = [79, 84] := rfl
  rw [hd] at K88
  have hob : Lib.hasPrefix s.data.toList [79, 84] = otB s.data.toList := rfl
  rw [hob] at K88
  cases hh : otB s.data.toList
  · rw [hh] at K88
    clear hob hd hh
    go_enter Tryz.func115, Tryz.ntmps115
    go_wp2_with (first | (go_at_call 128; ((with_reducible refine (K88.out _).mono ?_); rintro e w1 ⟨rfl, hw⟩; subst hw)))
    go_ret2
    exact ⟨rfl, rfl⟩
  · rw [hh] at K88
    have h2 : 2 ≤ s.size := by
      obtain ⟨r, hr⟩ := (otB_iff _).1 hh
      have := congrArg List.length hr
      have hz : s.data.toList.length = s.size := rfl
      simp at this
      omega
    have he : s.extract 2 s.size = W.str (s.data.toList.drop 2) := by
      rw [extract_str]
      congr 1
      rw [List.take_of_length_le]
      rw [List.length_drop]
      exact Nat.le_refl _
    have HE := Lib.hid he
    have q1 : (2 : Int) ≤ (s.size : Int) := by omega
    clear hob hd hh he
    go_enter Tryz.func115, Tryz.ntmps115
    go_wp2_with (first | (go_at_call 128; ((with_reducible refine (K88.out _).mono ?_); rintro e w1 ⟨rfl, hw⟩; subst hw)))
    go_ret2
    rw [← HE.out]
    exact ⟨rfl, rfl⟩
set_option maxRecDepth 1000000 in
theorem cut_any (s : ByteArray) (hs : s.size ≤ 1000000000) (w : World) : Calls Tryz.prog 106 #[.string s, .string ⟨#[79, 84]⟩] w fun e w' => e = .returned (.tuple #[.string (if otB s.data.toList then W.str (s.data.toList.drop 2) else s), .bool (otB s.data.toList)]) ∧ w' = w := by
  have K60 := Lib.hid (slcut_any s hs)
  generalize (if otB s.data.toList then W.str (s.data.toList.drop 2) else s) = r at *
  generalize otB s.data.toList = b at *
  go_enter Tryz.func106, Tryz.ntmps106
  go_wp2_with (first | (go_at_call 115; ((with_reducible refine (K60.out _).mono ?_); rintro e w1 ⟨rfl, hw⟩; subst hw)))
  go_ret2
  exact ⟨rfl, rfl⟩
end Go.Proofs.YtpcmmejlmhbcdaaGreat.Fi
