/- CodecPuts where both are made, as far as its great assignment.; CodecPuts where Put answers a writing. -/
import Derived.Test.YtlochpnifjmefaaJ35
import Derived.Test.YtlochpnifjmefaaJ36
set_option linter.unusedVariables false
set_option linter.unusedSimpArgs false
namespace Go.Proofs.Ytlochpnifjmefaa
open Go.RowKit

/-- Two boxes, each with a value. -/
structure PB (w : World) (X Y : Nat) (t u : Tr) (a : Int) (b : Nat) (s : ByteArray) (o : Option Addr) (l c : Nat) (a2 : Int) (b2 : Nat) (s2 : ByteArray) (o2 : Option Addr) (l2 c2 : Nat) (wz : World) : Prop where
  below : Below w.heap.size w wz
  bx : Bx X (.int .i64 a) (.int .u64 (b : Int)) (.string s) (.slice o l c) wz
  bY : Bx Y (.int .i64 a2) (.int .u64 (b2 : Int)) (.string s2) (.slice o2 l2 c2) wz
  vx : VIn wz t (.int .i64 a) (.int .u64 (b : Int)) (.string s) (.slice o l c)
  vy : VIn wz u (.int .i64 a2) (.int .u64 (b2 : Int)) (.string s2) (.slice o2 l2 c2)
theorem PB.later {w wz w1 : World} {X Y : Nat} {t u : Tr} {a : Int} {b : Nat} {s : ByteArray} {o : Option Addr} {l c : Nat} {a2 : Int} {b2 : Nat} {s2 : ByteArray} {o2 : Option Addr} {l2 c2 : Nat} (h : PB w X Y t u a b s o l c a2 b2 s2 o2 l2 c2 wz) (hb : Below wz.heap.size wz w1) : PB w X Y t u a b s o l c a2 b2 s2 o2 l2 c2 w1 :=
  ⟨h.below.trans (hb.mono h.below.size), h.bx.later hb, h.bY.later hb, h.vx.later hb, h.vy.later hb⟩

theorem below_step {w1 w2 w3 : World} (h : Below w1.heap.size w1 w2) (h2 : Below w2.heap.size w2 w3) : Below w1.heap.size w1 w3 := h.trans (h2.mono h.size)
theorem sameL_of : ∀ l : List Tr, (∀ x ∈ l, sameT x x = true) → sameL l l = true
  | [], _ => by unfold sameL; rfl
  | x :: xs, h => by
    unfold sameL
    rw [h x (by simp), sameL_of xs (fun y hy => h y (by simp [hy]))]; rfl
theorem sameL_refl : ∀ t : Tr, sameT t t = true := by
  refine Tr.ind ?_
  intro k n s l ih
  unfold sameT
  rw [sameL_of l ih]
  simp
set_option maxRecDepth 100000 in
set_option maxHeartbeats 4000000 in
theorem puts_err (o p : Option Addr) (cap cap2 ln mn : Nat) (t u : Tr) (w : World)
    (h1 : ∀ wy, Below w.heap.size w wy → Calls Try.prog 10 #[.slice o ln cap] wy (MdA wy (some t))) (h2 : ∀ wy, Below w.heap.size w wy → Calls Try.prog 10 #[.slice p mn cap2] wy (MdA wy (some u))) (hbad : Hid (putC t ≠ 0)) :
    Calls Try.prog 3 #[.slice o ln cap, .slice p mn cap2] w fun e w' => e = .returned (.bool true) ∧ Below w.heap.size w w' := by
  have K9 := Lib.hid awake7_any
  have K1 := Lib.hid h1
  have K2 := Lib.hid h2
  clear h1 h2
  go_enter Try.func3, Try.ntmps3
  go_upto_region 5 with (first
    | (go_at_call 9; ((with_reducible refine (K9.out _).mono ?_); rintro x w1 ⟨rfl, hb1⟩; have HB1 := Lib.hid hb1; clear hb1))
    | (go_at_call 10; ((with_reducible refine (K1.out _ HB1.out).mono ?_); rintro x w2 ⟨k, n, s, o2, l, c, ok, rfl, hb2, rfl, hv2⟩; have HV2 := Lib.hid (hv2 t rfl); have HB2 := Lib.hid (HB1.out.trans (hb2.mono HB1.out.size)); have HA2 := Lib.hid (HB2.out.trans ((alloc_below w2 (.cells #[.int .i64 k, .int .u64 (n : Int), .string s, .slice o2 l c] 27)).mono HB2.out.size)); have hst := store27 w2 k n s o2 l c; clear hb2 hv2))
    | (go_at_call 10; ((with_reducible refine (K2.out _ HA2.out).mono ?_); rintro x w3 ⟨k3, n3, s3, o3, l3, c3, ok3, rfl, hb3, rfl, hv3⟩; have HV3 := Lib.hid (hv3 u rfl); have HB3 := Lib.hid hb3; have hst3 := store27 w3 k3 n3 s3 o3 l3 c3; clear hb3 hv3)))
  refine gen_wp (S := fun wz => Hid (PB w w2.heap.size w3.heap.size t u k n s o2 l c k3 n3 s3 o3 l3 c3 wz)) (Lib.hid (by
    have b2 : Bx w2.heap.size (.int .i64 k) (.int .u64 (n : Int)) (.string s) (.slice o2 l c) (w2.alloc (.cells #[.int .i64 k, .int .u64 (n : Int), .string s, .slice o2 l c] 27)) := ⟨four_new _ _ _ _ _ _, alloc_lt _ _⟩
    have a3 := alloc_below w3 (.cells #[.int .i64 k3, .int .u64 (n3 : Int), .string s3, .slice o3 l3 c3] 27)
    have b3 : Bx w3.heap.size (.int .i64 k3) (.int .u64 (n3 : Int)) (.string s3) (.slice o3 l3 c3) (w3.alloc (.cells #[.int .i64 k3, .int .u64 (n3 : Int), .string s3, .slice o3 l3 c3] 27)) := ⟨four_new _ _ _ _ _ _, alloc_lt _ _⟩
    have a2 := alloc_below w2 (.cells #[.int .i64 k, .int .u64 (n : Int), .string s, .slice o2 l c] 27)
    have z3 := HA2.out.trans (HB3.out.mono HA2.out.size)
    exact ⟨z3.trans (a3.mono z3.size), (b2.later HB3.out).later a3, b3, ((VInP.plain t HV2.out.1).later a2 |>.later HB3.out).later a3, (VInP.plain u HV3.out.1).later a3⟩)) ?_
  intro W5 H5
  have HT : Hid (okN t ∧ tsz t ≤ 2000) := Lib.hid HV2.out.2
  clear hst hst3 HV2 HV3 HB1 HB2 HA2 HB3 K9 K1 K2
  generalize w2.heap.size = X at *
  generalize w3.heap.size = Y at *
  obtain ⟨x0, x1, x2, x3⟩ := H5.out.bx.1
  have hg := great_no t HT.out.1
  have hdp : deepT t ≤ 1000000000 := by have := HT.out.2; omega
  have htx : (txtT t).length ≤ 100000000 := by have := (hg.2 (by have := HT.out.2; omega)).1; have := HT.out.2; omega
  have K11 := Lib.hid (put_tree t _ _ _ _ W5 hdp H5.out.vx)
  have K13 : Hid (∀ wy, Below W5.heap.size W5 wy → Calls Try.prog 13 #[.agg #[.int .i64 k, .int .u64 (n : Int), .string s, .slice o2 l c]] wy fun e w' => ∃ (a : Int) (b : Nat) (s' : ByteArray) (o' : Option Addr) (l' c' : Nat), e = .returned (.agg #[.int .i64 a, .int .u64 (b : Int), .string s', .slice o' l' c']) ∧ Below wy.heap.size wy w' ∧ ∀ wx, Below w'.heap.size w' wx → Calls Try.prog 12 #[.agg #[.int .i64 a, .int .u64 (b : Int), .string s', .slice o' l' c']] wx fun e w'' => e = .returned (.tuple #[.string (putS t), .int .i64 (putC t : Nat)]) ∧ Below wx.heap.size wx w'') := Lib.hid (fun wy hy => by
    refine (to_any t _ _ _ _ wy (H5.out.vx.later hy)).mono ?_
    rintro e w' ⟨d0, d1, d2, d3, rfl, hv, hb⟩
    obtain ⟨a, b, s', o', l', c', rfl, rfl, rfl, rfl⟩ := hv.cells
    exact ⟨a, b, s', o', l', c', rfl, hb, fun wx hx => rput_tree t _ _ _ _ wx hdp htx ((VInP.plain t hv).later hx)⟩)
  have hcast : ((putC t : Nat) : Int) = ((putC t : Nat) : Int) := rfl
  clear hg hdp htx hcast
  go_upto_region 9 with (first
    | (go_at_call 11; ((with_reducible refine (K11.out).mono ?_); rintro x w6 ⟨rfl, hb6⟩; have HB6 := Lib.hid hb6; have H6 := Lib.hid (H5.out.later hb6); obtain ⟨y0, y1, y2, y3⟩ := H6.out.bx.1; clear hb6))
    | (go_at_call 13; ((with_reducible refine (K13.out _ HB6.out).mono ?_); rintro x w7 ⟨a, b, s', o', l', c', rfl, hb7, h12⟩; have HB7 := Lib.hid hb7; have K12 := Lib.hid (h12 _ (Below.refl _ _)); clear hb7 h12))
    | (go_at_call 12; ((with_reducible refine (K12.out).mono ?_); rintro x w8 ⟨rfl, hb8⟩; have H8 := Lib.hid ((H6.out.later HB7.out).later hb8); clear hb8)))
  clear x0 x1 x2 x3 y0 y1 y2 y3
  refine gen_wp (S := fun wz => Hid (PB w X Y t u k n s o2 l c k3 n3 s3 o3 l3 c3 wz)) H8 ?_
  intro W8 H9
  clear K11 K12 K13 HB6 HB7 H6 H8 H5
  obtain ⟨x0, x1, x2, x3⟩ := H9.out.bx.1
  obtain ⟨y0, y1, y2, y3⟩ := H9.out.bY.1
  have HD9 := Lib.hid (show Below W8.heap.size W8 W8.drew from (Below.refl _ _).drew)
  have hdp : deepT t ≤ 1000000000 := by have := (great_no t HT.out.1).1; have := HT.out.2; omega
  have mk : Hid (∀ wz, PB w X Y t u k n s o2 l c k3 n3 s3 o3 l3 c3 wz → wz.cell? ⟨X, 0, none⟩ = some (.int .i64 k) ∧ wz.cell? ⟨X, 1, none⟩ = some (.int .u64 (n : Int)) ∧ wz.cell? ⟨X, 2, none⟩ = some (.string s) ∧ wz.cell? ⟨X, 3, none⟩ = some (.slice o2 l c) ∧ wz.cell? ⟨Y, 0, none⟩ = some (.int .i64 k3) ∧ wz.cell? ⟨Y, 1, none⟩ = some (.int .u64 (n3 : Int)) ∧ wz.cell? ⟨Y, 2, none⟩ = some (.string s3) ∧ wz.cell? ⟨Y, 3, none⟩ = some (.slice o3 l3 c3) ∧ Hid (PB w X Y t u k n s o2 l c k3 n3 s3 o3 l3 c3 wz)) := Lib.hid (fun wz h => ⟨h.bx.1.1, h.bx.1.2.1, h.bx.1.2.2.1, h.bx.1.2.2.2, h.bY.1.1, h.bY.1.2.1, h.bY.1.2.2.1, h.bY.1.2.2.2, Lib.hid h⟩)
  have K14 : Hid (∀ wy, Hid (PB w X Y t u k n s o2 l c k3 n3 s3 o3 l3 c3 wy) → Calls Try.prog 14 #[.agg #[.int .i64 k, .int .u64 (n : Int), .string s, .slice o2 l c]] wy fun e w' => e = .returned (.int .i64 (deepT t : Nat)) ∧ Below wy.heap.size wy w') := Lib.hid (fun wy h => deep_any t _ _ _ _ wy hdp h.out.vx)
  have K16 : Hid (∀ wy, Hid (PB w X Y t u k n s o2 l c k3 n3 s3 o3 l3 c3 wy) → Calls Try.prog 16 #[.agg #[.int .i64 k, .int .u64 (n : Int), .string s, .slice o2 l c], .agg #[.int .i64 k3, .int .u64 (n3 : Int), .string s3, .slice o3 l3 c3]] wy fun e w' => e = .returned (.bool (sameT t u)) ∧ Below wy.heap.size wy w') := Lib.hid (fun wy h => same_any t u _ _ _ _ _ _ _ _ wy h.out.vx h.out.vy)
  have K16v : Hid (∀ wy, Hid (PB w X Y t u k n s o2 l c k3 n3 s3 o3 l3 c3 wy) → Calls Try.prog 16 #[.agg #[.int .i64 k, .int .u64 (n : Int), .string s, .slice o2 l c], .agg #[.int .i64 k, .int .u64 (n : Int), .string s, .slice o2 l c]] wy fun e w' => e = .returned (.bool true) ∧ Below wy.heap.size wy w') := Lib.hid (fun wy h => by have h2 := same_any t t _ _ _ _ _ _ _ _ wy h.out.vx h.out.vx; rw [sameL_refl] at h2; exact h2)
  have K13 : Hid (∀ wy, Hid (PB w X Y t u k n s o2 l c k3 n3 s3 o3 l3 c3 wy) → Calls Try.prog 13 #[.agg #[.int .i64 k, .int .u64 (n : Int), .string s, .slice o2 l c]] wy fun e w' => ∃ (a : Int) (b : Nat) (s' : ByteArray) (o' : Option Addr) (l' c' : Nat), e = .returned (.agg #[.int .i64 a, .int .u64 (b : Int), .string s', .slice o' l' c']) ∧ Below wy.heap.size wy w' ∧ Hid (VIn w' t (.int .i64 a) (.int .u64 (b : Int)) (.string s') (.slice o' l' c'))) := Lib.hid (fun wy h => by
    refine (to_any t _ _ _ _ wy h.out.vx).mono ?_
    rintro e w' ⟨d0, d1, d2, d3, rfl, hv, hb⟩
    obtain ⟨a, b, s', o', l', c', rfl, rfl, rfl, rfl⟩ := hv.cells
    exact ⟨a, b, s', o', l', c', rfl, hb, Lib.hid (VInP.plain t hv)⟩)
  have K13u : Hid (∀ wy, Hid (PB w X Y t u k n s o2 l c k3 n3 s3 o3 l3 c3 wy) → Calls Try.prog 13 #[.agg #[.int .i64 k3, .int .u64 (n3 : Int), .string s3, .slice o3 l3 c3]] wy fun e w' => ∃ (a : Int) (b : Nat) (s' : ByteArray) (o' : Option Addr) (l' c' : Nat), e = .returned (.agg #[.int .i64 a, .int .u64 (b : Int), .string s', .slice o' l' c']) ∧ Below wy.heap.size wy w' ∧ Hid (VIn w' u (.int .i64 a) (.int .u64 (b : Int)) (.string s') (.slice o' l' c'))) := Lib.hid (fun wy h => by
    refine (to_any u _ _ _ _ wy h.out.vy).mono ?_
    rintro e w' ⟨d0, d1, d2, d3, rfl, hv, hb⟩
    obtain ⟨a, b, s', o', l', c', rfl, rfl, rfl, rfl⟩ := hv.cells
    exact ⟨a, b, s', o', l', c', rfl, hb, Lib.hid (VInP.plain u hv)⟩)
  have K15 : Hid (∀ (wy : World) (a : Int) (b : Nat) (s' : ByteArray) (o' : Option Addr) (l' c' : Nat), VIn wy t (.int .i64 a) (.int .u64 (b : Int)) (.string s') (.slice o' l' c') → Calls Try.prog 15 #[.agg #[.int .i64 a, .int .u64 (b : Int), .string s', .slice o' l' c']] wy fun e w' => e = .returned (.int .i64 (deepT t : Nat)) ∧ Below wy.heap.size wy w') := Lib.hid (fun wy a b s' o' l' c' h => rdeep_any t _ _ _ _ wy hdp h)
  have K17 : Hid (∀ (wy : World) (a : Int) (b : Nat) (s' : ByteArray) (o' : Option Addr) (l' c' : Nat) (a6 : Int) (b6 : Nat) (s6 : ByteArray) (o6 : Option Addr) (l6 c6 : Nat), VIn wy t (.int .i64 a) (.int .u64 (b : Int)) (.string s') (.slice o' l' c') → VIn wy u (.int .i64 a6) (.int .u64 (b6 : Int)) (.string s6) (.slice o6 l6 c6) → Calls Try.prog 17 #[.agg #[.int .i64 a, .int .u64 (b : Int), .string s', .slice o' l' c'], .agg #[.int .i64 a6, .int .u64 (b6 : Int), .string s6, .slice o6 l6 c6]] wy fun e w' => e = .returned (.bool (sameT t u)) ∧ Below wy.heap.size wy w') := Lib.hid (fun wy a b s' o' l' c' a6 b6 s6 o6 l6 c6 h h6 => rsame_any t u _ _ _ _ _ _ _ _ wy h h6)
  have hst := Lib.hid (H9.out.later HD9.out)
  clear hdp HD9 x0 x1 x2 x3 y0 y1 y2 y3
  go_region_held3 (fun wz => wz.cell? ⟨X, 0, none⟩ = some (.int .i64 k) ∧ wz.cell? ⟨X, 1, none⟩ = some (.int .u64 (n : Int)) ∧ wz.cell? ⟨X, 2, none⟩ = some (.string s) ∧ wz.cell? ⟨X, 3, none⟩ = some (.slice o2 l c) ∧ wz.cell? ⟨Y, 0, none⟩ = some (.int .i64 k3) ∧ wz.cell? ⟨Y, 1, none⟩ = some (.int .u64 (n3 : Int)) ∧ wz.cell? ⟨Y, 2, none⟩ = some (.string s3) ∧ wz.cell? ⟨Y, 3, none⟩ = some (.slice o3 l3 c3) ∧ Hid (PB w X Y t u k n s o2 l c k3 n3 s3 o3 l3 c3 wz))
    (first
      | exact mk.out _ hst.out
      | (refine mk.out _ (PB.later ?_ (by assumption)); go_split_ands; (refine Hid.out ?_; assumption))
      | (refine mk.out _ (show PB w X Y t u k n s o2 l c k3 n3 s3 o3 l3 c3 _ from ?_); go_split_ands; (refine Hid.out ?_; assumption)))
    (first
      | (go_at_call 14; ((with_reducible refine (K14.out _ (by go_split_ands; assumption)).mono ?_); rintro x wa ⟨rfl, hba⟩))
      | (go_at_call 16; ((with_reducible refine (K16.out _ (by go_split_ands; assumption)).mono ?_); rintro x wb ⟨rfl, hbb⟩))
      | (go_at_call 16; ((with_reducible refine (K16v.out _ (by go_split_ands; assumption)).mono ?_); rintro x wc ⟨rfl, hbc⟩))
      | (go_at_call 13; ((with_reducible refine (K13.out _ (by go_split_ands; assumption)).mono ?_); rintro x wd ⟨a4, b4, s4, o4, l4, c4, rfl, hbd, hv4⟩))
      | (go_at_call 13; ((with_reducible refine (K13u.out _ (by go_split_ands; assumption)).mono ?_); rintro x we ⟨a5, b5, s5, o5, l5, c5, rfl, hbe, hv5⟩))
      | (go_at_call 15; ((with_reducible refine (K15.out _ _ _ _ _ _ _ ?_).mono ?_); (first | exact hv4.out | exact hv4.out.later (by assumption)); rintro x wf ⟨rfl, hbf⟩))
      | (go_at_call 17; ((with_reducible refine (K17.out _ _ _ _ _ _ _ _ _ _ _ _ _ ?_ ?_).mono ?_); (first | exact hv4.out | exact hv4.out.later hbe | exact hv4.out.later (by assumption)); (first | exact hv5.out | exact hv5.out.later (by assumption)); rintro x wg ⟨rfl, hbg⟩)))
  all_goals
    try simp only [Exit.then]
    try apply_assumption
    refine gen_wp (S := fun wz => Hid (PB w X Y t u k n s o2 l c k3 n3 s3 o3 l3 c3 wz)) (by go_split_ands; assumption) ?_
    intro W10 H10
    clear K13 K13u K14 K15 K16 K16v K17 mk hst H9
    have hpc : putC t ≠ 0 := hbad.out
    have q1 : ((putC t : Int) != 0) = true := by rw [bne_iff_ne]; omega
    have q2 : ((putC t : Int) == 0) = false := by rw [beq_eq_false_iff_ne]; omega
    have H11 := Lib.hid H10.out.below
    clear hpc hbad H10
    generalize putC t = pc at *
    generalize putS t = ps at *
    generalize deepT t = dt at *
    generalize sameT t u = st at *
    go_wp2
    go_ret
    exact ⟨rfl, H11.out⟩
end Go.Proofs.Ytlochpnifjmefaa

namespace Go.Proofs.Ytlochpnifjmefaa
open Go.RowKit

theorem put_good (t : Tr) (h : putC t = 0) : sndT t = true ∧ deepT t ≤ 6 ∧ (txtT t).length ≤ 8192 ∧ putS t = str (txtT t) := by
  unfold putC at h
  split at h
  · omega
  · rename_i h1
    split at h
    · omega
    · rename_i h2
      split at h
      · omega
      · rename_i h3
        refine ⟨by simpa using h1, by omega, by omega, ?_⟩
        unfold putS putC
        rw [if_neg h1, if_neg h2, if_neg h3, if_pos rfl]
theorem get_good (t : Tr) (h1 : sndT t = true) (h2 : okT t) (h3 : deepT t ≤ 6) (h4 : (txtT t).length ≤ 8192) (w : World) :
    Calls Try.prog 18 #[.string (str (txtT t))] w fun x w' => ∃ (a : Int) (b : Nat) (s : ByteArray) (o : Option Addr) (l c : Nat), x = .returned (.tuple #[.agg #[.int .i64 a, .int .u64 (b : Int), .string s, .slice o l c], .int .i64 0]) ∧ Below w.heap.size w w' ∧ Hid (VIn w' t (.int .i64 a) (.int .u64 (b : Int)) (.string s) (.slice o l c)) := by
  have hr : rdA (str (txtT t)) = (0, t, []) := by have := rdA_txt t [] h1 h2 h3 (by simpa using h4); rw [List.append_nil] at this; exact this
  have hc : getC (str (txtT t)) = 0 := by unfold getC; rw [hr]; rfl
  have ht : getT (str (txtT t)) = t := by unfold getT; rw [if_pos hc, hr]
  refine (cget_any (str (txtT t)) (by rw [str_size]; omega) w).mono ?_
  rintro x w' ⟨d0, d1, d2, d3, rfl, hv, hb, _⟩
  rw [ht] at hv
  obtain ⟨a, b, s, o, l, c, rfl, rfl, rfl, rfl⟩ := hv.cells
  exact ⟨a, b, s, o, l, c, by rw [hc]; rfl, hb, Lib.hid (VInP.plain t hv)⟩
abbrev abc : ByteArray := ⟨#[97, 98, 99]⟩
theorem next_good (t : Tr) (h1 : sndT t = true) (h2 : okT t) (h3 : deepT t ≤ 6) (h4 : (txtT t).length ≤ 8192) (w : World) :
    Calls Try.prog 19 #[.string (str (txtT t) ++ abc)] w fun x w' => ∃ (a : Int) (b : Nat) (s : ByteArray) (o : Option Addr) (l c : Nat) (r : ByteArray) (e : Nat), x = .returned (.tuple #[.agg #[.int .i64 a, .int .u64 (b : Int), .string s, .slice o l c], .string r, .int .i64 (e : Int)]) ∧ Below w.heap.size w w' ∧
      Hid (((txtT t).length + 3 ≤ 8192 → e = 0 ∧ r = abc ∧ VIn w' t (.int .i64 a) (.int .u64 (b : Int)) (.string s) (.slice o l c)) ∧ (8192 < (txtT t).length + 3 → e = 5)) := by
  have hs : str (txtT t) ++ abc = str (txtT t ++ [97, 98, 99]) := by
    apply ByteArray.ext
    apply Array.ext'
    simp [str, abc]
  rw [hs]
  refine (cnext_any (str (txtT t ++ [97, 98, 99])) (by rw [str_size, List.length_append]; simp; omega) w).mono ?_
  rintro x w' ⟨d0, d1, d2, d3, rfl, hv, hb⟩
  by_cases hl : (txtT t).length + 3 ≤ 8192
  · have hr := rdA_txt t [97, 98, 99] h1 h2 h3 (by simpa using hl)
    rw [hr] at hv ⊢
    obtain ⟨a, b, s, o, l, c, rfl, rfl, rfl, rfl⟩ := hv.cells
    exact ⟨a, b, s, o, l, c, abc, 0, rfl, hb, Lib.hid ⟨fun _ => ⟨rfl, rfl, VInP.plain t hv⟩, fun h => absurd h (by omega)⟩⟩
  · have hr : (rdA (str (txtT t ++ [97, 98, 99]))).1 = 5 := by unfold rdA; rw [if_pos (by rw [str_size, List.length_append]; simp; omega)]
    rw [hr]
    obtain ⟨a, b, s, o, l, c, rfl, rfl, rfl, rfl⟩ := hv.cells
    exact ⟨a, b, s, o, l, c, _, 5, rfl, hb, Lib.hid ⟨fun h => absurd h hl, fun _ => rfl⟩⟩

set_option maxRecDepth 100000 in
set_option maxHeartbeats 4000000 in
theorem puts_ok (o p : Option Addr) (cap cap2 ln mn : Nat) (t u : Tr) (w : World)
    (h1 : ∀ wy, Below w.heap.size w wy → Calls Try.prog 10 #[.slice o ln cap] wy (MdA wy (some t))) (h2 : ∀ wy, Below w.heap.size w wy → Calls Try.prog 10 #[.slice p mn cap2] wy (MdA wy (some u))) (hgood : Hid (putC t = 0)) :
    Calls Try.prog 3 #[.slice o ln cap, .slice p mn cap2] w fun e w' => e = .returned (.bool true) ∧ Below w.heap.size w w' := by
  have K9 := Lib.hid awake7_any
  have K1 := Lib.hid h1
  have K2 := Lib.hid h2
  clear h1 h2
  go_enter Try.func3, Try.ntmps3
  go_upto_region 5 with (first
    | (go_at_call 9; ((with_reducible refine (K9.out _).mono ?_); rintro x w1 ⟨rfl, hb1⟩; have HB1 := Lib.hid hb1; clear hb1))
    | (go_at_call 10; ((with_reducible refine (K1.out _ HB1.out).mono ?_); rintro x w2 ⟨k, n, s, o2, l, c, ok, rfl, hb2, rfl, hv2⟩; have HV2 := Lib.hid (hv2 t rfl); have HB2 := Lib.hid (HB1.out.trans (hb2.mono HB1.out.size)); have HA2 := Lib.hid (HB2.out.trans ((alloc_below w2 (.cells #[.int .i64 k, .int .u64 (n : Int), .string s, .slice o2 l c] 27)).mono HB2.out.size)); have hst := store27 w2 k n s o2 l c; clear hb2 hv2))
    | (go_at_call 10; ((with_reducible refine (K2.out _ HA2.out).mono ?_); rintro x w3 ⟨k3, n3, s3, o3, l3, c3, ok3, rfl, hb3, rfl, hv3⟩; have HV3 := Lib.hid (hv3 u rfl); have HB3 := Lib.hid hb3; have hst3 := store27 w3 k3 n3 s3 o3 l3 c3; clear hb3 hv3)))
  refine gen_wp (S := fun wz => Hid (PB w w2.heap.size w3.heap.size t u k n s o2 l c k3 n3 s3 o3 l3 c3 wz)) (Lib.hid (by
    have b2 : Bx w2.heap.size (.int .i64 k) (.int .u64 (n : Int)) (.string s) (.slice o2 l c) (w2.alloc (.cells #[.int .i64 k, .int .u64 (n : Int), .string s, .slice o2 l c] 27)) := ⟨four_new _ _ _ _ _ _, alloc_lt _ _⟩
    have a3 := alloc_below w3 (.cells #[.int .i64 k3, .int .u64 (n3 : Int), .string s3, .slice o3 l3 c3] 27)
    have b3 : Bx w3.heap.size (.int .i64 k3) (.int .u64 (n3 : Int)) (.string s3) (.slice o3 l3 c3) (w3.alloc (.cells #[.int .i64 k3, .int .u64 (n3 : Int), .string s3, .slice o3 l3 c3] 27)) := ⟨four_new _ _ _ _ _ _, alloc_lt _ _⟩
    have a2 := alloc_below w2 (.cells #[.int .i64 k, .int .u64 (n : Int), .string s, .slice o2 l c] 27)
    have z3 := HA2.out.trans (HB3.out.mono HA2.out.size)
    exact ⟨z3.trans (a3.mono z3.size), (b2.later HB3.out).later a3, b3, ((VInP.plain t HV2.out.1).later a2 |>.later HB3.out).later a3, (VInP.plain u HV3.out.1).later a3⟩)) ?_
  intro W5 H5
  have HT : Hid (okN t ∧ tsz t ≤ 2000) := Lib.hid HV2.out.2
  clear hst hst3 HV2 HV3 HB1 HB2 HA2 HB3 K9 K1 K2
  generalize w2.heap.size = X at *
  generalize w3.heap.size = Y at *
  obtain ⟨x0, x1, x2, x3⟩ := H5.out.bx.1
  have hg := great_no t HT.out.1
  have hdp : deepT t ≤ 1000000000 := by have := HT.out.2; omega
  have htx : (txtT t).length ≤ 100000000 := by have := (hg.2 (by have := HT.out.2; omega)).1; have := HT.out.2; omega
  have K11 := Lib.hid (put_tree t _ _ _ _ W5 hdp H5.out.vx)
  have K13 : Hid (∀ wy, Below W5.heap.size W5 wy → Calls Try.prog 13 #[.agg #[.int .i64 k, .int .u64 (n : Int), .string s, .slice o2 l c]] wy fun e w' => ∃ (a : Int) (b : Nat) (s' : ByteArray) (o' : Option Addr) (l' c' : Nat), e = .returned (.agg #[.int .i64 a, .int .u64 (b : Int), .string s', .slice o' l' c']) ∧ Below wy.heap.size wy w' ∧ ∀ wx, Below w'.heap.size w' wx → Calls Try.prog 12 #[.agg #[.int .i64 a, .int .u64 (b : Int), .string s', .slice o' l' c']] wx fun e w'' => e = .returned (.tuple #[.string (putS t), .int .i64 (putC t : Nat)]) ∧ Below wx.heap.size wx w'') := Lib.hid (fun wy hy => by
    refine (to_any t _ _ _ _ wy (H5.out.vx.later hy)).mono ?_
    rintro e w' ⟨d0, d1, d2, d3, rfl, hv, hb⟩
    obtain ⟨a, b, s', o', l', c', rfl, rfl, rfl, rfl⟩ := hv.cells
    exact ⟨a, b, s', o', l', c', rfl, hb, fun wx hx => rput_tree t _ _ _ _ wx hdp htx ((VInP.plain t hv).later hx)⟩)
  have hcast : ((putC t : Nat) : Int) = ((putC t : Nat) : Int) := rfl
  clear hg hdp htx hcast
  go_upto_region 9 with (first
    | (go_at_call 11; ((with_reducible refine (K11.out).mono ?_); rintro x w6 ⟨rfl, hb6⟩; have HB6 := Lib.hid hb6; have H6 := Lib.hid (H5.out.later hb6); obtain ⟨y0, y1, y2, y3⟩ := H6.out.bx.1; clear hb6))
    | (go_at_call 13; ((with_reducible refine (K13.out _ HB6.out).mono ?_); rintro x w7 ⟨a, b, s', o', l', c', rfl, hb7, h12⟩; have HB7 := Lib.hid hb7; have K12 := Lib.hid (h12 _ (Below.refl _ _)); clear hb7 h12))
    | (go_at_call 12; ((with_reducible refine (K12.out).mono ?_); rintro x w8 ⟨rfl, hb8⟩; have H8 := Lib.hid ((H6.out.later HB7.out).later hb8); clear hb8)))
  clear x0 x1 x2 x3 y0 y1 y2 y3
  refine gen_wp (S := fun wz => Hid (PB w X Y t u k n s o2 l c k3 n3 s3 o3 l3 c3 wz)) H8 ?_
  intro W8 H9
  clear K11 K12 K13 HB6 HB7 H6 H8 H5
  obtain ⟨x0, x1, x2, x3⟩ := H9.out.bx.1
  obtain ⟨y0, y1, y2, y3⟩ := H9.out.bY.1
  have HD9 := Lib.hid (show Below W8.heap.size W8 W8.drew from (Below.refl _ _).drew)
  have hdp : deepT t ≤ 1000000000 := by have := (great_no t HT.out.1).1; have := HT.out.2; omega
  have mk : Hid (∀ wz, PB w X Y t u k n s o2 l c k3 n3 s3 o3 l3 c3 wz → wz.cell? ⟨X, 0, none⟩ = some (.int .i64 k) ∧ wz.cell? ⟨X, 1, none⟩ = some (.int .u64 (n : Int)) ∧ wz.cell? ⟨X, 2, none⟩ = some (.string s) ∧ wz.cell? ⟨X, 3, none⟩ = some (.slice o2 l c) ∧ wz.cell? ⟨Y, 0, none⟩ = some (.int .i64 k3) ∧ wz.cell? ⟨Y, 1, none⟩ = some (.int .u64 (n3 : Int)) ∧ wz.cell? ⟨Y, 2, none⟩ = some (.string s3) ∧ wz.cell? ⟨Y, 3, none⟩ = some (.slice o3 l3 c3) ∧ Hid (PB w X Y t u k n s o2 l c k3 n3 s3 o3 l3 c3 wz)) := Lib.hid (fun wz h => ⟨h.bx.1.1, h.bx.1.2.1, h.bx.1.2.2.1, h.bx.1.2.2.2, h.bY.1.1, h.bY.1.2.1, h.bY.1.2.2.1, h.bY.1.2.2.2, Lib.hid h⟩)
  have K14 : Hid (∀ wy, Hid (PB w X Y t u k n s o2 l c k3 n3 s3 o3 l3 c3 wy) → Calls Try.prog 14 #[.agg #[.int .i64 k, .int .u64 (n : Int), .string s, .slice o2 l c]] wy fun e w' => e = .returned (.int .i64 (deepT t : Nat)) ∧ Below wy.heap.size wy w') := Lib.hid (fun wy h => deep_any t _ _ _ _ wy hdp h.out.vx)
  have K16 : Hid (∀ wy, Hid (PB w X Y t u k n s o2 l c k3 n3 s3 o3 l3 c3 wy) → Calls Try.prog 16 #[.agg #[.int .i64 k, .int .u64 (n : Int), .string s, .slice o2 l c], .agg #[.int .i64 k3, .int .u64 (n3 : Int), .string s3, .slice o3 l3 c3]] wy fun e w' => e = .returned (.bool (sameT t u)) ∧ Below wy.heap.size wy w') := Lib.hid (fun wy h => same_any t u _ _ _ _ _ _ _ _ wy h.out.vx h.out.vy)
  have K16v : Hid (∀ wy, Hid (PB w X Y t u k n s o2 l c k3 n3 s3 o3 l3 c3 wy) → Calls Try.prog 16 #[.agg #[.int .i64 k, .int .u64 (n : Int), .string s, .slice o2 l c], .agg #[.int .i64 k, .int .u64 (n : Int), .string s, .slice o2 l c]] wy fun e w' => e = .returned (.bool true) ∧ Below wy.heap.size wy w') := Lib.hid (fun wy h => by have h2 := same_any t t _ _ _ _ _ _ _ _ wy h.out.vx h.out.vx; rw [sameL_refl] at h2; exact h2)
  have K13 : Hid (∀ wy, Hid (PB w X Y t u k n s o2 l c k3 n3 s3 o3 l3 c3 wy) → Calls Try.prog 13 #[.agg #[.int .i64 k, .int .u64 (n : Int), .string s, .slice o2 l c]] wy fun e w' => ∃ (a : Int) (b : Nat) (s' : ByteArray) (o' : Option Addr) (l' c' : Nat), e = .returned (.agg #[.int .i64 a, .int .u64 (b : Int), .string s', .slice o' l' c']) ∧ Below wy.heap.size wy w' ∧ Hid (VIn w' t (.int .i64 a) (.int .u64 (b : Int)) (.string s') (.slice o' l' c'))) := Lib.hid (fun wy h => by
    refine (to_any t _ _ _ _ wy h.out.vx).mono ?_
    rintro e w' ⟨d0, d1, d2, d3, rfl, hv, hb⟩
    obtain ⟨a, b, s', o', l', c', rfl, rfl, rfl, rfl⟩ := hv.cells
    exact ⟨a, b, s', o', l', c', rfl, hb, Lib.hid (VInP.plain t hv)⟩)
  have K13u : Hid (∀ wy, Hid (PB w X Y t u k n s o2 l c k3 n3 s3 o3 l3 c3 wy) → Calls Try.prog 13 #[.agg #[.int .i64 k3, .int .u64 (n3 : Int), .string s3, .slice o3 l3 c3]] wy fun e w' => ∃ (a : Int) (b : Nat) (s' : ByteArray) (o' : Option Addr) (l' c' : Nat), e = .returned (.agg #[.int .i64 a, .int .u64 (b : Int), .string s', .slice o' l' c']) ∧ Below wy.heap.size wy w' ∧ Hid (VIn w' u (.int .i64 a) (.int .u64 (b : Int)) (.string s') (.slice o' l' c'))) := Lib.hid (fun wy h => by
    refine (to_any u _ _ _ _ wy h.out.vy).mono ?_
    rintro e w' ⟨d0, d1, d2, d3, rfl, hv, hb⟩
    obtain ⟨a, b, s', o', l', c', rfl, rfl, rfl, rfl⟩ := hv.cells
    exact ⟨a, b, s', o', l', c', rfl, hb, Lib.hid (VInP.plain u hv)⟩)
  have K15 : Hid (∀ (wy : World) (a : Int) (b : Nat) (s' : ByteArray) (o' : Option Addr) (l' c' : Nat), VIn wy t (.int .i64 a) (.int .u64 (b : Int)) (.string s') (.slice o' l' c') → Calls Try.prog 15 #[.agg #[.int .i64 a, .int .u64 (b : Int), .string s', .slice o' l' c']] wy fun e w' => e = .returned (.int .i64 (deepT t : Nat)) ∧ Below wy.heap.size wy w') := Lib.hid (fun wy a b s' o' l' c' h => rdeep_any t _ _ _ _ wy hdp h)
  have K17 : Hid (∀ (wy : World) (a : Int) (b : Nat) (s' : ByteArray) (o' : Option Addr) (l' c' : Nat) (a6 : Int) (b6 : Nat) (s6 : ByteArray) (o6 : Option Addr) (l6 c6 : Nat), VIn wy t (.int .i64 a) (.int .u64 (b : Int)) (.string s') (.slice o' l' c') → VIn wy u (.int .i64 a6) (.int .u64 (b6 : Int)) (.string s6) (.slice o6 l6 c6) → Calls Try.prog 17 #[.agg #[.int .i64 a, .int .u64 (b : Int), .string s', .slice o' l' c'], .agg #[.int .i64 a6, .int .u64 (b6 : Int), .string s6, .slice o6 l6 c6]] wy fun e w' => e = .returned (.bool (sameT t u)) ∧ Below wy.heap.size wy w') := Lib.hid (fun wy a b s' o' l' c' a6 b6 s6 o6 l6 c6 h h6 => rsame_any t u _ _ _ _ _ _ _ _ wy h h6)
  have hst := Lib.hid (H9.out.later HD9.out)
  clear hdp HD9 x0 x1 x2 x3 y0 y1 y2 y3
  go_region_held3 (fun wz => wz.cell? ⟨X, 0, none⟩ = some (.int .i64 k) ∧ wz.cell? ⟨X, 1, none⟩ = some (.int .u64 (n : Int)) ∧ wz.cell? ⟨X, 2, none⟩ = some (.string s) ∧ wz.cell? ⟨X, 3, none⟩ = some (.slice o2 l c) ∧ wz.cell? ⟨Y, 0, none⟩ = some (.int .i64 k3) ∧ wz.cell? ⟨Y, 1, none⟩ = some (.int .u64 (n3 : Int)) ∧ wz.cell? ⟨Y, 2, none⟩ = some (.string s3) ∧ wz.cell? ⟨Y, 3, none⟩ = some (.slice o3 l3 c3) ∧ Hid (PB w X Y t u k n s o2 l c k3 n3 s3 o3 l3 c3 wz))
    (first
      | exact mk.out _ hst.out
      | (refine mk.out _ (PB.later ?_ (by assumption)); go_split_ands; (refine Hid.out ?_; assumption))
      | (refine mk.out _ (show PB w X Y t u k n s o2 l c k3 n3 s3 o3 l3 c3 _ from ?_); go_split_ands; (refine Hid.out ?_; assumption)))
    (first
      | (go_at_call 14; ((with_reducible refine (K14.out _ (by go_split_ands; assumption)).mono ?_); rintro x wa ⟨rfl, hba⟩))
      | (go_at_call 16; ((with_reducible refine (K16.out _ (by go_split_ands; assumption)).mono ?_); rintro x wb ⟨rfl, hbb⟩))
      | (go_at_call 16; ((with_reducible refine (K16v.out _ (by go_split_ands; assumption)).mono ?_); rintro x wc ⟨rfl, hbc⟩))
      | (go_at_call 13; ((with_reducible refine (K13.out _ (by go_split_ands; assumption)).mono ?_); rintro x wd ⟨a4, b4, s4, o4, l4, c4, rfl, hbd, hv4⟩))
      | (go_at_call 13; ((with_reducible refine (K13u.out _ (by go_split_ands; assumption)).mono ?_); rintro x we ⟨a5, b5, s5, o5, l5, c5, rfl, hbe, hv5⟩))
      | (go_at_call 15; ((with_reducible refine (K15.out _ _ _ _ _ _ _ ?_).mono ?_); (first | exact hv4.out | exact hv4.out.later (by assumption)); rintro x wf ⟨rfl, hbf⟩))
      | (go_at_call 17; ((with_reducible refine (K17.out _ _ _ _ _ _ _ _ _ _ _ _ _ ?_ ?_).mono ?_); (first | exact hv4.out | exact hv4.out.later hbe | exact hv4.out.later (by assumption)); (first | exact hv5.out | exact hv5.out.later (by assumption)); rintro x wg ⟨rfl, hbg⟩)))
  all_goals
    try simp only [Exit.then]
    try apply_assumption
    refine gen_wp (S := fun wz => Hid (PB w X Y t u k n s o2 l c k3 n3 s3 o3 l3 c3 wz)) (by go_split_ands; assumption) ?_
    intro W10 H10
    clear K13 K13u K14 K15 K16 K16v K17 mk hst H9
    obtain ⟨g1, g2, g3, g4⟩ := put_good t hgood.out
    have q1 : ((putC t : Nat) : Int) = 0 := by rw [hgood.out]; rfl
    have hokT : okT t := ((great_no t HT.out.1).2 (by have := HT.out.2; omega)).2
    have KG := Lib.hid (get_good t g1 hokT g2 g3)
    have KN := Lib.hid (next_good t g1 hokT g2 g3)
    have hps : putS t = str (txtT t) := g4
    rw [hps]
    rw [q1]
    generalize deepT t = dt at *
    generalize sameT t u = st at *
    obtain ⟨ps, hpse⟩ : ∃ ps, str (txtT t) = ps := ⟨_, rfl⟩
    have hpn : ps.size = (txtT t).length := by rw [← hpse, str_size]
    rw [hpse] at KG KN ⊢
    have HPN := Lib.hid (And.intro hpn g3)
    have hp8 : ps.size ≤ 8192 := by omega
    clear hpn g1 g2 g3 g4 hps hpse hokT
    go_upto_region 14 with (first
      | (go_at_call 18; ((with_reducible refine (KG.out _).mono ?_); rintro x w11 ⟨a6, b6, s6, o6, l6, c6, rfl, hb11, hv6⟩; have H11 := Lib.hid (H10.out.later hb11); have hst6 := store27 w11 a6 b6 s6 o6 l6 c6; clear hb11)))
    refine gen_wp (S := fun wz => Hid (PB w X Y t u k n s o2 l c k3 n3 s3 o3 l3 c3 wz ∧ Bx w11.heap.size (.int .i64 a6) (.int .u64 (b6 : Int)) (.string s6) (.slice o6 l6 c6) wz ∧ VIn wz t (.int .i64 a6) (.int .u64 (b6 : Int)) (.string s6) (.slice o6 l6 c6))) (Lib.hid ⟨H11.out.later (alloc_below w11 _), ⟨four_new _ _ _ _ _ _, alloc_lt _ _⟩, hv6.out.later (alloc_below w11 _)⟩) ?_
    intro W12 H12
    clear hst6 hv6 H11 H10
    generalize w11.heap.size = Z at *
    go_upto_region 15 with (first
      | (go_at_call 19; ((with_reducible refine (KN.out _).mono ?_); rintro x w13 ⟨a7, b7, s7, o7, l7, c7, r7, e7, rfl, hb13, hv7⟩; have HB13 := Lib.hid hb13; have hst7 := store27 w13 a7 b7 s7 o7 l7 c7; clear hb13)))
    have A13 := Lib.hid (alloc_below w13 (.cells #[.int .i64 a7, .int .u64 (b7 : Int), .string s7, .slice o7 l7 c7] 27))
    refine gen_wp (S := fun wz => Hid ((PB w X Y t u k n s o2 l c k3 n3 s3 o3 l3 c3 wz ∧ Bx Z (.int .i64 a6) (.int .u64 (b6 : Int)) (.string s6) (.slice o6 l6 c6) wz ∧ VIn wz t (.int .i64 a6) (.int .u64 (b6 : Int)) (.string s6) (.slice o6 l6 c6)) ∧ Bx w13.heap.size (.int .i64 a7) (.int .u64 (b7 : Int)) (.string s7) (.slice o7 l7 c7) wz ∧ (((txtT t).length + 3 ≤ 8192 → e7 = 0 ∧ r7 = abc ∧ VIn wz t (.int .i64 a7) (.int .u64 (b7 : Int)) (.string s7) (.slice o7 l7 c7)) ∧ (8192 < (txtT t).length + 3 → e7 = 5)))) (Lib.hid ⟨⟨(H12.out.1.later HB13.out).later A13.out, (H12.out.2.1.later HB13.out).later A13.out, (H12.out.2.2.later HB13.out).later A13.out⟩, ⟨four_new _ _ _ _ _ _, alloc_lt _ _⟩, ⟨fun h => ⟨(hv7.out.1 h).1, (hv7.out.1 h).2.1, (hv7.out.1 h).2.2.later A13.out⟩, hv7.out.2⟩⟩) ?_
    intro W14 H14
    clear hst7 hv7 H12 HB13 A13 KG KN
    generalize w13.heap.size = Z2 at *
    obtain ⟨x0, x1, x2, x3⟩ := H14.out.1.1.bx.1
    obtain ⟨z0, z1, z2, z3⟩ := H14.out.1.2.1.1
    obtain ⟨v0, v1, v2, v3⟩ := H14.out.2.1.1
    have KA : Hid (Calls Try.prog 16 #[.agg #[.int .i64 a6, .int .u64 (b6 : Int), .string s6, .slice o6 l6 c6], .agg #[.int .i64 k, .int .u64 (n : Int), .string s, .slice o2 l c]] W14 fun e w' => e = .returned (.bool true) ∧ Below W14.heap.size W14 w') := Lib.hid (by have h2 := same_any t t _ _ _ _ _ _ _ _ W14 H14.out.1.2.2 H14.out.1.1.vx; rw [sameL_refl] at h2; exact h2)
    by_cases hl : 8192 < (txtT t).length + 3
    · have he := H14.out.2.2.2 hl
      subst he
      have q5 : (8192 : Int) < (ps.size : Int) + 3 := by have := HPN.out.1; omega
      have HBE := Lib.hid H14.out.1.1.below
      clear hl H14
      go_wp2_with (first
        | (go_at_call 16; ((with_reducible refine (KA.out).mono ?_); rintro x w15 ⟨rfl, hb15⟩; have HB15 := Lib.hid hb15; clear hb15)))
      go_ret
      exact ⟨rfl, HBE.out.trans (HB15.out.mono HBE.out.size)⟩
    · have hl' : (txtT t).length + 3 ≤ 8192 := by omega
      obtain ⟨he, hr, hv⟩ := H14.out.2.2.1 hl'
      subst he
      subst hr
      have q5 : ¬ (8192 : Int) < (ps.size : Int) + 3 := by have := HPN.out.1; omega
      have HBE := Lib.hid H14.out.1.1.below
      have HBZ := Lib.hid H14.out.2.1
      have HBX := Lib.hid H14.out.1.1.bx
      have KB : Hid (∀ wy, Below W14.heap.size W14 wy → Calls Try.prog 16 #[.agg #[.int .i64 a7, .int .u64 (b7 : Int), .string s7, .slice o7 l7 c7], .agg #[.int .i64 k, .int .u64 (n : Int), .string s, .slice o2 l c]] wy fun e w' => e = .returned (.bool true) ∧ Below wy.heap.size wy w') := Lib.hid (fun wy hy => by have h2 := same_any t t _ _ _ _ _ _ _ _ wy (hv.later hy) (H14.out.1.1.vx.later hy); rw [sameL_refl] at h2; exact h2)
      clear hl hl' H14 hv
      go_wp2_with (first
        | (go_at_call 16; ((with_reducible refine (KA.out).mono ?_); rintro x w15 ⟨rfl, hb15⟩; have HB15 := Lib.hid hb15; obtain ⟨m0, m1, m2, m3⟩ := (HBZ.out.later hb15).1; obtain ⟨j0, j1, j2, j3⟩ := (HBX.out.later hb15).1; clear hb15))
        | (go_at_call 16; ((with_reducible refine (KB.out _ HB15.out).mono ?_); rintro x w16 ⟨rfl, hb16⟩; have HB16 := Lib.hid hb16; clear hb16)))
      go_ret
      exact ⟨rfl, (HBE.out.trans (HB15.out.mono HBE.out.size)).trans (HB16.out.mono (Nat.le_trans HBE.out.size HB15.out.size))⟩
end Go.Proofs.Ytlochpnifjmefaa
