/- The document's Short.; A value's writing; the document's Text and Put.; The document's Text of a text, and of a list.; The document's Put.; A box that holds bytes of the call's own: a string put behind them. -/
import Derived.Test.YtjfjliobencppaaGreatDoorJ00
import Derived.Test.YtjfjliobencppaaGreatDoorJ04
import Derived.Deep.RegionHeld3
import Derived.Lib.AppendStr
set_option linter.unusedVariables false
set_option linter.unusedSimpArgs false
namespace Go.Proofs.YtjfjliobencppaaGreatDoor
open Go.RowKit

set_option maxRecDepth 1000000 in
set_option maxHeartbeats 1000000 in
theorem rshort_any (n : Nat) (hn : n ≤ 18446744073709551615) (w : World) :
    Calls Tryz.prog 103 #[.int .u64 n] w fun e w' => e = .returned (.string (str (sh n))) ∧ Below w.heap.size w w' := by
  have HN := Lib.hid hn
  clear hn
  go_enter Tryz.func103, Tryz.ntmps103
  go_wp2
  go_loopw [0, 3] (fun nv sv wr => ∃ (m : Nat) (acc : List UInt8), nv = .int .u64 m ∧ sv = .string (str acc) ∧ acc ++ sh m = sh n ∧ m ≤ n ∧ Below w.heap.size w wr) (fun nv _ _ => (intOf nv).toNat)
  case atStart => exact ⟨n, [], rfl, rfl, rfl, Nat.le_refl _, Below.refl _ _⟩
  case round =>
    obtain ⟨m, acc, rfl, rfl, hacc, hmn, hb⟩ := hrel
    have hal : acc.length + 1 ≤ 10 := by
      have h1 := congrArg List.length hacc
      have h2 := sh_pos m
      have h3 := sh_ten n HN.out
      simp at h1; omega
    have hbs := hb.size
    have HA := Lib.hid hacc
    have HM := Lib.hid hmn
    clear hacc hmn
    by_cases hm : 127 < m
    · obtain ⟨r, hr⟩ : ∃ r, r = m % 128 := ⟨_, rfl⟩
      have hr2 : r ≤ 127 := by omega
      have hri : (m : Int) % 128 = (r : Int) := by rw [hr]; simp
      obtain ⟨q, hq⟩ : ∃ q, q = m / 128 := ⟨_, rfl⟩
      have hwq : IntKind.u64.wrap ((m : Int) / 128) = (q : Int) := by
        rw [IntWalk.u64_in _ (by have := HM.out; have := HN.out; omega), hq]; simp
      obtain ⟨x, hx⟩ : ∃ x, x = UInt8.ofNat (r + 128) := ⟨_, rfl⟩
      have hsh : acc ++ [x] ++ sh q = sh n := by
        rw [← HA.out, sh_more m hm, hx, hr, hq]; simp
      have HS := Lib.hid hsh
      have HQ := Lib.hid (show q ≤ n ∧ q < m by have := HM.out; omega)
      have hcv := run_one_byte wr ((r : Int) + 128) (r + 128) (by simp) (by omega)
      rw [← hx] at hcv
      have hadd := run_str_add acc [x] (by simp; omega)
      clear hr hsh hx hq
      go_wp2
      go_roundw
      case rel => exact ⟨q, acc ++ [x], rfl, rfl, HS.out, HQ.out.1, hb.alloc hbs _⟩
      case measure => have := HQ.out.2; simp [intOf]; omega
    · obtain ⟨x, hx⟩ : ∃ x, x = UInt8.ofNat m := ⟨_, rfl⟩
      have hcv := run_one_byte wr (m : Int) m rfl (by omega)
      rw [← hx] at hcv
      have hadd := run_str_add acc [x] (by simp; omega)
      have hsh : acc ++ [x] = sh n := by rw [← HA.out, sh_last m hm, hx]
      have HS := Lib.hid hsh
      clear hsh hx
      go_wp2
      go_ret
      refine ⟨?_, hb.alloc hbs _⟩
      rw [← HS.out]; rfl
end Go.Proofs.YtjfjliobencppaaGreatDoor

namespace Go.Proofs.YtjfjliobencppaaGreatDoor
open Go.RowKit

mutual
/-- A value's writing. -/
def txtT : Tr → List UInt8
  | .mk k n s l => if k = 1 then 1 :: sh n else if k = 2 then 2 :: (sh s.size ++ s.data.toList) else 3 :: (sh l.length ++ txtL l)
def txtL : List Tr → List UInt8
  | [] => []
  | t :: ts => txtT t ++ txtL ts
end
theorem txtL_flat : ∀ l : List Tr, txtL l = l.flatMap txtT
  | [] => by unfold txtL; rfl
  | t :: ts => by unfold txtL; rw [List.flatMap_cons, txtL_flat ts]
/-- The writing of the first j. -/
def txtP (l : List Tr) (j : Nat) : List UInt8 := (l.take j).flatMap txtT
theorem txtP_0 (l : List Tr) : txtP l 0 = [] := rfl
theorem txtP_succ (l : List Tr) (j : Nat) (h : j < l.length) : txtP l (j + 1) = txtP l j ++ txtT l[j] := by
  unfold txtP
  rw [List.take_succ_eq_append_getElem h, List.flatMap_append]
  simp
theorem txtP_all (l : List Tr) : txtP l l.length = txtL l := by
  unfold txtP; rw [List.take_length, txtL_flat]
theorem txtP_le (l : List Tr) (j : Nat) (h : j < l.length) : (txtP l j).length + (txtT l[j]).length ≤ (txtL l).length := by
  have h1 : txtL l = txtP l (j + 1) ++ (l.drop (j + 1)).flatMap txtT := by
    unfold txtP
    rw [← List.flatMap_append, List.take_append_drop, txtL_flat]
  rw [h1, txtP_succ l j h, List.length_append, List.length_append]
  omega
theorem txtL_mem (l : List Tr) (x : Tr) (h : x ∈ l) : (txtT x).length ≤ (txtL l).length := by
  obtain ⟨j, hj, rfl⟩ := List.getElem_of_mem h
  have := txtP_le l j hj
  omega

theorem gen_wp {P : Program} {c : Code} {Q : Exit → Act → World → Prop} {a : Act} {wz : World} {S : World → Prop} (h : S wz) (k : ∀ wz, S wz → c.wp P Q a wz) : c.wp P Q a wz := k _ h
/-- The box of a value at hand. -/
def VW (w : World) (a b c d : Value) (wz : World) : Prop := (wz.cell? ⟨w.heap.size, 0, none⟩ = some a ∧ wz.cell? ⟨w.heap.size, 1, none⟩ = some b ∧ wz.cell? ⟨w.heap.size, 2, none⟩ = some c ∧ wz.cell? ⟨w.heap.size, 3, none⟩ = some d) ∧ w.heap.size < wz.heap.size ∧ Below w.heap.size w wz
theorem VW.new (w : World) (a b c d : Value) (t : Nat) : VW w a b c d (w.alloc (.cells #[a, b, c, d] t)) := ⟨four_new w a b c d t, alloc_lt _ _, alloc_below _ _⟩
theorem VW.later {w wz w1 : World} {a b c d : Value} (h : VW w a b c d wz) (hb : Below wz.heap.size wz w1) : VW w a b c d w1 := ⟨four_below h.1 hb h.2.1, Nat.lt_of_lt_of_le h.2.1 hb.size, h.2.2.trans (hb.mono h.2.2.size)⟩
theorem one_byte (w : World) (A : Obj) (k : Nat) (hk : k < 256) (K : Int) (hK : K = (k : Int)) : (convert 113 9 (.slice (some ⟨w.heap.size + 1, 0, none⟩) 1 1)).run Tryz.prog ((w.alloc A).alloc (.cells #[.int .u8 K] 5)) = .ok (.string (str [UInt8.ofNat k])) ((w.alloc A).alloc (.cells #[.int .u8 K] 5)) := by
  have h := run_one_byte (w.alloc A) K k hK hk
  rw [show (w.alloc A).heap.size = w.heap.size + 1 by simp] at h
  exact h

set_option maxRecDepth 100000 in
theorem rtxt_one (n : Nat) (hn : n ≤ 18446744073709551615) (s : ByteArray) (o : Option Addr) (m cap : Nat) (w : World) :
    Calls Tryz.prog 67 #[.agg #[.int .i64 1, .int .u64 (n : Int), .string s, .slice o m cap]] w fun e w' => e = .returned (.string (str (1 :: sh n))) ∧ Below w.heap.size w w' := by
  have KS := Lib.hid (fun w => rshort_any n hn w)
  have hsl := sh_ten n hn
  have hadd : ∀ W, (Op.stringOp .add (str [1]) (str (sh n))).run Tryz.prog W = .ok (.string (str (1 :: sh n))) W := fun W => run_add_bytes [1] (sh n) (by simp; omega) W
  have hcv := one_byte w (.cells #[.int .i64 1, .int .u64 (n : Int), .string s, .slice o m cap] 81) 1 (by omega) 1 rfl
  rw [show UInt8.ofNat 1 = 1 from rfl] at hcv
  generalize str (1 :: sh n) = R at *
  generalize str [1] = S1 at *
  generalize str (sh n) = L at *
  clear hn hsl
  have H0 := Lib.hid ((VW.new w (.int .i64 1) (.int .u64 (n : Int)) (.string s) (.slice o m cap) 81).later (alloc_below _ (.cells #[.int .u8 1] 5)))
  go_enter Tryz.func67, Tryz.ntmps67
  go_upto_region 2 with fail
  refine gen_wp (S := fun wz => Hid (VW w (.int .i64 1) (.int .u64 (n : Int)) (.string s) (.slice o m cap) wz)) H0 ?_
  intro W1 H1
  obtain ⟨c0, c1, c2, c3⟩ := H1.out.1
  have HB := Lib.hid H1.out.2.2
  clear H0 H1 hcv
  go_wp2_with (first | (go_at_call 103; go_must (refine (KS.out _).mono ?_); rintro e w2 ⟨rfl, hb2⟩))
  go_ret
  exact ⟨rfl, HB.out.trans (hb2.mono HB.out.size)⟩
end Go.Proofs.YtjfjliobencppaaGreatDoor

namespace Go.Proofs.YtjfjliobencppaaGreatDoor
open Go.RowKit

theorem VW.drew {w wz : World} {a b c d : Value} (h : VW w a b c d wz) : VW w a b c d wz.drew := ⟨h.1, h.2.1, ⟨h.2.2.os, h.2.2.tape, h.2.2.output, h.2.2.size, h.2.2.block⟩⟩
theorem VW.undrew {w wz : World} {a b c d : Value} (h : VW w a b c d wz.drew) : VW w a b c d wz := ⟨h.1, h.2.1, ⟨h.2.2.os, h.2.2.tape, h.2.2.output, h.2.2.size, h.2.2.block⟩⟩

set_option maxRecDepth 100000 in
set_option maxHeartbeats 1000000 in
theorem rtxt_two (n : Int) (s : ByteArray) (hs : s.size ≤ 100000000) (o : Option Addr) (m cap : Nat) (w : World) :
    Calls Tryz.prog 67 #[.agg #[.int .i64 2, .int .u64 n, .string s, .slice o m cap]] w fun e w' => e = .returned (.string (str (2 :: (sh s.size ++ s.data.toList)))) ∧ Below w.heap.size w w' := by
  have KS := Lib.hid (fun w => rshort_any s.size (by omega) w)
  have hsl := sh_ten s.size (by omega)
  have hadd : ∀ W, (Op.stringOp .add (str [2]) (str (sh s.size))).run Tryz.prog W = .ok (.string (str (2 :: sh s.size))) W := fun W => run_add_bytes [2] (sh s.size) (by simp; omega) W
  have hadd2 : ∀ W, (Op.stringOp .add (str (2 :: sh s.size)) s).run Tryz.prog W = .ok (.string (str (2 :: (sh s.size ++ s.data.toList)))) W := fun W => by
    have h := run_add_bytes (2 :: sh s.size) s.data.toList (by simp; omega) W
    rw [str_data] at h
    exact h
  have hcv := one_byte w (.cells #[.int .i64 2, .int .u64 n, .string s, .slice o m cap] 81) 2 (by omega) 2 rfl
  rw [show UInt8.ofNat 2 = 2 from rfl] at hcv
  have hwr : IntKind.u64.wrap (s.size : Int) = (s.size : Int) := IntWalk.u64_in _ (by omega)
  generalize str (2 :: (sh s.size ++ s.data.toList)) = R at *
  generalize str (2 :: sh s.size) = R1 at *
  generalize str [2] = S1 at *
  generalize str (sh s.size) = L at *
  clear hsl
  have H0 := Lib.hid ((VW.new w (.int .i64 2) (.int .u64 n) (.string s) (.slice o m cap) 81).later (alloc_below _ (.cells #[.int .u8 2] 5)))
  go_enter Tryz.func67, Tryz.ntmps67
  go_upto_region 2 with fail
  refine gen_wp (S := fun wz => Hid (VW w (.int .i64 2) (.int .u64 n) (.string s) (.slice o m cap) wz)) H0 ?_
  intro W1 H1
  obtain ⟨c0, c1, c2, c3⟩ := H1.out.1
  clear H0 hcv
  go_upto_region 5 with fail
  clear c0 c1 c2 c3
  have mk : Hid (∀ wz, VW w (.int .i64 2) (.int .u64 n) (.string s) (.slice o m cap) wz → (wz.cell? ⟨w.heap.size, 2, none⟩ = some (.string s) ∧ Hid (VW w (.int .i64 2) (.int .u64 n) (.string s) (.slice o m cap) wz))) := Lib.hid (fun wz h => ⟨h.1.2.2.1, Lib.hid h⟩)
  have hst := Lib.hid H1.out.drew
  go_region_held3 (fun wz => wz.cell? ⟨w.heap.size, 2, none⟩ = some (.string s) ∧ Hid (VW w (.int .i64 2) (.int .u64 n) (.string s) (.slice o m cap) wz))
    (first
      | exact mk.out _ hst.out
      | (refine mk.out _ (VW.later ?_ (by assumption)); go_split_ands; (first | (refine Hid.out ?_; assumption) | (refine VW.undrew (Hid.out ?_); assumption)))
      | (refine mk.out _ (VW.drew ?_); go_split_ands; (first | (refine Hid.out ?_; assumption) | (refine VW.undrew (Hid.out ?_); assumption)))
      | (refine mk.out _ ?_; go_split_ands; (first | (refine Hid.out ?_; assumption) | (refine VW.undrew (Hid.out ?_); assumption))))
    (first
      | (go_at_call 103; ((with_reducible refine (KS.out _).mono ?_); rintro e w1 ⟨rfl, hb1⟩)))
  all_goals
    rename_i hHx
    have hE := Lib.hid hHx.2.out.2.2
    simp only [Exit.then]
    apply_assumption
    go_wp2
    go_ret
    exact ⟨rfl, hE.out⟩

set_option maxRecDepth 100000 in
set_option maxHeartbeats 1000000 in
theorem rtxt_three (n : Int) (s : ByteArray) (l : List Tr) (o : Option Addr) (cap b off : Nat) (hlen : l.length ≤ 1000000) (hz : (txtL l).length ≤ 100000000)
    (ih : ∀ x ∈ l, ∀ (c0 c1 c2 c3 : Value) (w : World), VIn w x c0 c1 c2 c3 → Calls Tryz.prog 67 #[.agg #[c0, c1, c2, c3]] w fun e w' => e = .returned (.string (str (txtT x))) ∧ Below w.heap.size w w')
    (w : World) (ho : 0 < l.length → o = some ⟨b, off, none⟩ ∧ b < w.heap.size) (hl : VInL w b off l) :
    Calls Tryz.prog 67 #[.agg #[.int .i64 3, .int .u64 n, .string s, .slice o l.length cap]] w fun e w' => e = .returned (.string (str (3 :: (sh l.length ++ txtL l)))) ∧ Below w.heap.size w w' := by
  obtain ⟨m, hm⟩ : ∃ m, m = l.length := ⟨_, rfl⟩
  have HDA := Lib.hid (txtP_all l)
  have HLE := Lib.hid (fun j h => txtP_le l j h)
  obtain ⟨D, hD⟩ : ∃ D, D = txtL l := ⟨_, rfl⟩
  rw [← hD] at HDA HLE hz ⊢
  rw [← hm] at hlen ⊢
  have HM := Lib.hid hm
  have HO := Lib.hid ho
  have HL := Lib.hid hl
  have IH := Lib.hid ih
  have KS := Lib.hid (fun w => rshort_any m (by omega) w)
  have hsl := sh_ten m (by omega)
  have hadd : ∀ W, (Op.stringOp .add (str [3]) (str (sh m))).run Tryz.prog W = .ok (.string (str (3 :: sh m))) W := fun W => run_add_bytes [3] (sh m) (by simp; omega) W
  have hcv := one_byte w (.cells #[.int .i64 3, .int .u64 n, .string s, .slice o m cap] 81) 3 (by omega) 3 rfl
  rw [show UInt8.ofNat 3 = 3 from rfl] at hcv
  have hwr : IntKind.u64.wrap (m : Int) = (m : Int) := IntWalk.u64_in _ (by omega)
  obtain ⟨hd, hhd⟩ : ∃ hd, hd = 3 :: sh m := ⟨_, rfl⟩
  have hdl : hd.length ≤ 11 := by rw [hhd]; simp; omega
  have HFIN : Hid (str (3 :: (sh m ++ D)) = str (hd ++ D)) := Lib.hid (by rw [hhd]; rfl)
  rw [← hhd] at hadd
  generalize str [3] = S1 at *
  generalize str (sh m) = L at *
  clear hsl ho hl ih hm hD hhd
  have H0 := Lib.hid ((VW.new w (.int .i64 3) (.int .u64 n) (.string s) (.slice o m cap) 81).later (alloc_below _ (.cells #[.int .u8 3] 5)))
  go_enter Tryz.func67, Tryz.ntmps67
  go_upto_region 2 with fail
  refine gen_wp (S := fun wz => Hid (VW w (.int .i64 3) (.int .u64 n) (.string s) (.slice o m cap) wz)) H0 ?_
  intro W1 H1
  obtain ⟨c0, c1, c2, c3⟩ := H1.out.1
  clear H0 hcv
  go_wp2_with fail
  refine (KS.out _).mono ?_
  rintro r w2 ⟨rfl, hb2⟩
  have H2 := Lib.hid (H1.out.later hb2)
  clear c0 c1 c2 c3 hb2 H1
  obtain ⟨c0, c1, c2, c3⟩ := H2.out.1
  have HB := Lib.hid H2.out.2.2
  clear H2
  have hstart : Hid (hd = hd ++ txtP l 0) := Lib.hid (by rw [txtP_0, List.append_nil])
  go_wp2_with fail
  clear c0 c1 c2 c3
  go_loopw [3, 42] (fun sv iv wr => ∃ j : Nat, j ≤ m ∧ iv = .int .i64 (j : Int) ∧ sv = .string (str (hd ++ txtP l j)) ∧ Hid (Below w.heap.size w wr)) (fun _ iv _ => m - (intOf iv).toNat)
  case atStart => exact ⟨0, Nat.zero_le _, rfl, by rw [← hstart.out], HB⟩
  case round =>
    clear hstart
    obtain ⟨j, hj, rfl, rfl, hB⟩ := hrel
    by_cases hjm : j < m
    · have hjl : j < l.length := by rw [← HM.out]; exact hjm
      obtain ⟨ho', hb'⟩ := HO.out (by omega)
      subst ho'
      obtain ⟨d0, d1, d2, d3, e0, e1, e2, e3, hv⟩ := HL.out.at j hjl
      obtain ⟨k', n', s', o', len', cap', rfl, rfl, rfl, rfl⟩ := hv.cells
      have f0 := (hB.out.cell (p := ⟨b, _, none⟩) hb').trans e0
      have f1 := (hB.out.cell (p := ⟨b, _, none⟩) hb').trans e1
      have f2 := (hB.out.cell (p := ⟨b, _, none⟩) hb').trans e2
      have f3 := (hB.out.cell (p := ⟨b, _, none⟩) hb').trans e3
      have hst := store37 wr k' n' s' o' len' cap'
      have HV := Lib.hid hv
      have hle := HLE.out j hjl
      have hadd2 : ∀ W, (Op.stringOp .add (str (hd ++ txtP l j)) (str (txtT l[j]))).run Tryz.prog W = .ok (.string (str (hd ++ txtP l (j + 1)))) W := fun W => by
        have h := run_add_bytes (hd ++ txtP l j) (txtT l[j]) (by rw [List.length_append]; omega) W
        rw [List.append_assoc, ← txtP_succ l j hjl] at h
        exact h
      have IHJ := Lib.hid (IH.out l[j] (List.getElem_mem hjl))
      obtain ⟨p, hp⟩ : ∃ p, p = str (hd ++ txtP l (j + 1)) := ⟨_, rfl⟩
      rw [← hp] at hadd2
      have HP := Lib.hid hp
      generalize str (hd ++ txtP l j) = a1 at *
      generalize str (txtT l[j]) = a2 at *
      clear e0 e1 e2 e3 hv hp hle
      go_wp2_with fail
      obtain ⟨wa, hwa⟩ : ∃ wa, wa = wr.alloc (.cells #[.int .i64 k', .int .u64 (n' : Int), .string s', .slice o' len' cap'] 81) := ⟨_, rfl⟩
      rw [← hwa]
      have HBA := Lib.hid (hB.out.trans ((show Below wr.heap.size wr wa by rw [hwa]; exact alloc_below _ _).mono hB.out.size))
      clear hwa f0 f1 f2 f3 hst
      refine (IHJ.out _ _ _ _ wa (HV.out.later HBA.out)).mono ?_
      rintro r w5 ⟨rfl, hb5⟩
      have HB5 := Lib.hid (HBA.out.trans (hb5.mono HBA.out.size))
      clear hb5
      go_wp2
      go_roundw
      case rel => exact ⟨j + 1, by omega, by go_num, by rw [← HP.out], HB5⟩
      case measure => simp [intOf]; omega
    · have ejm : j = l.length := by rw [← HM.out]; omega
      have hpd : txtP l j = D := by rw [ejm]; exact HDA.out
      rw [hpd]
      clear hpd ejm
      go_wp2
      go_ret
      exact ⟨by rw [HFIN.out]; rfl, hB.out⟩
theorem rtxt_any : ∀ (t : Tr) (c0 c1 c2 c3 : Value) (w : World), sndT t = true → (txtT t).length ≤ 100000000 → VIn w t c0 c1 c2 c3 → Calls Tryz.prog 67 #[.agg #[c0, c1, c2, c3]] w fun e w' => e = .returned (.string (str (txtT t))) ∧ Below w.heap.size w w' := by
  refine Tr.ind ?_
  intro k n s l ih c0 c1 c2 c3 w hsn hz h
  unfold VIn at h
  obtain ⟨rfl, rfl, hn, rfl, ⟨_, hlen⟩, o, cap, b, off, rfl, ho, hl⟩ := h
  unfold sndT at hsn
  simp only [Bool.and_eq_true, decide_eq_true_eq, sndL_all, List.all_eq_true] at hsn
  obtain ⟨⟨⟨⟨⟨k1, k3⟩, _⟩, _⟩, _⟩, hall⟩ := hsn
  unfold txtT at hz ⊢
  rcases (show k = 1 ∨ k = 2 ∨ k = 3 by omega) with rfl | rfl | rfl
  · exact rtxt_one n hn s o l.length cap w
  · simp only [show ¬ (2 : Int) = 1 by omega, if_false, if_true] at hz ⊢
    exact rtxt_two n s (by simp at hz; omega) o l.length cap w
  · simp only [show ¬ (3 : Int) = 1 by omega, show ¬ (3 : Int) = 2 by omega, if_false] at hz ⊢
    have hz2 : (txtL l).length ≤ 100000000 := by simp at hz; omega
    exact rtxt_three n s l o cap b off hlen hz2 (fun x hx c0 c1 c2 c3 w hv => ih x hx c0 c1 c2 c3 w (hall x hx) (Nat.le_trans (txtL_mem l x hx) hz2) hv) w ho hl
end Go.Proofs.YtjfjliobencppaaGreatDoor

namespace Go.Proofs.YtjfjliobencppaaGreatDoor
open Go.RowKit

/-- What Put answers: the error, the writing. -/
def putC (t : Tr) : Nat := if sndT t = false then 10 else if 6 < deepT t then 8 else if 8192 < (txtT t).length then 5 else 0
def putS (t : Tr) : ByteArray := if putC t = 0 then str (txtT t) else ⟨#[]⟩

set_option maxRecDepth 100000 in
theorem rput_value (t : Tr) (a : Int) (b : Nat) (s : ByteArray) (o : Option Addr) (m cap : Nat) (w : World) (hd : deepT t ≤ 1000000000) (hz : (txtT t).length ≤ 100000000) (hv : VIn w t (.int .i64 a) (.int .u64 (b : Int)) (.string s) (.slice o m cap)) :
    Calls Tryz.prog 27 #[.agg #[.int .i64 a, .int .u64 (b : Int), .string s, .slice o m cap]] w fun e w' => e = .returned (.tuple #[.string (putS t), .int .i64 (putC t : Nat)]) ∧ Below w.heap.size w w' := by
  have H0 := Lib.hid (VW.new w (.int .i64 a) (.int .u64 (b : Int)) (.string s) (.slice o m cap) 81)
  obtain ⟨c0, c1, c2, c3⟩ := H0.out.1
  obtain ⟨w0, hw0⟩ : ∃ w0, w0 = w.alloc (.cells #[.int .i64 a, .int .u64 (b : Int), .string s, .slice o m cap] 81) := ⟨_, rfl⟩
  rw [← hw0] at c0 c1 c2 c3 H0
  have K1 : Hid (∀ wz, Below w.heap.size w wz → Calls Tryz.prog 65 #[.agg #[.int .i64 a, .int .u64 (b : Int), .string s, .slice o m cap]] wz fun e w' => e = .returned (.bool (sndT t)) ∧ Below wz.heap.size wz w') := Lib.hid (fun wz hb => bare_any t _ _ _ _ wz (hv.later hb))
  have K2 : Hid (∀ wz, Below w.heap.size w wz → Calls Tryz.prog 66 #[.agg #[.int .i64 a, .int .u64 (b : Int), .string s, .slice o m cap]] wz fun e w' => e = .returned (.int .i64 (deepT t : Nat)) ∧ Below wz.heap.size wz w') := Lib.hid (fun wz hb => rdeep_any t _ _ _ _ wz hd (hv.later hb))
  have HW := Lib.hid hw0
  clear hw0
  by_cases h1 : sndT t = false
  · have e1 : putC t = 10 := by unfold putC; rw [if_pos h1]
    have e2 : putS t = ⟨#[]⟩ := by unfold putS; rw [if_neg (by omega)]
    rw [e1, e2]
    rw [h1] at K1
    clear e1 e2 K2 h1 c0 c1 c2 c3 hd hz hv
    go_enter Tryz.func27, Tryz.ntmps27
    go_wp2_with fail
    rw [← HW.out]
    refine (K1.out _ H0.out.2.2).mono ?_
    rintro r w1 ⟨rfl, hb1⟩
    have HE := Lib.hid (H0.out.2.2.trans (hb1.mono H0.out.2.2.size))
    clear hb1
    go_wp2
    go_ret2
    exact ⟨rfl, HE.out⟩
  · have h1' : sndT t = true := by simpa using h1
    rw [h1'] at K1
    by_cases h2 : 6 < deepT t
    · have e1 : putC t = 8 := by unfold putC; rw [if_neg h1, if_pos h2]
      have e2 : putS t = ⟨#[]⟩ := by unfold putS; rw [if_neg (by omega)]
      rw [e1, e2]
      have h2' : ((deepT t : Nat) : Int) > 6 := by omega
      generalize deepT t = dd at *
      clear e1 e2 h1 h1' c0 c1 c2 c3 hz hv h2
      go_enter Tryz.func27, Tryz.ntmps27
      go_wp2_with fail
      rw [← HW.out]
      refine (K1.out _ H0.out.2.2).mono ?_
      rintro r w1 ⟨rfl, hb1⟩
      have H1 := Lib.hid (H0.out.later hb1)
      obtain ⟨c0, c1, c2, c3⟩ := H1.out.1
      clear hb1 H0
      go_wp2_with fail
      refine (K2.out _ H1.out.2.2).mono ?_
      rintro r w2 ⟨rfl, hb2⟩
      have HE := Lib.hid (H1.out.2.2.trans (hb2.mono H1.out.2.2.size))
      clear hb2 c0 c1 c2 c3
      go_wp2
      go_ret2
      exact ⟨rfl, HE.out⟩
    · have K3 : Hid (∀ wz, Below w.heap.size w wz → Calls Tryz.prog 67 #[.agg #[.int .i64 a, .int .u64 (b : Int), .string s, .slice o m cap]] wz fun e w' => e = .returned (.string (str (txtT t))) ∧ Below wz.heap.size wz w') := Lib.hid (fun wz hb => rtxt_any t _ _ _ _ wz h1' hz (hv.later hb))
      have hts : (str (txtT t)).size = (txtT t).length := size_str _
      have h2' : ¬ ((deepT t : Nat) : Int) > 6 := by omega
      by_cases h3 : 8192 < (txtT t).length
      · have e1 : putC t = 5 := by unfold putC; rw [if_neg h1, if_neg h2, if_pos h3]
        have e2 : putS t = ⟨#[]⟩ := by unfold putS; rw [if_neg (by omega)]
        rw [e1, e2]
        have h3' : ((str (txtT t)).size : Int) > 8192 := by rw [hts]; omega
        generalize deepT t = dd at *
        generalize str (txtT t) = T at *
        clear e1 e2 h1 h1' c0 c1 c2 c3 hz hv h2 h3 hts
        go_enter Tryz.func27, Tryz.ntmps27
        go_wp2_with fail
        rw [← HW.out]
        refine (K1.out _ H0.out.2.2).mono ?_
        rintro r w1 ⟨rfl, hb1⟩
        have H1 := Lib.hid (H0.out.later hb1)
        obtain ⟨c0, c1, c2, c3⟩ := H1.out.1
        clear hb1 H0
        go_wp2_with fail
        refine (K2.out _ H1.out.2.2).mono ?_
        rintro r w2 ⟨rfl, hb2⟩
        have H2 := Lib.hid (H1.out.later hb2)
        clear hb2 c0 c1 c2 c3 H1
        obtain ⟨c0, c1, c2, c3⟩ := H2.out.1
        go_wp2_with fail
        refine (K3.out _ H2.out.2.2).mono ?_
        rintro r w3 ⟨rfl, hb3⟩
        have HE := Lib.hid (H2.out.2.2.trans (hb3.mono H2.out.2.2.size))
        clear hb3 c0 c1 c2 c3
        go_wp2
        go_ret2
        exact ⟨rfl, HE.out⟩
      · have e1 : putC t = 0 := by unfold putC; rw [if_neg h1, if_neg h2, if_neg h3]
        have e2 : putS t = str (txtT t) := by unfold putS; rw [if_pos e1]
        rw [e1, e2]
        have h3' : ¬ ((str (txtT t)).size : Int) > 8192 := by rw [hts]; omega
        generalize deepT t = dd at *
        generalize str (txtT t) = T at *
        clear e1 e2 h1 h1' c0 c1 c2 c3 hz hv h2 h3 hts
        go_enter Tryz.func27, Tryz.ntmps27
        go_wp2_with fail
        rw [← HW.out]
        refine (K1.out _ H0.out.2.2).mono ?_
        rintro r w1 ⟨rfl, hb1⟩
        have H1 := Lib.hid (H0.out.later hb1)
        obtain ⟨c0, c1, c2, c3⟩ := H1.out.1
        clear hb1 H0
        go_wp2_with fail
        refine (K2.out _ H1.out.2.2).mono ?_
        rintro r w2 ⟨rfl, hb2⟩
        have H2 := Lib.hid (H1.out.later hb2)
        clear hb2 c0 c1 c2 c3 H1
        obtain ⟨c0, c1, c2, c3⟩ := H2.out.1
        go_wp2_with fail
        refine (K3.out _ H2.out.2.2).mono ?_
        rintro r w3 ⟨rfl, hb3⟩
        have HE := Lib.hid (H2.out.2.2.trans (hb3.mono H2.out.2.2.size))
        clear hb3 c0 c1 c2 c3
        go_wp2
        go_ret2
        exact ⟨rfl, HE.out⟩
theorem rput_tree (t : Tr) (c0 c1 c2 c3 : Value) (w : World) (hd : deepT t ≤ 1000000000) (hz : (txtT t).length ≤ 100000000) (hv : VIn w t c0 c1 c2 c3) :
    Calls Tryz.prog 27 #[.agg #[c0, c1, c2, c3]] w fun e w' => e = .returned (.tuple #[.string (putS t), .int .i64 (putC t : Nat)]) ∧ Below w.heap.size w w' := by
  obtain ⟨a, b, s, o, m, cap, rfl, rfl, rfl, rfl⟩ := hv.cells
  exact rput_value t a b s o m cap w hd hz hv
end Go.Proofs.YtjfjliobencppaaGreatDoor

namespace Go.Proofs.YtjfjliobencppaaGreatDoor
open Go.RowKit

/-- Nothing has changed but one box and one row. -/
def Chg (g : Nat) (ρ : Option Nat) (w w' : World) : Prop := w'.os = w.os ∧ w'.tape = w.tape ∧ w'.output = w.output ∧ w.heap.size ≤ w'.heap.size ∧ ∀ k, k < w.heap.size → k ≠ g → ρ ≠ some k → w'.heap[k]? = w.heap[k]?
/-- A row is the old one, or a new one. -/
def Nxt (ρ ρ' : Option Nat) (w : World) : Prop := ρ' = ρ ∨ ∃ k, ρ' = some k ∧ w.heap.size ≤ k
theorem Chg.refl (g : Nat) (ρ : Option Nat) (w : World) : Chg g ρ w w := ⟨rfl, rfl, rfl, Nat.le_refl _, fun _ _ _ _ => rfl⟩
theorem Chg.trans {g : Nat} {ρ ρ1 : Option Nat} {w w1 w2 : World} (h : Chg g ρ w w1) (hn : Nxt ρ ρ1 w) (h2 : Chg g ρ1 w1 w2) : Chg g ρ w w2 := by
  obtain ⟨a1, a2, a3, a4, a5⟩ := h
  obtain ⟨b1, b2, b3, b4, b5⟩ := h2
  refine ⟨b1.trans a1, b2.trans a2, b3.trans a3, Nat.le_trans a4 b4, fun k hk hg hr => (b5 k (by omega) hg ?_).trans (a5 k hk hg hr)⟩
  rcases hn with rfl | ⟨q, rfl, hq⟩
  · exact hr
  · intro e
    cases e
    omega
theorem Nxt.trans {ρ ρ1 ρ2 : Option Nat} {w w1 : World} (h : Nxt ρ ρ1 w) (hs : w.heap.size ≤ w1.heap.size) (h2 : Nxt ρ1 ρ2 w1) : Nxt ρ ρ2 w := by
  rcases h2 with rfl | ⟨k, rfl, hk⟩
  · exact h
  · exact Or.inr ⟨k, rfl, Nat.le_trans hs hk⟩
theorem Chg.of_below {g : Nat} {ρ : Option Nat} {w w' : World} (h : Below w.heap.size w w') : Chg g ρ w w' := ⟨h.os, h.tape, h.output, h.size, fun k hk _ _ => h.block k hk⟩
theorem Chg.below {g B : Nat} {ρ : Option Nat} {w w' : World} (h : Chg g ρ w w') (hg : B ≤ g) (hr : ∀ k, ρ = some k → B ≤ k) (hs : B ≤ w.heap.size) : Below B w w' :=
  ⟨h.1, h.2.1, h.2.2.1, h.2.2.2.1, fun k hk => h.2.2.2.2 k (by omega) (by omega) (fun e => by have := hr k e; omega)⟩

/-- A row of bytes. -/
def Row (ρ : Option Nat) (o : Option Addr) (cap : Nat) (L : List UInt8) (w : World) : Prop :=
  (o = none ∧ cap = 0 ∧ ρ = none ∧ L = []) ∨ ∃ (r : Nat) (cur : Array Value), ρ = some r ∧ o = some ⟨r, 0, none⟩ ∧ L ≠ [] ∧ w.heap[r]? = some (.cells cur 5 (0, 0)) ∧ L.length ≤ cap ∧ cap ≤ maxLen ∧ cur.size = cap ∧ cur.toList.take L.length = bcells L
theorem bcells_len (l : List UInt8) : (bcells l).length = l.length := by simp [bcells]
theorem bcells_app (a b : List UInt8) : bcells (a ++ b) = bcells a ++ bcells b := by simp [bcells]
theorem info5 : (Tryz.prog.info? 5).map (fun i => (i.zero, i.size, i.bytes)) = some (some (.int .u8 0), 1, 1) := by kernel_rfl

theorem grown_row (w : World) (L : List UInt8) (s : ByteArray) (old : Nat) (hne : L ++ s.data.toList ≠ []) (hl : L.length + s.size ≤ 100000) :
    Row (some w.heap.size) (some ⟨w.heap.size, 0, none⟩) (grownCap w (L.length + s.size) old 5) (L ++ s.data.toList) (w.drew.alloc (.cells ((bcells L).toArray ++ (Lib.strCells s).toArray ++ Builtin.zeroCells (Value.int .u8 0).cells (grownCap w (L.length + s.size) old 5 - (L.length + s.size))) 5)) := by
  have hsl : s.data.toList.length = s.size := by simp
  have hge := grownCap_ge w (L.length + s.size) old 5
  have hcm : grownCap w (L.length + s.size) old 5 ≤ maxLen := grownCap_le_maxLen w (L.length + s.size) old 5 (by unfold maxLen; omega)
  refine Or.inr ⟨w.heap.size, _, rfl, rfl, hne, heap_alloc_new w.drew _, by rw [List.length_append, hsl]; exact hge, hcm, ?_, ?_⟩
  · have hz1 : (Value.int IntKind.u8 0).cells.size = 1 := rfl
    simp only [Array.size_append, List.size_toArray, size_zeroCells, hz1, bcells_len, Lib.strCells_length]
    omega
  · have e : bcells (L ++ s.data.toList) = bcells L ++ Lib.strCells s := bcells_app _ _
    rw [e]
    have hlen : (L ++ s.data.toList).length = (bcells L ++ Lib.strCells s).length := by rw [List.length_append, List.length_append, bcells_len, Lib.strCells_length, hsl]
    simp only [Array.toList_append, List.append_assoc]
    rw [← List.append_assoc, hlen]
    exact List.take_left
theorem grown_chg (g : Nat) (ρ : Option Nat) (w : World) (o : Obj) : Chg g ρ w (w.drew.alloc o) := ⟨rfl, rfl, rfl, by simp, fun k hk _ _ => heap_alloc_old w.drew _ hk⟩

theorem plain_add (g j : Nat) : (⟨g, 0, none⟩ : Addr).add j = ⟨g, j, none⟩ := by simp [Addr.add]; intro e; exact e.symm
set_option maxRecDepth 100000 in
theorem row_append (g : Nat) (w : World) (ρ : Option Nat) (o : Option Addr) (cap : Nat) (L : List UInt8) (hR : Row ρ o cap L w) (s : ByteArray) (hl : L.length + s.size ≤ 100000) (ty : TypeId) :
    ∃ o' cap' w' ρ', (Builtin.append_ #[113, 9] ty #[.slice o L.length cap, .string s]).run Tryz.prog w = .ok (.slice o' (L ++ s.data.toList).length cap') w' ∧ Row ρ' o' cap' (L ++ s.data.toList) w' ∧ Nxt ρ ρ' w ∧ Chg g ρ w w' ∧ (∀ k, w.heap.size ≤ k → k < w'.heap.size → ρ' = some k) := by
  obtain ⟨i, hi, hz, hsz, hby⟩ := info_parts info5
  have hsl : s.data.toList.length = s.size := by simp
  rcases hR with ⟨rfl, rfl, rfl, rfl⟩ | ⟨r, cur, rfl, rfl, hne, hg, hlc, hcm, hcs, htk⟩
  · by_cases hm : s.size = 0
    · have hsn : s.data.toList = [] := List.eq_nil_of_length_eq_zero (by rw [hsl]; exact hm)
      refine ⟨none, 0, w, none, ?_, Or.inl ⟨rfl, rfl, rfl, by rw [hsn]; rfl⟩, Or.inl rfl, Chg.refl _ _ _, fun k h1 h2 => absurd h1 (by omega)⟩
      have hf := Lib.run_firstCells_string (P := Tryz.prog) w 1 s
      rw [hm] at hf
      have hn : Lib.strCells s = [] := List.eq_nil_of_length_eq_zero (by rw [Lib.strCells_length]; exact hm)
      simp [Builtin.append_, run_underlying Tryz.underlying113, run_underlying Tryz.underlying9, sizeOf, typeInfo, hi, hsz, Builtin.lenOf, hm, hf, hsn, hn]
    · have hr := run_append_nil_string (P := Tryz.prog) w 113 9 ty 5 i (.int .u8 0) Tryz.underlying113 Tryz.underlying9 hi hz s (by omega) (by omega) (by rw [hby]; omega)
      have hgr := grown_row w [] s 0 (by intro e; apply hm; rw [← hsl]; simpa using congrArg List.length e) (by simpa using hl)
      have e1 : (s.data.map fun b => Value.int .u8 b.toNat) = (Lib.strCells s).toArray := by
        apply Array.ext'
        simp [Lib.strCells]
      rw [e1] at hr
      simp only [List.length_nil, Nat.zero_add, List.nil_append, show bcells [] = [] from rfl, Array.empty_append] at hgr ⊢
      refine ⟨_, _, _, some w.heap.size, ?_, hgr, Or.inr ⟨_, rfl, Nat.le_refl _⟩, grown_chg _ _ _ _, fun k h1 h2 => ?_⟩
      · rw [hsl]; exact hr
      · simp at h2; congr 1; omega
  · by_cases hroom : L.length + s.size ≤ cap
    · have hr := Lib.run_append_room_string (P := Tryz.prog) w 113 9 ty 5 i Tryz.underlying113 Tryz.underlying9 hi hsz r L.length cap cur hg s hroom (by omega)
      refine ⟨_, _, _, some r, by rw [List.length_append, hsl]; exact hr, Or.inr ⟨r, _, rfl, rfl, by simp [hne], setRow_heap w r cur _ 5 _ hg, by rw [List.length_append, hsl]; exact hroom, hcm, ?_, ?_⟩, Or.inl rfl, ⟨rfl, rfl, rfl, by simp, fun k _ _ hk => setRow_other w r k _ (fun e => hk (by rw [e]))⟩, fun k h1 h2 => by rw [size_setRow] at h2; omega⟩
      · simp only [List.size_toArray, List.length_append, List.length_take, List.length_drop, Array.length_toList, Lib.strCells_length]
        omega
      · have e : bcells (L ++ s.data.toList) = bcells L ++ Lib.strCells s := bcells_app _ _
        have hlen : (L ++ s.data.toList).length = (bcells L ++ Lib.strCells s).length := by rw [List.length_append, List.length_append, bcells_len, Lib.strCells_length, hsl]
        rw [e, htk, hlen]
        exact List.take_left
    · have holds : ∀ j u, (bcells L)[j]? = some u → w.cell? ((⟨r, 0, none⟩ : Addr).add j) = some u := by
        intro j u hj
        have hjl : j < L.length := by rw [← bcells_len]; exact (List.getElem?_eq_some_iff.1 hj).1
        rw [plain_add, cell_of_row w r j _ _ _ hg, ← Array.getElem?_toList]
        have := congrArg (fun l => l[j]?) htk
        simp only [List.getElem?_take, hjl, if_true] at this
        rw [this]; exact hj
      have hr := Lib.run_append_grow_string (P := Tryz.prog) w 113 9 ty 5 i (.int .u8 0) Tryz.underlying113 Tryz.underlying9 hi hz ⟨r, 0, none⟩ L.length cap (bcells L) (by rw [hsz, bcells_len]; omega) holds s (by omega) (by omega) (by rw [hby]; exact growslice_fits (by omega) (by omega))
      have hgr := grown_row w L s cap (by simp [hne]) hl
      refine ⟨_, _, _, some w.heap.size, by rw [List.length_append, hsl]; exact hr, hgr, Or.inr ⟨_, rfl, Nat.le_refl _⟩, grown_chg _ _ _ _, fun k h1 h2 => ?_⟩
      simp at h2; congr 1; omega
end Go.Proofs.YtjfjliobencppaaGreatDoor
