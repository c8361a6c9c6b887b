/- Walk of the document's Pad. -/
import Derived.Test.YtfakkbjnapelfaaDT
namespace Go.Proofs.Ytfakkbjnapelfaa.Dg
open Go.RowKit

theorem MR.form {B : Nat} {v : Value} {l : List UInt8} {w : World} (h : MR B v l w) : ∃ g cap, v = .slice (some ⟨g, 0, none⟩) l.length cap := by
  obtain ⟨g, cap, cs, T, lo, hi, h1, h2⟩ := h
  exact ⟨g, cap, h1⟩
theorem mr_string {B : Nat} {v : Value} {l : List UInt8} {w : World} (h : MR B v l w) : (convert 46 9 v).run Try.prog w = .ok (.string (W.str l)) w := by
  obtain ⟨g, cap, cs, T, lo, hi, rfl, hBg, hlc, hg, hcs, hfr, hcell⟩ := h
  exact run_convert_bytes_back (P := Try.prog) w 46 9 5 ⟨g, 0, none⟩ cap l Try.underlying46 Try.underlying5 Try.underlying9 (fun j hj => by
    rw [show (⟨g, 0, none⟩ : Addr).add j = ⟨g, j, none⟩ by unfold Addr.add; split <;> simp_all, cell_of_row w g j cs T _ hg]
    exact hcell j hj)
/-- A byte laid, then appended. -/
theorem mr_next {B : Nat} {v : Value} {l : List UInt8} {w : World} (h : MR B v l w) (c : UInt8) (ci : Int) (hc : ci = (c.toNat : Int)) (hl : l.length ≤ 10000) (hB : B ≤ w.heap.size) (ty : TypeId) :
    ∃ v' w', (Builtin.append_ #[46, 46] ty #[v, .slice (some ⟨w.heap.size, 0, none⟩) 1 1]).run Try.prog (w.alloc (.cells #[.int .u8 ci] 5)) = .ok v' w' ∧ MR B v' (l ++ [c]) w' ∧ Below B w w' := by
  subst hc
  have st := (Below.refl w.heap.size w).alloc (Nat.le_refl _) (.cells #[.int .u8 (c.toNat : Int)] 5)
  obtain ⟨v', w', h1, h2, h3⟩ := mr_append (h.later st) c w.heap.size (by rw [cell_of_row _ _ 0 _ _ _ (heap_alloc_new w _)]; rfl) hl (by simp; omega) ty
  exact ⟨v', w', h1, h2, (st.mono hB).trans h3⟩

theorem wpList_mr_next {ops : Array Oper} {rest : List Oper} {o : Oper} {a : Act} {Q : Exit → Act → World → Prop} (hgd : o.guard = none) (s x : Operand) (ho : o.op = .call { callee := .builtin .append, args := #[s, x], argTypes := #[46, 46] })
    {B : Nat} {v : Value} {l : List UInt8} {w : World} (hs : a.eval s = v) (hM : MR B v l w) (c : UInt8) (ci : Int) (hc : ci = (c.toNat : Int)) (hx : a.eval x = .slice (some ⟨w.heap.size, 0, none⟩) 1 1) (hl : l.length ≤ 10000) (hB : B ≤ w.heap.size)
    (h : ∀ v' w', MR B v' (l ++ [c]) w' → Below B w w' → wpList Try.prog ops Q rest (a.put o.dst v') w') : wpList Try.prog ops Q (o :: rest) a (w.alloc (.cells #[.int .u8 ci] 5)) := by
  refine wpList_plain hgd fun K hK => ?_
  obtain ⟨v', w', hr, h2, h3⟩ := mr_next hM c ci hc hl hB o.type
  unfold Oper.wp execOp
  simp only [ho, resolve, invoke, builtin, Sem.run_bind, Sem.run_pure, Result.andThen_ok, List.map_toArray, List.map_cons, List.map_nil, hs, hx, hr]
  exact hK _ _ (h v' w' h2 h3)

set_option maxRecDepth 1000000 in
set_option maxHeartbeats 2000000 in
theorem pad_any (l : List UInt8) (hl : l.length ≤ 2000) (w : World) : Calls Try.prog 26 #[.string (W.str l)] w fun e w' => e = .returned (.string (W.str (wholeL l))) ∧ Below w.heap.size w w' := by
  obtain ⟨n, hn⟩ : ∃ n, l.length = n := ⟨_, rfl⟩
  obtain ⟨m, hm⟩ : ∃ m, 8 * n = m := ⟨_, rfl⟩
  have hW : wholeL l = (l ++ [128]) ++ List.replicate (nts n) 0 ++ W.be m 8 := by unfold wholeL; rw [hn, hm]
  obtain ⟨v0, w0, hr0, hM0, hB0⟩ := mr_start (W.str l) w
  replace hM0 : MR w.heap.size v0 l w0 := hM0
  have HM0 := Lib.hid hM0
  have HB0 := Lib.hid hB0
  have hsz : (W.str l).size = n := by rw [W.size_str]; exact hn
  have e1 : (n : Int) * 8 = (m : Int) := by omega
  have e2 : IntKind.u64.wrap (m : Int) = (m : Int) := IntWalk.u64_in _ ⟨by omega, by omega⟩
  have e3 : IntKind.u64.wrap (n : Int) = (n : Int) := IntWalk.u64_in _ ⟨by omega, by omega⟩
  have hm2 : m ≤ 18446744073709551615 := by omega
  have HW := Lib.hid hW
  have HM := Lib.hid hm2
  have HL := Lib.hid (show n ≤ 2000 by omega)
  have HN := Lib.hid hn
  clear hW hm hm2 hM0 hB0 hl hn
  generalize W.str l = s at *
  go_enter Try.func26, Try.ntmps26
  go_wp2_with (first | (refine wpList_mr_next rfl (.tmp 11) (.tmp 12) rfl rfl HM0.out 128 128 rfl rfl (by rw [HN.out]; have := HL.out; omega) HB0.out.size ?_; intro v1 w1 hM1 hB1))
  have HM1 : Hid (MR w.heap.size v1 ((l ++ [128]) ++ List.replicate 0 0) w1) := Lib.hid (by simpa using hM1)
  have HB1 := Lib.hid (HB0.out.trans hB1)
  clear hM1 hB1 hr0 HM0 HB0
  go_loopw [4] (fun v wr => ∃ z : Nat, z ≤ nts n ∧ Hid (MR w.heap.size v ((l ++ [128]) ++ List.replicate z 0) wr) ∧ Hid (Below w.heap.size w wr)) (fun v _ => 100 - (match v with | .slice _ k _ => k - n | _ => 0))
  case atStart => exact ⟨0, by omega, HM1, HB1⟩
  case round =>
    obtain ⟨z, hz, hM, hB⟩ := hrel
    obtain ⟨g, cap, hv⟩ := hM.out.form
    have hlen : ((l ++ [128]) ++ List.replicate z 0).length = n + 1 + z := by simp [HN.out]; omega
    obtain ⟨k, hk⟩ : ∃ k, n + 1 + z = k := ⟨_, rfl⟩
    rw [hk] at hlen
    rw [hlen] at hv
    subst hv
    obtain ⟨r, hr⟩ : ∃ r, k % 64 = r := ⟨_, rfl⟩
    have er : (k : Int) % 64 = (r : Int) := by omega
    have hLL := HL.out
    have k2 : (k : Int) ≤ 3000 := by unfold nts at hz; omega
    have k0 : (0 : Int) ≤ k := by omega
    have hr64 : r < 64 := by omega
    have HLEN := Lib.hid hlen
    have HK := Lib.hid hk
    have HB1s := Lib.hid hB.out.size
    by_cases hzz : z < nts n
    · have hne : ((r : Int) == 56) = false := by rw [beq_eq_false_iff_ne]; unfold nts at hzz; omega
      have hz' : z + 1 ≤ nts n := hzz
      have hkn : 100 - (k + 1 - n) < 100 - (k - n) := by unfold nts at hzz; omega
      have HMS := Lib.hid (show k ≤ 10000 by omega)
      clear hlen hk hr hz hzz hr64 hLL
      go_wp2_with (first | (refine wpList_mr_next rfl (.tmp 18) (.tmp 19) rfl rfl hM.out 0 0 rfl rfl (by rw [HLEN.out]; exact HMS.out) HB1s.out ?_; intro v2 w2 hM2 hB2))
      obtain ⟨g2, cap2, hv2⟩ := hM2.form
      rw [List.length_append, HLEN.out] at hv2
      have hM3 : Hid (MR w.heap.size v2 ((l ++ [128]) ++ List.replicate (z + 1) 0) w2) := Lib.hid (by rw [List.append_assoc] at hM2; rw [List.replicate_succ']; exact hM2)
      have hB3 := Lib.hid (hB.out.trans hB2)
      clear hM2 hB2
      subst hv2
      exact ⟨⟨z + 1, hz', hM3, hB3⟩, hkn⟩
    · have hzn : z = nts n := by omega
      have he : ((r : Int) == 56) = true := by rw [beq_iff_eq]; unfold nts at hzn; omega
      rw [hzn] at hM
      have HP : Hid ((wholeL l = ((l ++ [128]) ++ List.replicate (nts n) 0) ++ W.be m 8) ∧ ((l ++ [128]) ++ List.replicate (nts n) 0).length ≤ 3000) := Lib.hid ⟨HW.out, by rw [← hzn, hlen]; omega⟩
      clear hlen hk hr hz hzz hr64 hLL hzn
      generalize (l ++ [128]) ++ List.replicate (nts n) 0 = P at *
      have HM8 : Hid (MR w.heap.size (.slice (some ⟨g, 0, none⟩) k cap) (P ++ []) wr) := Lib.hid (by rw [List.append_nil]; exact hM.out)
      go_wp2
      have hnb : ((r : Int) != 56) = false := by unfold bne; rw [he]; rfl
      rw [er, hnb]
      go_loopw [4, 5] (fun v i wr => ∃ (j : Nat) (X : List UInt8), j ≤ 8 ∧ i = .int .i64 ((j : Int) - 1) ∧ Hid (X ++ W.be m j = W.be m 8) ∧ Hid (MR w.heap.size v (P ++ X) wr) ∧ Hid (Below w.heap.size w wr)) (fun _ i _ => (intOf i + 1).toNat)
      case atStart => exact ⟨8, [], by omega, rfl, Lib.hid rfl, HM8, hB⟩
      case round =>
        obtain ⟨j, X, hj, rfl, hX, hM, hB⟩ := hrel
        match j, hj, hX with
        | 0, _, hX =>
          have hXe : P ++ X = wholeL l := by rw [HP.out.1]; have := hX.out; unfold W.be at this; rw [List.append_nil] at this; rw [this]; rfl
          rw [hXe] at hM
          have hcv := mr_string hM.out
          have HBE := hB.out
          rw [show ((0 : Nat) : Int) - 1 = -1 by rfl]
          go_wp2
          go_ret
          exact ⟨rfl, HBE⟩
        | j + 1, hj, hX =>
          have hb := W.byte_at m j
          have hXl : X.length + (j + 1) = 8 := by have := congrArg List.length hX.out; simpa [W.be_length] using this
          have hlen : (P ++ X).length ≤ 10000 := by rw [List.length_append]; have := HP.out.2; omega
          have hX2 : Hid ((X ++ [UInt8.ofNat (m / 256 ^ j)]) ++ W.be m j = W.be m 8) := Lib.hid (by rw [List.append_assoc]; exact hX.out)
          have HLEN2 := Lib.hid hlen
          have hj8 : (j : Int) < 8 := by omega
          have hj0 : (0 : Int) ≤ j := by omega
          have HBS := Lib.hid hB.out.size
          have hmle : m ≤ 18446744073709551615 := HM.out
          have HJ := Lib.hid (show j ≤ 8 by omega)
          have HBY := Lib.hid hb
          clear hXl hlen hX hj hb
          rw [show ((j + 1 : Nat) : Int) - 1 = (j : Int) by omega]
          go_wp2_with (first | (refine wpList_mr_next rfl (.tmp 25) (.tmp 31) rfl rfl hM.out (UInt8.ofNat (m / 256 ^ j)) _ HBY.out rfl HLEN2.out HBS.out ?_; intro v2 w2 hM2 hB2))
          have hM3 : Hid (MR w.heap.size v2 (P ++ (X ++ [UInt8.ofNat (m / 256 ^ j)])) w2) := Lib.hid (by rw [← List.append_assoc]; exact hM2)
          have hB3 := Lib.hid (hB.out.trans hB2)
          clear hM2 hB2
          go_roundw
          case rel => exact ⟨j, X ++ [UInt8.ofNat (m / 256 ^ j)], HJ.out, rfl, hX2, hM3, hB3⟩
          case measure => simp [intOf]
end Go.Proofs.Ytfakkbjnapelfaa.Dg
