/- Walk of the document's Pad.; Walk of DigestWhole.; The document's sum: what its walk holds of the world; plain facts. -/
import Derived.Test.YtjkpopdjmmgbbaaGreatM08
import Derived.Test.YtjkpopdjmmgbbaaGreatM07
import Derived.Laws.MakeOwn
set_option linter.unusedVariables false
set_option linter.unusedSimpArgs false
namespace Go.Proofs.YtjkpopdjmmgbbaaGreat.Dg
open Go.RowKit

theorem MR.form {B : Nat} {v : Value} {l : List UInt8} {w : World} (h : MR B v l w) : ∃ g cap, v = .slice (some ⟨g, 0, none⟩) l.length cap := by
  obtain ⟨g, cap, cs, T, lo, hi, h1, h2⟩ := h
  exact ⟨g, cap, h1⟩
theorem mr_string {B : Nat} {v : Value} {l : List UInt8} {w : World} (h : MR B v l w) : (convert 68 9 v).run Tryz.prog w = .ok (.string (W.str l)) w := by
  obtain ⟨g, cap, cs, T, lo, hi, rfl, hBg, hlc, hg, hcs, hfr, hcell⟩ := h
  exact run_convert_bytes_back (P := Tryz.prog) w 68 9 5 ⟨g, 0, none⟩ cap l Tryz.underlying68 Tryz.underlying5 Tryz.underlying9 (fun j hj => by
    rw [show (⟨g, 0, none⟩ : Addr).add j = ⟨g, j, none⟩ by unfold Addr.add; split <;> simp_all, cell_of_row w g j cs T _ hg]
    exact hcell j hj)
theorem mr_append6 {B : Nat} {v : Value} {l : List UInt8} {w : World} (h : MR B v l w) (c : UInt8) (b : Nat) (hb : w.cell? ⟨b, 0, none⟩ = some (.int .u8 (c.toNat : Int))) (hl : l.length ≤ 1000000) (hB : B ≤ w.heap.size) (ty : TypeId) :
    ∃ v' w', (Builtin.append_ #[68, 68] ty #[v, .slice (some ⟨b, 0, none⟩) 1 1]).run Tryz.prog w = .ok v' w' ∧ MR B v' (l ++ [c]) w' ∧ Below B w w' := by
  obtain ⟨g, cap, cs, T, lo, hi, rfl, hBg, hlc, hg, hcs, hfr, hcell⟩ := h
  obtain ⟨i0, hi0, hz0, hz1, hz2⟩ := info_parts W.Tryz.info5
  have hnews : ∀ j u, [Value.int .u8 (c.toNat : Int)][j]? = some u → w.cell? ((⟨b, 0, none⟩ : Addr).add j) = some u := by
    intro j u hj
    match j, hj with
    | 0, hj => simp at hj; subst hj; exact hb
  by_cases hroom : l.length + 1 ≤ cap
  · have hf := run_firstCells_some (P := Tryz.prog) w 1 1 ⟨b, 0, none⟩ 1 1 [.int .u8 (c.toNat : Int)] rfl hnews
    have hfz : w.frozen? ⟨g, l.length, none⟩ = false := by
      simp only [World.frozen?, hg]
      rcases hfr with h0 | h0
      · subst h0; simp
      · simp; omega
    have hcl : w.cell? ⟨g, l.length, none⟩ = some cs[l.length] := by rw [cell_of_row w g _ cs T _ hg, Array.getElem?_eq_getElem (by omega)]
    have hst : (store ⟨g, l.length, none⟩ (.int .u8 (c.toNat : Int))).run Tryz.prog w = .ok () (w.setCell ⟨g, l.length, none⟩ (.int .u8 (c.toNat : Int))) := by
      rw [run_store Tryz.prog w _ _ _ rfl]
      simp [hcl, hfz]
    refine ⟨.slice (some ⟨g, 0, none⟩) (l.length + 1) cap, w.setCell ⟨g, l.length, none⟩ (.int .u8 (c.toNat : Int)), ?_, ?_, (Below.refl _ _).setCell hBg _⟩
    · simp [Builtin.append_, run_underlying Tryz.underlying68, sizeOf, typeInfo, hi0, hz1, Builtin.lenOf, hroom, hf, Addr.add_lit, storeCells, hst]
    · refine ⟨g, cap, cs.setIfInBounds l.length (.int .u8 (c.toNat : Int)), T, lo, hi, by simp, hBg, by simp; omega, Go.Lib.heap_setCell_same hg _, by simpa using hcs, hfr, ?_⟩
      intro j hj
      have hj2 : j < l.length + 1 := by simpa using hj
      by_cases hjl : j < l.length
      · rw [Array.getElem?_setIfInBounds_ne (by omega), hcell j hjl, List.getElem_append_left hjl]
      · have : j = l.length := by omega
        subst this
        rw [Array.getElem?_setIfInBounds_self_of_lt (by omega)]
        simp
  · have hg2 := run_append_grow (P := Tryz.prog) w 68 ty 5 i0 (.int .u8 0) Tryz.underlying68 hi0 hz0 ⟨g, 0, none⟩ l.length cap (W.bcells l) (by rw [hz1]; simp [W.bcells]) (by
      intro j u hj
      have hj2 : j < l.length := by
        have := List.getElem?_eq_some_iff.1 hj
        obtain ⟨hq, _⟩ := this
        simpa [W.bcells] using hq
      rw [show (⟨g, 0, none⟩ : Addr).add j = ⟨g, j, none⟩ by unfold Addr.add; split <;> simp_all, cell_of_row w g j cs T _ hg, hcell j hj2]
      simpa [W.bcells, hj2] using hj) ⟨b, 0, none⟩ 1 1 [.int .u8 (c.toNat : Int)] (by rw [hz1]; rfl) hnews (by omega) (by omega) (growslice_fits (by omega) (by rw [hz2]; omega))
    have hge := grownCap_ge w (l.length + 1) cap 5
    generalize grownCap w (l.length + 1) cap 5 = cap2 at *
    have hsz : ((W.bcells l).toArray ++ [Value.int .u8 (c.toNat : Int)].toArray ++ Builtin.zeroCells (Value.int .u8 0).cells (cap2 - (l.length + 1))).size = cap2 := by
      rw [Array.size_append, Array.size_append, size_zeroCells]
      simp [W.bcells, Value.cells]
      omega
    refine ⟨_, _, hg2, ⟨w.heap.size, cap2, _, 5, 0, 0, by simp, hB, by simp; omega, heap_alloc_new w.drew _, by omega, Or.inl rfl, ?_⟩, ((Below.refl B w).drew).alloc hB _⟩
    intro j hj
    have hj2 : j < l.length + 1 := by simpa using hj
    rw [Array.getElem?_append_left (by simp [W.bcells]; omega)]
    simp only [List.append_toArray, List.getElem?_toArray]
    rw [show W.bcells l ++ [Value.int .u8 (c.toNat : Int)] = W.bcells (l ++ [c]) by simp [W.bcells]]
    rw [show (W.bcells (l ++ [c]))[j]? = some (.int .u8 ((l ++ [c])[j].toNat : Int)) by
      unfold W.bcells
      rw [List.getElem?_map, List.getElem?_eq_getElem hj]; rfl]
/-- A byte laid, then appended. -/
theorem mr_next {B : Nat} {v : Value} {l : List UInt8} {w : World} (h : MR B v l w) (c : UInt8) (ci : Int) (hc : ci = (c.toNat : Int)) (hl : l.length ≤ 1000000) (hB : B ≤ w.heap.size) (ty : TypeId) :
    ∃ v' w', (Builtin.append_ #[68, 68] ty #[v, .slice (some ⟨w.heap.size, 0, none⟩) 1 1]).run Tryz.prog (w.alloc (.cells #[.int .u8 ci] 5)) = .ok v' w' ∧ MR B v' (l ++ [c]) w' ∧ Below B w w' := by
  subst hc
  have st := (Below.refl w.heap.size w).alloc (Nat.le_refl _) (.cells #[.int .u8 (c.toNat : Int)] 5)
  obtain ⟨v', w', h1, h2, h3⟩ := mr_append6 (h.later st) c w.heap.size (by rw [cell_of_row _ _ 0 _ _ _ (heap_alloc_new w _)]; rfl) hl (by simp; omega) ty
  exact ⟨v', w', h1, h2, (st.mono hB).trans h3⟩

theorem wpList_mr_next {ops : Array Oper} {rest : List Oper} {o : Oper} {a : Act} {Q : Exit → Act → World → Prop} (hgd : o.guard = none) (s x : Operand) (ho : o.op = .call { callee := .builtin .append, args := #[s, x], argTypes := #[68, 68] })
    {B : Nat} {v : Value} {l : List UInt8} {w : World} (hs : a.eval s = v) (hM : MR B v l w) (c : UInt8) (ci : Int) (hc : ci = (c.toNat : Int)) (hx : a.eval x = .slice (some ⟨w.heap.size, 0, none⟩) 1 1) (hl : l.length ≤ 1000000) (hB : B ≤ w.heap.size)
    (h : ∀ v' w', MR B v' (l ++ [c]) w' → Below B w w' → wpList Tryz.prog ops Q rest (a.put o.dst v') w') : wpList Tryz.prog ops Q (o :: rest) a (w.alloc (.cells #[.int .u8 ci] 5)) := by
  refine wpList_plain hgd fun K hK => ?_
  obtain ⟨v', w', hr, h2, h3⟩ := mr_next hM c ci hc hl hB o.type
  unfold Oper.wp execOp
  simp only [ho, resolve, invoke, builtin, Sem.run_bind, Sem.run_pure, Result.andThen_ok, List.map_toArray, List.map_cons, List.map_nil, hs, hx, hr]
  exact hK _ _ (h v' w' h2 h3)

set_option maxRecDepth 1000000 in
set_option maxHeartbeats 2000000 in
theorem pad_any (l : List UInt8) (hl : l.length ≤ 200000) (w : World) : Calls Tryz.prog 62 #[.string (W.str l)] w fun e w' => e = .returned (.string (W.str (wholeL l))) ∧ Below w.heap.size w w' := by
  obtain ⟨n, hn⟩ : ∃ n, l.length = n := ⟨_, rfl⟩
  obtain ⟨m, hm⟩ : ∃ m, 8 * n = m := ⟨_, rfl⟩
  have hW : wholeL l = (l ++ [128]) ++ List.replicate (nts n) 0 ++ W.be m 8 := by unfold wholeL; rw [hn, hm]
  obtain ⟨v0, w0, hr0, hM0, hB0⟩ := mr_start (W.str l) w
  replace hM0 : MR w.heap.size v0 l w0 := hM0
  have HM0 := Lib.hid hM0
  have HB0 := Lib.hid hB0
  have hsz : (W.str l).size = n := by rw [W.size_str]; exact hn
  have e1 : (n : Int) * 8 = (m : Int) := by omega
  have e2 : IntKind.u64.wrap (m : Int) = (m : Int) := IntWalk.u64_in _ ⟨by omega, by omega⟩
  have e3 : IntKind.u64.wrap (n : Int) = (n : Int) := IntWalk.u64_in _ ⟨by omega, by omega⟩
  have hm2 : m ≤ 18446744073709551615 := by omega
  have HW := Lib.hid hW
  have HM := Lib.hid hm2
  have HL := Lib.hid (show n ≤ 200000 by omega)
  have HN := Lib.hid hn
  clear hW hm hm2 hM0 hB0 hl hn
  generalize W.str l = s at *
  go_enter Tryz.func62, Tryz.ntmps62
  go_wp2_with (first | (refine wpList_mr_next rfl (.tmp 11) (.tmp 12) rfl rfl HM0.out 128 128 rfl rfl (by rw [HN.out]; have := HL.out; omega) HB0.out.size ?_; intro v1 w1 hM1 hB1))
  have HM1 : Hid (MR w.heap.size v1 ((l ++ [128]) ++ List.replicate 0 0) w1) := Lib.hid (by simpa using hM1)
  have HB1 := Lib.hid (HB0.out.trans hB1)
  clear hM1 hB1 hr0 HM0 HB0
  go_loopw [4] (fun v wr => ∃ z : Nat, z ≤ nts n ∧ Hid (MR w.heap.size v ((l ++ [128]) ++ List.replicate z 0) wr) ∧ Hid (Below w.heap.size w wr)) (fun v _ => 100 - (match v with | .slice _ k _ => k - n | _ => 0))
  case atStart => exact ⟨0, by omega, HM1, HB1⟩
  case round =>
    obtain ⟨z, hz, hM, hB⟩ := hrel
    obtain ⟨g, cap, hv⟩ := hM.out.form
    have hlen : ((l ++ [128]) ++ List.replicate z 0).length = n + 1 + z := by simp [HN.out]; omega
    obtain ⟨k, hk⟩ : ∃ k, n + 1 + z = k := ⟨_, rfl⟩
    rw [hk] at hlen
    rw [hlen] at hv
    subst hv
    obtain ⟨r, hr⟩ : ∃ r, k % 64 = r := ⟨_, rfl⟩
    have er : (k : Int) % 64 = (r : Int) := by omega
    have hLL := HL.out
    have k2 : (k : Int) ≤ 300000 := by unfold nts at hz; omega
    have k0 : (0 : Int) ≤ k := by omega
    have hr64 : r < 64 := by omega
    have HLEN := Lib.hid hlen
    have HK := Lib.hid hk
    have HB1s := Lib.hid hB.out.size
    by_cases hzz : z < nts n
    · have hne : ((r : Int) == 56) = false := by rw [beq_eq_false_iff_ne]; unfold nts at hzz; omega
      have hz' : z + 1 ≤ nts n := hzz
      have hkn : 100 - (k + 1 - n) < 100 - (k - n) := by unfold nts at hzz; omega
      have HMS := Lib.hid (show k ≤ 1000000 by omega)
      clear hlen hk hr hz hzz hr64 hLL
      go_wp2_with (first | (refine wpList_mr_next rfl (.tmp 18) (.tmp 19) rfl rfl hM.out 0 0 rfl rfl (by rw [HLEN.out]; exact HMS.out) HB1s.out ?_; intro v2 w2 hM2 hB2))
      obtain ⟨g2, cap2, hv2⟩ := hM2.form
      rw [List.length_append, HLEN.out] at hv2
      have hM3 : Hid (MR w.heap.size v2 ((l ++ [128]) ++ List.replicate (z + 1) 0) w2) := Lib.hid (by rw [List.append_assoc] at hM2; rw [List.replicate_succ']; exact hM2)
      have hB3 := Lib.hid (hB.out.trans hB2)
      clear hM2 hB2
      subst hv2
      exact ⟨⟨z + 1, hz', hM3, hB3⟩, hkn⟩
    · have hzn : z = nts n := by omega
      have he : ((r : Int) == 56) = true := by rw [beq_iff_eq]; unfold nts at hzn; omega
      rw [hzn] at hM
      have HP : Hid ((wholeL l = ((l ++ [128]) ++ List.replicate (nts n) 0) ++ W.be m 8) ∧ ((l ++ [128]) ++ List.replicate (nts n) 0).length ≤ 300000) := Lib.hid ⟨HW.out, by rw [← hzn, hlen]; omega⟩
      clear hlen hk hr hz hzz hr64 hLL hzn
      generalize (l ++ [128]) ++ List.replicate (nts n) 0 = P at *
      have HM8 : Hid (MR w.heap.size (.slice (some ⟨g, 0, none⟩) k cap) (P ++ []) wr) := Lib.hid (by rw [List.append_nil]; exact hM.out)
      go_wp2
      have hnb : ((r : Int) != 56) = false := by unfold bne; rw [he]; rfl
      rw [er, hnb]
      go_loopw [4, 5] (fun v i wr => ∃ (j : Nat) (X : List UInt8), j ≤ 8 ∧ i = .int .i64 ((j : Int) - 1) ∧ Hid (X ++ W.be m j = W.be m 8) ∧ Hid (MR w.heap.size v (P ++ X) wr) ∧ Hid (Below w.heap.size w wr)) (fun _ i _ => (intOf i + 1).toNat)
      case atStart => exact ⟨8, [], by omega, rfl, Lib.hid rfl, HM8, hB⟩
      case round =>
        obtain ⟨j, X, hj, rfl, hX, hM, hB⟩ := hrel
        match j, hj, hX with
        | 0, _, hX =>
          have hXe : P ++ X = wholeL l := by rw [HP.out.1]; have := hX.out; unfold W.be at this; rw [List.append_nil] at this; rw [this]; rfl
          rw [hXe] at hM
          have hcv := mr_string hM.out
          have HBE := hB.out
          rw [show ((0 : Nat) : Int) - 1 = -1 by rfl]
          go_wp2
          go_ret
          exact ⟨rfl, HBE⟩
        | j + 1, hj, hX =>
          have hb := W.byte_at m j
          have hXl : X.length + (j + 1) = 8 := by have := congrArg List.length hX.out; simpa [W.be_length] using this
          have hlen : (P ++ X).length ≤ 1000000 := by rw [List.length_append]; have := HP.out.2; omega
          have hX2 : Hid ((X ++ [UInt8.ofNat (m / 256 ^ j)]) ++ W.be m j = W.be m 8) := Lib.hid (by rw [List.append_assoc]; exact hX.out)
          have HLEN2 := Lib.hid hlen
          have hj8 : (j : Int) < 8 := by omega
          have hj0 : (0 : Int) ≤ j := by omega
          have HBS := Lib.hid hB.out.size
          have hmle : m ≤ 18446744073709551615 := HM.out
          have HJ := Lib.hid (show j ≤ 8 by omega)
          have HBY := Lib.hid hb
          clear hXl hlen hX hj hb
          rw [show ((j + 1 : Nat) : Int) - 1 = (j : Int) by omega]
          go_wp2_with (first | (refine wpList_mr_next rfl (.tmp 25) (.tmp 31) rfl rfl hM.out (UInt8.ofNat (m / 256 ^ j)) _ HBY.out rfl HLEN2.out HBS.out ?_; intro v2 w2 hM2 hB2))
          have hM3 : Hid (MR w.heap.size v2 (P ++ (X ++ [UInt8.ofNat (m / 256 ^ j)])) w2) := Lib.hid (by rw [← List.append_assoc]; exact hM2)
          have hB3 := Lib.hid (hB.out.trans hB2)
          clear hM2 hB2
          go_roundw
          case rel => exact ⟨j, X ++ [UInt8.ofNat (m / 256 ^ j)], HJ.out, rfl, hX2, hM3, hB3⟩
          case measure => simp [intOf]
end Go.Proofs.YtjkpopdjmmgbbaaGreat.Dg

namespace Go.Proofs.YtjkpopdjmmgbbaaGreat.Dg
open Go.RowKit

set_option maxRecDepth 1000000 in
theorem k_any (w : World) : Calls Tryz.prog 63 #[] w fun e w' => e = .returned (.slice (some ⟨w.heap.size, 0, none⟩) 64 64) ∧ UB w.heap.size 100 KS w' ∧ Below w.heap.size w w' := by
  go_enter Tryz.func63, Tryz.ntmps63
  go_wp2
  go_ret
  exact ⟨rfl, ub_new w KS 100, (Below.refl _ _).alloc (Nat.le_refl _) _⟩

theorem keys_row (w : World) {A : Array Value} (hA : A = u32c (List.replicate 64 0)) : UB w.heap.size 119 (List.replicate 64 0) (w.alloc (.cells A 119)) := by subst hA; exact ub_new w _ 119
end Go.Proofs.YtjkpopdjmmgbbaaGreat.Dg

namespace Go.Proofs.YtjkpopdjmmgbbaaGreat.Dg
open Go.RowKit

theorem bdn (w : World) (n : Nat) : Below w.heap.size w (w.drewN n) := ⟨rfl, rfl, rfl, Nat.le_refl _, fun _ _ => rfl⟩
theorem bd1 (w : World) : Below w.heap.size w w.drew := ⟨rfl, rfl, rfl, Nat.le_refl _, fun _ _ => rfl⟩
/-- The constants, the words that are summed. -/
def T2 (w : World) (gk gh : Nat) (h : List Nat) (wr : World) : Prop := UB gk 100 KS wr ∧ UB gh 100 h wr ∧ w.heap.size ≤ gk ∧ gk < gh ∧ Below w.heap.size w wr
/-- .. and a block's words. -/
def T3 (w : World) (gk gh gw : Nat) (h W : List Nat) (wr : World) : Prop := T2 w gk gh h wr ∧ UB gw 100 W wr ∧ gh < gw
/-- .. and a round's. -/
def T4 (w : World) (gk gh gw gv : Nat) (h W V : List Nat) (wr : World) : Prop := T3 w gk gh gw h W wr ∧ UB gv 100 V wr ∧ gw < gv
section
variable {w wr w1 : World} {gk gh gw gv : Nat} {h W V : List Nat}
theorem T2.later (t : T2 w gk gh h wr) (hb : Below wr.heap.size wr w1) : T2 w gk gh h w1 := ⟨t.1.later hb, t.2.1.later hb, t.2.2.1, t.2.2.2.1, t.2.2.2.2.trans (hb.mono t.2.2.2.2.size)⟩
theorem T3.later (t : T3 w gk gh gw h W wr) (hb : Below wr.heap.size wr w1) : T3 w gk gh gw h W w1 := ⟨t.1.later hb, t.2.1.later hb, t.2.2⟩
theorem T4.later (t : T4 w gk gh gw gv h W V wr) (hb : Below wr.heap.size wr w1) : T4 w gk gh gw gv h W V w1 := ⟨t.1.later hb, t.2.1.later hb, t.2.2⟩
theorem T2.put (t : T2 w gk gh h wr) (j x : Nat) : T2 w gk gh (h.set j x) (wr.setCell ⟨gh, j, none⟩ (.int .u32 (x : Int))) :=
  ⟨t.1.other _ (by have := t.2.2.2.1; show gk ≠ gh; omega), t.2.1.put j x, t.2.2.1, t.2.2.2.1, t.2.2.2.2.setCell (by have := t.2.2.1; have := t.2.2.2.1; show w.heap.size ≤ gh; omega) _⟩
theorem T2.other (t : T2 w gk gh h wr) (g j x : Nat) (hg : gh < g) : T2 w gk gh h (wr.setCell ⟨g, j, none⟩ (.int .u32 (x : Int))) :=
  ⟨t.1.other _ (by have := t.2.2.2.1; show gk ≠ g; omega), t.2.1.other _ (by show gh ≠ g; omega), t.2.2.1, t.2.2.2.1, t.2.2.2.2.setCell (by have := t.2.2.1; have := t.2.2.2.1; show w.heap.size ≤ g; omega) _⟩
theorem T3.put (t : T3 w gk gh gw h W wr) (j x : Nat) : T3 w gk gh gw h (W.set j x) (wr.setCell ⟨gw, j, none⟩ (.int .u32 (x : Int))) :=
  ⟨t.1.other gw j x t.2.2, t.2.1.put j x, t.2.2⟩
theorem T4.put (t : T4 w gk gh gw gv h W V wr) (j x : Nat) : T4 w gk gh gw gv (h.set j x) W V (wr.setCell ⟨gh, j, none⟩ (.int .u32 (x : Int))) :=
  ⟨⟨t.1.1.put j x, t.1.2.1.other _ (by have := t.1.2.2; show gw ≠ gh; omega), t.1.2.2⟩, t.2.1.other _ (by have := t.1.2.2; have := t.2.2; show gv ≠ gh; omega), t.2.2⟩
theorem T4.fresh {A : Array Value} (t : T3 w gk gh gw h W wr) (V2 : List Nat) (hA : A = u32c V2) : T4 w gk gh gw wr.heap.size h W V2 (wr.alloc (.cells A 100)) := by
  subst hA
  exact ⟨t.later ((Below.refl _ _).alloc (Nat.le_refl _) _), ub_new wr V2 100, t.2.1.lt⟩
theorem T3.fresh {A : Array Value} (t : T2 w gk gh h wr) (W2 : List Nat) (hA : A = u32c W2) : T3 w gk gh wr.heap.size h W2 (wr.alloc (.cells A 100)) := by
  subst hA
  exact ⟨t.later ((Below.refl _ _).alloc (Nat.le_refl _) _), ub_new wr W2 100, t.2.1.lt⟩
theorem T2.fresh {A : Array Value} {wk : World} (hk : UB gk 100 KS wk) (hb : Below w.heap.size w wk) (hg : w.heap.size ≤ gk) (h2 : List Nat) (hA : A = u32c h2) : T2 w gk wk.heap.size h2 (wk.alloc (.cells A 100)) := by
  subst hA
  exact ⟨hk.later ((Below.refl _ _).alloc (Nat.le_refl _) _), ub_new wk h2 100, hg, hk.lt, hb.alloc hb.size _⟩
end

/-- The number of the first j bytes from a place on. -/
def partT (t : ByteArray) (o j : Nat) : Nat := W.gt (t.extract o (o + j)).data.toList
theorem ext_list (s : ByteArray) (a b : Nat) : (s.extract a b).data.toList = (s.data.toList.drop a).take (b - a) := by
  simp [ByteArray.data_extract, List.extract_eq_take_drop]
theorem partT_0 (t : ByteArray) (o : Nat) : partT t o 0 = 0 := by
  unfold partT; rw [ext_list]; simp [W.gt]
theorem partT_lt (t : ByteArray) (o j : Nat) : partT t o j < 256 ^ j := by
  have h := W.gt_lt (t.extract o (o + j)).data.toList
  have h2 : (t.extract o (o + j)).data.toList.length ≤ j := by rw [ext_list]; simp; omega
  exact Nat.lt_of_lt_of_le h (Nat.pow_le_pow_right (by omega) h2)
theorem partT_succ (t : ByteArray) (o j : Nat) (h : o + j < t.size) : partT t o (j + 1) = partT t o j * 256 + (t[o + j]'h).toNat := by
  unfold partT
  have hl : o + j < t.data.toList.length := by simpa using h
  have hd : j < (t.data.toList.drop o).length := by simp at hl ⊢; omega
  rw [ext_list, ext_list, show o + (j + 1) - o = j + 1 by omega, show o + j - o = j by omega, List.take_succ_eq_append_getElem hd, W.gt_snoc]
  congr 2
  simp
  rfl
theorem partT_small (t : ByteArray) (o j : Nat) (hj : j < 4) : partT t o j < 16777216 ∧ partT t o (j + 1) < 4294967296 := by
  have h1 := partT_lt t o j
  have h2 := partT_lt t o (j + 1)
  have p1 : (256 : Nat) ^ j ≤ 256 ^ 3 := Nat.pow_le_pow_right (by omega) (by omega)
  have p2 : (256 : Nat) ^ (j + 1) ≤ 256 ^ 4 := Nat.pow_le_pow_right (by omega) (by omega)
  have e1 : (256 : Nat) ^ 3 = 16777216 := rfl
  have e2 : (256 : Nat) ^ 4 = 4294967296 := rfl
  omega
theorem partT_word (t : ByteArray) (b i : Nat) (hi : i < 16) : partT t (64 * b + 4 * i) 4 = word4 (t.extract (64 * b) (64 * b + 64)) i := by
  unfold partT word4
  congr 1
  rw [ext_list, ext_list, ext_list, List.drop_take, List.drop_drop, List.take_take]
  congr 1
  omega
theorem schA_zero (s : ByteArray) (i : Nat) (hi : i < 64) : (schA s i).set i 0 = schA s i := by
  unfold schA
  rw [List.set_append_right _ _ (by rw [sch_len]; omega), sch_len, Nat.sub_self, show 64 - i = (64 - (i + 1)) + 1 by omega, List.replicate_succ, List.set_cons_zero]
theorem set_len {α : Type} (l : List α) (i : Nat) (x : α) : (l.set i x).length = l.length := by simp
/-- Fresh words, fresh bytes. -/
theorem make_words (w : World) : (Instr.makeSlice 98 (.int .i64 64) (.int .i64 64)).run Tryz.prog w = .ok (.slice (some ⟨w.heap.size, 0, none⟩) 64 64) (w.alloc (.cells (u32c (List.replicate 64 0)) 100)) := by kernel_rfl
theorem make_bytes (w : World) : (Instr.makeSlice 68 (.int .i64 32) (.int .i64 32)).run Tryz.prog w = .ok (.slice (some ⟨w.heap.size, 0, none⟩) 32 32) (w.alloc (.cells (W.bcells zb32).toArray 5)) := by kernel_rfl
end Go.Proofs.YtjkpopdjmmgbbaaGreat.Dg
