/- codec.cloned: what holds while values are made anew, and all within them.; codec.Same: slices.EqualFunc over it, and itself. -/
import Derived.Test.YtlochpnifjmefaaJ20
import Derived.Test.YtlochpnifjmefaaJ17
set_option linter.unusedVariables false
set_option linter.unusedSimpArgs false
namespace Go.Proofs.Ytlochpnifjmefaa
open Go.RowKit

/-- What holds while values are made anew. -/
def ClW (w : World) (l : List Tr) (ρ : Option Nat) (oo : Option Addr) (cap j : Nat) (xs : List Value) (wz : World) : Prop :=
  Below w.heap.size w wz ∧ VRow 27 ρ oo cap j xs wz ∧ (∀ r, ρ = some r → w.heap.size ≤ r) ∧
    ∀ i (h : i < l.length), i < j → ∃ d0 d1 d2 d3, xs[i * 4]? = some d0 ∧ xs[i * 4 + 1]? = some d1 ∧ xs[i * 4 + 2]? = some d2 ∧ xs[i * 4 + 3]? = some d3 ∧ VInP wz (fun b => w.heap.size ≤ b ∧ ρ ≠ some b) l[i] d0 d1 d2 d3
theorem ClW.later {w wz w1 : World} {l : List Tr} {ρ : Option Nat} {oo : Option Addr} {cap j : Nat} {xs : List Value} (h : ClW w l ρ oo cap j xs wz) (hb : Below wz.heap.size wz w1) : ClW w l ρ oo cap j xs w1 := by
  obtain ⟨h1, h4, h5, h6⟩ := h
  refine ⟨h1.trans (hb.mono h1.size), h4.keep (fun r hr => hb.block _ (h4.lt r hr)), h5, fun i hi hj => ?_⟩
  obtain ⟨d0, d1, d2, d3, x0, x1, x2, x3, hv⟩ := h6 i hi hj
  exact ⟨d0, d1, d2, d3, x0, x1, x2, x3, VInP.keep hb.size (fun b hb' hP => ⟨hb.block b hb', hP⟩) _ hv⟩
theorem clw_put {w w6 w7 : World} {l : List Tr} {ρ ρ' : Option Nat} {oo o' : Option Addr} {cap cap' j : Nat} {xs : List Value} {d0 d1 d2 d3 : Value} (hjl : j < l.length)
    (g6 : ClW w l ρ oo cap j xs w6) (hv6 : VInP w6 (fun b => w.heap.size ≤ b ∧ ρ ≠ some b) l[j] d0 d1 d2 d3)
    (hR : VRow 27 ρ' o' cap' (j + 1) (xs ++ [d0, d1, d2, d3]) w7) (hn : Nxt ρ ρ' w6) (hc : Chg w6.heap.size ρ w6 w7) :
    ClW w l ρ' o' cap' (j + 1) (xs ++ [d0, d1, d2, d3]) w7 := by
  obtain ⟨g1, g4, g5, g7⟩ := g6
  have hx : xs.length = j * 4 := g4.1
  have hnew : ∀ r, ρ' = some r → w.heap.size ≤ r := by
    intro r hr
    rcases hn with rfl | ⟨q, rfl, hq⟩
    · exact g5 r hr
    · cases hr; have := g1.size; omega
  have hkeep : ∀ b', b' < w6.heap.size → (w.heap.size ≤ b' ∧ ρ ≠ some b') → w7.heap[b']? = w6.heap[b']? ∧ (w.heap.size ≤ b' ∧ ρ' ≠ some b') := by
    intro b' hb' hP
    refine ⟨hc.2.2.2.2 b' hb' (by omega) hP.2, hP.1, ?_⟩
    rcases hn with rfl | ⟨q, rfl, hq⟩
    · exact hP.2
    · intro e; cases e; omega
  refine ⟨g1.trans ⟨hc.1, hc.2.1, hc.2.2.1, hc.2.2.2.1, fun q hq => hc.2.2.2.2 q (by have := g1.size; omega) (by have := g1.size; omega) (fun e => by have := g5 q e; omega)⟩, hR, hnew, ?_⟩
  intro i hi hij
  by_cases hlt : i < j
  · obtain ⟨e0, e1, e2, e3, x0, x1, x2, x3, hvi⟩ := g7 i hi hlt
    refine ⟨e0, e1, e2, e3, ?_, ?_, ?_, ?_, VInP.keep hc.2.2.2.1 hkeep _ hvi⟩
    all_goals (rw [List.getElem?_append_left (by rw [hx]; omega)]; assumption)
  · obtain rfl : i = j := by omega
    refine ⟨d0, d1, d2, d3, ?_, ?_, ?_, ?_, VInP.keep hc.2.2.2.1 hkeep _ hv6⟩
    all_goals (rw [List.getElem?_append_right (by rw [hx]; omega), hx])
    · rw [Nat.sub_self]; rfl
    · rw [show i * 4 + 1 - i * 4 = 1 by omega]; rfl
    · rw [show i * 4 + 2 - i * 4 = 2 by omega]; rfl
    · rw [show i * 4 + 3 - i * 4 = 3 by omega]; rfl

/-- What cloned answers. -/
def ClP (l : List Tr) (w : World) (e : Ending) (w' : World) : Prop :=
  ∃ (o : Option Addr) (cap r : Nat), e = .returned (.slice o l.length cap) ∧ (0 < l.length → o = some ⟨r, 0, none⟩ ∧ r < w'.heap.size ∧ w.heap.size ≤ r) ∧ VInPL w' (fun b => w.heap.size ≤ b) r 0 l ∧ Below w.heap.size w w'
theorem clw_done {w wr : World} {l : List Tr} {ρ : Option Nat} {oo : Option Addr} {cap : Nat} {xs : List Value} (h : ClW w l ρ oo cap l.length xs wr) : ClP l w (.returned (.slice oo l.length cap)) wr := by
  obtain ⟨hB, hR, hr, hE⟩ := h
  rcases Nat.eq_zero_or_pos l.length with h0 | h0
  · exact ⟨oo, cap, 0, rfl, fun hp => absurd hp (by omega), VInPL.of (fun i hi => absurd hi (by omega)), hB⟩
  · obtain ⟨d0, _, _, _, x0, _⟩ := hE 0 h0 h0
    obtain ⟨r, e1, e2, _⟩ := hR.cell _ _ x0
    refine ⟨oo, cap, r, rfl, fun _ => ⟨e2, hR.lt r e1, hr r e1⟩, VInPL.of (fun i hi => ?_), hB⟩
    obtain ⟨d0, d1, d2, d3, x0, x1, x2, x3, hv⟩ := hE i hi hi
    have cell : ∀ j u, xs[j]? = some u → wr.cell? ⟨r, j, none⟩ = some u := fun j u hj => by
      obtain ⟨r', q1, _, q3⟩ := hR.cell j u hj
      rw [e1] at q1
      cases q1
      exact q3
    rw [Nat.zero_add]
    exact ⟨d0, d1, d2, d3, cell _ _ x0, cell _ _ x1, cell _ _ x2, cell _ _ x3, VInP.keep (Nat.le_refl _) (fun b' _ hP => ⟨rfl, hP.1⟩) _ hv⟩
/-- A value out of its four cells, the values within made anew. -/
theorem vinp_mk {w w' : World} {P : Nat → Prop} {k : Int} {n : Nat} {s : ByteArray} {l : List Tr} {o : Option Addr} {cap r : Nat} (hn : n ≤ 18446744073709551615) (hz : s.size ≤ 1000000000 ∧ l.length ≤ 1000000)
    (ho : 0 < l.length → o = some ⟨r, 0, none⟩ ∧ r < w'.heap.size ∧ w.heap.size ≤ r) (hl : VInPL w' (fun b => w.heap.size ≤ b) r 0 l) (hP : ∀ b, w.heap.size ≤ b → P b) : VInP w' P (.mk k n s l) (.int .i64 k) (.int .u64 (n : Int)) (.string s) (.slice o l.length cap) := by
  unfold VInP
  refine ⟨rfl, rfl, hn, rfl, hz, o, cap, r, 0, rfl, fun hp => ⟨(ho hp).1, (ho hp).2.1, hP r (ho hp).2.2⟩, VInPL.of (fun i hi => ?_)⟩
  obtain ⟨d0, d1, d2, d3, e0, e1, e2, e3, hv⟩ := hl.at i hi
  exact ⟨d0, d1, d2, d3, e0, e1, e2, e3, VInP.keep (Nat.le_refl _) (fun b' _ h => ⟨rfl, hP b' h⟩) _ hv⟩

end Go.Proofs.Ytlochpnifjmefaa

namespace Go.Proofs.Ytlochpnifjmefaa
open Go.RowKit

mutual
def sameT : Tr → Tr → Bool
  | .mk k n s l, .mk k' n' s' l' => decide (k = k') && decide (n = n') && decide (s = s') && sameL l l'
def sameL : List Tr → List Tr → Bool
  | [], [] => true
  | x :: xs, y :: ys => sameT x y && sameL xs ys
  | [], _ :: _ => false
  | _ :: _, [] => false
end
theorem sameL_len : ∀ (l l' : List Tr), l.length ≠ l'.length → sameL l l' = false
  | [], [], h => absurd rfl h
  | [], _ :: _, _ => by unfold sameL; rfl
  | _ :: _, [], _ => by unfold sameL; rfl
  | x :: xs, y :: ys, h => by
    unfold sameL
    rw [sameL_len xs ys (by simpa using h), Bool.and_false]
theorem sameL_iff : ∀ (l l' : List Tr), l.length = l'.length → (sameL l l' = true ↔ ∀ i (h : i < l.length) (h' : i < l'.length), sameT l[i] l'[i] = true)
  | [], [], _ => by unfold sameL; simp
  | [], _ :: _, h => by simp at h
  | _ :: _, [], h => by simp at h
  | x :: xs, y :: ys, h => by
    unfold sameL
    have ih := sameL_iff xs ys (by simpa using h)
    rw [Bool.and_eq_true, ih]
    constructor
    · rintro ⟨h1, h2⟩ i hi hi'
      match i, hi, hi' with
      | 0, _, _ => exact h1
      | i + 1, hi, hi' => exact h2 i (by simpa using hi) (by simpa using hi')
    · intro h2
      exact ⟨h2 0 (by simp) (by simp), fun i hi hi' => h2 (i + 1) (by simpa using hi) (by simpa using hi')⟩

theorem VInL.keep {w w' : World} (hb : Below w.heap.size w w') {b off : Nat} {l : List Tr} (hbl : 0 < l.length → b < w.heap.size) (h : VInL w b off l) : VInL w' b off l :=
  VInL.of (fun i hi => by
    obtain ⟨d0, d1, d2, d3, e0, e1, e2, e3, hv⟩ := h.at i hi
    have hb' := hbl (by omega)
    exact ⟨d0, d1, d2, d3, (hb.cell (p := ⟨b, _, none⟩) hb').trans e0, (hb.cell (p := ⟨b, _, none⟩) hb').trans e1, (hb.cell (p := ⟨b, _, none⟩) hb').trans e2, (hb.cell (p := ⟨b, _, none⟩) hb').trans e3, hv.later hb⟩)
theorem eqf_len (o o' : Option Addr) (m m' cap cap' : Nat) (h : m ≠ m') (f : Value) (w : World) :
    Calls Try.prog 37 #[.slice o m cap, .slice o' m' cap', f] w fun e w' => e = .returned (.bool false) ∧ Below w.heap.size w w' := by
  have h1 : ((m : Int) != (m' : Int)) = true := by rw [bne_iff_ne]; omega
  clear h
  go_enter Try.func37, Try.ntmps37
  go_wp2
  go_ret
  exact ⟨rfl, Below.refl _ _⟩

set_option maxRecDepth 100000 in
set_option maxHeartbeats 1000000 in
theorem eqf_any (l l' : List Tr) (o o' : Option Addr) (cap b off cap' b' off' : Nat) (hlen : l.length ≤ 1000000) (he : l.length = l'.length)
    (ih : ∀ x ∈ l, ∀ (y : Tr) (c0 c1 c2 c3 d0 d1 d2 d3 : Value) (w : World), VIn w x c0 c1 c2 c3 → VIn w y d0 d1 d2 d3 → Calls Try.prog 16 #[.agg #[c0, c1, c2, c3], .agg #[d0, d1, d2, d3]] w fun e w' => e = .returned (.bool (sameT x y)) ∧ Below w.heap.size w w')
    (w : World) (ho : 0 < l.length → o = some ⟨b, off, none⟩ ∧ b < w.heap.size) (hl : VInL w b off l) (ho' : 0 < l'.length → o' = some ⟨b', off', none⟩ ∧ b' < w.heap.size) (hl' : VInL w b' off' l') :
    Calls Try.prog 37 #[.slice o l.length cap, .slice o' l'.length cap', .func (Fn.func 16) #[] #[]] w fun e w' => e = .returned (.bool (sameL l l')) ∧ Below w.heap.size w w' := by
  have HS := Lib.hid (sameL_iff l l' he)
  rw [← he]
  obtain ⟨m, hm⟩ : ∃ m, m = l.length := ⟨_, rfl⟩
  have hm' : m = l'.length := by rw [hm, he]
  rw [← hm] at hlen ⊢
  have HM := Lib.hid hm
  have HM' := Lib.hid hm'
  have HO := Lib.hid ho
  have HL := Lib.hid hl
  have HO' := Lib.hid ho'
  have HL' := Lib.hid hl'
  have IH := Lib.hid ih
  obtain ⟨R, hR⟩ : ∃ R, R = sameL l l' := ⟨_, rfl⟩
  rw [← hR]
  have HR := Lib.hid hR
  clear ho hl ho' hl' ih hm hm' he hR
  go_enter Try.func37, Try.ntmps37
  go_wp2_with fail
  go_loopw [17] (fun iv wr => ∃ j : Nat, j ≤ m ∧ iv = .int .i64 (j : Int) ∧ Hid (∀ i (h : i < l.length) (h' : i < l'.length), i < j → sameT l[i] l'[i] = true) ∧ Hid (Below w.heap.size w wr)) (fun iv _ => m - (intOf iv).toNat)
  case atStart => exact ⟨0, Nat.zero_le _, rfl, Lib.hid (fun i _ _ h => absurd h (by omega)), Lib.hid (Below.refl _ _)⟩
  case round =>
    obtain ⟨j, hj, rfl, hS, hB⟩ := hrel
    by_cases hjm : j < m
    · have hjl : j < l.length := by rw [← HM.out]; exact hjm
      have hjl' : j < l'.length := by rw [← HM'.out]; exact hjm
      obtain ⟨hoo, hbb⟩ := HO.out (by omega)
      subst hoo
      obtain ⟨hoo', hbb'⟩ := HO'.out (by omega)
      subst hoo'
      obtain ⟨d0, d1, d2, d3, e0, e1, e2, e3, hv⟩ := HL.out.at j hjl
      obtain ⟨k1, n1, s1, o1, len1, cap1, rfl, rfl, rfl, rfl⟩ := hv.cells
      obtain ⟨d0', d1', d2', d3', e0', e1', e2', e3', hv'⟩ := HL'.out.at j hjl'
      obtain ⟨k2, n2, s2, o2, len2, cap2, rfl, rfl, rfl, rfl⟩ := hv'.cells
      have f0 := (hB.out.cell (p := ⟨b, _, none⟩) hbb).trans e0
      have f1 := (hB.out.cell (p := ⟨b, _, none⟩) hbb).trans e1
      have f2 := (hB.out.cell (p := ⟨b, _, none⟩) hbb).trans e2
      have f3 := (hB.out.cell (p := ⟨b, _, none⟩) hbb).trans e3
      have hst := store27 wr k1 n1 s1 o1 len1 cap1
      have HV := Lib.hid hv
      have HV' := Lib.hid hv'
      have HF' := Lib.hid (And.intro e0' (And.intro e1' (And.intro e2' e3')))
      have HBB' := Lib.hid hbb'
      clear e0 e1 e2 e3 hv e0' e1' e2' e3' hv'
      go_upto_region 6 with fail
      obtain ⟨wa, hwa⟩ : ∃ wa, wa = wr.alloc (.cells #[.int .i64 k1, .int .u64 (n1 : Int), .string s1, .slice o1 len1 cap1] 27) := ⟨_, rfl⟩
      rw [← hwa]
      have HVA := Lib.hid (show VW wr (.int .i64 k1) (.int .u64 (n1 : Int)) (.string s1) (.slice o1 len1 cap1) wa by rw [hwa]; exact VW.new _ _ _ _ _ _)
      have HBA := Lib.hid (hB.out.trans (HVA.out.2.2.mono hB.out.size))
      clear hwa f0 f1 f2 f3 hst
      have f0 := (HBA.out.cell (p := ⟨b', _, none⟩) HBB'.out).trans HF'.out.1
      have f1 := (HBA.out.cell (p := ⟨b', _, none⟩) HBB'.out).trans HF'.out.2.1
      have f2 := (HBA.out.cell (p := ⟨b', _, none⟩) HBB'.out).trans HF'.out.2.2.1
      have f3 := (HBA.out.cell (p := ⟨b', _, none⟩) HBB'.out).trans HF'.out.2.2.2
      have hst := store27 wa k2 n2 s2 o2 len2 cap2
      go_upto_region 7 with fail
      obtain ⟨wb, hwb⟩ : ∃ wb, wb = wa.alloc (.cells #[.int .i64 k2, .int .u64 (n2 : Int), .string s2, .slice o2 len2 cap2] 27) := ⟨_, rfl⟩
      rw [← hwb]
      have HVB := Lib.hid (show VW wa (.int .i64 k2) (.int .u64 (n2 : Int)) (.string s2) (.slice o2 len2 cap2) wb by rw [hwb]; exact VW.new _ _ _ _ _ _)
      have HBWB := Lib.hid (HBA.out.trans (HVB.out.2.2.mono HBA.out.size))
      clear hwb f0 f1 f2 f3 hst
      obtain ⟨g0, g1, g2, g3⟩ := (HVA.out.later HVB.out.2.2).1
      obtain ⟨h0, h1, h2, h3⟩ := HVB.out.1
      go_wp2_with fail
      refine (IH.out l[j] (List.getElem_mem hjl) l'[j] _ _ _ _ _ _ _ _ wb (HV.out.later HBWB.out) (HV'.out.later HBWB.out)).mono ?_
      rintro r w5 ⟨rfl, hb5⟩
      have HB5 := Lib.hid (HBWB.out.trans (hb5.mono HBWB.out.size))
      clear hb5 g0 g1 g2 g3 h0 h1 h2 h3
      by_cases hs : sameT l[j] l'[j] = true
      · have HSS := Lib.hid hs
        rw [hs]
        clear hs
        go_wp2
        go_roundw
        case rel =>
          refine ⟨j + 1, by omega, by go_num, Lib.hid (fun i h h' hi => ?_), HB5⟩
          by_cases hij : i = j
          · subst hij; exact HSS.out
          · exact hS.out i h h' (by omega)
        case measure => simp [intOf]; omega
      · have hs' : sameT l[j] l'[j] = false := by simpa using hs
        have HALL : Hid (R = false) := Lib.hid (by
          rw [HR.out]
          cases hx : sameL l l' with
          | false => rfl
          | true => exact absurd (HS.out.1 hx j hjl hjl') hs)
        rw [hs']
        clear hs hs'
        go_wp2
        go_ret
        exact ⟨by rw [HALL.out]; rfl, HB5.out⟩
    · have HALL : Hid (R = true) := Lib.hid (by
        rw [HR.out]
        exact HS.out.2 (fun i h h' => hS.out i h h' (by have := HM.out; omega)))
      go_wp2
      go_ret
      exact ⟨by rw [HALL.out]; rfl, hB.out⟩
end Go.Proofs.Ytlochpnifjmefaa
