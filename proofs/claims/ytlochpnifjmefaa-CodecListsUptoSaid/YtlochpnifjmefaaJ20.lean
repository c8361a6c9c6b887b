/- law07.To: a value made anew.; law07.To: the walk. -/
import Derived.Test.YtlochpnifjmefaaJ19
import Derived.Deep.RegionLaw
set_option linter.unusedVariables false
set_option linter.unusedSimpArgs false
namespace Go.Proofs.Ytlochpnifjmefaa
open Go.RowKit

theorem step_vrow {w : World} {ops : Array Oper} {o : Oper} {a : Act} {K : Act → World → Prop} {Q : Exit → Act → World → Prop} {E : Prop} (hgd : o.guard = none) (s x : Operand) (t T : TypeId)
    (ho : o.op = .call { callee := .builtin .append, args := #[s, x], argTypes := #[t, t] })
    (hu : Try.prog.underlying t = some (.slice T)) (hinfo : (Try.prog.info? T).map (fun i => (i.zero, i.size, i.bytes)) = some (some (.agg #[.int .i64 0, .int .u64 0, .string ⟨#[]⟩, .slice none 0 0]), 4, 56))
    (g : Nat) (ρ : Option Nat) (oo : Option Addr) (cap n : Nat) (xs : List Value) (hR : VRow T ρ oo cap n xs w) (hn : n + 1 ≤ 1000000000) (ad : Addr) (news : List Value) (hl : news.length = 4) (hnews : ∀ j u, news[j]? = some u → w.cell? (ad.add j) = some u) (h1 : ∀ u ∈ news, u.oneCell' = true)
    (hs : a.eval s = .slice oo n cap) (hx : a.eval x = .slice (some ad) 1 1)
    (h : ∀ o' cap' w' ρ', VRow T ρ' o' cap' (n + 1) (xs ++ news) w' → Nxt ρ ρ' w → Chg g ρ w w' → K (a.put o.dst (.slice o' (n + 1) cap')) w') :
    if Region.wanted o (yielded ops a.tmps) = true then Oper.wp Try.prog o a w K Q else E := by
  have hw : Region.wanted o (yielded ops a.tmps) = true := by simp [Region.wanted, hgd]
  rw [if_pos hw]
  obtain ⟨o', cap', w', ρ', hr, h2, h3, h4⟩ := vrow_append t T o.type hu hinfo g w ρ oo cap n xs hR hn ad news hl hnews h1
  unfold Oper.wp execOp
  simp only [ho, resolve, invoke, builtin, Sem.run_bind, Sem.run_pure, Result.andThen_ok, List.map_toArray, List.map_cons, List.map_nil, hs, hx, hr]
  exact h o' cap' w' ρ' h2 h3 h4

/-- What holds while a value is made anew: the boxes, the row, what has been made. -/
def TOW (w : World) (a b c d : Value) (k : Int) (n : Nat) (s : ByteArray) (l : List Tr) (ρ : Option Nat) (oo : Option Addr) (cap j : Nat) (xs : List Value) (wz : World) : Prop :=
  VW w a b c d wz ∧ wz.heap[w.heap.size + 1]? = some (.cells #[.int .i64 0, .int .u64 0, .string ⟨#[]⟩, .slice none 0 0] 37 (0, 0)) ∧ wz.heap[w.heap.size + 2]? = some (.cells #[.int .i64 k, .int .u64 (n : Int), .string s, .slice oo j cap] 37 (0, 0)) ∧ VRow 37 ρ oo cap j xs wz ∧ (∀ r, ρ = some r → w.heap.size + 3 ≤ r) ∧
    ∀ i (h : i < l.length), i < j → ∃ d0 d1 d2 d3, xs[i * 4]? = some d0 ∧ xs[i * 4 + 1]? = some d1 ∧ xs[i * 4 + 2]? = some d2 ∧ xs[i * 4 + 3]? = some d3 ∧ VInP wz (fun b => w.heap.size + 3 ≤ b ∧ ρ ≠ some b) l[i] d0 d1 d2 d3
theorem TOW.later {w wz w1 : World} {a b c d : Value} {k : Int} {n : Nat} {s : ByteArray} {l : List Tr} {ρ : Option Nat} {oo : Option Addr} {cap j : Nat} {xs : List Value} (h : TOW w a b c d k n s l ρ oo cap j xs wz) (hb : Below wz.heap.size wz w1) : TOW w a b c d k n s l ρ oo cap j xs w1 := by
  obtain ⟨h1, h2, h3, h4, h5, h6⟩ := h
  refine ⟨h1.later hb, (hb.block _ (lt_of_heap h2)).trans h2, (hb.block _ (lt_of_heap h3)).trans h3, h4.keep (fun r hr => hb.block _ (h4.lt r hr)), h5, fun i hi hj => ?_⟩
  obtain ⟨d0, d1, d2, d3, x0, x1, x2, x3, hv⟩ := h6 i hi hj
  exact ⟨d0, d1, d2, d3, x0, x1, x2, x3, VInP.keep hb.size (fun b hb' hP => ⟨hb.block b hb', hP⟩) _ hv⟩

/-- One more has been made, and put behind. -/
theorem tow_put {w w5 w6 w7 : World} {a b c d : Value} {k : Int} {n : Nat} {s : ByteArray} {l : List Tr} {ρ ρ' : Option Nat} {oo o' : Option Addr} {cap cap' j : Nat} {xs : List Value} {d0 d1 d2 d3 : Value} (hjl : j < l.length)
    (h : TOW w a b c d k n s l ρ oo cap j xs w5) (hv : VInP w5 (fun b => w.heap.size + 3 ≤ b ∧ ρ ≠ some b) l[j] d0 d1 d2 d3) (h56 : Below w5.heap.size w5 w6)
    (hR : VRow 37 ρ' o' cap' (j + 1) (xs ++ [d0, d1, d2, d3]) w7) (hn : Nxt ρ ρ' w6) (hc : Chg w6.heap.size ρ w6 w7) :
    TOW w a b c d k n s l ρ' o' cap' (j + 1) (xs ++ [d0, d1, d2, d3]) (w7.setCell ⟨w.heap.size + 2, 3, none⟩ (.slice o' (j + 1) cap')) := by
  have h6 := h.later h56
  have hv6 : VInP w6 (fun b => w.heap.size + 3 ≤ b ∧ ρ ≠ some b) l[j] d0 d1 d2 d3 := VInP.keep h56.size (fun b hb' hP => ⟨h56.block b hb', hP⟩) _ hv
  obtain ⟨g1, g2, g3, g4, g5, g6⟩ := h6
  have hx : xs.length = j * 4 := g4.1
  have l2 := lt_of_heap g2
  have l3 := lt_of_heap g3
  have hstay : ∀ q, q < w6.heap.size → ρ ≠ some q → w7.heap[q]? = w6.heap[q]? := fun q hq hr => hc.2.2.2.2 q hq (by omega) hr
  have hne : ∀ q, q < w.heap.size + 3 → ρ ≠ some q := fun q hq e => by have := g5 q e; omega
  have hnew : ∀ r, ρ' = some r → w.heap.size + 3 ≤ r := by
    intro r hr
    rcases hn with rfl | ⟨q, rfl, hq⟩
    · exact g5 r hr
    · cases hr; omega
  have hset : ∀ q, q ≠ w.heap.size + 2 → (w7.setCell ⟨w.heap.size + 2, 3, none⟩ (.slice o' (j + 1) cap')).heap[q]? = w7.heap[q]? := fun q hq => heap_setCell_other w7 ⟨w.heap.size + 2, 3, none⟩ q _ hq
  have hbox := hstay (w.heap.size + 2) l3 (hne _ (by omega))
  have h7s := heap_setCell_same w7 (w.heap.size + 2) 3 _ _ (.slice o' (j + 1) cap') (hbox.trans g3)
  have hbel : Below w6.heap.size w6 w6 := Below.refl _ _
  have hkeep : ∀ b', b' < w6.heap.size → (w.heap.size + 3 ≤ b' ∧ ρ ≠ some b') → (w7.setCell ⟨w.heap.size + 2, 3, none⟩ (.slice o' (j + 1) cap')).heap[b']? = w6.heap[b']? ∧ (w.heap.size + 3 ≤ b' ∧ ρ' ≠ some b') := by
    intro b' hb' hP
    refine ⟨(hset b' (by omega)).trans (hstay b' hb' hP.2), hP.1, ?_⟩
    rcases hn with rfl | ⟨q, rfl, hq⟩
    · exact hP.2
    · intro e; cases e; omega
  have hsz : w6.heap.size ≤ (w7.setCell ⟨w.heap.size + 2, 3, none⟩ (.slice o' (j + 1) cap')).heap.size := by simpa using hc.2.2.2.1
  refine ⟨⟨?_, ?_, ?_⟩, (hset _ (by omega)).trans ((hstay _ l2 (hne _ (by omega))).trans g2), by simpa using h7s, hR.keep (fun r hr => hset r (by have := hnew r hr; omega)), hnew, ?_⟩
  · have hb0 : (w7.setCell ⟨w.heap.size + 2, 3, none⟩ (.slice o' (j + 1) cap')).heap[w.heap.size]? = w6.heap[w.heap.size]? := (hset _ (by omega)).trans (hstay _ g1.2.1 (hne _ (by omega)))
    have cc := fun j => World.cell?_of_block (a := ⟨w.heap.size, j, none⟩) hb0
    exact ⟨(cc 0).trans g1.1.1, (cc 1).trans g1.1.2.1, (cc 2).trans g1.1.2.2.1, (cc 3).trans g1.1.2.2.2⟩
  · have := g1.2.1; omega
  · refine g1.2.2.trans ?_
    exact ⟨hc.1, hc.2.1, hc.2.2.1, hsz, fun q hq => (hset q (by omega)).trans (hstay q (by have := g1.2.1; omega) (hne q (by omega)))⟩
  · intro i hi hij
    by_cases hlt : i < j
    · obtain ⟨e0, e1, e2, e3, x0, x1, x2, x3, hvi⟩ := g6 i hi hlt
      refine ⟨e0, e1, e2, e3, ?_, ?_, ?_, ?_, VInP.keep hsz hkeep _ hvi⟩
      all_goals (rw [List.getElem?_append_left (by rw [hx]; omega)]; assumption)
    · obtain rfl : i = j := by omega
      refine ⟨d0, d1, d2, d3, ?_, ?_, ?_, ?_, VInP.keep hsz hkeep _ hv6⟩
      all_goals (rw [List.getElem?_append_right (by rw [hx]; omega), hx])
      · rw [Nat.sub_self]; rfl
      · rw [show i * 4 + 1 - i * 4 = 1 by omega]; rfl
      · rw [show i * 4 + 2 - i * 4 = 2 by omega]; rfl
      · rw [show i * 4 + 3 - i * 4 = 3 by omega]; rfl
end Go.Proofs.Ytlochpnifjmefaa

namespace Go.Proofs.Ytlochpnifjmefaa
open Go.RowKit

theorem tow_start (w : World) (a b c d : Value) (k : Int) (n : Nat) (s : ByteArray) (l : List Tr) :
    TOW w a b c d k n s l none none 0 0 [] (((w.alloc (.cells #[a, b, c, d] 27)).alloc (.cells #[.int .i64 0, .int .u64 0, .string ⟨#[]⟩, .slice none 0 0] 37)).alloc (.cells #[.int .i64 k, .int .u64 (n : Int), .string s, .slice none 0 0] 37)) := by
  have h1 := (VW.new w a b c d 27).later (alloc_below _ (.cells #[.int .i64 0, .int .u64 0, .string ⟨#[]⟩, .slice none 0 0] 37))
  have g1 := heap_alloc_new (w.alloc (.cells #[a, b, c, d] 27)) (.cells #[.int .i64 0, .int .u64 0, .string ⟨#[]⟩, .slice none 0 0] 37)
  rw [show (w.alloc (.cells #[a, b, c, d] 27)).heap.size = w.heap.size + 1 by simp] at g1
  have g2 := heap_alloc_new ((w.alloc (.cells #[a, b, c, d] 27)).alloc (.cells #[.int .i64 0, .int .u64 0, .string ⟨#[]⟩, .slice none 0 0] 37)) (.cells #[.int .i64 k, .int .u64 (n : Int), .string s, .slice none 0 0] 37)
  rw [show ((w.alloc (.cells #[a, b, c, d] 27)).alloc (.cells #[.int .i64 0, .int .u64 0, .string ⟨#[]⟩, .slice none 0 0] 37)).heap.size = w.heap.size + 2 by simp] at g2
  exact ⟨h1.later (alloc_below _ _), (heap_alloc_old _ _ (lt_of_heap g1)).trans g1, g2, VRow.nil 37 _, fun r hr => (by cases hr), fun i _ h => absurd h (by omega)⟩

theorem TOW.box {w w6 w7 : World} {a b c d : Value} {k : Int} {n : Nat} {s : ByteArray} {l : List Tr} {ρ : Option Nat} {oo : Option Addr} {cap j : Nat} {xs : List Value} (h : TOW w a b c d k n s l ρ oo cap j xs w6) (hc : Chg w6.heap.size ρ w6 w7) :
    w7.cell? ⟨w.heap.size + 2, 3, none⟩ = some (.slice oo j cap) ∧ w7.frozen? ⟨w.heap.size + 2, 3, none⟩ = false := by
  have l3 := lt_of_heap h.2.2.1
  have hb := (hc.2.2.2.2 (w.heap.size + 2) l3 (by omega) (fun e => by have := h.2.2.2.2.1 _ e; omega)).trans h.2.2.1
  exact ⟨by rw [cell_of_row w7 _ 3 _ _ _ hb]; rfl, frozen_of_row w7 _ 3 _ _ hb⟩
theorem tow_done {w wr w' : World} {a b c d : Value} {k : Int} {n : Nat} {s : ByteArray} {l : List Tr} {ρ : Option Nat} {oo : Option Addr} {cap : Nat} {xs : List Value} (hn : n ≤ 18446744073709551615) (hsz : s.size ≤ 1000000000) (hlen : l.length ≤ 1000000)
    (h : TOW w a b c d k n s l ρ oo cap l.length xs wr) (hs : wr.heap.size ≤ w'.heap.size) (hk : ∀ q, q ≠ w.heap.size + 1 → w'.heap[q]? = wr.heap[q]?) : VInP w' (fun b => w.heap.size ≤ b) (.mk k n s l) (.int .i64 k) (.int .u64 (n : Int)) (.string s) (.slice oo l.length cap) := by
  obtain ⟨_, _, _, hR, hr, hE⟩ := h
  unfold VInP
  rcases Nat.eq_zero_or_pos l.length with h0 | h0
  · refine ⟨rfl, rfl, hn, rfl, ⟨hsz, hlen⟩, oo, cap, 0, 0, rfl, fun hp => absurd hp (by omega), VInPL.of (fun i hi => absurd hi (by omega))⟩
  · obtain ⟨d0, _, _, _, x0, _⟩ := hE 0 h0 h0
    obtain ⟨r, e1, e2, _⟩ := hR.cell _ _ x0
    have hrl := hR.lt r e1
    have hrb := hr r e1
    refine ⟨rfl, rfl, hn, rfl, ⟨hsz, hlen⟩, oo, cap, r, 0, rfl, fun _ => ⟨e2, by omega, by omega⟩, VInPL.of (fun i hi => ?_)⟩
    obtain ⟨d0, d1, d2, d3, x0, x1, x2, x3, hv⟩ := hE i hi hi
    have cell : ∀ j u, xs[j]? = some u → w'.cell? ⟨r, j, none⟩ = some u := fun j u hj => by
      obtain ⟨r', q1, _, q3⟩ := hR.cell j u hj
      rw [e1] at q1
      cases q1
      exact (World.cell?_of_block (a := ⟨r, j, none⟩) (hk r (by omega))).trans q3
    rw [Nat.zero_add]
    exact ⟨d0, d1, d2, d3, cell _ _ x0, cell _ _ x1, cell _ _ x2, cell _ _ x3, VInP.keep hs (fun b' hb' hP => ⟨hk b' (by omega), by omega⟩) _ hv⟩
def ToP (t : Tr) (w : World) (e : Ending) (w' : World) : Prop := ∃ d0 d1 d2 d3, e = .returned (.agg #[d0, d1, d2, d3]) ∧ VInP w' (fun b => w.heap.size ≤ b) t d0 d1 d2 d3 ∧ Below w.heap.size w w'
theorem news_at (W : World) (vs : List Value) (T : TypeId) (g : Nat) (hg : g = W.heap.size) : ∀ j u, vs[j]? = some u → (W.alloc (.cells vs.toArray T)).cell? ((⟨g, 0, none⟩ : Addr).add j) = some u := by
  subst hg
  intro j u hj
  rw [plain_add, cell_of_row _ W.heap.size j _ _ _ (heap_alloc_new W _)]
  simpa using hj

set_option maxRecDepth 100000 in
set_option maxHeartbeats 1000000 in
theorem to_step (k : Int) (n : Nat) (hn : n ≤ 18446744073709551615) (s : ByteArray) (hsz : s.size ≤ 1000000000) (l : List Tr) (o : Option Addr) (cap b off : Nat) (hlen : l.length ≤ 1000000)
    (ih : ∀ x ∈ l, ∀ (c0 c1 c2 c3 : Value) (w : World), VIn w x c0 c1 c2 c3 → Calls Try.prog 13 #[.agg #[c0, c1, c2, c3]] w (ToP x w))
    (w : World) (ho : 0 < l.length → o = some ⟨b, off, none⟩ ∧ b < w.heap.size) (hl : VInL w b off l) :
    Calls Try.prog 13 #[.agg #[.int .i64 k, .int .u64 (n : Int), .string s, .slice o l.length cap]] w (ToP (.mk k n s l) w) := by
  obtain ⟨m, hm⟩ : ∃ m, m = l.length := ⟨_, rfl⟩
  rw [← hm] at hlen ⊢
  have HM := Lib.hid hm
  have HO := Lib.hid ho
  have HL := Lib.hid hl
  have IH := Lib.hid ih
  have HNS := Lib.hid (And.intro hn hsz)
  have H0 := Lib.hid (tow_start w (.int .i64 k) (.int .u64 (n : Int)) (.string s) (.slice o m cap) k n s l)
  have hst0 := store37 ((w.alloc (.cells #[.int .i64 k, .int .u64 (n : Int), .string s, .slice o m cap] 27)).alloc (.cells #[.int .i64 0, .int .u64 0, .string ⟨#[]⟩, .slice none 0 0] 37)) k n s none 0 0
  clear ho hl ih hm hn hsz
  go_enter Try.func13, Try.ntmps13
  go_upto_region 2 with fail
  clear hst0
  refine gen_wp (S := fun wz => Hid (TOW w (.int .i64 k) (.int .u64 (n : Int)) (.string s) (.slice o m cap) k n s l none none 0 0 [] wz)) H0 ?_
  intro W1 H1
  obtain ⟨c0, c1, c2, c3⟩ := H1.out.1.1
  clear H0
  go_wp2_with fail
  clear c0 c1 c2 c3
  go_loopw [16] (fun iv wr => ∃ (j : Nat) (ρ : Option Nat) (oo : Option Addr) (cc : Nat) (xs : List Value), j ≤ m ∧ iv = .int .i64 (j : Int) ∧ Hid (TOW w (.int .i64 k) (.int .u64 (n : Int)) (.string s) (.slice o m cap) k n s l ρ oo cc j xs wr)) (fun iv _ => m - (intOf iv).toNat)
  case atStart => exact ⟨0, none, none, 0, [], Nat.zero_le _, rfl, H1⟩
  case round =>
    clear H1
    obtain ⟨j, ρ, oo, cc, xs, hj, rfl, hT⟩ := hrel
    by_cases hjm : j < m
    · have hjl : j < l.length := by rw [← HM.out]; exact hjm
      obtain ⟨ho', hb'⟩ := HO.out (by omega)
      subst ho'
      have hB := Lib.hid hT.out.1.2.2
      obtain ⟨d0, d1, d2, d3, e0, e1, e2, e3, hv⟩ := HL.out.at j hjl
      obtain ⟨k', n', s', o', len', cap', rfl, rfl, rfl, rfl⟩ := hv.cells
      have f0 := (hB.out.cell (p := ⟨b, _, none⟩) hb').trans e0
      have f1 := (hB.out.cell (p := ⟨b, _, none⟩) hb').trans e1
      have f2 := (hB.out.cell (p := ⟨b, _, none⟩) hb').trans e2
      have f3 := (hB.out.cell (p := ⟨b, _, none⟩) hb').trans e3
      have hst := store27 wr k' n' s' o' len' cap'
      have KJ : Hid (∀ wz, Below w.heap.size w wz → Calls Try.prog 13 #[.agg #[.int .i64 k', .int .u64 (n' : Int), .string s', .slice o' len' cap']] wz (ToP l[j] wz)) := Lib.hid (fun wz hb => IH.out l[j] (List.getElem_mem hjl) _ _ _ _ wz (hv.later hb))
      clear e0 e1 e2 e3 hv
      go_upto_region 5 with fail
      obtain ⟨wa, hwa⟩ : ∃ wa, wa = wr.alloc (.cells #[.int .i64 k', .int .u64 (n' : Int), .string s', .slice o' len' cap'] 27) := ⟨_, rfl⟩
      rw [← hwa]
      have HBA := Lib.hid (show Below wr.heap.size wr wa by rw [hwa]; exact alloc_below _ _)
      have HXC := Lib.hid (show wa.cell? ⟨wr.heap.size, 0, none⟩ = some (.int .i64 k') ∧ wa.cell? ⟨wr.heap.size, 1, none⟩ = some (.int .u64 (n' : Int)) ∧ wa.cell? ⟨wr.heap.size, 2, none⟩ = some (.string s') ∧ wa.cell? ⟨wr.heap.size, 3, none⟩ = some (.slice o' len' cap') by rw [hwa]; exact four_new _ _ _ _ _ _)
      have HTA := Lib.hid (hT.out.later HBA.out)
      have HTD := Lib.hid (HTA.out.later (show Below wa.heap.size wa wa.drew from ((Below.refl _ _).drew)))
      clear hwa f0 f1 f2 f3 hst hT hB
      have HKP : Hid (∀ b', wa.heap.size ≤ b' → (w.heap.size + 3 ≤ b' ∧ ρ ≠ some b')) := Lib.hid (fun b' hb' => ⟨by have := lt_of_heap HTA.out.2.2.1; omega, fun e => by have := HTA.out.2.2.2.1.lt _ e; omega⟩)
      obtain ⟨g0, g1, g2, g3⟩ := HXC.out
      have q3 : wa.cell? ⟨w.heap.size + 2, 3, none⟩ = some (.slice oo j cc) := by rw [cell_of_row wa _ 3 _ _ _ HTA.out.2.2.1]; rfl
      go_region_law (first
        | (go_simp; go_at_call 13; refine (KJ.out _ (by first | exact HTA.out.1.2.2 | exact HTD.out.1.2.2)).mono ?_; rintro x w5 ⟨d0, d1, d2, d3, rfl, hvp, hb5⟩; obtain ⟨k2, n2, s2, o2, len2, cap2, rfl, rfl, rfl, rfl⟩ := hvp.cells; have HT5 := Lib.hid (HTD.out.later hb5); have HVP := Lib.hid hvp; have r3 : w5.cell? ⟨w.heap.size + 2, 3, none⟩ = some (.slice oo j cc) := (by rw [cell_of_row w5 _ 3 _ _ _ HT5.out.2.2.1]; rfl); have r4 := ((alloc_below w5 (.cells #[.int .i64 k2, .int .u64 (n2 : Int), .string s2, .slice o2 len2 cap2] 37)).cell (p := ⟨w.heap.size + 2, 3, none⟩) (lt_of_heap HT5.out.2.2.1)).trans r3)
        | (refine step_vrow rfl (.tmp 21) (.tmp 24) 35 37 rfl Try.underlying35 info37 (w5.alloc (.cells #[.int .i64 k2, .int .u64 (n2 : Int), .string s2, .slice o2 len2 cap2] 37)).heap.size ρ oo cc j xs (HT5.out.later (alloc_below w5 _)).2.2.2.1 (by omega) _ [.int .i64 k2, .int .u64 (n2 : Int), .string s2, .slice o2 len2 cap2] rfl (news_at w5 _ 37 _ rfl) (by intro u hu; simp at hu; rcases hu with rfl | rfl | rfl | rfl <;> rfl) rfl rfl ?_; intro o7 cap7 w7 ρ7 hr7 hn7 hc7; obtain ⟨s3, fz⟩ := (HT5.out.later (alloc_below w5 _)).box hc7; have HTP := Lib.hid (tow_put hjl HT5.out (VInP.keep (Nat.le_refl _) (fun b' _ hP => ⟨rfl, HKP.out b' hP⟩) _ HVP.out) (alloc_below w5 _) hr7 hn7 hc7)))
      all_goals
        try simp only [Exit.then]
        try apply_assumption
        go_wp2
        go_roundw
        case rel => exact ⟨j + 1, ρ7, o7, cap7, xs ++ [.int .i64 k2, .int .u64 (n2 : Int), .string s2, .slice o2 len2 cap2], by omega, by go_num, HTP⟩
        case measure => simp [intOf]; omega
    · obtain rfl : j = m := by omega
      have hT2 := hT
      rw [HM.out] at hT2
      have b1 := hT.out.2.1
      have b2 := hT.out.2.2.1
      have z0 : wr.cell? ⟨w.heap.size + 1, 0, none⟩ = some (.int .i64 0) := by rw [cell_of_row wr _ 0 _ _ _ b1]; rfl
      have z1 : wr.cell? ⟨w.heap.size + 1, 1, none⟩ = some (.int .u64 0) := by rw [cell_of_row wr _ 1 _ _ _ b1]; rfl
      have z2 : wr.cell? ⟨w.heap.size + 1, 2, none⟩ = some (.string ⟨#[]⟩) := by rw [cell_of_row wr _ 2 _ _ _ b1]; rfl
      have z3 : wr.cell? ⟨w.heap.size + 1, 3, none⟩ = some (.slice none 0 0) := by rw [cell_of_row wr _ 3 _ _ _ b1]; rfl
      have y0 := frozen_of_row wr (w.heap.size + 1) 0 _ _ b1
      have y1 := frozen_of_row wr (w.heap.size + 1) 1 _ _ b1
      have y2 := frozen_of_row wr (w.heap.size + 1) 2 _ _ b1
      have y3 := frozen_of_row wr (w.heap.size + 1) 3 _ _ b1
      have x0 : wr.cell? ⟨w.heap.size + 2, 0, none⟩ = some (.int .i64 k) := by rw [cell_of_row wr _ 0 _ _ _ b2]; rfl
      have x1 : wr.cell? ⟨w.heap.size + 2, 1, none⟩ = some (.int .u64 (n : Int)) := by rw [cell_of_row wr _ 1 _ _ _ b2]; rfl
      have x2 : wr.cell? ⟨w.heap.size + 2, 2, none⟩ = some (.string s) := by rw [cell_of_row wr _ 2 _ _ _ b2]; rfl
      have x3 : wr.cell? ⟨w.heap.size + 2, 3, none⟩ = some (.slice oo j cc) := by rw [cell_of_row wr _ 3 _ _ _ b2]; rfl
      have HFIN : Hid (∀ w', wr.heap.size ≤ w'.heap.size → (∀ q, q ≠ w.heap.size + 1 → w'.heap[q]? = wr.heap[q]?) → VInP w' (fun b => w.heap.size ≤ b) (.mk k n s l) (.int .i64 k) (.int .u64 (n : Int)) (.string s) (.slice oo j cc)) := Lib.hid (fun w' h1 h2 => by
        have h := tow_done HNS.out.1 HNS.out.2 (by rw [← HM.out]; exact hlen) hT2.out h1 h2
        rw [← HM.out] at h
        exact h)
      have HB := Lib.hid hT.out.1.2.2
      clear b1 b2 hT hT2
      go_wp2
      refine bodyPost_ret (v := .agg #[.int .i64 k, .int .u64 (n : Int), .string s, .slice oo j cc]) (by simp [results, Try.results13, go_sem, *]) rfl ⟨_, _, _, _, rfl, HFIN.out _ ?_ ?_, ?_⟩
      · simp
      · intro q hq
        rw [heap_setCell_other _ ⟨w.heap.size + 1, 3, none⟩ q _ hq, heap_setCell_other _ ⟨w.heap.size + 1, 2, none⟩ q _ hq, heap_setCell_other _ ⟨w.heap.size + 1, 1, none⟩ q _ hq, heap_setCell_other _ ⟨w.heap.size + 1, 0, none⟩ q _ hq]
      · have hle : w.heap.size ≤ w.heap.size + 1 := by omega
        exact (((HB.out.setCell (p := ⟨w.heap.size + 1, 0, none⟩) hle _).setCell (p := ⟨w.heap.size + 1, 1, none⟩) hle _).setCell (p := ⟨w.heap.size + 1, 2, none⟩) hle _).setCell (p := ⟨w.heap.size + 1, 3, none⟩) hle _
theorem to_any : ∀ (t : Tr) (c0 c1 c2 c3 : Value) (w : World), VIn w t c0 c1 c2 c3 → Calls Try.prog 13 #[.agg #[c0, c1, c2, c3]] w (ToP t w) := by
  refine Tr.ind ?_
  intro k n s l ih c0 c1 c2 c3 w h
  unfold VIn at h
  obtain ⟨rfl, rfl, hn, rfl, ⟨hsz, hlen⟩, o, cap, b, off, rfl, ho, hl⟩ := h
  exact to_step k n hn s hsz l o cap b off hlen ih w ho hl
end Go.Proofs.Ytlochpnifjmefaa
