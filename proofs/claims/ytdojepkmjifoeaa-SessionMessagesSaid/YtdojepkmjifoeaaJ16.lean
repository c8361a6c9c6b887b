/- law07.To: a value made anew.; law07.To: the walk.; codec.cloned: what holds while values are made anew, and all within them. -/
import Derived.Test.YtdojepkmjifoeaaJ15
import Derived.Deep.RegionLaw
set_option linter.unusedVariables false
set_option linter.unusedSimpArgs false
namespace Go.Proofs.Ytdojepkmjifoeaa
open Go.RowKit

theorem step_vrow {w : World} {ops : Array Oper} {o : Oper} {a : Act} {K : Act → World → Prop} {Q : Exit → Act → World → Prop} {E : Prop} (hgd : o.guard = none) (s x : Operand) (t T : TypeId)
    (ho : o.op = .call { callee := .builtin .append, args := #[s, x], argTypes := #[t, t] })
    (hu : Try.prog.underlying t = some (.slice T)) (hinfo : (Try.prog.info? T).map (fun i => (i.zero, i.size, i.bytes)) = some (some (.agg #[.int .i64 0, .int .u64 0, .string ⟨#[]⟩, .slice none 0 0]), 4, 56))
    (g : Nat) (ρ : Option Nat) (oo : Option Addr) (cap n : Nat) (xs : List Value) (hR : VRow T ρ oo cap n xs w) (hn : n + 1 ≤ 1000000000) (ad : Addr) (news : List Value) (hl : news.length = 4) (hnews : ∀ j u, news[j]? = some u → w.cell? (ad.add j) = some u) (h1 : ∀ u ∈ news, u.oneCell' = true)
    (hs : a.eval s = .slice oo n cap) (hx : a.eval x = .slice (some ad) 1 1)
    (h : ∀ o' cap' w' ρ', VRow T ρ' o' cap' (n + 1) (xs ++ news) w' → Nxt ρ ρ' w → Chg g ρ w w' → K (a.put o.dst (.slice o' (n + 1) cap')) w') :
    if Region.wanted o (yielded ops a.tmps) = true then Oper.wp Try.prog o a w K Q else E := by
  have hw : Region.wanted o (yielded ops a.tmps) = true := by simp [Region.wanted, hgd]
  rw [if_pos hw]
  obtain ⟨o', cap', w', ρ', hr, h2, h3, h4⟩ := vrow_append t T o.type hu hinfo g w ρ oo cap n xs hR hn ad news hl hnews h1
  unfold Oper.wp execOp
  simp only [ho, resolve, invoke, builtin, Sem.run_bind, Sem.run_pure, Result.andThen_ok, List.map_toArray, List.map_cons, List.map_nil, hs, hx, hr]
  exact h o' cap' w' ρ' h2 h3 h4

/-- What holds while a value is made anew: the boxes, the row, what has been made. -/
def TOW (w : World) (a b c d : Value) (k : Int) (n : Nat) (s : ByteArray) (l : List Tr) (ρ : Option Nat) (oo : Option Addr) (cap j : Nat) (xs : List Value) (wz : World) : Prop :=
  VW w a b c d wz ∧ wz.heap[w.heap.size + 1]? = some (.cells #[.int .i64 0, .int .u64 0, .string ⟨#[]⟩, .slice none 0 0] 62 (0, 0)) ∧ wz.heap[w.heap.size + 2]? = some (.cells #[.int .i64 k, .int .u64 (n : Int), .string s, .slice oo j cap] 62 (0, 0)) ∧ VRow 62 ρ oo cap j xs wz ∧ (∀ r, ρ = some r → w.heap.size + 3 ≤ r) ∧
    ∀ i (h : i < l.length), i < j → ∃ d0 d1 d2 d3, xs[i * 4]? = some d0 ∧ xs[i * 4 + 1]? = some d1 ∧ xs[i * 4 + 2]? = some d2 ∧ xs[i * 4 + 3]? = some d3 ∧ VInP wz (fun b => w.heap.size + 3 ≤ b ∧ ρ ≠ some b) l[i] d0 d1 d2 d3
theorem TOW.later {w wz w1 : World} {a b c d : Value} {k : Int} {n : Nat} {s : ByteArray} {l : List Tr} {ρ : Option Nat} {oo : Option Addr} {cap j : Nat} {xs : List Value} (h : TOW w a b c d k n s l ρ oo cap j xs wz) (hb : Below wz.heap.size wz w1) : TOW w a b c d k n s l ρ oo cap j xs w1 := by
  obtain ⟨h1, h2, h3, h4, h5, h6⟩ := h
  refine ⟨h1.later hb, (hb.block _ (lt_of_heap h2)).trans h2, (hb.block _ (lt_of_heap h3)).trans h3, h4.keep (fun r hr => hb.block _ (h4.lt r hr)), h5, fun i hi hj => ?_⟩
  obtain ⟨d0, d1, d2, d3, x0, x1, x2, x3, hv⟩ := h6 i hi hj
  exact ⟨d0, d1, d2, d3, x0, x1, x2, x3, VInP.keep hb.size (fun b hb' hP => ⟨hb.block b hb', hP⟩) _ hv⟩

/-- One more has been made, and put behind. -/
theorem tow_put {w w5 w6 w7 : World} {a b c d : Value} {k : Int} {n : Nat} {s : ByteArray} {l : List Tr} {ρ ρ' : Option Nat} {oo o' : Option Addr} {cap cap' j : Nat} {xs : List Value} {d0 d1 d2 d3 : Value} (hjl : j < l.length)
    (h : TOW w a b c d k n s l ρ oo cap j xs w5) (hv : VInP w5 (fun b => w.heap.size + 3 ≤ b ∧ ρ ≠ some b) l[j] d0 d1 d2 d3) (h56 : Below w5.heap.size w5 w6)
    (hR : VRow 62 ρ' o' cap' (j + 1) (xs ++ [d0, d1, d2, d3]) w7) (hn : Nxt ρ ρ' w6) (hc : Chg w6.heap.size ρ w6 w7) :
    TOW w a b c d k n s l ρ' o' cap' (j + 1) (xs ++ [d0, d1, d2, d3]) (w7.setCell ⟨w.heap.size + 2, 3, none⟩ (.slice o' (j + 1) cap')) := by
  have h6 := h.later h56
  have hv6 : VInP w6 (fun b => w.heap.size + 3 ≤ b ∧ ρ ≠ some b) l[j] d0 d1 d2 d3 := VInP.keep h56.size (fun b hb' hP => ⟨h56.block b hb', hP⟩) _ hv
  obtain ⟨g1, g2, g3, g4, g5, g6⟩ := h6
  have hx : xs.length = j * 4 := g4.1
  have l2 := lt_of_heap g2
  have l3 := lt_of_heap g3
  have hstay : ∀ q, q < w6.heap.size → ρ ≠ some q → w7.heap[q]? = w6.heap[q]? := fun q hq hr => hc.2.2.2.2 q hq (by omega) hr
  have hne : ∀ q, q < w.heap.size + 3 → ρ ≠ some q := fun q hq e => by have := g5 q e; omega
  have hnew : ∀ r, ρ' = some r → w.heap.size + 3 ≤ r := by
    intro r hr
    rcases hn with rfl | ⟨q, rfl, hq⟩
    · exact g5 r hr
    · cases hr; omega
  have hset : ∀ q, q ≠ w.heap.size + 2 → (w7.setCell ⟨w.heap.size + 2, 3, none⟩ (.slice o' (j + 1) cap')).heap[q]? = w7.heap[q]? := fun q hq => heap_setCell_other w7 ⟨w.heap.size + 2, 3, none⟩ q _ hq
  have hbox := hstay (w.heap.size + 2) l3 (hne _ (by omega))
  have h7s := heap_setCell_same w7 (w.heap.size + 2) 3 _ _ (.slice o' (j + 1) cap') (hbox.trans g3)
  have hbel : Below w6.heap.size w6 w6 := Below.refl _ _
  have hkeep : ∀ b', b' < w6.heap.size → (w.heap.size + 3 ≤ b' ∧ ρ ≠ some b') → (w7.setCell ⟨w.heap.size + 2, 3, none⟩ (.slice o' (j + 1) cap')).heap[b']? = w6.heap[b']? ∧ (w.heap.size + 3 ≤ b' ∧ ρ' ≠ some b') := by
    intro b' hb' hP
    refine ⟨(hset b' (by omega)).trans (hstay b' hb' hP.2), hP.1, ?_⟩
    rcases hn with rfl | ⟨q, rfl, hq⟩
    · exact hP.2
    · intro e; cases e; omega
  have hsz : w6.heap.size ≤ (w7.setCell ⟨w.heap.size + 2, 3, none⟩ (.slice o' (j + 1) cap')).heap.size := by simpa using hc.2.2.2.1
  refine ⟨⟨?_, ?_, ?_⟩, (hset _ (by omega)).trans ((hstay _ l2 (hne _ (by omega))).trans g2), by simpa using h7s, hR.keep (fun r hr => hset r (by have := hnew r hr; omega)), hnew, ?_⟩
  · have hb0 : (w7.setCell ⟨w.heap.size + 2, 3, none⟩ (.slice o' (j + 1) cap')).heap[w.heap.size]? = w6.heap[w.heap.size]? := (hset _ (by omega)).trans (hstay _ g1.2.1 (hne _ (by omega)))
    have cc := fun j => World.cell?_of_block (a := ⟨w.heap.size, j, none⟩) hb0
    exact ⟨(cc 0).trans g1.1.1, (cc 1).trans g1.1.2.1, (cc 2).trans g1.1.2.2.1, (cc 3).trans g1.1.2.2.2⟩
  · have := g1.2.1; omega
  · refine g1.2.2.trans ?_
    exact ⟨hc.1, hc.2.1, hc.2.2.1, hsz, fun q hq => (hset q (by omega)).trans (hstay q (by have := g1.2.1; omega) (hne q (by omega)))⟩
  · intro i hi hij
    by_cases hlt : i < j
    · obtain ⟨e0, e1, e2, e3, x0, x1, x2, x3, hvi⟩ := g6 i hi hlt
      refine ⟨e0, e1, e2, e3, ?_, ?_, ?_, ?_, VInP.keep hsz hkeep _ hvi⟩
      all_goals (rw [List.getElem?_append_left (by rw [hx]; omega)]; assumption)
    · obtain rfl : i = j := by omega
      refine ⟨d0, d1, d2, d3, ?_, ?_, ?_, ?_, VInP.keep hsz hkeep _ hv6⟩
      all_goals (rw [List.getElem?_append_right (by rw [hx]; omega), hx])
      · rw [Nat.sub_self]; rfl
      · rw [show i * 4 + 1 - i * 4 = 1 by omega]; rfl
      · rw [show i * 4 + 2 - i * 4 = 2 by omega]; rfl
      · rw [show i * 4 + 3 - i * 4 = 3 by omega]; rfl
end Go.Proofs.Ytdojepkmjifoeaa

namespace Go.Proofs.Ytdojepkmjifoeaa
open Go.RowKit

theorem tow_start (w : World) (a b c d : Value) (k : Int) (n : Nat) (s : ByteArray) (l : List Tr) :
    TOW w a b c d k n s l none none 0 0 [] (((w.alloc (.cells #[a, b, c, d] 69)).alloc (.cells #[.int .i64 0, .int .u64 0, .string ⟨#[]⟩, .slice none 0 0] 62)).alloc (.cells #[.int .i64 k, .int .u64 (n : Int), .string s, .slice none 0 0] 62)) := by
  have h1 := (VW.new w a b c d 69).later (alloc_below _ (.cells #[.int .i64 0, .int .u64 0, .string ⟨#[]⟩, .slice none 0 0] 62))
  have g1 := heap_alloc_new (w.alloc (.cells #[a, b, c, d] 69)) (.cells #[.int .i64 0, .int .u64 0, .string ⟨#[]⟩, .slice none 0 0] 62)
  rw [show (w.alloc (.cells #[a, b, c, d] 69)).heap.size = w.heap.size + 1 by simp] at g1
  have g2 := heap_alloc_new ((w.alloc (.cells #[a, b, c, d] 69)).alloc (.cells #[.int .i64 0, .int .u64 0, .string ⟨#[]⟩, .slice none 0 0] 62)) (.cells #[.int .i64 k, .int .u64 (n : Int), .string s, .slice none 0 0] 62)
  rw [show ((w.alloc (.cells #[a, b, c, d] 69)).alloc (.cells #[.int .i64 0, .int .u64 0, .string ⟨#[]⟩, .slice none 0 0] 62)).heap.size = w.heap.size + 2 by simp] at g2
  exact ⟨h1.later (alloc_below _ _), (heap_alloc_old _ _ (lt_of_heap g1)).trans g1, g2, VRow.nil 62 _, fun r hr => (by cases hr), fun i _ h => absurd h (by omega)⟩

theorem TOW.box {w w6 w7 : World} {a b c d : Value} {k : Int} {n : Nat} {s : ByteArray} {l : List Tr} {ρ : Option Nat} {oo : Option Addr} {cap j : Nat} {xs : List Value} (h : TOW w a b c d k n s l ρ oo cap j xs w6) (hc : Chg w6.heap.size ρ w6 w7) :
    w7.cell? ⟨w.heap.size + 2, 3, none⟩ = some (.slice oo j cap) ∧ w7.frozen? ⟨w.heap.size + 2, 3, none⟩ = false := by
  have l3 := lt_of_heap h.2.2.1
  have hb := (hc.2.2.2.2 (w.heap.size + 2) l3 (by omega) (fun e => by have := h.2.2.2.2.1 _ e; omega)).trans h.2.2.1
  exact ⟨by rw [cell_of_row w7 _ 3 _ _ _ hb]; rfl, frozen_of_row w7 _ 3 _ _ hb⟩
theorem tow_done {w wr w' : World} {a b c d : Value} {k : Int} {n : Nat} {s : ByteArray} {l : List Tr} {ρ : Option Nat} {oo : Option Addr} {cap : Nat} {xs : List Value} (hn : n ≤ 18446744073709551615) (hsz : s.size ≤ 1000000000) (hlen : l.length ≤ 1000000)
    (h : TOW w a b c d k n s l ρ oo cap l.length xs wr) (hs : wr.heap.size ≤ w'.heap.size) (hk : ∀ q, q ≠ w.heap.size + 1 → w'.heap[q]? = wr.heap[q]?) : VInP w' (fun b => w.heap.size ≤ b) (.mk k n s l) (.int .i64 k) (.int .u64 (n : Int)) (.string s) (.slice oo l.length cap) := by
  obtain ⟨_, _, _, hR, hr, hE⟩ := h
  unfold VInP
  rcases Nat.eq_zero_or_pos l.length with h0 | h0
  · refine ⟨rfl, rfl, hn, rfl, ⟨hsz, hlen⟩, oo, cap, 0, 0, rfl, fun hp => absurd hp (by omega), VInPL.of (fun i hi => absurd hi (by omega))⟩
  · obtain ⟨d0, _, _, _, x0, _⟩ := hE 0 h0 h0
    obtain ⟨r, e1, e2, _⟩ := hR.cell _ _ x0
    have hrl := hR.lt r e1
    have hrb := hr r e1
    refine ⟨rfl, rfl, hn, rfl, ⟨hsz, hlen⟩, oo, cap, r, 0, rfl, fun _ => ⟨e2, by omega, by omega⟩, VInPL.of (fun i hi => ?_)⟩
    obtain ⟨d0, d1, d2, d3, x0, x1, x2, x3, hv⟩ := hE i hi hi
    have cell : ∀ j u, xs[j]? = some u → w'.cell? ⟨r, j, none⟩ = some u := fun j u hj => by
      obtain ⟨r', q1, _, q3⟩ := hR.cell j u hj
      rw [e1] at q1
      cases q1
      exact (World.cell?_of_block (a := ⟨r, j, none⟩) (hk r (by omega))).trans q3
    rw [Nat.zero_add]
    exact ⟨d0, d1, d2, d3, cell _ _ x0, cell _ _ x1, cell _ _ x2, cell _ _ x3, VInP.keep hs (fun b' hb' hP => ⟨hk b' (by omega), by omega⟩) _ hv⟩
def ToP (t : Tr) (w : World) (e : Ending) (w' : World) : Prop := ∃ d0 d1 d2 d3, e = .returned (.agg #[d0, d1, d2, d3]) ∧ VInP w' (fun b => w.heap.size ≤ b) t d0 d1 d2 d3 ∧ Below w.heap.size w w'
theorem news_at (W : World) (vs : List Value) (T : TypeId) (g : Nat) (hg : g = W.heap.size) : ∀ j u, vs[j]? = some u → (W.alloc (.cells vs.toArray T)).cell? ((⟨g, 0, none⟩ : Addr).add j) = some u := by
  subst hg
  intro j u hj
  rw [plain_add, cell_of_row _ W.heap.size j _ _ _ (heap_alloc_new W _)]
  simpa using hj

end Go.Proofs.Ytdojepkmjifoeaa

namespace Go.Proofs.Ytdojepkmjifoeaa
open Go.RowKit

/-- What holds while values are made anew. -/
def ClW (w : World) (l : List Tr) (ρ : Option Nat) (oo : Option Addr) (cap j : Nat) (xs : List Value) (wz : World) : Prop :=
  Below w.heap.size w wz ∧ VRow 69 ρ oo cap j xs wz ∧ (∀ r, ρ = some r → w.heap.size ≤ r) ∧
    ∀ i (h : i < l.length), i < j → ∃ d0 d1 d2 d3, xs[i * 4]? = some d0 ∧ xs[i * 4 + 1]? = some d1 ∧ xs[i * 4 + 2]? = some d2 ∧ xs[i * 4 + 3]? = some d3 ∧ VInP wz (fun b => w.heap.size ≤ b ∧ ρ ≠ some b) l[i] d0 d1 d2 d3
theorem ClW.later {w wz w1 : World} {l : List Tr} {ρ : Option Nat} {oo : Option Addr} {cap j : Nat} {xs : List Value} (h : ClW w l ρ oo cap j xs wz) (hb : Below wz.heap.size wz w1) : ClW w l ρ oo cap j xs w1 := by
  obtain ⟨h1, h4, h5, h6⟩ := h
  refine ⟨h1.trans (hb.mono h1.size), h4.keep (fun r hr => hb.block _ (h4.lt r hr)), h5, fun i hi hj => ?_⟩
  obtain ⟨d0, d1, d2, d3, x0, x1, x2, x3, hv⟩ := h6 i hi hj
  exact ⟨d0, d1, d2, d3, x0, x1, x2, x3, VInP.keep hb.size (fun b hb' hP => ⟨hb.block b hb', hP⟩) _ hv⟩
theorem clw_put {w w6 w7 : World} {l : List Tr} {ρ ρ' : Option Nat} {oo o' : Option Addr} {cap cap' j : Nat} {xs : List Value} {d0 d1 d2 d3 : Value} (hjl : j < l.length)
    (g6 : ClW w l ρ oo cap j xs w6) (hv6 : VInP w6 (fun b => w.heap.size ≤ b ∧ ρ ≠ some b) l[j] d0 d1 d2 d3)
    (hR : VRow 69 ρ' o' cap' (j + 1) (xs ++ [d0, d1, d2, d3]) w7) (hn : Nxt ρ ρ' w6) (hc : Chg w6.heap.size ρ w6 w7) :
    ClW w l ρ' o' cap' (j + 1) (xs ++ [d0, d1, d2, d3]) w7 := by
  obtain ⟨g1, g4, g5, g7⟩ := g6
  have hx : xs.length = j * 4 := g4.1
  have hnew : ∀ r, ρ' = some r → w.heap.size ≤ r := by
    intro r hr
    rcases hn with rfl | ⟨q, rfl, hq⟩
    · exact g5 r hr
    · cases hr; have := g1.size; omega
  have hkeep : ∀ b', b' < w6.heap.size → (w.heap.size ≤ b' ∧ ρ ≠ some b') → w7.heap[b']? = w6.heap[b']? ∧ (w.heap.size ≤ b' ∧ ρ' ≠ some b') := by
    intro b' hb' hP
    refine ⟨hc.2.2.2.2 b' hb' (by omega) hP.2, hP.1, ?_⟩
    rcases hn with rfl | ⟨q, rfl, hq⟩
    · exact hP.2
    · intro e; cases e; omega
  refine ⟨g1.trans ⟨hc.1, hc.2.1, hc.2.2.1, hc.2.2.2.1, fun q hq => hc.2.2.2.2 q (by have := g1.size; omega) (by have := g1.size; omega) (fun e => by have := g5 q e; omega)⟩, hR, hnew, ?_⟩
  intro i hi hij
  by_cases hlt : i < j
  · obtain ⟨e0, e1, e2, e3, x0, x1, x2, x3, hvi⟩ := g7 i hi hlt
    refine ⟨e0, e1, e2, e3, ?_, ?_, ?_, ?_, VInP.keep hc.2.2.2.1 hkeep _ hvi⟩
    all_goals (rw [List.getElem?_append_left (by rw [hx]; omega)]; assumption)
  · obtain rfl : i = j := by omega
    refine ⟨d0, d1, d2, d3, ?_, ?_, ?_, ?_, VInP.keep hc.2.2.2.1 hkeep _ hv6⟩
    all_goals (rw [List.getElem?_append_right (by rw [hx]; omega), hx])
    · rw [Nat.sub_self]; rfl
    · rw [show i * 4 + 1 - i * 4 = 1 by omega]; rfl
    · rw [show i * 4 + 2 - i * 4 = 2 by omega]; rfl
    · rw [show i * 4 + 3 - i * 4 = 3 by omega]; rfl

/-- What cloned answers. -/
def ClP (l : List Tr) (w : World) (e : Ending) (w' : World) : Prop :=
  ∃ (o : Option Addr) (cap r : Nat), e = .returned (.slice o l.length cap) ∧ (0 < l.length → o = some ⟨r, 0, none⟩ ∧ r < w'.heap.size ∧ w.heap.size ≤ r) ∧ VInPL w' (fun b => w.heap.size ≤ b) r 0 l ∧ Below w.heap.size w w'
theorem clw_done {w wr : World} {l : List Tr} {ρ : Option Nat} {oo : Option Addr} {cap : Nat} {xs : List Value} (h : ClW w l ρ oo cap l.length xs wr) : ClP l w (.returned (.slice oo l.length cap)) wr := by
  obtain ⟨hB, hR, hr, hE⟩ := h
  rcases Nat.eq_zero_or_pos l.length with h0 | h0
  · exact ⟨oo, cap, 0, rfl, fun hp => absurd hp (by omega), VInPL.of (fun i hi => absurd hi (by omega)), hB⟩
  · obtain ⟨d0, _, _, _, x0, _⟩ := hE 0 h0 h0
    obtain ⟨r, e1, e2, _⟩ := hR.cell _ _ x0
    refine ⟨oo, cap, r, rfl, fun _ => ⟨e2, hR.lt r e1, hr r e1⟩, VInPL.of (fun i hi => ?_), hB⟩
    obtain ⟨d0, d1, d2, d3, x0, x1, x2, x3, hv⟩ := hE i hi hi
    have cell : ∀ j u, xs[j]? = some u → wr.cell? ⟨r, j, none⟩ = some u := fun j u hj => by
      obtain ⟨r', q1, _, q3⟩ := hR.cell j u hj
      rw [e1] at q1
      cases q1
      exact q3
    rw [Nat.zero_add]
    exact ⟨d0, d1, d2, d3, cell _ _ x0, cell _ _ x1, cell _ _ x2, cell _ _ x3, VInP.keep (Nat.le_refl _) (fun b' _ hP => ⟨rfl, hP.1⟩) _ hv⟩
/-- A value out of its four cells, the values within made anew. -/
theorem vinp_mk {w w' : World} {P : Nat → Prop} {k : Int} {n : Nat} {s : ByteArray} {l : List Tr} {o : Option Addr} {cap r : Nat} (hn : n ≤ 18446744073709551615) (hz : s.size ≤ 1000000000 ∧ l.length ≤ 1000000)
    (ho : 0 < l.length → o = some ⟨r, 0, none⟩ ∧ r < w'.heap.size ∧ w.heap.size ≤ r) (hl : VInPL w' (fun b => w.heap.size ≤ b) r 0 l) (hP : ∀ b, w.heap.size ≤ b → P b) : VInP w' P (.mk k n s l) (.int .i64 k) (.int .u64 (n : Int)) (.string s) (.slice o l.length cap) := by
  unfold VInP
  refine ⟨rfl, rfl, hn, rfl, hz, o, cap, r, 0, rfl, fun hp => ⟨(ho hp).1, (ho hp).2.1, hP r (ho hp).2.2⟩, VInPL.of (fun i hi => ?_)⟩
  obtain ⟨d0, d1, d2, d3, e0, e1, e2, e3, hv⟩ := hl.at i hi
  exact ⟨d0, d1, d2, d3, e0, e1, e2, e3, VInP.keep (Nat.le_refl _) (fun b' _ h => ⟨rfl, hP b' h⟩) _ hv⟩

end Go.Proofs.Ytdojepkmjifoeaa
