/- The document's Next of values: a list under way. -/
import Derived.Test.YtdojepkmjifoeaaJ20
import Derived.Test.YtdojepkmjifoeaaJ22
import Derived.Test.YtdojepkmjifoeaaJ16
set_option linter.unusedVariables false
set_option linter.unusedSimpArgs false
namespace Go.Proofs.Ytdojepkmjifoeaa
open Go.RowKit

/-- The values of a list under way, in memory: all rows from B on, none of them the list's own. -/
def CT (B : Nat) (l : List Tr) (ρ : Option Nat) (oo : Option Addr) (cap j : Nat) (xs : List Value) (wz : World) : Prop :=
  VRow 62 ρ oo cap j xs wz ∧ (∀ r, ρ = some r → B ≤ r) ∧
    ∀ i (h : i < l.length), i < j → ∃ d0 d1 d2 d3, xs[i * 4]? = some d0 ∧ xs[i * 4 + 1]? = some d1 ∧ xs[i * 4 + 2]? = some d2 ∧ xs[i * 4 + 3]? = some d3 ∧ VInP wz (fun b => B ≤ b ∧ ρ ≠ some b) l[i] d0 d1 d2 d3
theorem CT.keep {B : Nat} {wz w1 : World} {l : List Tr} {ρ : Option Nat} {oo : Option Addr} {cap j : Nat} {xs : List Value} (h : CT B l ρ oo cap j xs wz) (hs : wz.heap.size ≤ w1.heap.size) (hb : ∀ b, b < wz.heap.size → B ≤ b → w1.heap[b]? = wz.heap[b]?) : CT B l ρ oo cap j xs w1 := by
  obtain ⟨h4, h5, h6⟩ := h
  refine ⟨h4.keep (fun r hr => hb _ (h4.lt r hr) (h5 r hr)), h5, fun i hi hj => ?_⟩
  obtain ⟨d0, d1, d2, d3, x0, x1, x2, x3, hv⟩ := h6 i hi hj
  exact ⟨d0, d1, d2, d3, x0, x1, x2, x3, VInP.keep hs (fun b hb' hP => ⟨hb b hb' hP.1, hP⟩) _ hv⟩
theorem CT.later {B : Nat} {wz w1 : World} {l : List Tr} {ρ : Option Nat} {oo : Option Addr} {cap j : Nat} {xs : List Value} (h : CT B l ρ oo cap j xs wz) (hb : Below wz.heap.size wz w1) : CT B l ρ oo cap j xs w1 := h.keep hb.size (fun b hb' _ => hb.block b hb')
theorem CT.set {B : Nat} {wz : World} {l : List Tr} {ρ : Option Nat} {oo : Option Addr} {cap j : Nat} {xs : List Value} (h : CT B l ρ oo cap j xs wz) {g : Nat} (hg : g < B) (k : Nat) (v : Value) : CT B l ρ oo cap j xs (wz.setCell ⟨g, k, none⟩ v) := h.keep (by simp) (fun b _ hB => heap_setCell_other _ ⟨g, k, none⟩ b _ (by show b ≠ g; omega))
theorem CT.nil (B : Nat) (w : World) : CT B [] none none 0 0 [] w := ⟨VRow.nil 62 w, fun r h => (by cases h), fun i h => absurd h (by simp)⟩
theorem ct_put {B : Nat} {w6 w7 : World} {h : List Tr} {t : Tr} {ρ ρ' : Option Nat} {oo o' : Option Addr} {cap cap' : Nat} {xs : List Value} {d0 d1 d2 d3 : Value} (hB : B ≤ w6.heap.size)
    (g6 : CT B h ρ oo cap h.length xs w6) (hv6 : VInP w6 (fun b => B ≤ b ∧ ρ ≠ some b) t d0 d1 d2 d3)
    (hR : VRow 62 ρ' o' cap' (h.length + 1) (xs ++ [d0, d1, d2, d3]) w7) (hn : Nxt ρ ρ' w6) (hc : Chg w6.heap.size ρ w6 w7) :
    CT B (h ++ [t]) ρ' o' cap' (h.length + 1) (xs ++ [d0, d1, d2, d3]) w7 := by
  obtain ⟨g4, g5, g7⟩ := g6
  have hx : xs.length = h.length * 4 := g4.1
  have hnew : ∀ r, ρ' = some r → B ≤ r := by
    intro r hr
    rcases hn with rfl | ⟨q, rfl, hq⟩
    · exact g5 r hr
    · cases hr; omega
  have hkeep : ∀ b', b' < w6.heap.size → (B ≤ b' ∧ ρ ≠ some b') → w7.heap[b']? = w6.heap[b']? ∧ (B ≤ b' ∧ ρ' ≠ some b') := by
    intro b' hb' hP
    refine ⟨hc.2.2.2.2 b' hb' (by omega) hP.2, hP.1, ?_⟩
    rcases hn with rfl | ⟨q, rfl, hq⟩
    · exact hP.2
    · intro e; cases e; omega
  refine ⟨hR, hnew, ?_⟩
  intro i hi hij
  by_cases hlt : i < h.length
  · obtain ⟨e0, e1, e2, e3, x0, x1, x2, x3, hvi⟩ := g7 i hlt hlt
    rw [List.getElem_append_left hlt]
    refine ⟨e0, e1, e2, e3, ?_, ?_, ?_, ?_, VInP.keep hc.2.2.2.1 hkeep _ hvi⟩
    all_goals (rw [List.getElem?_append_left (by rw [hx]; omega)]; assumption)
  · obtain rfl : i = h.length := by omega
    rw [List.getElem_append_right (Nat.le_refl _)]
    simp only [Nat.sub_self, List.getElem_cons_zero]
    refine ⟨d0, d1, d2, d3, ?_, ?_, ?_, ?_, VInP.keep hc.2.2.2.1 hkeep _ hv6⟩
    all_goals (rw [List.getElem?_append_right (by rw [hx]; omega), hx])
    · rw [Nat.sub_self]; rfl
    · rw [show h.length * 4 + 1 - h.length * 4 = 1 by omega]; rfl
    · rw [show h.length * 4 + 2 - h.length * 4 = 2 by omega]; rfl
    · rw [show h.length * 4 + 3 - h.length * 4 = 3 by omega]; rfl
/-- A list that is whole, as a value. -/
theorem ct_done {B : Nat} {wr : World} {l : List Tr} {ρ : Option Nat} {oo : Option Addr} {cap : Nat} {xs : List Value} {P : Nat → Prop} (hl : l.length ≤ 1000000) (hP : ∀ b, B ≤ b → P b) (h : CT B l ρ oo cap l.length xs wr) : VInP wr P (.mk 3 0 ⟨#[]⟩ l) (.int .i64 3) (.int .u64 0) (.string ⟨#[]⟩) (.slice oo l.length cap) := by
  obtain ⟨hR, hr, hE⟩ := h
  unfold VInP
  refine ⟨rfl, rfl, by omega, rfl, ⟨by decide, hl⟩, ?_⟩
  rcases Nat.eq_zero_or_pos l.length with h0 | h0
  · exact ⟨oo, cap, 0, 0, rfl, fun hp => absurd hp (by omega), VInPL.of (fun i hi => absurd hi (by omega))⟩
  · obtain ⟨d0, _, _, _, x0, _⟩ := hE 0 h0 h0
    obtain ⟨r, e1, e2, _⟩ := hR.cell _ _ x0
    refine ⟨oo, cap, r, 0, rfl, fun _ => ⟨e2, hR.lt r e1, hP r (hr r e1)⟩, VInPL.of (fun i hi => ?_)⟩
    obtain ⟨d0, d1, d2, d3, x0, x1, x2, x3, hv⟩ := hE i hi hi
    have cell : ∀ j u, xs[j]? = some u → wr.cell? ⟨r, j, none⟩ = some u := fun j u hj => by
      obtain ⟨r', q1, _, q3⟩ := hR.cell j u hj
      rw [e1] at q1
      cases q1
      exact q3
    rw [Nat.zero_add]
    exact ⟨d0, d1, d2, d3, cell _ _ x0, cell _ _ x1, cell _ _ x2, cell _ _ x3, VInP.keep (Nat.le_refl _) (fun b' _ hq => ⟨rfl, hP b' hq.1⟩) _ hv⟩
/-- What holds at each turn of the list's loop. -/
structure LI (s : ByteArray) (p d a n : Nat) (w : World) (g6 g9 q i : Nat) (h : List Tr) (ρ : Option Nat) (oo : Option Addr) (cap : Nat) (xs : List Value) (wz : World) : Prop where
  len : h.length = i
  le : i ≤ n
  at_ : a + i ≤ q ∧ q ≤ s.size
  rd : ∀ st, st.length = d → Go.Proofs.Ytdojepkmjifoeaa.rd .v st (s.data.toList.drop p) = Go.Proofs.Ytdojepkmjifoeaa.rd .n ((n - i, h) :: st) (s.data.toList.drop q)
  f : F2 w g6 g9 (.int .i64 3) (.int .u64 0) (.string ⟨#[]⟩) (.slice oo i cap) wz
  c : CT (g9 + 1) h ρ oo cap i xs wz
theorem LI.next {s : ByteArray} {p d a n : Nat} {w : World} {g6 g9 q i : Nat} {h : List Tr} {ρ ρ' : Option Nat} {oo o' : Option Addr} {cap cap' : Nat} {xs : List Value} {wz w4 w7 : World} {q' : Nat} {t : Tr} {d0 d1 d2 d3 : Value}
    (H : LI s p d a n w g6 g9 q i h ρ oo cap xs wz) (hi : i < n) (hb4 : Below wz.heap.size wz w4) (hv : VInP w4 (fun b => wz.heap.size ≤ b) t d0 d1 d2 d3) (hq : q < q' ∧ q' ≤ s.size) (hrd : ∀ st, st.length = d + 1 → Go.Proofs.Ytdojepkmjifoeaa.rd .v st (s.data.toList.drop q) = Go.Proofs.Ytdojepkmjifoeaa.rd (.w t) st (s.data.toList.drop q'))
    (o1 o2 : Obj) (hR : VRow 62 ρ' o' cap' (i + 1) (xs ++ [d0, d1, d2, d3]) w7) (hn : Nxt ρ ρ' ((w4.alloc o1).alloc o2)) (hc : Chg ((w4.alloc o1).alloc o2).heap.size ρ ((w4.alloc o1).alloc o2) w7) :
    LI s p d a n w g6 g9 q' (i + 1) (h ++ [t]) ρ' o' cap' (xs ++ [d0, d1, d2, d3]) (w7.setCell ⟨g9, 3, none⟩ (.slice o' (i + 1) cap')) := by
  obtain ⟨rfl, hle, ha, hr, hf, hct⟩ := H
  have hbb : Below wz.heap.size wz ((w4.alloc o1).alloc o2) := (hb4.alloc hb4.size _).alloc (by have := hb4.size; simp; omega) _
  have hg9 := lt_of_heap hf.v
  have hs4 := hb4.size
  have hct6 := hct.later hbb
  have hv6 : VInP ((w4.alloc o1).alloc o2) (fun b => g9 + 1 ≤ b ∧ ρ ≠ some b) t d0 d1 d2 d3 := VInP.keep (by simp; omega) (fun b hb hP => ⟨((Below.refl w4.heap.size w4).alloc (Nat.le_refl _) o1 |>.alloc (by simp) o2).block b hb, by omega, fun e => by have := hct.1.lt b e; omega⟩) _ hv
  have hput := ct_put (by simp; omega) hct6 hv6 hR hn hc
  have hf6 := hf.later hbb
  refine ⟨by simp, by omega, ⟨by omega, hq.2⟩, fun st hst => ?_, ?_, ?_⟩
  · have e : n - h.length = (n - (h.length + 1)) + 1 := by omega
    rw [hr st hst, e, rd_more, hrd _ (by simp [hst]), rd_push]
    rfl
  · have hne : g6 ≠ g9 := by have := hf.g; omega
    have hkz : ∀ k, k < ((w4.alloc o1).alloc o2).heap.size → k ≤ g9 → w7.heap[k]? = ((w4.alloc o1).alloc o2).heap[k]? := fun k hk hkg => hc.2.2.2.2 k hk (by omega) (fun e => by have := hct.2.1 k e; omega)
    have hz7 := (hkz g6 (lt_of_heap hf6.z) (by have := hf.g; omega)).trans hf6.z
    have hv7 := (hkz g9 (lt_of_heap hf6.v) (Nat.le_refl _)).trans hf6.v
    refine ⟨(heap_setCell_other _ ⟨g9, 3, none⟩ g6 _ hne).trans hz7, heap_setCell_same w7 g9 3 _ 62 _ hv7, ?_, hf.g⟩
    have h7 : Below w.heap.size w w7 := hf6.b.trans ⟨hc.1, hc.2.1, hc.2.2.1, hc.2.2.2.1, fun k hk => hkz k (by have := hf6.b.size; omega) (by have := hf.g; omega)⟩
    exact h7.setCell (p := ⟨g9, 3, none⟩) (by show w.heap.size ≤ g9; have := hf.g; omega) _
  · exact hput.set (Nat.lt_succ_self g9) 3 _
theorem nx_pre {s : ByteArray} {p d a n : Nat} {w : World} {g6 g9 q i : Nat} {h : List Tr} {ρ : Option Nat} {oo : Option Addr} {cap : Nat} {xs : List Value} {wz w4 w7 : World}
    (H : LI s p d a n w g6 g9 q i h ρ oo cap xs wz) (hb4 : Below wz.heap.size wz w4) (o1 o2 : Obj) (hc : Chg ((w4.alloc o1).alloc o2).heap.size ρ ((w4.alloc o1).alloc o2) w7) : w7.cell? ⟨g9, 3, none⟩ = some (.slice oo i cap) ∧ w7.frozen? ⟨g9, 3, none⟩ = false := by
  have hbb : Below wz.heap.size wz ((w4.alloc o1).alloc o2) := (hb4.alloc hb4.size _).alloc (by have := hb4.size; simp; omega) _
  have hf6 := H.f.later hbb
  have hv7 := (hc.2.2.2.2 g9 (lt_of_heap hf6.v) (by have := lt_of_heap hf6.v; omega) (fun e => by have := H.c.2.1 g9 e; omega)).trans hf6.v
  exact ⟨(four_of hv7).1.2.2.2, (four_of hv7).2.2.2.2⟩
end Go.Proofs.Ytdojepkmjifoeaa
