/- Rows of whole numbers that a call owns, one put behind.; SpinTurns: the document's own has, New.; SpinTurns: the document's own New. -/
import Derived.Test.YtbnopmkfmggliaaL09
import Derived.Laws.AppendOwn
set_option linter.unusedVariables false
set_option linter.unusedSimpArgs false
namespace Go.Proofs.Ytbnopmkfmggliaa
open Go.RowKit
open Fl

/-- Nothing has changed but one box and one row. -/
def Chg (g : Nat) (ρ : Option Nat) (w w' : World) : Prop := w'.os = w.os ∧ w'.tape = w.tape ∧ w'.output = w.output ∧ w.heap.size ≤ w'.heap.size ∧ ∀ k, k < w.heap.size → k ≠ g → ρ ≠ some k → w'.heap[k]? = w.heap[k]?
/-- A row is the old one, or a new one. -/
def Nxt (ρ ρ' : Option Nat) (w : World) : Prop := ρ' = ρ ∨ ∃ k, ρ' = some k ∧ w.heap.size ≤ k
theorem Chg.refl (g : Nat) (ρ : Option Nat) (w : World) : Chg g ρ w w := ⟨rfl, rfl, rfl, Nat.le_refl _, fun _ _ _ _ => rfl⟩
theorem Chg.trans {g : Nat} {ρ ρ1 : Option Nat} {w w1 w2 : World} (h : Chg g ρ w w1) (hn : Nxt ρ ρ1 w) (h2 : Chg g ρ1 w1 w2) : Chg g ρ w w2 := by
  obtain ⟨a1, a2, a3, a4, a5⟩ := h
  obtain ⟨b1, b2, b3, b4, b5⟩ := h2
  refine ⟨b1.trans a1, b2.trans a2, b3.trans a3, Nat.le_trans a4 b4, fun k hk hg hr => (b5 k (by omega) hg ?_).trans (a5 k hk hg hr)⟩
  rcases hn with rfl | ⟨q, rfl, hq⟩
  · exact hr
  · intro e
    cases e
    omega
theorem Nxt.trans {ρ ρ1 ρ2 : Option Nat} {w w1 : World} (h : Nxt ρ ρ1 w) (hs : w.heap.size ≤ w1.heap.size) (h2 : Nxt ρ1 ρ2 w1) : Nxt ρ ρ2 w := by
  rcases h2 with rfl | ⟨k, rfl, hk⟩
  · exact h
  · exact Or.inr ⟨k, rfl, Nat.le_trans hs hk⟩
theorem Chg.of_below {g : Nat} {ρ : Option Nat} {w w' : World} (h : Below w.heap.size w w') : Chg g ρ w w' := ⟨h.os, h.tape, h.output, h.size, fun k hk _ _ => h.block k hk⟩
theorem Chg.below {g B : Nat} {ρ : Option Nat} {w w' : World} (h : Chg g ρ w w') (hg : B ≤ g) (hr : ∀ k, ρ = some k → B ≤ k) (hs : B ≤ w.heap.size) : Below B w w' :=
  ⟨h.1, h.2.1, h.2.2.1, h.2.2.2.1, fun k hk => h.2.2.2.2 k (by omega) (by omega) (fun e => by have := hr k e; omega)⟩

theorem grown_chg (g : Nat) (ρ : Option Nat) (w : World) (o : Obj) : Chg g ρ w (w.drew.alloc o) := ⟨rfl, rfl, rfl, by simp, fun k hk _ _ => heap_alloc_old w.drew _ hk⟩

def ival (n : Int) : Value := .int .i64 n
/-- A row of numbers. -/
def IRow (ρ : Option Nat) (o : Option Addr) (cap : Nat) (xs : List Int) (w : World) : Prop :=
  (o = none ∧ cap = 0 ∧ ρ = none ∧ xs = []) ∨ ∃ (r : Nat) (cur : Array Value), ρ = some r ∧ o = some ⟨r, 0, none⟩ ∧ w.heap[r]? = some (.cells cur 3 (0, 0)) ∧ xs.length ≤ cap ∧ cap ≤ maxLen ∧ cur.size = cap ∧ cur.toList.take xs.length = xs.map ival
theorem IRow.nil (w : World) : IRow none none 0 [] w := Or.inl ⟨rfl, rfl, rfl, rfl⟩
theorem IRow.keep {ρ : Option Nat} {o : Option Addr} {cap : Nat} {xs : List Int} {w w' : World} (h : IRow ρ o cap xs w) (hk : ∀ r, ρ = some r → w'.heap[r]? = w.heap[r]?) : IRow ρ o cap xs w' := by
  rcases h with h | ⟨r, cur, h1, h2, h4, h5⟩
  · exact Or.inl h
  · exact Or.inr ⟨r, cur, h1, h2, (hk r h1).trans h4, h5⟩
theorem IRow.lt {ρ : Option Nat} {o : Option Addr} {cap : Nat} {xs : List Int} {w : World} (h : IRow ρ o cap xs w) (r : Nat) (hr : ρ = some r) : r < w.heap.size := by
  rcases h with ⟨_, _, h, _⟩ | ⟨q, cur, h1, _, h4, _⟩
  · rw [h] at hr; cases hr
  · rw [h1] at hr; cases hr; exact lt_of_heap h4
theorem IRow.cell {ρ : Option Nat} {o : Option Addr} {cap : Nat} {xs : List Int} {w : World} (h : IRow ρ o cap xs w) (j : Nat) (hj : j < xs.length) : ∃ r, ρ = some r ∧ o = some ⟨r, 0, none⟩ ∧ w.cell? ⟨r, j, none⟩ = some (.int .i64 xs[j]) := by
  rcases h with ⟨_, _, _, h0⟩ | ⟨r, cur, h1, h2, h4, _, _, _, htk⟩
  · subst h0; exact absurd hj (by simp)
  · refine ⟨r, h1, h2, ?_⟩
    rw [cell_of_row w r j _ _ _ h4, ← Array.getElem?_toList]
    have := congrArg (fun l => l[j]?) htk
    simp only [List.getElem?_take, List.getElem?_map] at this
    rw [if_pos hj, List.getElem?_eq_getElem hj] at this
    rw [this]; rfl
theorem IRow.later {ρ : Option Nat} {o : Option Addr} {cap : Nat} {xs : List Int} {w w' : World} (h : IRow ρ o cap xs w) (hb : Below w.heap.size w w') : IRow ρ o cap xs w' := h.keep (fun r hr => hb.block r (h.lt r hr))
theorem ival_len (xs : List Int) : (xs.map ival).length = xs.length := by simp

theorem irow_append (g : Nat) (ty : TypeId) (w : World) (ρ : Option Nat) (o : Option Addr) (cap : Nat) (xs : List Int) (hR : IRow ρ o cap xs w) (hn : xs.length + 1 ≤ 1000000000) (a : Addr) (n : Int) (hnew : w.cell? (a.add 0) = some (.int .i64 n)) :
    ∃ o' cap' w' ρ', (Builtin.append_ #[22, 22] ty #[.slice o xs.length cap, .slice (some a) 1 1]).run Try.prog w = .ok (.slice o' (xs.length + 1) cap') w' ∧ IRow ρ' o' cap' (xs ++ [n]) w' ∧ Nxt ρ ρ' w ∧ Chg g ρ w w' := by
  obtain ⟨i, hi, hz, hsz, hby⟩ := info_parts info3
  have hml : (xs.length + 1 : Nat) ≤ maxLen := by unfold maxLen; omega
  have hnl : [ival n].length = 1 * i.size := by rw [hsz]; rfl
  have hnews : ∀ j u, [ival n][j]? = some u → w.cell? (a.add j) = some u := by
    intro j u hj
    match j, hj with
    | 0, hj => simp at hj; subst hj; exact hnew
  have h1 : ∀ u ∈ [ival n], u.oneCell' = true := by intro u hu; simp at hu; subst hu; rfl
  have hxl : (xs ++ [n]).length = xs.length + 1 := by simp
  have hmap : (xs ++ [n]).map ival = xs.map ival ++ [ival n] := by simp
  have fresh : ∀ old, IRow (some w.heap.size) (some ⟨w.heap.size, 0, none⟩) (grownCap w (xs.length + 1) old 3) (xs ++ [n]) (w.drew.alloc (.cells ((xs.map ival).toArray ++ [ival n].toArray ++ Builtin.zeroCells (Value.int .i64 0).cells (grownCap w (xs.length + 1) old 3 - (xs.length + 1))) 3)) := by
    intro old
    have hge := grownCap_ge w (xs.length + 1) old 3
    refine Or.inr ⟨w.heap.size, _, rfl, rfl, heap_alloc_new w.drew _, by rw [hxl]; exact hge, grownCap_le_maxLen w (xs.length + 1) old 3 hml, ?_, ?_⟩
    · have hz4 : (Value.int .i64 0).cells.size = 1 := rfl
      simp only [Array.size_append, List.size_toArray, size_zeroCells, hz4, ival_len, List.length_singleton]
      omega
    · have hl2 : (xs ++ [n]).length = (xs.map ival ++ [ival n]).length := by simp
      rw [hmap, hl2]
      simp only [Array.toList_append]
      exact List.take_left
  rcases hR with ⟨rfl, rfl, rfl, rfl⟩ | ⟨r, cur, rfl, rfl, hg, hnc, hcm, hcs, htk⟩
  · have hr := run_append_nil (P := Try.prog) w 22 ty 3 i _ Try.underlying22 hi hz a 1 1 [ival n] hnl hnews (by omega) (by omega) (by rw [hby]; omega)
    have hf := fresh 0
    simp only [List.map_nil, List.nil_append, Array.empty_append, List.length_nil, Nat.zero_add] at hf
    exact ⟨_, _, _, _, hr, hf, Or.inr ⟨_, rfl, Nat.le_refl _⟩, grown_chg _ _ _ _⟩
  · by_cases hroom : xs.length + 1 ≤ cap
    · have hr := run_append_room (P := Try.prog) w 22 ty 3 i Try.underlying22 hi r xs.length cap cur hg a 1 1 [ival n] hnl hnews h1 hroom (by rw [hsz, hcs, List.length_singleton]; omega)
      rw [hsz] at hr
      refine ⟨_, _, _, some r, hr, Or.inr ⟨r, _, rfl, rfl, setRow_heap w r cur _ 3 _ hg, by rw [hxl]; exact hroom, hcm, ?_, ?_⟩, Or.inl rfl, rfl, rfl, rfl, by simp, fun k _ _ hk => setRow_other w r k _ (fun e => hk (by rw [e]))⟩
      · simp only [List.size_toArray, List.length_append, List.length_take, List.length_drop, Array.length_toList, List.length_singleton]
        omega
      · have hl2 : (xs ++ [n]).length = (xs.map ival ++ [ival n]).length := by simp
        rw [Nat.mul_one, htk, hmap, hl2]
        exact List.take_left
    · have holds : ∀ j u, (xs.map ival)[j]? = some u → w.cell? ((⟨r, 0, none⟩ : Addr).add j) = some u := by
        intro j u hj
        have hjl : j < xs.length := by have := (List.getElem?_eq_some_iff.1 hj).1; simpa using this
        rw [plain_add, Nat.zero_add, cell_of_row w r j _ _ _ hg, ← Array.getElem?_toList]
        have := congrArg (fun l => l[j]?) htk
        simp only [List.getElem?_take] at this
        rw [if_pos hjl] at this
        rw [this]; exact hj
      have hr := run_append_grow (P := Try.prog) w 22 ty 3 i _ Try.underlying22 hi hz ⟨r, 0, none⟩ xs.length cap (xs.map ival) (by rw [hsz, ival_len]; omega) holds a 1 1 [ival n] hnl hnews (by omega) (by omega) (by rw [hby]; exact growslice_fits (by omega) (by omega))
      exact ⟨_, _, _, _, hr, fresh cap, Or.inr ⟨_, rfl, Nat.le_refl _⟩, grown_chg _ _ _ _⟩
theorem wpList_irow {w : World} {o : Oper} {a : Act} {ops : Array Oper} {rest : List Oper} {Q : Exit → Act → World → Prop} (s x : Operand) (hgd : o.guard = none)
    (ho : o.op = .call { callee := .builtin .append, args := #[s, x], argTypes := #[22, 22] })
    (g : Nat) (ρ : Option Nat) (oo : Option Addr) (cap : Nat) (xs : List Int) (hR : IRow ρ oo cap xs w) (q : Nat) (hq : q = xs.length) (hn : q + 1 ≤ 1000000000) (ad : Addr) (n : Int) (hnew : w.cell? (ad.add 0) = some (.int .i64 n))
    (hs : a.eval s = .slice oo q cap) (hx : a.eval x = .slice (some ad) 1 1)
    (h : ∀ o' cap' w' ρ', IRow ρ' o' cap' (xs ++ [n]) w' → Nxt ρ ρ' w → Chg g ρ w w' → wpList Try.prog ops Q rest (a.put o.dst (.slice o' (q + 1) cap')) w') : wpList Try.prog ops Q (o :: rest) a w := by
  subst hq
  refine wpList_plain hgd fun K' hK' => ?_
  obtain ⟨o', cap', w', ρ', hr, h2, h3, h4⟩ := irow_append g o.type w ρ oo cap xs hR hn ad n hnew
  unfold Oper.wp execOp
  simp only [ho, resolve, invoke, builtin, Sem.run_bind, Sem.run_pure, Result.andThen_ok, List.map_toArray, List.map_cons, List.map_nil, hs, hx, hr]
  exact hK' _ _ (h o' cap' w' ρ' h2 h3 h4)
theorem int_new (w : World) (n : Int) : (w.alloc (.cells #[.int .i64 n] 3)).cell? ((⟨w.heap.size, 0, none⟩ : Addr).add 0) = some (.int .i64 n) := by simp [Addr.add]
end Go.Proofs.Ytbnopmkfmggliaa

namespace Go.Proofs.Ytbnopmkfmggliaa
open Go.RowKit
open Fl

theorem has_any (l : List Int) (x : Int) (at0 : Option Addr) (cap b off : Nat) (hcap : l.length ≤ 1000000000) (w : World) (hat : 0 < l.length → at0 = some ⟨b, off, none⟩) (hc : DIn w b off l) :
    Calls Try.prog 24 #[.slice at0 l.length cap, .int .i64 x] w fun e w' => e = .returned (.bool (decide (x ∈ l))) ∧ w = w' := by
  have HC := Lib.hid hc
  have HAT := Lib.hid hat
  clear hc hat
  obtain ⟨D, hD⟩ : ∃ D, decide (x ∈ l) = D := ⟨_, rfl⟩
  rw [hD]
  have HD := Lib.hid hD
  clear hD
  go_enter Try.func24, Try.ntmps24
  go_wp2
  go_loop [6, 9] (fun _ i => ∃ k : Nat, k ≤ l.length ∧ i = .int .i64 k ∧ Hid (∀ j (h : j < l.length), j < k → l[j] ≠ x)) (fun _ i => l.length - (intOf i).toNat)
  case atStart => exact ⟨0, by omega, rfl, Lib.hid (fun j _ h => absurd h (by omega))⟩
  case round =>
    obtain ⟨k, hk, rfl, HN⟩ := hrel
    by_cases hlt : k < l.length
    · have hcell := HC.out k hlt
      obtain rfl := HAT.out (by omega)
      obtain ⟨y, hy⟩ : ∃ y, l[k] = y := ⟨_, rfl⟩
      have HY := Lib.hid hy
      rw [hy] at hcell
      clear hy
      by_cases e : y = x
      · subst e
        have HDT : Hid (D = true) := Lib.hid (by rw [← HD.out, decide_eq_true_eq, ← HY.out]; exact List.getElem_mem hlt)
        clear HD HN
        go_wp2
        go_ret
        exact ⟨by rw [HDT.out]; rfl, rfl⟩
      · have e' : ((y : Int) == x) = false := by rw [beq_eq_false_iff_ne]; exact e
        have HE := Lib.hid e
        clear e
        go_wp2
        go_round
        case rel =>
          refine ⟨k + 1, by omega, by go_num, Lib.hid (fun j hj h => ?_)⟩
          by_cases ej : j = k
          · subst ej; rw [HY.out]; exact HE.out
          · exact HN.out j hj (by omega)
        case measure => simp [intOf]; omega
    · have HDF : Hid (D = false) := Lib.hid (by
        rw [← HD.out, decide_eq_false_iff_not]
        intro hm
        obtain ⟨j, hj, he⟩ := List.getElem_of_mem hm
        exact HN.out j hj (by omega) he)
      clear HD HN
      go_wp2
      go_ret
      exact ⟨by rw [HDF.out]; rfl, rfl⟩

/-- What stands in a spin's rows. -/
def hls (f : Nat → Int) (n : Nat) : List Int := (List.range n).map f
theorem hls_len (f : Nat → Int) (n : Nat) : (hls f n).length = n := by simp [hls]
theorem hls_get (f : Nat → Int) (n k : Nat) (hk : k < (hls f n).length) : (hls f n)[k] = f k := by simp [hls]
theorem hls_step (f : Nat → Int) (n : Nat) : hls f (n + 1) = hls f n ++ [f n] := by simp [hls, List.range_succ]
theorem hls_congr {f g : Nat → Int} {n : Nat} (h : ∀ i, i < n → f i = g i) : hls f n = hls g n := by
  unfold hls
  exact List.map_congr_left (fun i hi => h i (by simpa using hi))
/-- A box of two rows. -/
structure BxR (w : World) (g : Nat) (ρ1 ρ2 : Option Nat) (o1 o2 : Option Addr) (c1 c2 : Nat) (l1 l2 : List Int) : Prop where
  b : w.heap[g]? = some (.cells #[.slice o1 l1.length c1, .slice o2 l2.length c2] 33 (0, 0))
  r1 : IRow ρ1 o1 c1 l1 w
  r2 : IRow ρ2 o2 c2 l2 w
  ne : ∀ k, ρ1 = some k → ρ2 ≠ some k
  n1 : ρ1 ≠ some g
  n2 : ρ2 ≠ some g
theorem IRow.gne {w : World} {g : Nat} {ρ : Option Nat} {o : Option Addr} {c : Nat} {l : List Int} {a : Array Value} (h : IRow ρ o c l w) (hg : w.heap[g]? = some (.cells a 33 (0, 0))) : ρ ≠ some g := by
  rintro rfl
  rcases h with ⟨_, _, h, _⟩ | ⟨r, cur, h1, _, h4, _⟩
  · cases h
  · cases h1
    rw [hg] at h4
    simp at h4
theorem BxR.later {w w' : World} {g : Nat} {ρ1 ρ2 : Option Nat} {o1 o2 : Option Addr} {c1 c2 : Nat} {l1 l2 : List Int} (h : BxR w g ρ1 ρ2 o1 o2 c1 c2 l1 l2) (hb : Below w.heap.size w w') : BxR w' g ρ1 ρ2 o1 o2 c1 c2 l1 l2 :=
  ⟨(hb.block _ (lt_of_heap h.b)).trans h.b, h.r1.later hb, h.r2.later hb, h.ne, h.n1, h.n2⟩
theorem two_cells {w : World} {g : Nat} {a0 a1 : Value} {T : TypeId} (h : w.heap[g]? = some (.cells #[a0, a1] T (0, 0))) : (w.cell? ⟨g, 0, none⟩ = some a0 ∧ w.cell? ⟨g, 1, none⟩ = some a1) ∧ w.frozen? ⟨g, 0, none⟩ = false ∧ w.frozen? ⟨g, 1, none⟩ = false := by
  have cc := fun (j : Nat) (v : Value) (hj : (#[a0, a1] : Array Value)[j]? = some v) => (cell_of_row w g j _ _ _ h).trans hj
  have ff := fun (j : Nat) => frozen_of_row w g j _ _ h
  exact ⟨⟨cc 0 _ rfl, cc 1 _ rfl⟩, ff 0, ff 1⟩
/-- A row has come behind the first row, and the box knows. -/
theorem BxR.put1 {w w' : World} {g B : Nat} {ρ1 ρ2 ρ' : Option Nat} {o1 o2 o' : Option Addr} {c1 c2 c' : Nat} {l1 l2 : List Int} {x : Int} (h : BxR w g ρ1 ρ2 o1 o2 c1 c2 l1 l2) (hb : B ≤ w.heap.size) (h1 : IRow ρ' o' c' (l1 ++ [x]) w') (hn : Nxt ρ1 ρ' w) (hc : Chg B ρ1 w w') (hB : B = w.heap.size) :
    BxR (w'.setCell ⟨g, 0, none⟩ (.slice o' (l1.length + 1) c')) g ρ' ρ2 o' o2 c' c2 (l1 ++ [x]) l2 := by
  have hg := lt_of_heap h.b
  have hbx : w'.heap[g]? = some (.cells #[.slice o1 l1.length c1, .slice o2 l2.length c2] 33 (0, 0)) := (hc.2.2.2.2 g hg (by omega) h.n1).trans h.b
  have hs := heap_setCell_same w' g 0 _ 33 (.slice o' (l1.length + 1) c') hbx
  have n1 : ρ' ≠ some g := h1.gne hbx
  refine ⟨by rw [List.length_append, List.length_singleton]; exact hs.trans rfl, h1.keep (fun r hr => heap_setCell_other _ _ r _ (fun e => n1 (by rw [hr, e]))), h.r2.keep (fun r hr => (heap_setCell_other _ _ r _ (fun e => h.n2 (by rw [hr, e]))).trans (hc.2.2.2.2 r (h.r2.lt r hr) (by have := h.r2.lt r hr; omega) (fun e => h.ne r e hr))), fun k hk hk2 => ?_, n1, h.n2⟩
  rcases hn with rfl | ⟨q, rfl, hq⟩
  · exact h.ne k hk hk2
  · cases hk; have := h.r2.lt _ hk2; omega
theorem BxR.put2 {w w' : World} {g B : Nat} {ρ1 ρ2 ρ' : Option Nat} {o1 o2 o' : Option Addr} {c1 c2 c' : Nat} {l1 l2 : List Int} {x : Int} (h : BxR w g ρ1 ρ2 o1 o2 c1 c2 l1 l2) (hb : B ≤ w.heap.size) (h1 : IRow ρ' o' c' (l2 ++ [x]) w') (hn : Nxt ρ2 ρ' w) (hc : Chg B ρ2 w w') (hB : B = w.heap.size) :
    BxR (w'.setCell ⟨g, 1, none⟩ (.slice o' (l2.length + 1) c')) g ρ1 ρ' o1 o' c1 c' l1 (l2 ++ [x]) := by
  have hg := lt_of_heap h.b
  have hbx : w'.heap[g]? = some (.cells #[.slice o1 l1.length c1, .slice o2 l2.length c2] 33 (0, 0)) := (hc.2.2.2.2 g hg (by omega) h.n2).trans h.b
  have hs := heap_setCell_same w' g 1 _ 33 (.slice o' (l2.length + 1) c') hbx
  have n2 : ρ' ≠ some g := h1.gne hbx
  refine ⟨by rw [List.length_append, List.length_singleton]; exact hs.trans rfl, h.r1.keep (fun r hr => (heap_setCell_other _ _ r _ (fun e => h.n1 (by rw [hr, e]))).trans (hc.2.2.2.2 r (h.r1.lt r hr) (by have := h.r1.lt r hr; omega) (fun e => h.ne r hr e))), h1.keep (fun r hr => heap_setCell_other _ _ r _ (fun e => n2 (by rw [hr, e]))), fun k hk hk2 => ?_, h.n1, n2⟩
  rcases hn with rfl | ⟨q, rfl, hq⟩
  · exact h.ne k hk hk2
  · cases hk2; have := h.r1.lt _ hk; omega
end Go.Proofs.Ytbnopmkfmggliaa

namespace Go.Proofs.Ytbnopmkfmggliaa
open Go.RowKit
open Fl

/-- What New leaves: how many, and their weights. -/
def nwN (l : List Int) : Nat := if nwE l = 0 then l.length else 0
def nwU (l : List Int) : Nat → Int := if nwE l = 0 then wts l else Zf
theorem nwS_eq (l : List Int) : nwS l = spV Zf (nwU l) (nwN l) := by
  unfold nwS nwU nwN
  by_cases h : nwE l = 0
  · rw [if_pos h, if_pos h, if_pos h]
  · rw [if_neg h, if_neg h, if_neg h]
/-- Two rows of a reference's spin. -/
def RfR (w w' : World) (h u : Nat → Int) (n : Nat) (k : Int) (e : Ending) : Prop := ∃ (ρ1 ρ2 : Option Nat) (o1 o2 : Option Addr) (c1 c2 : Nat), e = .returned (.tuple #[.agg #[.slice o1 n c1, .slice o2 n c2], .int .i64 k]) ∧ IRow ρ1 o1 c1 (hls h n) w' ∧ IRow ρ2 o2 c2 (hls u n) w' ∧ Below w.heap.size w w'
theorem wts_take (l : List Int) (k : Nat) (hk : k ≤ l.length) : hls (wts l) k = l.take k := by
  apply List.ext_getElem
  · simp [hls_len]; omega
  · intro i h1 h2
    rw [hls_get, List.getElem_take]
    rw [hls_len] at h1
    unfold wts
    rw [List.getD_eq_getElem?_getD, List.getElem?_eq_getElem (by omega)]; rfl
theorem box33 (w : World) : BxR (w.alloc (.cells #[.slice none 0 0, .slice none 0 0] 33)) w.heap.size none none none none 0 0 [] [] :=
  ⟨heap_alloc_new w _, IRow.nil _, IRow.nil _, fun k h => (by cases h), fun h => (by cases h), fun h => (by cases h)⟩

theorem put_two {w : World} {g : Nat} {a0 a1 : Value} (h : w.heap[g]? = some (.cells #[a0, a1] 33 (0, 0))) (b0 b1 : Value) : ((w.setCell ⟨g, 0, none⟩ b0).setCell ⟨g, 1, none⟩ b1).heap[g]? = some (.cells #[b0, b1] 33 (0, 0)) := by
  have s0 : _ = some (Obj.cells #[b0, a1] 33 (0, 0)) := heap_setCell_same w g 0 _ 33 b0 h
  exact heap_setCell_same _ g 1 _ 33 b1 s0
theorem put_two_other {w : World} {g r : Nat} {b0 b1 : Value} (h : r ≠ g) : ((w.setCell ⟨g, 0, none⟩ b0).setCell ⟨g, 1, none⟩ b1).heap[r]? = w.heap[r]? :=
  (heap_setCell_other _ _ r _ h).trans (heap_setCell_other _ _ r _ h)
/-- A box of two rows of the call's own, above all that was there. -/
structure NyE (w4 wr : World) (g4 : Nat) (ρ1 ρ2 : Option Nat) (o1 o2 : Option Addr) (c1 c2 : Nat) (l1 l2 : List Int) : Prop where
  X : BxR wr g4 ρ1 ρ2 o1 o2 c1 c2 l1 l2
  B : Below g4 w4 wr
  g1 : ∀ r, ρ1 = some r → g4 ≤ r
  g2 : ∀ r, ρ2 = some r → g4 ≤ r
theorem NyE.later {w4 wr wz : World} {g4 : Nat} {ρ1 ρ2 : Option Nat} {o1 o2 : Option Addr} {c1 c2 : Nat} {l1 l2 : List Int} (E : NyE w4 wr g4 ρ1 ρ2 o1 o2 c1 c2 l1 l2) (hb : Below wr.heap.size wr wz) : NyE w4 wz g4 ρ1 ρ2 o1 o2 c1 c2 l1 l2 :=
  ⟨E.X.later hb, E.B.trans (hb.mono (by have := lt_of_heap E.X.b; omega)), E.g1, E.g2⟩
theorem NyE.put1 {w4 wr w' : World} {g4 : Nat} {ρ1 ρ2 ρ' : Option Nat} {o1 o2 o' : Option Addr} {c1 c2 c' : Nat} {l1 l2 : List Int} {x : Int} (E : NyE w4 wr g4 ρ1 ρ2 o1 o2 c1 c2 l1 l2) (h1 : IRow ρ' o' c' (l1 ++ [x]) w') (hn : Nxt ρ1 ρ' wr) (hc : Chg wr.heap.size ρ1 wr w') :
    NyE w4 (w'.setCell ⟨g4, 0, none⟩ (.slice o' (l1.length + 1) c')) g4 ρ' ρ2 o' o2 c' c2 (l1 ++ [x]) l2 := by
  have hg := lt_of_heap E.X.b
  refine ⟨E.X.put1 (Nat.le_refl _) h1 hn hc rfl, (E.B.trans (hc.below (by omega) E.g1 (by omega))).setCell (Nat.le_refl _) _, fun r hr => ?_, E.g2⟩
  rcases hn with rfl | ⟨q, rfl, hq⟩
  · exact E.g1 r hr
  · cases hr; omega
theorem NyE.put2 {w4 wr w' : World} {g4 : Nat} {ρ1 ρ2 ρ' : Option Nat} {o1 o2 o' : Option Addr} {c1 c2 c' : Nat} {l1 l2 : List Int} {x : Int} (E : NyE w4 wr g4 ρ1 ρ2 o1 o2 c1 c2 l1 l2) (h1 : IRow ρ' o' c' (l2 ++ [x]) w') (hn : Nxt ρ2 ρ' wr) (hc : Chg wr.heap.size ρ2 wr w') :
    NyE w4 (w'.setCell ⟨g4, 1, none⟩ (.slice o' (l2.length + 1) c')) g4 ρ1 ρ' o1 o' c1 c' l1 (l2 ++ [x]) := by
  have hg := lt_of_heap E.X.b
  refine ⟨E.X.put2 (Nat.le_refl _) h1 hn hc rfl, (E.B.trans (hc.below (by omega) E.g2 (by omega))).setCell (Nat.le_refl _) _, E.g1, fun r hr => ?_⟩
  rcases hn with rfl | ⟨q, rfl, hq⟩
  · exact E.g2 r hr
  · cases hr; omega
theorem NyE.box {w4 wr : World} {g4 n m : Nat} {ρ1 ρ2 : Option Nat} {o1 o2 : Option Addr} {c1 c2 : Nat} {l1 l2 : List Int} (E : NyE w4 wr g4 ρ1 ρ2 o1 o2 c1 c2 l1 l2) (h1 : l1.length = n) (h2 : l2.length = m) : wr.heap[g4]? = some (.cells #[.slice o1 n c1, .slice o2 m c2] 33 (0, 0)) := by
  have := E.X.b
  rw [h1, h2] at this
  exact this
theorem NyE.boxC1 {w4 wr w' : World} {g4 n m : Nat} {ρ1 ρ2 : Option Nat} {o1 o2 : Option Addr} {c1 c2 : Nat} {l1 l2 : List Int} (E : NyE w4 wr g4 ρ1 ρ2 o1 o2 c1 c2 l1 l2) (h1 : l1.length = n) (h2 : l2.length = m) (hc : Chg wr.heap.size ρ1 wr w') : w'.heap[g4]? = some (.cells #[.slice o1 n c1, .slice o2 m c2] 33 (0, 0)) :=
  (hc.2.2.2.2 g4 (lt_of_heap E.X.b) (by have := lt_of_heap E.X.b; omega) E.X.n1).trans (E.box h1 h2)
theorem NyE.boxC2 {w4 wr w' : World} {g4 n m : Nat} {ρ1 ρ2 : Option Nat} {o1 o2 : Option Addr} {c1 c2 : Nat} {l1 l2 : List Int} (E : NyE w4 wr g4 ρ1 ρ2 o1 o2 c1 c2 l1 l2) (h1 : l1.length = n) (h2 : l2.length = m) (hc : Chg wr.heap.size ρ2 wr w') : w'.heap[g4]? = some (.cells #[.slice o1 n c1, .slice o2 m c2] 33 (0, 0)) :=
  (hc.2.2.2.2 g4 (lt_of_heap E.X.b) (by have := lt_of_heap E.X.b; omega) E.X.n2).trans (E.box h1 h2)
set_option maxRecDepth 1000000 in
set_option maxHeartbeats 4000000 in
theorem rnew_any (l : List Int) (at0 : Option Addr) (cap b off : Nat) (w : World) (hat : 0 < l.length → at0 = some ⟨b, off, none⟩ ∧ b < w.heap.size) (hc : DIn w b off l) :
    Calls Try.prog 8 #[.slice at0 l.length cap] w fun e w' => RfR w w' Zf (nwU l) (nwN l) (nwE l) e := by
  have HC := Lib.hid hc
  have HAT := Lib.hid hat
  clear hc hat
  by_cases hbig : 8 < l.length
  · have e1 : nwE l = 6 := by unfold nwE; rw [if_pos hbig]
    have HF : Hid (∀ w', Below w.heap.size w w' → RfR w w' Zf (nwU l) (nwN l) (nwE l) (.returned (.tuple #[.agg #[.slice none 0 0, .slice none 0 0], .int .i64 6]))) := Lib.hid (fun w' hb => by
      have e2 : nwN l = 0 := by unfold nwN; rw [e1, if_neg (by omega)]
      rw [e1, e2]
      exact ⟨none, none, none, none, 0, 0, rfl, IRow.nil _, IRow.nil _, hb⟩)
    have HB := Lib.hid (((alloc_below w (.cells #[.slice none 0 0, .slice none 0 0] 33)).setCell (p := ⟨w.heap.size, 0, none⟩) (Nat.le_refl _) (.slice none 0 0)).setCell (p := ⟨w.heap.size, 1, none⟩) (Nat.le_refl _) (.slice none 0 0))
    generalize RfR w = R at *
    clear e1 HC HAT
    go_enter Try.func8, Try.ntmps8
    go_wp2
    refine bodyPost_ret (v := .tuple #[.agg #[.slice none 0 0, .slice none 0 0], .int .i64 6]) (by simp [results, Try.results8, go_sem]) rfl (HF.out _ (alloc_below _ _))
  · obtain ⟨n, hn⟩ : ∃ n, n = l.length := ⟨_, rfl⟩
    have HNL := Lib.hid hn
    have hn8 : n ≤ 8 := by omega
    rw [← hn]
    have HBAD : Hid (∀ w', nwE l = 7 → Below w.heap.size w w' → RfR w w' Zf (nwU l) (nwN l) (nwE l) (.returned (.tuple #[.agg #[.slice none 0 0, .slice none 0 0], .int .i64 7]))) := Lib.hid (fun w' e1 hb => by
      have e2 : nwN l = 0 := by unfold nwN; rw [e1, if_neg (by omega)]
      rw [e1, e2]
      exact ⟨none, none, none, none, 0, 0, rfl, IRow.nil _, IRow.nil _, hb⟩)
    have HGOOD : Hid (∀ w' ρ1 ρ2 o1 o2 c1 c2, nwE l = 0 → IRow ρ1 o1 c1 (hls Zf n) w' → IRow ρ2 o2 c2 (hls (wts l) n) w' → Below w.heap.size w w' → RfR w w' Zf (nwU l) (nwN l) (nwE l) (.returned (.tuple #[.agg #[.slice o1 n c1, .slice o2 n c2], .int .i64 0]))) := Lib.hid (fun w' ρ1 ρ2 o1 o2 c1 c2 e1 h1 h2 hb => by
      have e2 : nwN l = n := by unfold nwN; rw [e1, if_pos rfl, hn]
      have e3 : nwU l = wts l := by unfold nwU; rw [e1, if_pos rfl]
      rw [e1, e2, e3]
      exact ⟨ρ1, ρ2, o1, o2, c1, c2, rfl, h1, h2, hb⟩)
    have HWT : Hid (∀ (k : Nat) (hk : k < l.length), l[k] = wts l k) := Lib.hid (fun k hk => by
      unfold wts; rw [List.getD_eq_getElem?_getD, List.getElem?_eq_getElem hk]; rfl)
    generalize RfR w = R at *
    clear hbig hn
    go_enter Try.func8, Try.ntmps8
    go_upto_region 3 with fail
    have HR1 : Hid ((w.alloc (.cells #[.slice none 0 0, .slice none 0 0] 33)).heap[w.heap.size]? = some (.cells #[.slice none 0 0, .slice none 0 0] 33 (0, 0)) ∧ Below w.heap.size w (w.alloc (.cells #[.slice none 0 0, .slice none 0 0] 33))) := Lib.hid ⟨heap_alloc_new w _, alloc_below w _⟩
    generalize w.alloc (.cells #[.slice none 0 0, .slice none 0 0] 33) = w1 at *
    have HR2 : Hid ((w1.alloc (.cells #[.slice none 0 0, .slice none 0 0] 33)).heap[w.heap.size]? = some (.cells #[.slice none 0 0, .slice none 0 0] 33 (0, 0)) ∧ Below w.heap.size w (w1.alloc (.cells #[.slice none 0 0, .slice none 0 0] 33)) ∧ w.heap.size ≤ w1.heap.size ∧ w.heap.size ≠ w1.heap.size) := Lib.hid ⟨((alloc_below w1 _).block _ (lt_of_heap HR1.out.1)).trans HR1.out.1, HR1.out.2.trans ((alloc_below w1 _).mono HR1.out.2.size), HR1.out.2.size, by have := lt_of_heap HR1.out.1; omega⟩
    have HBX := Lib.hid (box33 w1)
    clear HR1
    go_upto_region 4 with fail
    have HG4 := Lib.hid (And.intro HR2.out.2.2.1 HR2.out.2.2.2)
    replace HR2 := Lib.hid (And.intro HR2.out.1 HR2.out.2.1)
    generalize w1.alloc (.cells #[.slice none 0 0, .slice none 0 0] 33) = w2 at *
    generalize w1.heap.size = g4 at *
    go_wp2
    go_loopw [6, 13] (fun _ i wr => ∃ (k : Nat) (ρ1 ρ2 : Option Nat) (o1 o2 : Option Addr) (c1 c2 : Nat), k ≤ n ∧ i = .int .i64 (k : Int) ∧ Hid (NyE w2 wr g4 ρ1 ρ2 o1 o2 c1 c2 (hls Zf k) (hls (wts l) k)) ∧ Hid (∀ j (h : j < l.length), j < k → 1 ≤ l[j] ∧ l[j] ≤ 100)) (fun _ i _ => n - (intOf i).toNat)
    case atStart => exact ⟨0, none, none, none, none, 0, 0, by omega, rfl, Lib.hid ⟨HBX.out, Below.refl _ _, fun r h => (by cases h), fun r h => (by cases h)⟩, Lib.hid (fun j _ h => absurd h (by omega))⟩
    case round =>
      obtain ⟨k, ρ1, ρ2, o1, o2, c1, c2, hk, rfl, HM, HN⟩ := hrel
      clear HBX
      have HZR : Hid (wr.heap[w.heap.size]? = some (.cells #[.slice none 0 0, .slice none 0 0] 33 (0, 0)) ∧ Below w.heap.size w wr) := Lib.hid ⟨(HM.out.B.block _ (by have := HG4.out; omega)).trans HR2.out.1, HR2.out.2.trans (HM.out.B.mono HG4.out.1)⟩
      by_cases hlt : k < n
      · have hlt' : k < l.length := by rw [← HNL.out]; exact hlt
        have hcell := HC.out k hlt'
        obtain ⟨rfl, hb⟩ := HAT.out (by omega)
        rw [← HZR.out.2.cell (p := ⟨b, off + k, none⟩) hb, HWT.out k hlt'] at hcell
        obtain ⟨x, hx⟩ : ∃ x, wts l k = x := ⟨_, rfl⟩
        have HX := Lib.hid hx
        rw [hx] at hcell
        clear hx hb
        by_cases h1 : 1 ≤ x ∧ x ≤ 100
        · have q1 : decide (x < 1) = false := by rw [decide_eq_false_iff_not]; omega
          have q2 : decide (100 < x) = false := by rw [decide_eq_false_iff_not]; omega
          have HN2 : Hid (∀ j (h : j < l.length), j < k + 1 → 1 ≤ l[j] ∧ l[j] ≤ 100) := Lib.hid (fun j hj hjk => by
            by_cases e : j = k
            · subst e; rw [HWT.out j hj, HX.out]; exact h1
            · exact HN.out j hj (by omega))
          clear HN h1
          obtain ⟨⟨a0, a1⟩, f0, f1⟩ := two_cells (HM.out.box (hls_len _ _) (hls_len _ _))
          have HB1 := Lib.hid (HM.out.later (alloc_below wr (.cells #[.int .i64 0] 3)))
          go_upto_region 9 with fail
          go_upto_region 10 with (first
            | (at_builtin; refine wpList_irow (w := wr.alloc (.cells #[.int .i64 0] 3)) (.tmp 25) (.tmp 26) rfl rfl (wr.alloc (.cells #[.int .i64 0] 3)).heap.size ρ1 o1 c1 (hls Zf k) HB1.out.X.r1 k (by rw [hls_len]) (by omega) ⟨wr.heap.size, 0, none⟩ 0 (int_new wr 0) rfl rfl ?_; intro o3 c3 w5 ρ3 hI hN hC; have HI := Lib.hid hI; have HNX := Lib.hid hN; have HCH := Lib.hid hC; clear hI hN hC a0 a1 f0 f1; obtain ⟨⟨a0, a1⟩, f0, f1⟩ := two_cells (HB1.out.boxC1 (hls_len _ _) (hls_len _ _) HCH.out)))
          have HB5 : Hid (NyE w2 (w5.setCell ⟨g4, 0, none⟩ (.slice o3 (k + 1) c3)) g4 ρ3 ρ2 o3 o2 c3 c2 (hls Zf k ++ [0]) (hls (wts l) k)) := Lib.hid (by
            have := HB1.out.put1 HI.out HNX.out HCH.out
            rw [hls_len] at this
            exact this)
          clear a0 a1 f0 f1 HB1 HI HNX HCH HM HZR hcell
          generalize w5.setCell ⟨g4, 0, none⟩ (.slice o3 (k + 1) c3) = w6 at *
          have hlz : (hls Zf k ++ [0]).length = k + 1 := by rw [List.length_append, hls_len]; rfl
          have HLZ := Lib.hid hlz
          clear hlz
          obtain ⟨⟨a0, a1⟩, f0, f1⟩ := two_cells (HB5.out.box HLZ.out (hls_len _ _))
          have HB6 := Lib.hid (HB5.out.later (alloc_below w6 (.cells #[.int .i64 x] 3)))
          clear HB5
          go_upto_region 11 with (first
            | (at_builtin; refine wpList_irow (w := w6.alloc (.cells #[.int .i64 x] 3)) (.tmp 30) (.tmp 32) rfl rfl (w6.alloc (.cells #[.int .i64 x] 3)).heap.size ρ2 o2 c2 (hls (wts l) k) HB6.out.X.r2 k (by rw [hls_len]) (by omega) ⟨w6.heap.size, 0, none⟩ x (int_new w6 x) rfl rfl ?_; intro o4 c4 w7 ρ4 hI hN hC; have HI := Lib.hid hI; have HNX := Lib.hid hN; have HCH := Lib.hid hC; clear hI hN hC a0 a1 f0 f1; obtain ⟨⟨a0, a1⟩, f0, f1⟩ := two_cells (HB6.out.boxC2 HLZ.out (hls_len _ _) HCH.out)))
          have HB7 : Hid (NyE w2 (w7.setCell ⟨g4, 1, none⟩ (.slice o4 (k + 1) c4)) g4 ρ3 ρ4 o3 o4 c3 c4 (hls Zf (k + 1)) (hls (wts l) (k + 1))) := Lib.hid (by
            have := HB6.out.put2 HI.out HNX.out HCH.out
            rw [hls_len] at this
            rw [hls_step, hls_step, HX.out]
            exact this)
          clear a0 a1 f0 f1 HB6 HI HNX HCH
          generalize w7.setCell ⟨g4, 1, none⟩ (.slice o4 (k + 1) c4) = w8 at *
          go_wp2
          go_roundw
          case rel => exact ⟨k + 1, ρ3, ρ4, o3, o4, c3, c4, by omega, by go_num, HB7, HN2⟩
          case measure => simp [intOf]; omega
        · have q1 : (decide (x < 1) || decide (100 < x)) = true := by
            by_cases h2 : x < 1
            · rw [decide_eq_true h2]; rfl
            · rw [decide_eq_true (show 100 < x by omega), Bool.or_true]
          have HE7 : Hid (nwE l = 7) := Lib.hid (by
            unfold nwE
            rw [if_neg (by have := HNL.out; omega), if_neg]
            intro h
            have := h l[k] (List.getElem_mem hlt')
            rw [HWT.out k hlt', HX.out] at this; omega)
          clear h1 HN HX
          obtain ⟨⟨a0, a1⟩, f0, f1⟩ := two_cells HZR.out.1
          have HBB := Lib.hid HZR.out.2
          have HZZ := Lib.hid HZR.out.1
          clear HZR HM
          obtain ⟨p1, hp1⟩ : ∃ p1, decide (x < 1) = p1 := ⟨_, rfl⟩
          obtain ⟨p2, hp2⟩ : ∃ p2, decide (100 < x) = p2 := ⟨_, rfl⟩
          rw [hp1, hp2] at q1
          have HF : Hid (∀ wz, Below w.heap.size w wz → R wz Zf (nwU l) (nwN l) (nwE l) (.returned (.tuple #[.agg #[.slice none 0 0, .slice none 0 0], .int .i64 7]))) := Lib.hid (fun wz hb => HBAD.out wz HE7.out hb)
          clear HBAD HGOOD HE7
          cases p1
          · cases p2
            · cases q1
            · go_wp2
              have hz2 : ((wr.setCell ⟨w.heap.size, 0, none⟩ (.slice none 0 0)).setCell ⟨w.heap.size, 1, none⟩ (.slice none 0 0)).heap[w.heap.size]? = some (.cells #[.slice none 0 0, .slice none 0 0] 33 (0, 0)) := put_two HZZ.out _ _
              have HB9 := Lib.hid ((HBB.out.setCell (p := ⟨w.heap.size, 0, none⟩) (Nat.le_refl _) (.slice none 0 0)).setCell (p := ⟨w.heap.size, 1, none⟩) (Nat.le_refl _) (.slice none 0 0))
              generalize (wr.setCell ⟨w.heap.size, 0, none⟩ (.slice none 0 0)).setCell ⟨w.heap.size, 1, none⟩ (.slice none 0 0) = w9 at *
              obtain ⟨⟨z0, z1⟩, _⟩ := two_cells hz2
              refine bodyPost_ret (v := .tuple #[.agg #[.slice none 0 0, .slice none 0 0], .int .i64 7]) (by simp [results, Try.results8, go_sem, z0, z1]) rfl (HF.out _ HB9.out)
          · go_wp2
            have hz2 : ((wr.setCell ⟨w.heap.size, 0, none⟩ (.slice none 0 0)).setCell ⟨w.heap.size, 1, none⟩ (.slice none 0 0)).heap[w.heap.size]? = some (.cells #[.slice none 0 0, .slice none 0 0] 33 (0, 0)) := put_two HZZ.out _ _
            have HB9 := Lib.hid ((HBB.out.setCell (p := ⟨w.heap.size, 0, none⟩) (Nat.le_refl _) (.slice none 0 0)).setCell (p := ⟨w.heap.size, 1, none⟩) (Nat.le_refl _) (.slice none 0 0))
            generalize (wr.setCell ⟨w.heap.size, 0, none⟩ (.slice none 0 0)).setCell ⟨w.heap.size, 1, none⟩ (.slice none 0 0) = w9 at *
            obtain ⟨⟨z0, z1⟩, _⟩ := two_cells hz2
            refine bodyPost_ret (v := .tuple #[.agg #[.slice none 0 0, .slice none 0 0], .int .i64 7]) (by simp [results, Try.results8, go_sem, z0, z1]) rfl (HF.out _ HB9.out)
      · obtain rfl : k = n := by omega
        have HE0 : Hid (nwE l = 0) := Lib.hid (by
          unfold nwE
          rw [if_neg (by have := HNL.out; omega), if_pos]
          intro x hx
          obtain ⟨j, hj, he⟩ := List.getElem_of_mem hx
          rw [← he]
          exact HN.out j hj (by have := HNL.out; omega))
        clear HN
        obtain ⟨⟨a0, a1⟩, f0, f1⟩ := two_cells (HM.out.box (hls_len _ _) (hls_len _ _))
        obtain ⟨⟨y0, y1⟩, y2, y3⟩ := two_cells HZR.out.1
        have HW9 : Hid (((wr.setCell ⟨w.heap.size, 0, none⟩ (.slice o1 k c1)).setCell ⟨w.heap.size, 1, none⟩ (.slice o2 k c2)).heap[w.heap.size]? = some (.cells #[.slice o1 k c1, .slice o2 k c2] 33 (0, 0))) := Lib.hid (put_two HZR.out.1 _ _)
        have HB9 : Hid (R ((wr.setCell ⟨w.heap.size, 0, none⟩ (.slice o1 k c1)).setCell ⟨w.heap.size, 1, none⟩ (.slice o2 k c2)) Zf (nwU l) (nwN l) (nwE l) (.returned (.tuple #[.agg #[.slice o1 k c1, .slice o2 k c2], .int .i64 0]))) := Lib.hid (HGOOD.out _ ρ1 ρ2 o1 o2 c1 c2 HE0.out (HM.out.X.r1.keep (fun r hr => put_two_other (by have := HM.out.g1 r hr; have := HG4.out; omega))) (HM.out.X.r2.keep (fun r hr => put_two_other (by have := HM.out.g2 r hr; have := HG4.out; omega))) ((HZR.out.2.setCell (p := ⟨w.heap.size, 0, none⟩) (Nat.le_refl _) _).setCell (p := ⟨w.heap.size, 1, none⟩) (Nat.le_refl _) _))
        clear HM HZR HGOOD HBAD
        go_wp2
        generalize (wr.setCell ⟨w.heap.size, 0, none⟩ (.slice o1 k c1)).setCell ⟨w.heap.size, 1, none⟩ (.slice o2 k c2) = w9 at *
        obtain ⟨⟨z0, z1⟩, _⟩ := two_cells HW9.out
        refine bodyPost_ret (v := .tuple #[.agg #[.slice o1 k c1, .slice o2 k c2], .int .i64 0]) (by simp [results, Try.results8, go_sem, z0, z1]) rfl HB9.out
end Go.Proofs.Ytbnopmkfmggliaa
