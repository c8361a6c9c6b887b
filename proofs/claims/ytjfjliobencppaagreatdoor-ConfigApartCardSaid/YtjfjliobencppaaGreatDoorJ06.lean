/- codec.Put's own 'add': parts put behind what a box holds, as long as there is room.; Values in memory, none of whose rows is another's; a row of values, one put behind.; law07.To: a value made anew.; law07.To: the walk.; codec.cloned: what holds while values are made anew, and all within them. -/
import Derived.Test.YtjfjliobencppaaGreatDoorJ05
import Derived.Deep.RegionLaw
set_option linter.unusedVariables false
set_option linter.unusedSimpArgs false
namespace Go.Proofs.YtjfjliobencppaaGreatDoor
open Go.RowKit

def Buf (g : Nat) (ρ : Option Nat) (L : List UInt8) (w : World) : Prop := ∃ (o : Option Addr) (cap : Nat), w.heap[g]? = some (.cells #[.slice o L.length cap] 113 (0, 0)) ∧ Row ρ o cap L w ∧ ρ ≠ some g
theorem lt_of_heap {w : World} {g : Nat} {o : Obj} (h : w.heap[g]? = some o) : g < w.heap.size := (Array.getElem?_eq_some_iff.1 h).1
theorem Row.keep {ρ : Option Nat} {o : Option Addr} {cap : Nat} {L : List UInt8} {w w' : World} (h : Row ρ o cap L w) (hk : ∀ r, ρ = some r → w'.heap[r]? = w.heap[r]?) : Row ρ o cap L w' := by
  rcases h with h | ⟨r, cur, h1, h2, h3, h4, h5⟩
  · exact Or.inl h
  · exact Or.inr ⟨r, cur, h1, h2, h3, (hk r h1).trans h4, h5⟩
theorem Row.lt {ρ : Option Nat} {o : Option Addr} {cap : Nat} {L : List UInt8} {w : World} (h : Row ρ o cap L w) (r : Nat) (hr : ρ = some r) : r < w.heap.size := by
  rcases h with ⟨_, _, h, _⟩ | ⟨q, cur, h1, _, _, h4, _⟩
  · rw [h] at hr; cases hr
  · rw [h1] at hr; cases hr; exact lt_of_heap h4
theorem Buf.later {g : Nat} {ρ : Option Nat} {L : List UInt8} {w w' : World} (h : Buf g ρ L w) (hb : Below w.heap.size w w') : Buf g ρ L w' := by
  obtain ⟨o, cap, h1, h2, h3⟩ := h
  exact ⟨o, cap, (hb.block _ (lt_of_heap h1)).trans h1, h2.keep (fun r hr => hb.block _ (h2.lt r hr)), h3⟩
/-- A string's block is neither the box nor the row. -/
theorem Buf.apart {g : Nat} {ρ : Option Nat} {L : List UInt8} {w : World} (h : Buf g ρ L w) {pb : Nat} {v : Value} (hc : w.cell? ⟨pb, 0, none⟩ = some v) (hv : (∀ x, v ≠ .int .u8 x) ∧ ∀ a b c, v ≠ .slice a b c) : pb ≠ g ∧ ρ ≠ some pb := by
  obtain ⟨o, cap, h1, h2, _⟩ := h
  refine ⟨?_, ?_⟩
  · rintro rfl
    rw [cell_of_row w pb 0 _ _ _ h1] at hc
    simp at hc
    exact hv.2 _ _ _ hc.symm
  · intro e
    rcases h2 with ⟨_, _, h, _⟩ | ⟨r, cur, k1, _, hne, k4, _, _, _, htk⟩
    · rw [h] at e; cases e
    · rw [k1] at e
      cases e
      rw [cell_of_row w pb 0 _ _ _ k4, ← Array.getElem?_toList] at hc
      match L, hne with
      | c :: L, _ =>
        have := congrArg (fun l => l[0]?) htk
        simp [bcells] at this
        rw [Array.getElem?_toList, this] at hc
        cases hc
        exact hv.1 _ rfl

theorem wpList_row_append {w : World} {ops : Array Oper} {rest : List Oper} {o : Oper} {a : Act} {Q : Exit → Act → World → Prop} (hgd : o.guard = none) (sl x : Operand)
    (ho : o.op = .call { callee := .builtin .append, args := #[sl, x], argTypes := #[113, 9] })
    (g : Nat) (ρ : Option Nat) (oo : Option Addr) (cap : Nat) (L : List UInt8) (hR : Row ρ oo cap L w) (s : ByteArray) (hs : a.eval sl = .slice oo L.length cap) (hx : a.eval x = .string s) (hl : L.length + s.size ≤ 100000)
    (h : ∀ o' cap' w' ρ', Row ρ' o' cap' (L ++ s.data.toList) w' → Nxt ρ ρ' w → Chg g ρ w w' → wpList Tryz.prog ops Q rest (a.put o.dst (.slice o' (L ++ s.data.toList).length cap')) w') : wpList Tryz.prog ops Q (o :: rest) a w := by
  refine wpList_plain hgd fun K hK => ?_
  obtain ⟨o', cap', w', ρ', hr, h2, h3, h4, _⟩ := row_append g w ρ oo cap L hR s hl o.type
  unfold Oper.wp execOp
  simp only [ho, resolve, invoke, builtin, Sem.run_bind, Sem.run_pure, Result.andThen_ok, List.map_toArray, List.map_cons, List.map_nil, hs, hx, hr]
  exact hK _ _ (h o' cap' w' ρ' h2 h3 h4)

/-- The box holds the longer bytes. -/
theorem buf_put {g : Nat} {ρ ρ' : Option Nat} {L L' : List UInt8} {w w' : World} {o' : Option Addr} {cap' : Nat} (h : Buf g ρ L w) (hR : Row ρ' o' cap' L' w') (hn : Nxt ρ ρ' w) (hc : Chg w.heap.size ρ w w') :
    Buf g ρ' L' (w'.setCell ⟨g, 0, none⟩ (.slice o' L'.length cap')) ∧ Chg g ρ w (w'.setCell ⟨g, 0, none⟩ (.slice o' L'.length cap')) := by
  obtain ⟨o, cap, h1, h2, h3⟩ := h
  have hgl := lt_of_heap h1
  have hg' : w'.heap[g]? = some (.cells #[.slice o L.length cap] 113 (0, 0)) := (hc.2.2.2.2 g hgl (by omega) h3).trans h1
  have hne : ρ' ≠ some g := by
    rcases hn with rfl | ⟨k, rfl, hk⟩
    · exact h3
    · intro e; cases e; omega
  have hs := heap_setCell_same w' g 0 _ _ (.slice o' L'.length cap') hg'
  refine ⟨⟨o', cap', by simpa using hs, hR.keep (fun r hr => heap_setCell_other w' ⟨g, 0, none⟩ r _ (by intro e; apply hne; rw [hr, e])), hne⟩, hc.1, hc.2.1, hc.2.2.1, by simpa using hc.2.2.2.1, fun k hk hkg hr => ?_⟩
  exact (heap_setCell_other w' ⟨g, 0, none⟩ k _ hkg).trans (hc.2.2.2.2 k hk (by omega) hr)

def catP (ps : List ByteArray) (j : Nat) : List UInt8 := (ps.take j).flatMap (fun p => p.data.toList)
def catA (ps : List ByteArray) : List UInt8 := ps.flatMap (fun p => p.data.toList)
theorem catP_succ (ps : List ByteArray) (j : Nat) (h : j < ps.length) : catP ps (j + 1) = catP ps j ++ ps[j].data.toList := by
  unfold catP
  rw [List.take_succ_eq_append_getElem h, List.flatMap_append]; simp
theorem catP_all (ps : List ByteArray) : catP ps ps.length = catA ps := by unfold catP catA; rw [List.take_length]
theorem catP_le (ps : List ByteArray) (j : Nat) (h : j < ps.length) : (catP ps j).length + ps[j].size ≤ (catA ps).length := by
  have h1 : catA ps = catP ps (j + 1) ++ (ps.drop (j + 1)).flatMap (fun p => p.data.toList) := by
    unfold catP catA
    rw [← List.flatMap_append, List.take_append_drop]
  rw [h1, catP_succ ps j h, List.length_append, List.length_append]
  simp only [Array.length_toList]
  show _ + ps[j].data.size ≤ _
  omega

/-- What add answers. -/
def AddP (g : Nat) (ρ : Option Nat) (L : List UInt8) (ps : List ByteArray) (w : World) (e : Ending) (w' : World) : Prop :=
  Chg g ρ w w' ∧ ((L.length + (catA ps).length ≤ 8192 ∧ e = .returned (.bool true) ∧ ∃ ρ', Nxt ρ ρ' w ∧ Buf g ρ' (L ++ catA ps) w') ∨ (8192 < L.length + (catA ps).length ∧ e = .returned (.bool false)))

set_option maxHeartbeats 1000000 in
theorem add_any (g pb : Nat) (ps : List ByteArray) (hps : 1 ≤ ps.length) (hp9 : ps.length ≤ 1000) (hpz : ∀ p ∈ ps, p.size ≤ 1000000000) (ρ : Option Nat) (L : List UInt8) (w : World) (hB : Buf g ρ L w) (hL : L.length ≤ 8192)
    (hcell : ∀ j (h : j < ps.length), w.cell? ⟨pb, j, none⟩ = some (.string ps[j])) :
    Calls Tryz.prog 55 #[.slice (some ⟨pb, 0, none⟩) ps.length ps.length, .pointer (some ⟨g, 0, none⟩)] w (AddP g ρ L ps w) := by
  obtain ⟨hpg, hpr⟩ := hB.apart (hcell 0 (by omega)) ⟨fun x e => (by cases e), fun a b c e => (by cases e)⟩
  have hpl : pb < w.heap.size := World.block_lt_of_cell? w _ (hcell 0 (by omega))
  obtain ⟨r, hr⟩ : ∃ r, r = ps.length := ⟨_, rfl⟩
  rw [← hr] at hp9 ⊢
  have HR := Lib.hid hr
  have HC := Lib.hid hcell
  have HPZ := Lib.hid hpz
  have HB0 : Hid (Buf g ρ (L ++ catP ps 0) w) := Lib.hid (by rw [show catP ps 0 = [] from rfl, List.append_nil]; exact hB)
  have HL0 : Hid ((L ++ catP ps 0).length ≤ 8192) := Lib.hid (by rw [show catP ps 0 = [] from rfl, List.append_nil]; exact hL)
  have HAP := Lib.hid (And.intro hpg (And.intro hpr hpl))
  clear hr hcell hpz hB hL hpg hpr hpl hps
  go_enter Tryz.func55, Tryz.ntmps55
  go_wp2_with fail
  go_loopw [8] (fun iv wr => ∃ (j : Nat) (ρ1 : Option Nat), j ≤ r ∧ iv = .int .i64 (j : Int) ∧ Hid (Buf g ρ1 (L ++ catP ps j) wr) ∧ Hid (Nxt ρ ρ1 w) ∧ Hid (Chg g ρ w wr) ∧ Hid ((L ++ catP ps j).length ≤ 8192)) (fun iv _ => r - (intOf iv).toNat)
  case atStart => exact ⟨0, ρ, Nat.zero_le _, rfl, HB0, Lib.hid (Or.inl rfl), Lib.hid (Chg.refl _ _ _), HL0⟩
  case round =>
    clear HB0 HL0
    obtain ⟨j, ρ1, hj, rfl, hB, hN, hC, hL⟩ := hrel
    by_cases hjr : j < r
    · have hjl : j < ps.length := by rw [← HR.out]; exact hjr
      have hpc : wr.cell? ⟨pb, j, none⟩ = some (.string ps[j]) := (World.cell?_of_block (hC.out.2.2.2.2 pb HAP.out.2.2 HAP.out.1 HAP.out.2.1)).trans (HC.out j hjl)
      obtain ⟨o, cap, b1, b2, b3⟩ := hB.out
      have bc : wr.cell? ⟨g, 0, none⟩ = some (.slice o (L ++ catP ps j).length cap) := by rw [cell_of_row wr g 0 _ _ _ b1]; rfl
      have bf : wr.frozen? ⟨g, 0, none⟩ = false := frozen_of_row wr g 0 _ _ b1
      have hsz := HPZ.out _ (List.getElem_mem hjl)
      have hcs := catP_succ ps j hjl
      have hcl := catP_le ps j hjl
      obtain ⟨p, hp⟩ : ∃ p, p = ps[j] := ⟨_, rfl⟩
      rw [← hp] at hpc hsz hcs hcl
      obtain ⟨M, hM⟩ : ∃ M, M = L ++ catP ps j := ⟨_, rfl⟩
      have hM2 : M ++ p.data.toList = L ++ catP ps (j + 1) := by rw [hM, hcs, List.append_assoc]
      have hML : M.length = L.length + (catP ps j).length := by rw [hM, List.length_append]
      have hl := hL.out
      rw [← hM] at hl bc b2
      have HB2 := Lib.hid b2
      have HBF := Lib.hid hB.out
      obtain ⟨n, hn⟩ : ∃ n, n = M.length := ⟨_, rfl⟩
      have bc' := bc
      rw [← hn] at bc' hl
      have HN := Lib.hid hn
      by_cases hfit : 8192 - n < p.size
      · have hfi : (p.size : Int) > 8192 - (n : Int) := by omega
        have hw1 : IntKind.i64.wrap (8192 - (n : Int)) = 8192 - (n : Int) := IntWalk.i64_in _ ⟨by omega, by omega⟩
        have HTOT : Hid (8192 < L.length + (catA ps).length) := Lib.hid (by omega)
        clear bc b1 b2 b3 hcs hcl hM hM2 hML hn hp
        go_wp2
        go_ret
        exact ⟨hC.out, Or.inr ⟨HTOT.out, rfl⟩⟩
      · have hfi : ¬ (p.size : Int) > 8192 - (M.length : Int) := by omega
        have hw1 : IntKind.i64.wrap (8192 - (M.length : Int)) = 8192 - (M.length : Int) := IntWalk.i64_in _ ⟨by omega, by omega⟩
        have hlen2 : M.length + p.size ≤ 8192 := by omega
        have hpl2 : p.data.toList.length = p.size := by simp
        have HM2 := Lib.hid hM2
        have HLE : Hid ((L ++ catP ps (j + 1)).length ≤ 8192) := Lib.hid (by rw [← hM2, List.length_append]; omega)
        have HB1 := Lib.hid b1
        have HB3 := Lib.hid b3
        have HN2 := hN
        have HCC := hC
        clear bc' b1 b2 b3 hcs hcl hM hM2 hML hp hn HN hl hsz hpl2 hN hC hB hL hfit
        go_wp2_with (first
          | (at_builtin; go_must (refine wpList_row_append rfl (.tmp 18) (.tmp 19) rfl wr.heap.size ρ1 o cap M HB2.out p rfl rfl (by omega) ?_); intro o' cap' w' ρ' hR' hn' hc'; have hg' := (hc'.2.2.2.2 g (lt_of_heap HB1.out) (Nat.ne_of_lt (lt_of_heap HB1.out)) HB3.out).trans HB1.out; have bc2 := cell_of_row w' g 0 _ _ _ hg'; have bf2 := frozen_of_row w' g 0 _ _ hg'; simp at bc2; have HRR := Lib.hid hR'; have HNN := Lib.hid hn'; have HCN := Lib.hid hc'; clear hR' hn' hc' hg'))
        go_roundw
        case rel =>
          have hbp := buf_put HBF.out HRR.out HNN.out HCN.out
          have hle : (M ++ p.data.toList).length = M.length + p.size := by simp
          rw [hle, HM2.out] at hbp
          exact ⟨j + 1, ρ', by omega, by go_num, Lib.hid hbp.1, Lib.hid (HN2.out.trans HCC.out.2.2.2.1 HNN.out), Lib.hid (HCC.out.trans HN2.out hbp.2), HLE⟩
        case measure => simp [intOf]; omega
    · have ejl : j = ps.length := by rw [← HR.out]; omega
      rw [ejl, catP_all] at hB hL
      have HTOT : Hid (L.length + (catA ps).length ≤ 8192) := Lib.hid (by have := hL.out; rw [List.length_append] at this; exact this)
      clear ejl hL
      go_wp2
      go_ret
      exact ⟨hC.out, Or.inl ⟨HTOT.out, rfl, ρ1, hN.out, hB.out⟩⟩
end Go.Proofs.YtjfjliobencppaaGreatDoor

namespace Go.Proofs.YtjfjliobencppaaGreatDoor
open Go.RowKit

mutual
/-- A value as it lies in memory, all its rows in blocks of a kind. -/
def VInP (w : World) (P : Nat → Prop) : Tr → Value → Value → Value → Value → Prop
  | .mk k n s l, c0, c1, c2, c3 => c0 = .int .i64 k ∧ c1 = .int .u64 (n : Int) ∧ n ≤ 18446744073709551615 ∧ c2 = .string s ∧ (s.size ≤ 1000000000 ∧ l.length ≤ 1000000) ∧ ∃ (o : Option Addr) (cap b off : Nat), c3 = .slice o l.length cap ∧ (0 < l.length → o = some ⟨b, off, none⟩ ∧ b < w.heap.size ∧ P b) ∧ VInPL w P b off l
def VInPL (w : World) (P : Nat → Prop) (b : Nat) : Nat → List Tr → Prop
  | _, [] => True
  | off, t :: ts => (∃ c0 c1 c2 c3, w.cell? ⟨b, off, none⟩ = some c0 ∧ w.cell? ⟨b, off + 1, none⟩ = some c1 ∧ w.cell? ⟨b, off + 2, none⟩ = some c2 ∧ w.cell? ⟨b, off + 3, none⟩ = some c3 ∧ VInP w P t c0 c1 c2 c3) ∧ VInPL w P b (off + 4) ts
end
theorem VInPL.at {w : World} {P : Nat → Prop} {b : Nat} : ∀ {off : Nat} {l : List Tr} (i : Nat) (h : i < l.length), VInPL w P b off l → ∃ c0 c1 c2 c3, w.cell? ⟨b, off + i * 4, none⟩ = some c0 ∧ w.cell? ⟨b, off + i * 4 + 1, none⟩ = some c1 ∧ w.cell? ⟨b, off + i * 4 + 2, none⟩ = some c2 ∧ w.cell? ⟨b, off + i * 4 + 3, none⟩ = some c3 ∧ VInP w P l[i] c0 c1 c2 c3
  | off, t :: ts, 0, _, h => by
    unfold VInPL at h
    simpa using h.1
  | off, t :: ts, i + 1, hi, h => by
    unfold VInPL at h
    have := VInPL.at i (by simpa using hi) h.2
    rw [show off + (i + 1) * 4 = off + 4 + i * 4 by omega]
    simpa using this
theorem VInPL.of {w : World} {P : Nat → Prop} {b : Nat} : ∀ {off : Nat} {l : List Tr}, (∀ (i : Nat) (h : i < l.length), ∃ c0 c1 c2 c3, w.cell? ⟨b, off + i * 4, none⟩ = some c0 ∧ w.cell? ⟨b, off + i * 4 + 1, none⟩ = some c1 ∧ w.cell? ⟨b, off + i * 4 + 2, none⟩ = some c2 ∧ w.cell? ⟨b, off + i * 4 + 3, none⟩ = some c3 ∧ VInP w P l[i] c0 c1 c2 c3) → VInPL w P b off l
  | off, [], _ => by unfold VInPL; trivial
  | off, t :: ts, h => by
    unfold VInPL
    have h0 := h 0 (by simp)
    rw [Nat.zero_mul, Nat.add_zero] at h0
    refine ⟨h0, VInPL.of (fun i hi => ?_)⟩
    have := h (i + 1) (by simpa using hi)
    rw [show off + (i + 1) * 4 = off + 4 + i * 4 by omega] at this
    simpa using this
/-- What lies in blocks that stay goes on lying there. -/
theorem VInP.keep {w w' : World} {P Q : Nat → Prop} (hs : w.heap.size ≤ w'.heap.size) (hk : ∀ b, b < w.heap.size → P b → w'.heap[b]? = w.heap[b]? ∧ Q b) : ∀ (t : Tr) {c0 c1 c2 c3 : Value}, VInP w P t c0 c1 c2 c3 → VInP w' Q t c0 c1 c2 c3 := by
  refine Tr.ind ?_
  intro k n s l ih c0 c1 c2 c3 h
  unfold VInP at h ⊢
  obtain ⟨h0, h1, hn, h2, hz, o, cap, b, off, h3, ho, hl⟩ := h
  refine ⟨h0, h1, hn, h2, hz, o, cap, b, off, h3, fun hp => ⟨(ho hp).1, Nat.lt_of_lt_of_le (ho hp).2.1 hs, (hk b (ho hp).2.1 (ho hp).2.2).2⟩, VInPL.of (fun i hi => ?_)⟩
  obtain ⟨d0, d1, d2, d3, e0, e1, e2, e3, hv⟩ := hl.at i hi
  have hb := (hk b (ho (by omega)).2.1 (ho (by omega)).2.2).1
  have cc := fun j => World.cell?_of_block (a := ⟨b, j, none⟩) hb
  exact ⟨d0, d1, d2, d3, (cc _).trans e0, (cc _).trans e1, (cc _).trans e2, (cc _).trans e3, ih _ (List.getElem_mem hi) hv⟩
theorem VInP.plain {w : World} {P : Nat → Prop} : ∀ (t : Tr) {c0 c1 c2 c3 : Value}, VInP w P t c0 c1 c2 c3 → VIn w t c0 c1 c2 c3 := by
  refine Tr.ind ?_
  intro k n s l ih c0 c1 c2 c3 h
  unfold VInP at h
  unfold VIn
  obtain ⟨h0, h1, hn, h2, hz, o, cap, b, off, h3, ho, hl⟩ := h
  refine ⟨h0, h1, hn, h2, hz, o, cap, b, off, h3, fun hp => ⟨(ho hp).1, (ho hp).2.1⟩, VInL.of (fun i hi => ?_)⟩
  obtain ⟨d0, d1, d2, d3, e0, e1, e2, e3, hv⟩ := hl.at i hi
  exact ⟨d0, d1, d2, d3, e0, e1, e2, e3, ih _ (List.getElem_mem hi) hv⟩
theorem VInP.cells {w : World} {P : Nat → Prop} : ∀ {t : Tr} {c0 c1 c2 c3 : Value}, VInP w P t c0 c1 c2 c3 → ∃ (k : Int) (n : Nat) (s : ByteArray) (o : Option Addr) (len cap : Nat), c0 = .int .i64 k ∧ c1 = .int .u64 (n : Int) ∧ c2 = .string s ∧ c3 = .slice o len cap
  | t, _, _, _, _, h => (VInP.plain t h).cells

/-- A row of values of four cells each. -/
def VRow (T : TypeId) (ρ : Option Nat) (o : Option Addr) (cap n : Nat) (xs : List Value) (w : World) : Prop :=
  xs.length = n * 4 ∧ ((o = none ∧ cap = 0 ∧ ρ = none ∧ n = 0) ∨ ∃ (r : Nat) (cur : Array Value), ρ = some r ∧ o = some ⟨r, 0, none⟩ ∧ w.heap[r]? = some (.cells cur T (0, 0)) ∧ n ≤ cap ∧ cap ≤ maxLen ∧ cur.size = cap * 4 ∧ cur.toList.take (n * 4) = xs)
theorem VRow.nil (T : TypeId) (w : World) : VRow T none none 0 0 [] w := ⟨rfl, Or.inl ⟨rfl, rfl, rfl, rfl⟩⟩
theorem VRow.keep {T : TypeId} {ρ : Option Nat} {o : Option Addr} {cap n : Nat} {xs : List Value} {w w' : World} (h : VRow T ρ o cap n xs w) (hk : ∀ r, ρ = some r → w'.heap[r]? = w.heap[r]?) : VRow T ρ o cap n xs w' := by
  refine ⟨h.1, ?_⟩
  rcases h.2 with h | ⟨r, cur, h1, h2, h4, h5⟩
  · exact Or.inl h
  · exact Or.inr ⟨r, cur, h1, h2, (hk r h1).trans h4, h5⟩
theorem VRow.lt {T : TypeId} {ρ : Option Nat} {o : Option Addr} {cap n : Nat} {xs : List Value} {w : World} (h : VRow T ρ o cap n xs w) (r : Nat) (hr : ρ = some r) : r < w.heap.size := by
  rcases h.2 with ⟨_, _, h, _⟩ | ⟨q, cur, h1, _, h4, _⟩
  · rw [h] at hr; cases hr
  · rw [h1] at hr; cases hr; exact lt_of_heap h4
theorem VRow.cell {T : TypeId} {ρ : Option Nat} {o : Option Addr} {cap n : Nat} {xs : List Value} {w : World} (h : VRow T ρ o cap n xs w) (j : Nat) (u : Value) (hj : xs[j]? = some u) : ∃ r, ρ = some r ∧ o = some ⟨r, 0, none⟩ ∧ w.cell? ⟨r, j, none⟩ = some u := by
  have hjl := (List.getElem?_eq_some_iff.1 hj).1
  rcases h.2 with ⟨_, _, _, h0⟩ | ⟨r, cur, h1, h2, h4, _, _, _, htk⟩
  · rw [h.1, h0] at hjl; omega
  · refine ⟨r, h1, h2, ?_⟩
    rw [cell_of_row w r j _ _ _ h4, ← Array.getElem?_toList]
    have := congrArg (fun l => l[j]?) htk
    simp only [List.getElem?_take] at this
    rw [if_pos (by rw [← h.1]; exact hjl)] at this
    rw [this]; exact hj

theorem vrow_append (t T ty : TypeId) (hu : Tryz.prog.underlying t = some (.slice T)) (hinfo : (Tryz.prog.info? T).map (fun i => (i.zero, i.size, i.bytes)) = some (some (.agg #[.int .i64 0, .int .u64 0, .string ⟨#[]⟩, .slice none 0 0]), 4, 56))
    (g : Nat) (w : World) (ρ : Option Nat) (o : Option Addr) (cap n : Nat) (xs : List Value) (hR : VRow T ρ o cap n xs w) (hn : n + 1 ≤ 1000000000) (a : Addr) (news : List Value) (hl : news.length = 4) (hnews : ∀ j u, news[j]? = some u → w.cell? (a.add j) = some u) (h1 : ∀ u ∈ news, u.oneCell' = true) :
    ∃ o' cap' w' ρ', (Builtin.append_ #[t, t] ty #[.slice o n cap, .slice (some a) 1 1]).run Tryz.prog w = .ok (.slice o' (n + 1) cap') w' ∧ VRow T ρ' o' cap' (n + 1) (xs ++ news) w' ∧ Nxt ρ ρ' w ∧ Chg g ρ w w' := by

  obtain ⟨i, hi, hz, hsz, hby⟩ := info_parts hinfo
  have hml : (n + 1 : Nat) ≤ maxLen := by unfold maxLen; omega
  have hnl : news.length = 1 * i.size := by rw [hl, hsz]
  have hxl : (xs ++ news).length = (n + 1) * 4 := by rw [List.length_append, hR.1, hl]; omega
  have fresh : ∀ old, VRow T (some w.heap.size) (some ⟨w.heap.size, 0, none⟩) (grownCap w (n + 1) old T) (n + 1) (xs ++ news) (w.drew.alloc (.cells (xs.toArray ++ news.toArray ++ Builtin.zeroCells (Value.agg #[.int .i64 0, .int .u64 0, .string ⟨#[]⟩, .slice none 0 0]).cells (grownCap w (n + 1) old T - (n + 1))) T)) := by
    intro old
    refine ⟨hxl, Or.inr ⟨w.heap.size, _, rfl, rfl, heap_alloc_new w.drew _, grownCap_ge w (n + 1) old T, grownCap_le_maxLen w (n + 1) old T hml, ?_, ?_⟩⟩
    · have hge := grownCap_ge w (n + 1) old T
      have hz4 : (Value.agg #[.int .i64 0, .int .u64 0, .string ⟨#[]⟩, .slice none 0 0]).cells.size = 4 := rfl
      simp only [Array.size_append, List.size_toArray, size_zeroCells, hz4, hR.1, hl]
      omega
    · rw [← hxl]
      simp only [Array.toList_append]
      exact List.take_left
  rcases hR.2 with ⟨rfl, rfl, rfl, rfl⟩ | ⟨r, cur, rfl, rfl, hg, hnc, hcm, hcs, htk⟩
  · have hx : xs = [] := List.eq_nil_of_length_eq_zero (by simpa using hR.1)
    subst hx
    have hr := run_append_nil (P := Tryz.prog) w t ty T i _ hu hi hz a 1 1 news hnl hnews (by omega) (by omega) (by rw [hby]; omega)
    have hf := fresh 0
    simp only [List.nil_append, Array.empty_append] at hf
    exact ⟨_, _, _, _, hr, hf, Or.inr ⟨_, rfl, Nat.le_refl _⟩, grown_chg _ _ _ _⟩
  · by_cases hroom : n + 1 ≤ cap
    · have hr := run_append_room (P := Tryz.prog) w t ty T i hu hi r n cap cur hg a 1 1 news hnl hnews h1 hroom (by rw [hsz, hl, hcs]; omega)
      rw [hsz] at hr
      refine ⟨_, _, _, some r, hr, ⟨hxl, Or.inr ⟨r, _, rfl, rfl, setRow_heap w r cur _ T _ hg, hroom, hcm, ?_, ?_⟩⟩, Or.inl rfl, rfl, rfl, rfl, by simp, fun k _ _ hk => setRow_other w r k _ (fun e => hk (by rw [e]))⟩
      · simp only [List.size_toArray, List.length_append, List.length_take, List.length_drop, Array.length_toList]
        omega
      · rw [htk, ← hxl]
        exact List.take_left
    · have holds : ∀ j u, xs[j]? = some u → w.cell? ((⟨r, 0, none⟩ : Addr).add j) = some u := by
        intro j u hj
        obtain ⟨r2, e1, _, e3⟩ := hR.cell j u hj
        cases e1
        rw [plain_add]; exact e3
      have hr := run_append_grow (P := Tryz.prog) w t ty T i _ hu hi hz ⟨r, 0, none⟩ n cap xs (by rw [hsz]; exact hR.1) holds a 1 1 news hnl hnews (by omega) (by omega) (by rw [hby]; exact growslice_fits (by omega) (by omega))
      exact ⟨_, _, _, _, hr, fresh cap, Or.inr ⟨_, rfl, Nat.le_refl _⟩, grown_chg _ _ _ _⟩
theorem info27 : (Tryz.prog.info? 69).map (fun i => (i.zero, i.size, i.bytes)) = some (some (.agg #[.int .i64 0, .int .u64 0, .string ⟨#[]⟩, .slice none 0 0]), 4, 56) := by kernel_rfl
theorem info37 : (Tryz.prog.info? 81).map (fun i => (i.zero, i.size, i.bytes)) = some (some (.agg #[.int .i64 0, .int .u64 0, .string ⟨#[]⟩, .slice none 0 0]), 4, 56) := by kernel_rfl
end Go.Proofs.YtjfjliobencppaaGreatDoor

namespace Go.Proofs.YtjfjliobencppaaGreatDoor
open Go.RowKit

theorem step_vrow {w : World} {ops : Array Oper} {o : Oper} {a : Act} {K : Act → World → Prop} {Q : Exit → Act → World → Prop} {E : Prop} (hgd : o.guard = none) (s x : Operand) (t T : TypeId)
    (ho : o.op = .call { callee := .builtin .append, args := #[s, x], argTypes := #[t, t] })
    (hu : Tryz.prog.underlying t = some (.slice T)) (hinfo : (Tryz.prog.info? T).map (fun i => (i.zero, i.size, i.bytes)) = some (some (.agg #[.int .i64 0, .int .u64 0, .string ⟨#[]⟩, .slice none 0 0]), 4, 56))
    (g : Nat) (ρ : Option Nat) (oo : Option Addr) (cap n : Nat) (xs : List Value) (hR : VRow T ρ oo cap n xs w) (hn : n + 1 ≤ 1000000000) (ad : Addr) (news : List Value) (hl : news.length = 4) (hnews : ∀ j u, news[j]? = some u → w.cell? (ad.add j) = some u) (h1 : ∀ u ∈ news, u.oneCell' = true)
    (hs : a.eval s = .slice oo n cap) (hx : a.eval x = .slice (some ad) 1 1)
    (h : ∀ o' cap' w' ρ', VRow T ρ' o' cap' (n + 1) (xs ++ news) w' → Nxt ρ ρ' w → Chg g ρ w w' → K (a.put o.dst (.slice o' (n + 1) cap')) w') :
    if Region.wanted o (yielded ops a.tmps) = true then Oper.wp Tryz.prog o a w K Q else E := by
  have hw : Region.wanted o (yielded ops a.tmps) = true := by simp [Region.wanted, hgd]
  rw [if_pos hw]
  obtain ⟨o', cap', w', ρ', hr, h2, h3, h4⟩ := vrow_append t T o.type hu hinfo g w ρ oo cap n xs hR hn ad news hl hnews h1
  unfold Oper.wp execOp
  simp only [ho, resolve, invoke, builtin, Sem.run_bind, Sem.run_pure, Result.andThen_ok, List.map_toArray, List.map_cons, List.map_nil, hs, hx, hr]
  exact h o' cap' w' ρ' h2 h3 h4

/-- What holds while a value is made anew: the boxes, the row, what has been made. -/
def TOW (w : World) (a b c d : Value) (k : Int) (n : Nat) (s : ByteArray) (l : List Tr) (ρ : Option Nat) (oo : Option Addr) (cap j : Nat) (xs : List Value) (wz : World) : Prop :=
  VW w a b c d wz ∧ wz.heap[w.heap.size + 1]? = some (.cells #[.int .i64 0, .int .u64 0, .string ⟨#[]⟩, .slice none 0 0] 81 (0, 0)) ∧ wz.heap[w.heap.size + 2]? = some (.cells #[.int .i64 k, .int .u64 (n : Int), .string s, .slice oo j cap] 81 (0, 0)) ∧ VRow 81 ρ oo cap j xs wz ∧ (∀ r, ρ = some r → w.heap.size + 3 ≤ r) ∧
    ∀ i (h : i < l.length), i < j → ∃ d0 d1 d2 d3, xs[i * 4]? = some d0 ∧ xs[i * 4 + 1]? = some d1 ∧ xs[i * 4 + 2]? = some d2 ∧ xs[i * 4 + 3]? = some d3 ∧ VInP wz (fun b => w.heap.size + 3 ≤ b ∧ ρ ≠ some b) l[i] d0 d1 d2 d3
theorem TOW.later {w wz w1 : World} {a b c d : Value} {k : Int} {n : Nat} {s : ByteArray} {l : List Tr} {ρ : Option Nat} {oo : Option Addr} {cap j : Nat} {xs : List Value} (h : TOW w a b c d k n s l ρ oo cap j xs wz) (hb : Below wz.heap.size wz w1) : TOW w a b c d k n s l ρ oo cap j xs w1 := by
  obtain ⟨h1, h2, h3, h4, h5, h6⟩ := h
  refine ⟨h1.later hb, (hb.block _ (lt_of_heap h2)).trans h2, (hb.block _ (lt_of_heap h3)).trans h3, h4.keep (fun r hr => hb.block _ (h4.lt r hr)), h5, fun i hi hj => ?_⟩
  obtain ⟨d0, d1, d2, d3, x0, x1, x2, x3, hv⟩ := h6 i hi hj
  exact ⟨d0, d1, d2, d3, x0, x1, x2, x3, VInP.keep hb.size (fun b hb' hP => ⟨hb.block b hb', hP⟩) _ hv⟩

/-- One more has been made, and put behind. -/
theorem tow_put {w w5 w6 w7 : World} {a b c d : Value} {k : Int} {n : Nat} {s : ByteArray} {l : List Tr} {ρ ρ' : Option Nat} {oo o' : Option Addr} {cap cap' j : Nat} {xs : List Value} {d0 d1 d2 d3 : Value} (hjl : j < l.length)
    (h : TOW w a b c d k n s l ρ oo cap j xs w5) (hv : VInP w5 (fun b => w.heap.size + 3 ≤ b ∧ ρ ≠ some b) l[j] d0 d1 d2 d3) (h56 : Below w5.heap.size w5 w6)
    (hR : VRow 81 ρ' o' cap' (j + 1) (xs ++ [d0, d1, d2, d3]) w7) (hn : Nxt ρ ρ' w6) (hc : Chg w6.heap.size ρ w6 w7) :
    TOW w a b c d k n s l ρ' o' cap' (j + 1) (xs ++ [d0, d1, d2, d3]) (w7.setCell ⟨w.heap.size + 2, 3, none⟩ (.slice o' (j + 1) cap')) := by
  have h6 := h.later h56
  have hv6 : VInP w6 (fun b => w.heap.size + 3 ≤ b ∧ ρ ≠ some b) l[j] d0 d1 d2 d3 := VInP.keep h56.size (fun b hb' hP => ⟨h56.block b hb', hP⟩) _ hv
  obtain ⟨g1, g2, g3, g4, g5, g6⟩ := h6
  have hx : xs.length = j * 4 := g4.1
  have l2 := lt_of_heap g2
  have l3 := lt_of_heap g3
  have hstay : ∀ q, q < w6.heap.size → ρ ≠ some q → w7.heap[q]? = w6.heap[q]? := fun q hq hr => hc.2.2.2.2 q hq (by omega) hr
  have hne : ∀ q, q < w.heap.size + 3 → ρ ≠ some q := fun q hq e => by have := g5 q e; omega
  have hnew : ∀ r, ρ' = some r → w.heap.size + 3 ≤ r := by
    intro r hr
    rcases hn with rfl | ⟨q, rfl, hq⟩
    · exact g5 r hr
    · cases hr; omega
  have hset : ∀ q, q ≠ w.heap.size + 2 → (w7.setCell ⟨w.heap.size + 2, 3, none⟩ (.slice o' (j + 1) cap')).heap[q]? = w7.heap[q]? := fun q hq => heap_setCell_other w7 ⟨w.heap.size + 2, 3, none⟩ q _ hq
  have hbox := hstay (w.heap.size + 2) l3 (hne _ (by omega))
  have h7s := heap_setCell_same w7 (w.heap.size + 2) 3 _ _ (.slice o' (j + 1) cap') (hbox.trans g3)
  have hbel : Below w6.heap.size w6 w6 := Below.refl _ _
  have hkeep : ∀ b', b' < w6.heap.size → (w.heap.size + 3 ≤ b' ∧ ρ ≠ some b') → (w7.setCell ⟨w.heap.size + 2, 3, none⟩ (.slice o' (j + 1) cap')).heap[b']? = w6.heap[b']? ∧ (w.heap.size + 3 ≤ b' ∧ ρ' ≠ some b') := by
    intro b' hb' hP
    refine ⟨(hset b' (by omega)).trans (hstay b' hb' hP.2), hP.1, ?_⟩
    rcases hn with rfl | ⟨q, rfl, hq⟩
    · exact hP.2
    · intro e; cases e; omega
  have hsz : w6.heap.size ≤ (w7.setCell ⟨w.heap.size + 2, 3, none⟩ (.slice o' (j + 1) cap')).heap.size := by simpa using hc.2.2.2.1
  refine ⟨⟨?_, ?_, ?_⟩, (hset _ (by omega)).trans ((hstay _ l2 (hne _ (by omega))).trans g2), by simpa using h7s, hR.keep (fun r hr => hset r (by have := hnew r hr; omega)), hnew, ?_⟩
  · have hb0 : (w7.setCell ⟨w.heap.size + 2, 3, none⟩ (.slice o' (j + 1) cap')).heap[w.heap.size]? = w6.heap[w.heap.size]? := (hset _ (by omega)).trans (hstay _ g1.2.1 (hne _ (by omega)))
    have cc := fun j => World.cell?_of_block (a := ⟨w.heap.size, j, none⟩) hb0
    exact ⟨(cc 0).trans g1.1.1, (cc 1).trans g1.1.2.1, (cc 2).trans g1.1.2.2.1, (cc 3).trans g1.1.2.2.2⟩
  · have := g1.2.1; omega
  · refine g1.2.2.trans ?_
    exact ⟨hc.1, hc.2.1, hc.2.2.1, hsz, fun q hq => (hset q (by omega)).trans (hstay q (by have := g1.2.1; omega) (hne q (by omega)))⟩
  · intro i hi hij
    by_cases hlt : i < j
    · obtain ⟨e0, e1, e2, e3, x0, x1, x2, x3, hvi⟩ := g6 i hi hlt
      refine ⟨e0, e1, e2, e3, ?_, ?_, ?_, ?_, VInP.keep hsz hkeep _ hvi⟩
      all_goals (rw [List.getElem?_append_left (by rw [hx]; omega)]; assumption)
    · obtain rfl : i = j := by omega
      refine ⟨d0, d1, d2, d3, ?_, ?_, ?_, ?_, VInP.keep hsz hkeep _ hv6⟩
      all_goals (rw [List.getElem?_append_right (by rw [hx]; omega), hx])
      · rw [Nat.sub_self]; rfl
      · rw [show i * 4 + 1 - i * 4 = 1 by omega]; rfl
      · rw [show i * 4 + 2 - i * 4 = 2 by omega]; rfl
      · rw [show i * 4 + 3 - i * 4 = 3 by omega]; rfl
end Go.Proofs.YtjfjliobencppaaGreatDoor

namespace Go.Proofs.YtjfjliobencppaaGreatDoor
open Go.RowKit

theorem tow_start (w : World) (a b c d : Value) (k : Int) (n : Nat) (s : ByteArray) (l : List Tr) :
    TOW w a b c d k n s l none none 0 0 [] (((w.alloc (.cells #[a, b, c, d] 69)).alloc (.cells #[.int .i64 0, .int .u64 0, .string ⟨#[]⟩, .slice none 0 0] 81)).alloc (.cells #[.int .i64 k, .int .u64 (n : Int), .string s, .slice none 0 0] 81)) := by
  have h1 := (VW.new w a b c d 69).later (alloc_below _ (.cells #[.int .i64 0, .int .u64 0, .string ⟨#[]⟩, .slice none 0 0] 81))
  have g1 := heap_alloc_new (w.alloc (.cells #[a, b, c, d] 69)) (.cells #[.int .i64 0, .int .u64 0, .string ⟨#[]⟩, .slice none 0 0] 81)
  rw [show (w.alloc (.cells #[a, b, c, d] 69)).heap.size = w.heap.size + 1 by simp] at g1
  have g2 := heap_alloc_new ((w.alloc (.cells #[a, b, c, d] 69)).alloc (.cells #[.int .i64 0, .int .u64 0, .string ⟨#[]⟩, .slice none 0 0] 81)) (.cells #[.int .i64 k, .int .u64 (n : Int), .string s, .slice none 0 0] 81)
  rw [show ((w.alloc (.cells #[a, b, c, d] 69)).alloc (.cells #[.int .i64 0, .int .u64 0, .string ⟨#[]⟩, .slice none 0 0] 81)).heap.size = w.heap.size + 2 by simp] at g2
  exact ⟨h1.later (alloc_below _ _), (heap_alloc_old _ _ (lt_of_heap g1)).trans g1, g2, VRow.nil 81 _, fun r hr => (by cases hr), fun i _ h => absurd h (by omega)⟩

theorem TOW.box {w w6 w7 : World} {a b c d : Value} {k : Int} {n : Nat} {s : ByteArray} {l : List Tr} {ρ : Option Nat} {oo : Option Addr} {cap j : Nat} {xs : List Value} (h : TOW w a b c d k n s l ρ oo cap j xs w6) (hc : Chg w6.heap.size ρ w6 w7) :
    w7.cell? ⟨w.heap.size + 2, 3, none⟩ = some (.slice oo j cap) ∧ w7.frozen? ⟨w.heap.size + 2, 3, none⟩ = false := by
  have l3 := lt_of_heap h.2.2.1
  have hb := (hc.2.2.2.2 (w.heap.size + 2) l3 (by omega) (fun e => by have := h.2.2.2.2.1 _ e; omega)).trans h.2.2.1
  exact ⟨by rw [cell_of_row w7 _ 3 _ _ _ hb]; rfl, frozen_of_row w7 _ 3 _ _ hb⟩
theorem tow_done {w wr w' : World} {a b c d : Value} {k : Int} {n : Nat} {s : ByteArray} {l : List Tr} {ρ : Option Nat} {oo : Option Addr} {cap : Nat} {xs : List Value} (hn : n ≤ 18446744073709551615) (hsz : s.size ≤ 1000000000) (hlen : l.length ≤ 1000000)
    (h : TOW w a b c d k n s l ρ oo cap l.length xs wr) (hs : wr.heap.size ≤ w'.heap.size) (hk : ∀ q, q ≠ w.heap.size + 1 → w'.heap[q]? = wr.heap[q]?) : VInP w' (fun b => w.heap.size ≤ b) (.mk k n s l) (.int .i64 k) (.int .u64 (n : Int)) (.string s) (.slice oo l.length cap) := by
  obtain ⟨_, _, _, hR, hr, hE⟩ := h
  unfold VInP
  rcases Nat.eq_zero_or_pos l.length with h0 | h0
  · refine ⟨rfl, rfl, hn, rfl, ⟨hsz, hlen⟩, oo, cap, 0, 0, rfl, fun hp => absurd hp (by omega), VInPL.of (fun i hi => absurd hi (by omega))⟩
  · obtain ⟨d0, _, _, _, x0, _⟩ := hE 0 h0 h0
    obtain ⟨r, e1, e2, _⟩ := hR.cell _ _ x0
    have hrl := hR.lt r e1
    have hrb := hr r e1
    refine ⟨rfl, rfl, hn, rfl, ⟨hsz, hlen⟩, oo, cap, r, 0, rfl, fun _ => ⟨e2, by omega, by omega⟩, VInPL.of (fun i hi => ?_)⟩
    obtain ⟨d0, d1, d2, d3, x0, x1, x2, x3, hv⟩ := hE i hi hi
    have cell : ∀ j u, xs[j]? = some u → w'.cell? ⟨r, j, none⟩ = some u := fun j u hj => by
      obtain ⟨r', q1, _, q3⟩ := hR.cell j u hj
      rw [e1] at q1
      cases q1
      exact (World.cell?_of_block (a := ⟨r, j, none⟩) (hk r (by omega))).trans q3
    rw [Nat.zero_add]
    exact ⟨d0, d1, d2, d3, cell _ _ x0, cell _ _ x1, cell _ _ x2, cell _ _ x3, VInP.keep hs (fun b' hb' hP => ⟨hk b' (by omega), by omega⟩) _ hv⟩
def ToP (t : Tr) (w : World) (e : Ending) (w' : World) : Prop := ∃ d0 d1 d2 d3, e = .returned (.agg #[d0, d1, d2, d3]) ∧ VInP w' (fun b => w.heap.size ≤ b) t d0 d1 d2 d3 ∧ Below w.heap.size w w'
theorem news_at (W : World) (vs : List Value) (T : TypeId) (g : Nat) (hg : g = W.heap.size) : ∀ j u, vs[j]? = some u → (W.alloc (.cells vs.toArray T)).cell? ((⟨g, 0, none⟩ : Addr).add j) = some u := by
  subst hg
  intro j u hj
  rw [plain_add, cell_of_row _ W.heap.size j _ _ _ (heap_alloc_new W _)]
  simpa using hj

end Go.Proofs.YtjfjliobencppaaGreatDoor

namespace Go.Proofs.YtjfjliobencppaaGreatDoor
open Go.RowKit

/-- What holds while values are made anew. -/
def ClW (w : World) (l : List Tr) (ρ : Option Nat) (oo : Option Addr) (cap j : Nat) (xs : List Value) (wz : World) : Prop :=
  Below w.heap.size w wz ∧ VRow 69 ρ oo cap j xs wz ∧ (∀ r, ρ = some r → w.heap.size ≤ r) ∧
    ∀ i (h : i < l.length), i < j → ∃ d0 d1 d2 d3, xs[i * 4]? = some d0 ∧ xs[i * 4 + 1]? = some d1 ∧ xs[i * 4 + 2]? = some d2 ∧ xs[i * 4 + 3]? = some d3 ∧ VInP wz (fun b => w.heap.size ≤ b ∧ ρ ≠ some b) l[i] d0 d1 d2 d3
theorem ClW.later {w wz w1 : World} {l : List Tr} {ρ : Option Nat} {oo : Option Addr} {cap j : Nat} {xs : List Value} (h : ClW w l ρ oo cap j xs wz) (hb : Below wz.heap.size wz w1) : ClW w l ρ oo cap j xs w1 := by
  obtain ⟨h1, h4, h5, h6⟩ := h
  refine ⟨h1.trans (hb.mono h1.size), h4.keep (fun r hr => hb.block _ (h4.lt r hr)), h5, fun i hi hj => ?_⟩
  obtain ⟨d0, d1, d2, d3, x0, x1, x2, x3, hv⟩ := h6 i hi hj
  exact ⟨d0, d1, d2, d3, x0, x1, x2, x3, VInP.keep hb.size (fun b hb' hP => ⟨hb.block b hb', hP⟩) _ hv⟩
theorem clw_put {w w6 w7 : World} {l : List Tr} {ρ ρ' : Option Nat} {oo o' : Option Addr} {cap cap' j : Nat} {xs : List Value} {d0 d1 d2 d3 : Value} (hjl : j < l.length)
    (g6 : ClW w l ρ oo cap j xs w6) (hv6 : VInP w6 (fun b => w.heap.size ≤ b ∧ ρ ≠ some b) l[j] d0 d1 d2 d3)
    (hR : VRow 69 ρ' o' cap' (j + 1) (xs ++ [d0, d1, d2, d3]) w7) (hn : Nxt ρ ρ' w6) (hc : Chg w6.heap.size ρ w6 w7) :
    ClW w l ρ' o' cap' (j + 1) (xs ++ [d0, d1, d2, d3]) w7 := by
  obtain ⟨g1, g4, g5, g7⟩ := g6
  have hx : xs.length = j * 4 := g4.1
  have hnew : ∀ r, ρ' = some r → w.heap.size ≤ r := by
    intro r hr
    rcases hn with rfl | ⟨q, rfl, hq⟩
    · exact g5 r hr
    · cases hr; have := g1.size; omega
  have hkeep : ∀ b', b' < w6.heap.size → (w.heap.size ≤ b' ∧ ρ ≠ some b') → w7.heap[b']? = w6.heap[b']? ∧ (w.heap.size ≤ b' ∧ ρ' ≠ some b') := by
    intro b' hb' hP
    refine ⟨hc.2.2.2.2 b' hb' (by omega) hP.2, hP.1, ?_⟩
    rcases hn with rfl | ⟨q, rfl, hq⟩
    · exact hP.2
    · intro e; cases e; omega
  refine ⟨g1.trans ⟨hc.1, hc.2.1, hc.2.2.1, hc.2.2.2.1, fun q hq => hc.2.2.2.2 q (by have := g1.size; omega) (by have := g1.size; omega) (fun e => by have := g5 q e; omega)⟩, hR, hnew, ?_⟩
  intro i hi hij
  by_cases hlt : i < j
  · obtain ⟨e0, e1, e2, e3, x0, x1, x2, x3, hvi⟩ := g7 i hi hlt
    refine ⟨e0, e1, e2, e3, ?_, ?_, ?_, ?_, VInP.keep hc.2.2.2.1 hkeep _ hvi⟩
    all_goals (rw [List.getElem?_append_left (by rw [hx]; omega)]; assumption)
  · obtain rfl : i = j := by omega
    refine ⟨d0, d1, d2, d3, ?_, ?_, ?_, ?_, VInP.keep hc.2.2.2.1 hkeep _ hv6⟩
    all_goals (rw [List.getElem?_append_right (by rw [hx]; omega), hx])
    · rw [Nat.sub_self]; rfl
    · rw [show i * 4 + 1 - i * 4 = 1 by omega]; rfl
    · rw [show i * 4 + 2 - i * 4 = 2 by omega]; rfl
    · rw [show i * 4 + 3 - i * 4 = 3 by omega]; rfl

/-- What cloned answers. -/
def ClP (l : List Tr) (w : World) (e : Ending) (w' : World) : Prop :=
  ∃ (o : Option Addr) (cap r : Nat), e = .returned (.slice o l.length cap) ∧ (0 < l.length → o = some ⟨r, 0, none⟩ ∧ r < w'.heap.size ∧ w.heap.size ≤ r) ∧ VInPL w' (fun b => w.heap.size ≤ b) r 0 l ∧ Below w.heap.size w w'
theorem clw_done {w wr : World} {l : List Tr} {ρ : Option Nat} {oo : Option Addr} {cap : Nat} {xs : List Value} (h : ClW w l ρ oo cap l.length xs wr) : ClP l w (.returned (.slice oo l.length cap)) wr := by
  obtain ⟨hB, hR, hr, hE⟩ := h
  rcases Nat.eq_zero_or_pos l.length with h0 | h0
  · exact ⟨oo, cap, 0, rfl, fun hp => absurd hp (by omega), VInPL.of (fun i hi => absurd hi (by omega)), hB⟩
  · obtain ⟨d0, _, _, _, x0, _⟩ := hE 0 h0 h0
    obtain ⟨r, e1, e2, _⟩ := hR.cell _ _ x0
    refine ⟨oo, cap, r, rfl, fun _ => ⟨e2, hR.lt r e1, hr r e1⟩, VInPL.of (fun i hi => ?_), hB⟩
    obtain ⟨d0, d1, d2, d3, x0, x1, x2, x3, hv⟩ := hE i hi hi
    have cell : ∀ j u, xs[j]? = some u → wr.cell? ⟨r, j, none⟩ = some u := fun j u hj => by
      obtain ⟨r', q1, _, q3⟩ := hR.cell j u hj
      rw [e1] at q1
      cases q1
      exact q3
    rw [Nat.zero_add]
    exact ⟨d0, d1, d2, d3, cell _ _ x0, cell _ _ x1, cell _ _ x2, cell _ _ x3, VInP.keep (Nat.le_refl _) (fun b' _ hP => ⟨rfl, hP.1⟩) _ hv⟩
/-- A value out of its four cells, the values within made anew. -/
theorem vinp_mk {w w' : World} {P : Nat → Prop} {k : Int} {n : Nat} {s : ByteArray} {l : List Tr} {o : Option Addr} {cap r : Nat} (hn : n ≤ 18446744073709551615) (hz : s.size ≤ 1000000000 ∧ l.length ≤ 1000000)
    (ho : 0 < l.length → o = some ⟨r, 0, none⟩ ∧ r < w'.heap.size ∧ w.heap.size ≤ r) (hl : VInPL w' (fun b => w.heap.size ≤ b) r 0 l) (hP : ∀ b, w.heap.size ≤ b → P b) : VInP w' P (.mk k n s l) (.int .i64 k) (.int .u64 (n : Int)) (.string s) (.slice o l.length cap) := by
  unfold VInP
  refine ⟨rfl, rfl, hn, rfl, hz, o, cap, r, 0, rfl, fun hp => ⟨(ho hp).1, (ho hp).2.1, hP r (ho hp).2.2⟩, VInPL.of (fun i hi => ?_)⟩
  obtain ⟨d0, d1, d2, d3, e0, e1, e2, e3, hv⟩ := hl.at i hi
  exact ⟨d0, d1, d2, d3, e0, e1, e2, e3, VInP.keep (Nat.le_refl _) (fun b' _ h => ⟨rfl, hP b' h⟩) _ hv⟩

end Go.Proofs.YtjfjliobencppaaGreatDoor
