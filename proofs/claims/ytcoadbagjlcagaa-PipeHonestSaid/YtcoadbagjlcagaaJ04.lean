/- Acts, the invariant of PipeTurns. -/
import Derived.Test.YtcoadbagjlcagaaJ03
set_option linter.unusedVariables false
set_option linter.unusedSimpArgs false
namespace Go.Proofs.Ytcoadbagjlcagaa
open Go.RowKit

/-- An act. -/
structure Ac where
  d : Nat
  t : Nat
  s : ByteArray
  i : Int
instance : Inhabited Ac := ⟨⟨0, 0, ⟨#[]⟩, 0⟩⟩
structure Ac.ok (q : Ac) : Prop where
  d : q.d ≤ 255
  s : q.s.size ≤ 140737488355328
def AcsIn (w : World) (b off : Nat) (l : List Ac) : Prop := ∀ k (h : k < l.length), w.cell? ⟨b, off + k * 4, none⟩ = some (.int .u8 (l[k].d : Int)) ∧ w.cell? ⟨b, off + k * 4 + 1, none⟩ = some (.int .u64 (l[k].t : Int)) ∧ w.cell? ⟨b, off + k * 4 + 2, none⟩ = some (.string l[k].s) ∧ w.cell? ⟨b, off + k * 4 + 3, none⟩ = some (.int .i64 l[k].i) ∧ l[k].ok
/-- An act in a box. -/
def A4 (w : World) (g : Nat) (d t : Nat) (s : ByteArray) (i : Int) : Prop := w.heap[g]? = some (.cells #[.int .u8 (d : Int), .int .u64 (t : Int), .string s, .int .i64 i] 30 (0, 0))
theorem A4.cells {w : World} {g d t : Nat} {s : ByteArray} {i : Int} (h : A4 w g d t s i) : w.cell? ⟨g, 0, none⟩ = some (.int .u8 (d : Int)) ∧ w.cell? ⟨g, 1, none⟩ = some (.int .u64 (t : Int)) ∧ w.cell? ⟨g, 2, none⟩ = some (.string s) ∧ w.cell? ⟨g, 3, none⟩ = some (.int .i64 i) :=
  ⟨(cell_of_row w g 0 _ _ _ h).trans rfl, (cell_of_row w g 1 _ _ _ h).trans rfl, (cell_of_row w g 2 _ _ _ h).trans rfl, (cell_of_row w g 3 _ _ _ h).trans rfl⟩
theorem A4.later {w w' : World} {g d t : Nat} {s : ByteArray} {i : Int} (h : A4 w g d t s i) (hb : Below w.heap.size w w') : A4 w' g d t s i := (hb.block _ (lt_of_heap h)).trans h
theorem A4.away {w : World} {g d t : Nat} {s : ByteArray} {i : Int} (h : A4 w g d t s i) (p : Addr) (hp : g ≠ p.block) (u : Value) : A4 (w.setCell p u) g d t s i := (heap_setCell_other _ p g _ hp).trans h
/-- The items are as they may be. -/
def Okl (L : List It) : Prop := L.length ≤ 64 ∧ ∀ x ∈ L, x.s.size ≤ 140737488355328
theorem Okl.send {L : List It} (h : Okl L) (x : It) (hx : x.s.size ≤ 140737488355328) : Okl (sendL L x) := by
  refine ⟨by have := h.1; simp [sendL]; omega, fun y hy => ?_⟩
  simp only [sendL, List.mem_append, List.mem_singleton] at hy
  rcases hy with hy | rfl
  · exact h.2 y (List.mem_of_mem_drop hy)
  · exact hx
theorem Okl.drop {L : List It} (h : Okl L) (i : Int) : Okl (dropL L i) := by
  unfold dropL
  split
  · refine ⟨by have := h.1; simp; omega, fun y hy => ?_⟩
    rcases List.mem_append.1 hy with hy | hy
    · exact h.2 y (List.mem_of_mem_take hy)
    · exact h.2 y (List.mem_of_mem_drop hy)
  · exact h
theorem Okl.clear {L : List It} (h : Okl L) (tt : Nat) : Okl (L.filter (keep tt)) :=
  ⟨Nat.le_trans (List.length_filter_le _ _) h.1, fun y hy => h.2 y (List.mem_filter.1 hy).1⟩

/-- What holds at each turn: the pipe's box at gp, what it reads, the document's list. -/
structure Inv (w : World) (gp : Nat) (v u : Value) (L : List It) (wz : World) : Prop where
  p : B1 26 wz gp v
  sv : Sl wz v L
  fv : Fr (gp + 1) v
  su : Sl wz u L
  fu : Fr (gp + 1) u
  ok : Okl L
  b : Below w.heap.size w wz
  g : w.heap.size ≤ gp

/-- What holds within a turn: the act's box at ga, the elder pipe's behind it. -/
structure Rd (w : World) (gp ga : Nat) (v u v' : Value) (L M : List It) (q : Ac) (wz : World) : Prop where
  p : B1 26 wz gp v'
  was : B1 26 wz (ga + 1) v
  a : A4 wz ga q.d q.t q.s q.i
  sm : Sl wz v' M
  fm : Fr (gp + 1) v'
  sv : Sl wz v L
  fv : Fr (gp + 1) v
  su : Sl wz u L
  fu : Fr (gp + 1) u
  b : Below w.heap.size w wz
  g : w.heap.size ≤ gp
  lt : gp < ga
theorem Rd.later {w : World} {gp ga : Nat} {v u v' : Value} {L M : List It} {q : Ac} {wz wy : World} (h : Rd w gp ga v u v' L M q wz) (hb : Below wz.heap.size wz wy) : Rd w gp ga v u v' L M q wy :=
  ⟨h.p.later hb, h.was.later hb, h.a.later hb, h.sm.later hb, h.fm, h.sv.later hb, h.fv, h.su.later hb, h.fu, h.b.trans (hb.mono h.b.size), h.g, h.lt⟩
theorem Rd.drewN {w : World} {gp ga : Nat} {v u v' : Value} {L M : List It} {q : Ac} {wz : World} (h : Rd w gp ga v u v' L M q wz) (n : Nat) : Rd w gp ga v u v' L M q (wz.drewN n) :=
  ⟨h.p, h.was, h.a, h.sm, h.fm, h.sv, h.fv, h.su, h.fu, ⟨h.b.os, h.b.tape, h.b.output, h.b.size, h.b.block⟩, h.g, h.lt⟩
/-- Another pipe is put into the box. -/
theorem Rd.put {w : World} {gp ga : Nat} {v u v' v2 : Value} {L M M2 : List It} {q : Ac} {wz : World} (h : Rd w gp ga v u v' L M q wz) (hs : Sl wz v2 M2) (hf : Fr (gp + 1) v2) : Rd w gp ga v u v2 L M2 q (wz.setCell ⟨gp, 0, none⟩ v2) :=
  ⟨h.p.put v2, h.was.away ⟨gp, 0, none⟩ (by have := h.lt; show ga + 1 ≠ gp; omega) v2, h.a.away ⟨gp, 0, none⟩ (by have := h.lt; show ga ≠ gp; omega) v2, hs.awayF hf ⟨gp, 0, none⟩ (Nat.lt_succ_self _) v2, hf, h.sv.awayF h.fv ⟨gp, 0, none⟩ (Nat.lt_succ_self _) v2, h.fv, h.su.awayF h.fu ⟨gp, 0, none⟩ (Nat.lt_succ_self _) v2, h.fu, h.b.setCell (p := ⟨gp, 0, none⟩) h.g v2, h.g, h.lt⟩
theorem Rd.start {w : World} {gp : Nat} {v u : Value} {L : List It} {wr : World} (h : Inv w gp v u L wr) (q : Ac) : Rd w gp wr.heap.size v u v L L q ((wr.alloc (.cells #[.int .u8 (q.d : Int), .int .u64 (q.t : Int), .string q.s, .int .i64 q.i] 30)).alloc (.cells #[v] 26)) := by
  have hb := bt (o := .cells #[.int .u8 (q.d : Int), .int .u64 (q.t : Int), .string q.s, .int .i64 q.i] 30) (alloc_below (wr.alloc (.cells #[.int .u8 (q.d : Int), .int .u64 (q.t : Int), .string q.s, .int .i64 q.i] 30)) (.cells #[v] 26))
  have e : (wr.alloc (.cells #[.int .u8 (q.d : Int), .int .u64 (q.t : Int), .string q.s, .int .i64 q.i] 30)).heap.size = wr.heap.size + 1 := by simp
  refine ⟨h.p.later hb, ?_, ?_, h.sv.later hb, h.fv, h.sv.later hb, h.fv, h.su.later hb, h.fu, h.b.trans (hb.mono h.b.size), h.g, lt_of_heap h.p⟩
  · rw [← e]; exact B1.new 26 _ v
  · exact A4.later (show A4 _ wr.heap.size q.d q.t q.s q.i from heap_alloc_new wr _) (alloc_below _ _)
theorem Rd.inv {w : World} {gp ga : Nat} {v u v' u' : Value} {L M : List It} {q : Ac} {wz : World} (h : Rd w gp ga v u v' L M q wz) (hs : Sl wz u' M) (hf : Fr (gp + 1) u') (hok : Okl M) : Inv w gp v' u' M wz :=
  ⟨h.p, h.sm, h.fm, hs, hf, hok, h.b, h.g⟩
/-- No block of it is that one. -/
def Nb (g : Nat) (v : Value) : Prop := ∀ b o n c, v = .slice (some ⟨b, o, none⟩) n c → b ≠ g
theorem Sl.nb {w : World} {v : Value} {L : List It} (h : Sl w v L) : Nb w.heap.size v := fun b o n c e => by
  rcases h with ⟨h, _⟩ | ⟨b', off, cap, h, _, _, h4, _⟩
  · rw [h] at e; cases e
  · rw [h] at e; cases e; omega
theorem Fr.nb {B g : Nat} {v : Value} (h : Fr B v) (hg : g < B) : Nb g v := fun b o n c e => by have := h b o n c e; omega
theorem Sl.awayN {w : World} {v : Value} {L : List It} {g : Nat} (h : Sl w v L) (hn : Nb g v) (j : Nat) (u : Value) : Sl (w.setCell ⟨g, j, none⟩ u) v L := h.away ⟨g, j, none⟩ (fun b o n c e => hn b o n c e) u
theorem Rd.xset {w : World} {gp ga gx : Nat} {v u v' : Value} {L M : List It} {q : Ac} {wz : World} (h : Rd w gp ga v u v' L M q wz) (hgx : ga + 1 < gx) (n1 : Nb gx v) (n2 : Nb gx u) (n3 : Nb gx v') (j : Nat) (a : Value) : Rd w gp ga v u v' L M q (wz.setCell ⟨gx, j, none⟩ a) :=
  have hl := h.lt
  have hg := h.g
  ⟨h.p.away ⟨gx, j, none⟩ (by show gp ≠ gx; omega) a, h.was.away ⟨gx, j, none⟩ (by show ga + 1 ≠ gx; omega) a, h.a.away ⟨gx, j, none⟩ (by show ga ≠ gx; omega) a, h.sm.awayN n3 j a, h.fm, h.sv.awayN n1 j a, h.fv, h.su.awayN n2 j a, h.fu, h.b.setCell (p := ⟨gx, j, none⟩) (by show w.heap.size ≤ gx; omega) a, h.g, h.lt⟩
end Go.Proofs.Ytcoadbagjlcagaa
