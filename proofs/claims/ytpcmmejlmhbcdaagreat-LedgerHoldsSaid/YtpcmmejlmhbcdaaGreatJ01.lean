/- What a world keeps, but for blocks of a kind; blocks known whole.; A disk, plainly and in memory.; What a disk tells of itself; what has a name; a step.; A step; a fuse; what is read. -/
import Derived.WalkKit
import Derived.WalkLawsBesides
import Derived.Outline
import Derived.Laws.IdiomStrings
import Derived.Lib.Hide
import Derived.WalkSpells
import Derived.Deep.DeepCutAuto
import Derived.Deep.CutBlock
import Derived.Deep.QuietTactic
import Derived.BigQuiet
import Derived.Deep.RegionHeld3
import Derived.Deep.LoopGhost
import Derived.StillTailTactics
import Derived.Deep.RegionWith
import Derived.Deep.DeepFit
import Derived.Deep.Light
import Derived.Deep.RegionLaw
import Derived.Laws.Externs
import Derived.Laws.Rows
import Derived.Maps.OwnSet
import Derived.Maps.RangeWalk
import Derived.Maps.Ext
import Derived.StringKeys
import Derived.Test.YtpcmmejlmhbcdaaGreatRows
set_option linter.unusedVariables false
set_option linter.unusedSimpArgs false
namespace Go.Proofs.YtpcmmejlmhbcdaaGreat.Dk
open Go.RowKit

theorem gen_wp {P : Program} {c : Code} {Q : Exit → Act → World → Prop} {a : Act} {wz : World} {S : World → Prop} (h : S wz) (k : ∀ wz, S wz → c.wp P Q a wz) : c.wp P Q a wz := k _ h
theorem alloc_below (w : World) (o : Obj) : Below w.heap.size w (w.alloc o) := (Below.refl _ _).alloc (Nat.le_refl _) _
theorem alloc_lt (w : World) (o : Obj) : w.heap.size < (w.alloc o).heap.size := by simp
theorem bdn (w : World) (n : Nat) : Below w.heap.size w (w.drewN n) := ⟨rfl, rfl, rfl, Nat.le_refl _, fun _ _ => rfl⟩
theorem lt_of_heap {w : World} {g : Nat} {o : Obj} (h : w.heap[g]? = some o) : g < w.heap.size := (Array.getElem?_eq_some_iff.1 h).1
theorem heap_new (w : World) (o : Obj) : (w.alloc o).heap[w.heap.size]? = some o := heap_alloc_new w o

/-- Nothing that was there has turned, but blocks of a kind. -/
structure Kp (K : Nat → Prop) (w w' : World) : Prop where
  os : w'.os = w.os
  tape : w'.tape = w.tape
  output : w'.output = w.output
  size : w.heap.size ≤ w'.heap.size
  block : ∀ b, b < w.heap.size → ¬ K b → w'.heap[b]? = w.heap[b]?
theorem Kp.refl (K : Nat → Prop) (w : World) : Kp K w w := ⟨rfl, rfl, rfl, Nat.le_refl _, fun _ _ _ => rfl⟩
theorem Kp.trans {K : Nat → Prop} {a b c : World} (h : Kp K a b) (k : Kp K b c) : Kp K a c :=
  ⟨k.os.trans h.os, k.tape.trans h.tape, k.output.trans h.output, Nat.le_trans h.size k.size, fun i hi hk => (k.block i (Nat.lt_of_lt_of_le hi h.size) hk).trans (h.block i hi hk)⟩
/-- Blocks that are new count as turned, too. -/
theorem Kp.step {K K' : Nat → Prop} {a b c : World} (h : Kp K a b) (k : Kp K' b c) (hK : ∀ i, i < a.heap.size → K' i → K i) : Kp K a c :=
  ⟨k.os.trans h.os, k.tape.trans h.tape, k.output.trans h.output, Nat.le_trans h.size k.size, fun i hi hk => (k.block i (Nat.lt_of_lt_of_le hi h.size) (fun h' => hk (hK i hi h'))).trans (h.block i hi hk)⟩
theorem Kp.mono {K K' : Nat → Prop} {a b : World} (h : Kp K a b) (hK : ∀ i, i < a.heap.size → K i → K' i) : Kp K' a b :=
  ⟨h.os, h.tape, h.output, h.size, fun i hi hk => h.block i hi (fun h' => hk (hK i hi h'))⟩
theorem Kp.of_below {K : Nat → Prop} {a b : World} (h : Below a.heap.size a b) : Kp K a b := ⟨h.os, h.tape, h.output, h.size, fun i hi _ => h.block i hi⟩
theorem Kp.below {K : Nat → Prop} {B : Nat} {a b : World} (h : Kp K a b) (hB : ∀ i, K i → B ≤ i) (hs : B ≤ a.heap.size) : Below B a b :=
  ⟨h.os, h.tape, h.output, h.size, fun i hi => h.block i (by omega) (fun hk => by have := hB i hk; omega)⟩
theorem Kp.of_grown {K : Nat → Prop} {a b : World} {row : Option Nat} (h : a.grownBy b row) (hr : ∀ r, row = some r → r < a.heap.size → K r) : Kp K a b :=
  ⟨h.os, h.tape, h.output, h.size, fun i hi hk => h.block i hi (fun e => hk (hr i e.symm hi))⟩
theorem Kp.drew {K : Nat → Prop} {a b : World} (h : Kp K a b) : Kp K a b.drew := ⟨h.os, h.tape, h.output, h.size, h.block⟩
theorem Kp.alloc {K : Nat → Prop} {a b : World} (h : Kp K a b) (o : Obj) : Kp K a (b.alloc o) := h.trans (Kp.of_below (alloc_below b o))
theorem Kp.setCell {K : Nat → Prop} {a b : World} (h : Kp K a b) {p : Addr} (hp : K p.block ∨ a.heap.size ≤ p.block) (u : Value) : Kp K a (b.setCell p u) :=
  ⟨h.os, h.tape, h.output, by simpa [World.setCell] using h.size, fun i hi hk => (heap_setCell_other _ _ _ _ (by rintro rfl; rcases hp with hp | hp; exact hk hp; omega)).trans (h.block i hi hk)⟩
theorem Kp.cell {K : Nat → Prop} {a b : World} (h : Kp K a b) {p : Addr} (hp : p.block < a.heap.size) (hk : ¬ K p.block) : b.cell? p = a.cell? p := World.cell?_of_block (h.block p.block hp hk)
end Go.Proofs.YtpcmmejlmhbcdaaGreat.Dk

namespace Go.Proofs.YtpcmmejlmhbcdaaGreat.Dk
open Go.RowKit Go.Maps

/-- What names are, as a map reads: each has a file, by its block's number. -/
abbrev Dm := DataW Unit
def nk (s : ByteArray) : Lit := .string s.data.toList
def fl (c : Nat) : Dm := .lit (.int .i64 (c : Int))
def ptrE (v : Value) : Option (Dm × List MemPlace) :=
  match v with
  | .pointer none => some (.nil, [])
  | .pointer (some ⟨b, 0, none⟩) => some (fl b, [])
  | _ => none
theorem ptrE_mk (c : Nat) : ptrE (.pointer (some ⟨c, 0, none⟩)) = some (fl c, []) := rfl
theorem ptrE_nil : ptrE (.pointer none) = some (.nil, []) := rfl
theorem fl_inj {a b : Nat} (h : fl a = fl b) : a = b := by
  unfold fl at h
  simp at h
  omega
theorem ptrE_inv {v : Value} {z : Dm × List MemPlace} (h : ptrE v = some z) : (v = .pointer none ∧ z = (.nil, [])) ∨ ∃ c, v = .pointer (some ⟨c, 0, none⟩) ∧ z = (fl c, []) := by
  unfold ptrE at h
  split at h
  · left; exact ⟨rfl, by simpa using h.symm⟩
  · right; exact ⟨_, rfl, by simpa using h.symm⟩
  · cases h
theorem law : Keyed Tryz.prog 9 := string_keyed Tryz.underlying9
theorem zero51 (w : World) : (zeroValue 102).run Tryz.prog w = .ok (.pointer none) w := by kernel_rfl
theorem nk_inj {a b : ByteArray} (h : nk a = nk b) : a = b := by
  unfold nk at h
  simp at h
  exact ByteArray.ext h
theorem key_of (s : ByteArray) (h : s.size ≤ 1000000000) : keyOf Tryz.prog 9 (.string s) = some (nk s) := Go.WideMaps.keyOf_string_mk Tryz.underlying9 (by unfold maxLen; omega)

theorem key_max (s : ByteArray) (h : s.size ≤ maxLen) : keyOf Tryz.prog 9 (.string s) = some (nk s) := Go.WideMaps.keyOf_string_mk Tryz.underlying9 h
structure Tn where
  kind : Nat
  file : Nat
  frm : List ByteArray
  dest : ByteArray
structure St where
  room : Nat
  N : Dm
  S : Dm
  P : List Tn
  fuse : Int
  steps : Nat
  down : Bool
  F : Nat → ByteArray × ByteArray
/-- Each that is there is a file. -/
def Fil (D : Dm) : Prop := ∀ k, Maps.has D k = true → ∃ c, ∀ z, D.atKey k z = fl c
def St.live (st : St) (c : Nat) : Prop := (∃ k, Maps.has st.N k = true ∧ ∀ z, st.N.atKey k z = fl c) ∨ (∃ k, Maps.has st.S k = true ∧ ∀ z, st.S.atKey k z = fl c) ∨ ∃ t ∈ st.P, t.file = c

/-- A row of strings that nobody writes. -/
def StrRow (w : World) (l : List ByteArray) (v : Value) : Prop :=
  ∃ (o : Option Addr) (cap b : Nat) (cur : Array Value), v = .slice o l.length cap ∧ (0 < l.length → o = some ⟨b, 0, none⟩ ∧ w.heap[b]? = some (.cells cur 9 (0, 0))) ∧ ∀ (j : Nat) (h : j < l.length), cur[j]? = some (.string l[j])
theorem StrRow.keep {w w' : World} {l : List ByteArray} {v : Value} (h : StrRow w l v) (hk : ∀ (b : Nat) (cur : Array Value), w.heap[b]? = some (.cells cur 9 (0, 0)) → w'.heap[b]? = some (.cells cur 9 (0, 0))) : StrRow w' l v := by
  obtain ⟨o, cap, b, cur, rfl, ho, hc⟩ := h
  exact ⟨o, cap, b, cur, rfl, fun hp => ⟨(ho hp).1, hk _ _ (ho hp).2⟩, hc⟩
def TnIn (w : World) (t : Tn) (c0 c1 c2 c3 : Value) : Prop :=
  c0 = .int .i64 (t.kind : Int) ∧ c1 = .pointer (some ⟨t.file, 0, none⟩) ∧ StrRow w t.frm c2 ∧ c3 = .string t.dest ∧ t.dest.size ≤ maxLen ∧ (∀ s ∈ t.frm, s.size ≤ maxLen) ∧ t.kind ≤ 2 ∧ t.frm.length ≤ 1000000
/-- A row of cells, four to each. -/
def PRow (T : TypeId) (m : Nat) (ρ : Option Nat) (o : Option Addr) (cap n : Nat) (xs : List Value) (w : World) : Prop :=
  xs.length = n * m ∧ ((o = none ∧ cap = 0 ∧ ρ = none ∧ n = 0) ∨ ∃ (r : Nat) (cur : Array Value), ρ = some r ∧ o = some ⟨r, 0, none⟩ ∧ w.heap[r]? = some (.cells cur T (0, 0)) ∧ n ≤ cap ∧ cap ≤ maxLen ∧ cur.size = cap * m ∧ cur.toList.take (n * m) = xs)
theorem PRow.keep {T : TypeId} {m : Nat} {ρ : Option Nat} {o : Option Addr} {cap n : Nat} {xs : List Value} {w w' : World} (h : PRow T m ρ o cap n xs w) (hk : ∀ r, ρ = some r → w'.heap[r]? = w.heap[r]?) : PRow T m ρ o cap n xs w' := by
  refine ⟨h.1, ?_⟩
  rcases h.2 with h | ⟨r, cur, h1, h2, h4, h5⟩
  · exact Or.inl h
  · exact Or.inr ⟨r, cur, h1, h2, (hk r h1).trans h4, h5⟩
theorem own_keep {w w' : World} {b n : Nat} {D : Dm} (h : w.ownsMap Tryz.prog 9 ptrE b n D) (hb : w'.heap[b]? = w.heap[b]?) : w'.ownsMap Tryz.prog 9 ptrE b n D := by
  obtain ⟨es, clock, h1, h2⟩ := h
  exact ⟨es, clock, hb.trans h1, h2⟩

structure Gh where
  bn : Nat
  bs : Nat
  nn : Nat
  o : Option Addr
  cap : Nat
  ρ : Option Nat
  xs : List Value
/-- A disk's own cells. -/
def dcells (g : Gh) (st : St) : Array Value := #[.int .i64 (st.room : Int), .map (some g.bn), .map (some g.bs), .slice g.o st.P.length g.cap, .int .i64 st.fuse, .int .i64 (st.steps : Int), .bool st.down]
/-- A disk in memory, all of it in blocks of a kind. -/
structure DW (w : World) (K : Nat → Prop) (D : Nat) (g : Gh) (st : St) : Prop where
  blk : w.heap[D]? = some (.cells (dcells g st) 100 (0, 0))
  names : w.ownsMap Tryz.prog 9 ptrE g.bn g.nn st.N
  sure : w.ownsMap Tryz.prog 9 ptrE g.bs g.nn st.S
  ne : g.bn ≠ g.bs
  row : PRow 105 4 g.ρ g.o g.cap st.P.length g.xs w
  turn : ∀ (i : Nat) (h : i < st.P.length), ∃ c0 c1 c2 c3, g.xs[i * 4]? = some c0 ∧ g.xs[i * 4 + 1]? = some c1 ∧ g.xs[i * 4 + 2]? = some c2 ∧ g.xs[i * 4 + 3]? = some c3 ∧ TnIn w st.P[i] c0 c1 c2 c3
  file : ∀ c, st.live c → w.heap[c]? = some (.cells #[.string (st.F c).1, .string (st.F c).2] 111 (0, 0))
  size : ∀ c, st.live c → (st.F c).1.size ≤ 100000 ∧ (st.F c).2.size ≤ 100000
  filN : Fil st.N
  filS : Fil st.S
  few : g.nn ≤ 1000000 ∧ st.P.length ≤ 1000000 ∧ st.steps ≤ 1000000000 ∧ st.room ≤ 65536 ∧ -1000000 ≤ st.fuse ∧ st.fuse ≤ 1000000
  own : K D ∧ K g.bn ∧ K g.bs ∧ (∀ r, g.ρ = some r → K r) ∧ (∀ c, st.live c → K c) ∧ ∀ b, K b → b < w.heap.size
theorem DW.lt {w : World} {K : Nat → Prop} {D : Nat} {g : Gh} {st : St} (h : DW w K D g st) : D < w.heap.size := lt_of_heap h.blk
/-- What a disk's blocks are goes on being so. -/
theorem DW.keep {w w' : World} {K : Nat → Prop} {D : Nat} {g : Gh} {st : St} (h : DW w K D g st) (hs : w.heap.size ≤ w'.heap.size) (hk : ∀ b, b < w.heap.size → w'.heap[b]? = w.heap[b]?) : DW w' K D g st where
  blk := (hk D h.lt).trans h.blk
  names := own_keep h.names (hk _ h.names.lt)
  sure := own_keep h.sure (hk _ h.sure.lt)
  ne := h.ne
  row := h.row.keep (fun r hr => hk _ (h.own.2.2.2.2.2 r (h.own.2.2.2.1 r hr)))
  turn := fun i hi => by
    obtain ⟨c0, c1, c2, c3, e0, e1, e2, e3, t0, t1, t2, t3⟩ := h.turn i hi
    exact ⟨c0, c1, c2, c3, e0, e1, e2, e3, t0, t1, t2.keep (fun b cur hb => (hk b (lt_of_heap hb)).trans hb), t3⟩
  file := fun c hc => (hk c (lt_of_heap (h.file c hc))).trans (h.file c hc)
  size := h.size
  filN := h.filN
  filS := h.filS
  few := h.few
  own := ⟨h.own.1, h.own.2.1, h.own.2.2.1, h.own.2.2.2.1, h.own.2.2.2.2.1, fun b hb => Nat.lt_of_lt_of_le (h.own.2.2.2.2.2 b hb) hs⟩
theorem DW.later {w w' : World} {K : Nat → Prop} {D : Nat} {g : Gh} {st : St} (h : DW w K D g st) (hb : Below w.heap.size w w') : DW w' K D g st := h.keep hb.size hb.block
/-- Where nothing of a disk has turned it is as it was. -/
theorem DW.apart {w w' : World} {K K' : Nat → Prop} {D : Nat} {g : Gh} {st : St} (h : DW w K D g st) (hk : Kp K' w w') (hd : ∀ b, b < w.heap.size → ¬ K' b) : DW w' K D g st := h.keep hk.size (fun b hb => hk.block b hb (hd b hb))
end Go.Proofs.YtpcmmejlmhbcdaaGreat.Dk

namespace Go.Proofs.YtpcmmejlmhbcdaaGreat.Dk
open Go.RowKit Go.Maps

section
variable {w : World} {K : Nat → Prop} {D : Nat} {g : Gh} {st : St}
theorem DW.c0 (h : DW w K D g st) : w.cell? ⟨D, 0, none⟩ = some (.int .i64 (st.room : Int)) := cell_of_row w D 0 _ _ _ h.blk
theorem DW.c1 (h : DW w K D g st) : w.cell? ⟨D, 1, none⟩ = some (.map (some g.bn)) := cell_of_row w D 1 _ _ _ h.blk
theorem DW.c2 (h : DW w K D g st) : w.cell? ⟨D, 2, none⟩ = some (.map (some g.bs)) := cell_of_row w D 2 _ _ _ h.blk
theorem DW.c3 (h : DW w K D g st) : w.cell? ⟨D, 3, none⟩ = some (.slice g.o st.P.length g.cap) := cell_of_row w D 3 _ _ _ h.blk
theorem DW.c4 (h : DW w K D g st) : w.cell? ⟨D, 4, none⟩ = some (.int .i64 st.fuse) := cell_of_row w D 4 _ _ _ h.blk
theorem DW.c5 (h : DW w K D g st) : w.cell? ⟨D, 5, none⟩ = some (.int .i64 (st.steps : Int)) := cell_of_row w D 5 _ _ _ h.blk
theorem DW.c6 (h : DW w K D g st) : w.cell? ⟨D, 6, none⟩ = some (.bool st.down) := cell_of_row w D 6 _ _ _ h.blk
theorem DW.fz (h : DW w K D g st) (j : Nat) : w.frozen? ⟨D, j, none⟩ = false := frozen_of_row w D j _ _ h.blk
end

/-- isName. -/
def nmB (s : ByteArray) : Bool := decide (1 ≤ s.size ∧ s.size ≤ 32)
theorem name_any (s : ByteArray) (hs : s.size ≤ 1000000000) (w : World) : Calls Tryz.prog 96 #[.string s] w fun e w' => e = .returned (.bool (nmB s)) ∧ w' = w := by
  by_cases h1 : 1 ≤ s.size
  · by_cases h2 : s.size ≤ 32
    · have hb : nmB s = true := by unfold nmB; simp [h1, h2]
      have q : decide ((s.size : Int) ≤ 32) = true := decide_eq_true (by omega)
      rw [hb]
      clear hb
      go_enter Tryz.func96, Tryz.ntmps96
      go_wp2
      go_ret
      exact ⟨rfl, rfl⟩
    · have hb : nmB s = false := by unfold nmB; simp [h2]
      have q : decide ((s.size : Int) ≤ 32) = false := decide_eq_false (by omega)
      rw [hb]
      clear hb
      go_enter Tryz.func96, Tryz.ntmps96
      go_wp2
      go_ret
      exact ⟨rfl, rfl⟩
  · have hb : nmB s = false := by unfold nmB; simp [h1]
    rw [hb]
    clear hb
    go_enter Tryz.func96, Tryz.ntmps96
    go_wp2
    go_ret
    exact ⟨rfl, rfl⟩

theorem refuses_nil (w : World) : Calls Tryz.prog 102 #[.pointer none] w fun e w' => e = .returned (.int .i64 1) ∧ w' = w := by
  go_enter Tryz.func102, Tryz.ntmps102
  go_wp2
  go_ret
  exact ⟨rfl, rfl⟩
/-- Why nothing at all is done. -/
def refE (st : St) : Nat := if st.down then 15 else 0
theorem refuses_any {w : World} {K : Nat → Prop} {D : Nat} {g : Gh} {st : St} (h : DW w K D g st) : Calls Tryz.prog 102 #[.pointer (some ⟨D, 0, none⟩)] w fun e w' => e = .returned (.int .i64 (refE st : Nat)) ∧ w' = w := by
  have c6 := h.c6
  unfold refE
  cases hd : st.down
  · rw [hd] at c6
    clear h hd
    go_enter Tryz.func102, Tryz.ntmps102
    go_wp2
    go_ret
    exact ⟨rfl, rfl⟩
  · rw [hd] at c6
    clear h hd
    go_enter Tryz.func102, Tryz.ntmps102
    go_wp2
    go_ret
    exact ⟨rfl, rfl⟩
theorem down_nil (w : World) : Calls Tryz.prog 25 #[.pointer none] w fun e w' => e = .returned (.bool false) ∧ w' = w := by
  go_enter Tryz.func25, Tryz.ntmps25
  go_wp2
  go_ret
  exact ⟨rfl, rfl⟩
theorem down_any {w : World} {K : Nat → Prop} {D : Nat} {g : Gh} {st : St} (h : DW w K D g st) : Calls Tryz.prog 25 #[.pointer (some ⟨D, 0, none⟩)] w fun e w' => e = .returned (.bool st.down) ∧ w' = w := by
  have c := h.c6
  clear h
  generalize st.down = m at *
  go_enter Tryz.func25, Tryz.ntmps25
  go_wp2
  go_ret
  exact ⟨rfl, rfl⟩

/-- What has a name. -/
def atN (D : Dm) (s : ByteArray) : Nat := match D.atKey (nk s) .nil with | .lit (.int _ n) => n.toNat | _ => 0
def hasN (D : Dm) (s : ByteArray) : Bool := Maps.has D (nk s)
theorem Fil.at {D : Dm} (h : Fil D) {s : ByteArray} (hs : hasN D s = true) (z : Dm) : D.atKey (nk s) z = fl (atN D s) := by
  obtain ⟨c, hc⟩ := h _ hs
  rw [hc z]
  unfold atN
  rw [hc .nil]
  simp [fl]
theorem Fil.live {st : St} {s : ByteArray} (h : Fil st.N) (hs : hasN st.N s = true) : st.live (atN st.N s) := Or.inl ⟨nk s, hs, fun z => h.at hs z⟩
/-- Why nothing has a name, or what has it. -/
def findE (st : St) (s : ByteArray) : Nat := if st.down then 15 else if hasN st.N s then 0 else 12
def findV (st : St) (s : ByteArray) : Value := if findE st s = 0 then .pointer (some ⟨atN st.N s, 0, none⟩) else .pointer none
/-- A look-up, as the walk takes it. -/
theorem look_yes {w : World} {b n : Nat} {N : Dm} (h : w.ownsMap Tryz.prog 9 ptrE b n N) (F : Fil N) (s : ByteArray) (hs : s.size ≤ 1000000000) (hh : hasN N s = true) :
    (Instr.lookup 97 (.map (some b)) (.string s) true).run Tryz.prog w = .ok (.tuple #[.pointer (some ⟨atN N s, 0, none⟩), .bool true]) w := by
  obtain ⟨v, ps, hrun, hv⟩ := h.look_ok law Tryz.underlying97 (zero51 w) ptrE_nil (key_of s hs)
  rw [show Maps.has N (nk s) = true from hh] at hrun
  rw [F.at hh] at hv
  rcases ptrE_inv hv with ⟨_, h2⟩ | ⟨c, rfl, h2⟩
  · exact absurd h2 (by simp [fl])
  · have : atN N s = c := fl_inj (by simpa using congrArg Prod.fst h2)
    rw [this]
    exact hrun
theorem look_no {w : World} {b n : Nat} {N : Dm} (h : w.ownsMap Tryz.prog 9 ptrE b n N) (s : ByteArray) (hs : s.size ≤ 1000000000) (hh : hasN N s = false) :
    (Instr.lookup 97 (.map (some b)) (.string s) true).run Tryz.prog w = .ok (.tuple #[.pointer none, .bool false]) w := by
  obtain ⟨v, ps, hrun, hv⟩ := h.look_ok law Tryz.underlying97 (zero51 w) ptrE_nil (key_of s hs)
  rw [show Maps.has N (nk s) = false from hh] at hrun
  rw [Maps.atKey_of_not_has hh] at hv
  rcases ptrE_inv hv with ⟨rfl, _⟩ | ⟨c, rfl, h2⟩
  · exact hrun
  · exact absurd h2 (by simp [fl])
theorem look_one {w : World} {b n : Nat} {N : Dm} (h : w.ownsMap Tryz.prog 9 ptrE b n N) (F : Fil N) (s : ByteArray) (hs : s.size ≤ 1000000000) (hh : hasN N s = true) :
    (Instr.lookup 97 (.map (some b)) (.string s) false).run Tryz.prog w = .ok (.pointer (some ⟨atN N s, 0, none⟩)) w := by
  obtain ⟨v, ps, hrun, hv⟩ := h.lookup law Tryz.underlying97 (zero51 w) ptrE_nil (key_of s hs)
  rw [F.at hh] at hv
  rcases ptrE_inv hv with ⟨_, h2⟩ | ⟨c, rfl, h2⟩
  · exact absurd h2 (by simp [fl])
  · have : atN N s = c := fl_inj (by simpa using congrArg Prod.fst h2)
    rw [this]
    exact hrun
theorem find_nil (s : ByteArray) (w : World) : Calls Tryz.prog 95 #[.pointer none, .string s] w fun e w' => e = .returned (.tuple #[.pointer none, .int .i64 1]) ∧ w' = w := by
  have K1 := Lib.hid (fun w => refuses_nil w)
  go_enter Tryz.func95, Tryz.ntmps95
  go_wp2_with (first | (go_at_call 102; ((with_reducible refine (K1.out _).mono ?_); rintro e w' ⟨rfl, rfl⟩)))
  go_ret2
  exact ⟨rfl, rfl⟩
set_option maxRecDepth 100000 in
set_option maxHeartbeats 1000000 in
theorem find_any {w : World} {K : Nat → Prop} {D : Nat} {g : Gh} {st : St} (h : DW w K D g st) (s : ByteArray) (hs : s.size ≤ 1000000000) : Calls Tryz.prog 95 #[.pointer (some ⟨D, 0, none⟩), .string s] w fun e w' => e = .returned (.tuple #[findV st s, .int .i64 (findE st s : Nat)]) ∧ w' = w := by
  have K1 := Lib.hid (refuses_any h)
  have c1 := h.c1
  have HN := Lib.hid h.names
  have HF := Lib.hid h.filN
  clear h
  unfold findV
  cases hd : st.down
  · have hr : refE st = 0 := by unfold refE; rw [hd]; rfl
    rw [hr] at K1
    cases hh : hasN st.N s
    · have e1 : findE st s = 12 := by unfold findE; rw [hd, hh]; rfl
      rw [e1]
      have HL := look_no HN.out s hs hh
      clear hr hd hh e1 hs
      go_enter Tryz.func95, Tryz.ntmps95
      go_wp2_with (first
        | (go_at_call 102; ((with_reducible refine (K1.out).mono ?_); rintro e w' ⟨rfl, rfl⟩)))
      go_ret2
      exact ⟨rfl, rfl⟩
    · have e1 : findE st s = 0 := by unfold findE; rw [hd, hh]; rfl
      rw [e1]
      have HL := look_yes HN.out HF.out s hs hh
      clear hr hd hh e1 hs
      go_enter Tryz.func95, Tryz.ntmps95
      go_wp2_with (first
        | (go_at_call 102; ((with_reducible refine (K1.out).mono ?_); rintro e w' ⟨rfl, rfl⟩)))
      go_ret2
      exact ⟨rfl, rfl⟩
  · have hr : refE st = 15 := by unfold refE; rw [hd]; rfl
    rw [hr] at K1
    have e1 : findE st s = 15 := by unfold findE; rw [hd]; rfl
    rw [e1]
    clear hr hd e1 hs
    go_enter Tryz.func95, Tryz.ntmps95
    go_wp2_with (first
      | (go_at_call 102; ((with_reducible refine (K1.out).mono ?_); rintro e w' ⟨rfl, rfl⟩)))
    go_ret2
    exact ⟨rfl, rfl⟩
end Go.Proofs.YtpcmmejlmhbcdaaGreat.Dk

namespace Go.Proofs.YtpcmmejlmhbcdaaGreat.Dk
open Go.RowKit Go.Maps

/-- A disk of which its own numbers alone have turned. -/
theorem DW.own_turn {w w' : World} {K : Nat → Prop} {D : Nat} {g : Gh} {st : St} (h : DW w K D g st) (fuse : Int) (steps : Nat) (down : Bool) (hk : Kp (· = D) w w')
    (hb : w'.heap[D]? = some (.cells (dcells g { st with fuse := fuse, steps := steps, down := down }) 100 (0, 0))) (h1 : steps ≤ 1000000000) (h2 : -1000000 ≤ fuse ∧ fuse ≤ 1000000) : DW w' K D g { st with fuse := fuse, steps := steps, down := down } where
  blk := hb
  names := own_keep h.names (hk.block _ h.names.lt (fun e => by obtain ⟨es, cl, he, _⟩ := h.names; have hb := h.blk; have e' : g.bn = D := e; rw [← e', he] at hb; cases hb))
  sure := own_keep h.sure (hk.block _ h.sure.lt (fun e => by obtain ⟨es, cl, he, _⟩ := h.sure; have hb := h.blk; have e' : g.bs = D := e; rw [← e', he] at hb; cases hb))
  ne := h.ne
  row := by
    refine ⟨h.row.1, ?_⟩
    rcases h.row.2 with h1 | ⟨r, cur, h1, h2, h4, h5⟩
    · exact Or.inl h1
    · refine Or.inr ⟨r, cur, h1, h2, (hk.block _ (lt_of_heap h4) (fun e => ?_)).trans h4, h5⟩
      have hb := h.blk
      have e' : r = D := e
      rw [← e', h4] at hb
      simp at hb
  turn := fun i hi => by
    obtain ⟨c0, c1, c2, c3, e0, e1, e2, e3, t0, t1, t2, t3⟩ := h.turn i hi
    refine ⟨c0, c1, c2, c3, e0, e1, e2, e3, t0, t1, t2.keep (fun b cur hbb => (hk.block b (lt_of_heap hbb) (fun e => ?_)).trans hbb), t3⟩
    have hb := h.blk
    have e' : b = D := e
    rw [← e', hbb] at hb
    simp at hb
  file := fun c hc => (hk.block c (lt_of_heap (h.file c hc)) (fun e => by
    have hb := h.blk
    have e' : c = D := e
    have hf := h.file c hc
    rw [e'] at hf
    rw [hf] at hb
    simp at hb)).trans (h.file c hc)
  size := h.size
  filN := h.filN
  filS := h.filS
  few := ⟨h.few.1, h.few.2.1, h1, h.few.2.2.2.1, h2.1, h2.2⟩
  own := ⟨h.own.1, h.own.2.1, h.own.2.2.1, h.own.2.2.2.1, h.own.2.2.2.2.1, fun b hb => Nat.lt_of_lt_of_le (h.own.2.2.2.2.2 b hb) hk.size⟩
def stepE (st : St) : Nat := if st.fuse = 0 then 15 else 0
def stepS (st : St) : St := if st.fuse = 0 then { st with down := true } else { st with fuse := if 0 < st.fuse then st.fuse - 1 else st.fuse, steps := st.steps + 1 }
theorem kp_set (w : World) (D j : Nat) (v : Value) : Kp (· = D) w (w.setCell ⟨D, j, none⟩ v) := (Kp.refl (fun x => x = D) w).setCell (p := ⟨D, j, none⟩) (Or.inl (rfl : D = D)) v
set_option maxRecDepth 100000 in
set_option maxHeartbeats 1000000 in
theorem step_any {w : World} {K : Nat → Prop} {D : Nat} {g : Gh} {st : St} (h : DW w K D g st) (hs : st.steps < 1000000000) : Calls Tryz.prog 98 #[.pointer (some ⟨D, 0, none⟩)] w fun e w' => e = .returned (.int .i64 (stepE st : Nat)) ∧ DW w' K D g (stepS st) ∧ Kp (· = D) w w' := by
  have c4 := h.c4
  have c5 := h.c5
  have f4 := h.fz 4
  have f5 := h.fz 5
  have f6 := h.fz 6
  have c6 := h.c6
  have HB := Lib.hid h.blk
  have H := Lib.hid h
  have HS := Lib.hid hs
  have few := h.few
  unfold stepE stepS
  by_cases h0 : st.fuse = 0
  · rw [if_pos h0, if_pos h0]
    rw [h0] at c4
    have H0 := Lib.hid h0
    clear h0 h hs few
    go_enter Tryz.func98, Tryz.ntmps98
    go_wp2
    go_ret
    refine ⟨rfl, H.out.own_turn st.fuse st.steps true (kp_set _ _ _ _) ?_ (by have := H.out.few; omega) (by have := H.out.few; omega), kp_set _ _ _ _⟩
    rw [heap_setCell_same _ _ _ _ _ _ HB.out]
    rfl
  · rw [if_neg h0, if_neg h0]
    have q0 : ((st.fuse : Int) == 0) = false := by rw [beq_eq_false_iff_ne]; exact h0
    by_cases h1 : 0 < st.fuse
    · rw [if_pos h1]
      obtain ⟨fu, hfu⟩ : ∃ fu, fu = st.fuse := ⟨_, rfl⟩
      obtain ⟨n, hn⟩ : ∃ n, n = st.steps := ⟨_, rfl⟩
      rw [← hfu] at c4 q0 h1 few
      rw [← hn] at c5 few hs
      rw [← hfu, ← hn]
      have HF := Lib.hid (And.intro hfu hn)
      have b1 : fu ≤ 1000000 := few.2.2.2.2.2
      have b2 : (n : Int) < 1000000000 := by omega
      clear h0 h hs few hfu hn
      go_enter Tryz.func98, Tryz.ntmps98
      go_wp2
      go_ret
      have kk := (kp_set w D 4 (.int .i64 (fu - 1))).trans (kp_set (w.setCell ⟨D, 4, none⟩ (.int .i64 (fu - 1))) D 5 (.int .i64 ((n : Int) + 1)))
      refine ⟨rfl, H.out.own_turn (fu - 1) (n + 1) st.down kk ?_ (by omega) (by omega), kk⟩
      rw [heap_setCell_same _ _ _ _ _ _ (heap_setCell_same _ _ _ _ _ _ HB.out)]
      rfl
    · rw [if_neg h1]
      obtain ⟨fu, hfu⟩ : ∃ fu, fu = st.fuse := ⟨_, rfl⟩
      obtain ⟨n, hn⟩ : ∃ n, n = st.steps := ⟨_, rfl⟩
      rw [← hfu] at c4 q0 h1 few
      rw [← hn] at c5 few hs
      rw [← hfu, ← hn]
      have HF := Lib.hid (And.intro hfu hn)
      have b1 : -1000000 ≤ fu := few.2.2.2.2.1
      have b2 : (n : Int) < 1000000000 := by omega
      clear h0 h hs few hfu hn
      go_enter Tryz.func98, Tryz.ntmps98
      go_wp2
      go_ret
      refine ⟨rfl, H.out.own_turn fu (n + 1) st.down (kp_set _ _ _ _) ?_ (by omega) (by omega), kp_set _ _ _ _⟩
      rw [heap_setCell_same _ _ _ _ _ _ HB.out]
      rw [HF.out.1]
      rfl
theorem fuse_nil (n : Int) (w : World) : Calls Tryz.prog 23 #[.pointer none, .int .i64 n] w fun e w' => e = .returned (.tuple #[]) ∧ w' = w := by
  go_enter Tryz.func23, Tryz.ntmps23
  go_wp2
  exact bodyPost_end (v := .tuple #[]) (by simp [results, Tryz.results23, go_sem]) rfl ⟨rfl, rfl⟩
set_option maxRecDepth 100000 in
theorem fuse_any {w : World} {K : Nat → Prop} {D : Nat} {g : Gh} {st : St} (h : DW w K D g st) (n : Int) (hn : -1000000 ≤ n ∧ n ≤ 1000000) : Calls Tryz.prog 23 #[.pointer (some ⟨D, 0, none⟩), .int .i64 n] w fun e w' => e = .returned (.tuple #[]) ∧ DW w' K D g { st with fuse := n } ∧ Kp (· = D) w w' := by
  have f4 := h.fz 4
  have c4 := h.c4
  have HB := Lib.hid h.blk
  have H := Lib.hid h
  have HN := Lib.hid hn
  clear h hn
  go_enter Tryz.func23, Tryz.ntmps23
  go_wp2
  refine bodyPost_end (v := .tuple #[]) (by simp [results, Tryz.results23, go_sem]) rfl ⟨rfl, H.out.own_turn n st.steps st.down (kp_set _ _ _ _) ?_ H.out.few.2.2.1 HN.out, kp_set _ _ _ _⟩
  rw [heap_setCell_same _ _ _ _ _ _ HB.out]
  rfl
end Go.Proofs.YtpcmmejlmhbcdaaGreat.Dk
