/- Rows of items (two cells each) as slices; append to an own row.; slices.Grow, strings.Clone off the shelf.; Boxes; strings.Clone, own, Len, has; Grow of nil, Concat of two. -/
import Derived.Test.YtcoadbagjlcagaaRows
import Derived.WalkKit
import Derived.WalkLawsBesides
import Derived.Outline
import Derived.Laws.IdiomStrings
import Derived.Lib.Hide
import Derived.WalkSpells
import Derived.Deep.DeepCutAuto
import Derived.Deep.CutBlock
import Derived.Deep.QuietTactic
import Derived.BigQuiet
import Derived.Deep.RegionHeld3
import Derived.Deep.LoopGhost
import Derived.StillTailTactics
import Derived.Deep.RegionWith
import Derived.Deep.DeepFit
import Derived.Deep.Light
import Derived.Deep.RegionLaw
import Derived.Laws.Externs
import Derived.Laws.Rows
import Derived.Laws.StructEq
import Derived.Laws.EntriesVeiled
import Derived.Laws.AppendOwnNone
import Derived.Maps.AppendAt
import Derived.Carry
import Derived.Shelf.Spec.SlicesGrow
import Derived.Ground.Names8Prog
import Derived.Shelf.LaysM
import Derived.Shelf.Strconv.Clone
import Derived.Test.YtcoadbagjlcagaaProg
set_option linter.unusedVariables false
set_option linter.unusedSimpArgs false
namespace Go.Proofs.Ytcoadbagjlcagaa
open Go.RowKit

theorem lt_of_heap {w : World} {g : Nat} {o : Obj} (h : w.heap[g]? = some o) : g < w.heap.size := (Array.getElem?_eq_some_iff.1 h).1
theorem alloc_below (w : World) (o : Obj) : Below w.heap.size w (w.alloc o) := (Below.refl _ _).alloc (Nat.le_refl _) _
theorem bt {w w1 : World} {o : Obj} (h : Below (w.alloc o).heap.size (w.alloc o) w1) : Below w.heap.size w w1 := (alloc_below w o).trans (h.mono (by simp))
theorem rng_lt {w : World} {b o : Nat} {cs : List Value} (h : w.rangeAt b o cs) (hn : 0 < cs.length) : b < w.heap.size := World.block_lt_of_cell? w _ (h 0 _ (List.getElem?_eq_getElem hn))
theorem rng_keep {w w' : World} {b o : Nat} {cs : List Value} (h : w.rangeAt b o cs) (hk : 0 < cs.length → w'.heap[b]? = w.heap[b]?) : w'.rangeAt b o cs := fun j v hj => by
  have := (List.getElem?_eq_some_iff.1 hj).1
  rw [World.cell?_of_block (w := w) (a := ⟨b, o + j, none⟩) (hk (by omega))]
  exact h j v hj
theorem rng_later {w w' : World} {b o : Nat} {cs : List Value} (h : w.rangeAt b o cs) (hb : Below w.heap.size w w') : w'.rangeAt b o cs := rng_keep h fun hn => hb.block _ (rng_lt h hn)

/-- An item. -/
structure It where
  t : Nat
  s : ByteArray
/-- Its two cells, as a value; a row's. -/
def iv (x : It) : Value := .agg #[.int .u64 (x.t : Int), .string x.s]
def ec (x : It) : List Value := [.int .u64 (x.t : Int), .string x.s]
def ic (L : List It) : List Value := L.flatMap ec
theorem ic_len (L : List It) : (ic L).length = L.length * 2 := by
  induction L with
  | nil => rfl
  | cons e R ih => simp only [ic, List.flatMap_cons, List.length_append, ec, List.length_cons, List.length_nil] at *; rw [ih]; omega
theorem ic_at : ∀ {L : List It} {i : Nat} {e : It}, L[i]? = some e → (ic L)[i * 2]? = some (.int .u64 (e.t : Int)) ∧ (ic L)[i * 2 + 1]? = some (.string e.s)
  | [], i, e, h => by cases h
  | a :: R, 0, e, h => by cases h; exact ⟨rfl, rfl⟩
  | a :: R, i + 1, e, h => by
    have ih := ic_at (L := R) (i := i) (e := e) (by simpa using h)
    have e1 : ic (a :: R) = .int .u64 (a.t : Int) :: .string a.s :: ic R := rfl
    rw [e1, show (i + 1) * 2 = i * 2 + 1 + 1 by omega, List.getElem?_cons_succ, List.getElem?_cons_succ, show i * 2 + 1 + 1 + 1 = (i * 2 + 1) + 1 + 1 by omega, List.getElem?_cons_succ, List.getElem?_cons_succ]
    exact ih
theorem ic_append (A B : List It) : ic (A ++ B) = ic A ++ ic B := by simp [ic]
theorem ic_drop (L : List It) (i : Nat) : ic (L.drop i) = (ic L).drop (i * 2) := by
  induction i generalizing L with
  | zero => simp
  | succ i ih =>
    cases L with
    | nil => simp [ic]
    | cons a R =>
      rw [List.drop_succ_cons, ih, show (i + 1) * 2 = i * 2 + 1 + 1 by omega]
      rfl
theorem ic_take (L : List It) (i : Nat) : ic (L.take i) = (ic L).take (i * 2) := by
  induction i generalizing L with
  | zero => simp [ic]
  | succ i ih =>
    cases L with
    | nil => simp [ic]
    | cons a R =>
      rw [List.take_succ_cons, show (i + 1) * 2 = i * 2 + 1 + 1 by omega]
      have e1 : ic (a :: R) = .int .u64 (a.t : Int) :: .string a.s :: ic R := rfl
      rw [e1, List.take_succ_cons, List.take_succ_cons, ← ih]
      rfl
theorem ic_one (L : List It) : ∀ v ∈ ic L, v.oneCell' = true := by
  intro v hv
  simp only [ic, List.mem_flatMap, ec, List.mem_cons, List.not_mem_nil, or_false] at hv
  obtain ⟨e, _, hv | hv⟩ := hv <;> subst hv <;> rfl

/-- A slice of items. -/
def Sl (w : World) (v : Value) (L : List It) : Prop :=
  (v = .slice none 0 0 ∧ L = []) ∨ ∃ b off cap, v = .slice (some ⟨b, off, none⟩) L.length cap ∧ L.length ≤ cap ∧ cap ≤ maxLen ∧ b < w.heap.size ∧ w.rangeAt b off (ic L)
theorem Sl.later {w w' : World} {v : Value} {L : List It} (h : Sl w v L) (hb : Below w.heap.size w w') : Sl w' v L := by
  rcases h with h | ⟨b, off, cap, h1, h2, h3, h4, h5⟩
  · exact Or.inl h
  · exact Or.inr ⟨b, off, cap, h1, h2, h3, Nat.lt_of_lt_of_le h4 hb.size, rng_later h5 hb⟩
theorem Sl.drewn {w : World} {v : Value} {L : List It} (h : Sl w v L) : Sl w.drew v L := h
theorem Sl.form {w : World} {v : Value} {L : List It} (h : Sl w v L) : ∃ o cap, v = .slice o L.length cap := by
  rcases h with ⟨rfl, rfl⟩ | ⟨b, off, cap, rfl, _⟩
  · exact ⟨none, 0, rfl⟩
  · exact ⟨_, cap, rfl⟩
theorem Sl.nil (w : World) : Sl w (.slice none 0 0) [] := Or.inl ⟨rfl, rfl⟩
/-- Where the cells of an item lie. -/
def ItAt (w : World) (b off : Nat) (x : It) : Prop := w.cell? ⟨b, off, none⟩ = some (.int .u64 (x.t : Int)) ∧ w.cell? ⟨b, off + 1, none⟩ = some (.string x.s)
theorem Sl.cells {w : World} {v : Value} {L : List It} (h : Sl w v L) : ∃ o cap b off, v = .slice o L.length cap ∧ (0 < L.length → o = some ⟨b, off, none⟩) ∧ ∀ j (hj : j < L.length), ItAt w b (off + j * 2) L[j] := by
  rcases h with ⟨rfl, rfl⟩ | ⟨b, off, cap, rfl, _, _, _, h5⟩
  · exact ⟨none, 0, 0, 0, rfl, fun h => absurd h (by simp), fun j hj => absurd hj (by simp)⟩
  · refine ⟨_, cap, b, off, rfl, fun _ => rfl, fun j hj => ?_⟩
    have h0 := ic_at (L := L) (i := j) (List.getElem?_eq_getElem hj)
    exact ⟨h5 _ _ h0.1, by rw [Nat.add_assoc]; exact h5 _ _ h0.2⟩

theorem info33 : (Try.prog.info? 33).map (fun i => (i.zero, i.size, i.bytes)) = some (some (.agg #[.int .u64 0, .string ⟨#[]⟩]), 2, 24) := by kernel_rfl
theorem info36 : (Try.prog.info? 36).map (fun i => (i.zero, i.size, i.bytes)) = some (some (.agg #[.int .u64 0, .string ⟨#[]⟩]), 2, 24) := by kernel_rfl

/-- An own row of items, of that type. -/
def Ow (e : TypeId) (w : World) (B : Nat) (v : Value) (L : List It) : Prop := w.ownsRow B e 2 v L.length (ic L)
theorem Ow.sl {e : TypeId} {w : World} {B : Nat} {v : Value} {L : List It} (h : Ow e w B v L) : Sl w v L := by
  rcases h.2 with ⟨rfl, hn⟩ | ⟨g, cap, cur, rfl, h0, hg, h1, h2, h3, h4⟩
  · exact Or.inl ⟨rfl, List.eq_nil_of_length_eq_zero hn⟩
  · refine Or.inr ⟨g, 0, cap, rfl, h1, h2, lt_of_heap hg, fun j v hj => ?_⟩
    have := h.cells (g := g) rfl j v hj
    rwa [Addr.add_mid] at this
/-- No block of it is ahead of B. -/
def Fr (B : Nat) (v : Value) : Prop := ∀ b o n c, v = .slice (some ⟨b, o, none⟩) n c → B ≤ b
theorem Fr.mono {B B' : Nat} {v : Value} (h : Fr B v) (hB : B' ≤ B) : Fr B' v := fun b o n c e => Nat.le_trans hB (h b o n c e)
theorem Fr.nil (B : Nat) : Fr B (.slice none 0 0) := fun b o n c e => by cases e
theorem Ow.fr {e : TypeId} {w : World} {B : Nat} {v : Value} {L : List It} (h : Ow e w B v L) : Fr B v := by
  rcases h.2 with ⟨rfl, hn⟩ | ⟨g, cap, cur, rfl, h0, _⟩
  · exact Fr.nil B
  · intro b o n c e; cases e; exact h0
theorem Ow.nil (e : TypeId) (w : World) (B : Nat) : Ow e w B (.slice none 0 0) [] := World.ownsRow_nil _ _ _ _
theorem Ow.later {e : TypeId} {w w' : World} {B : Nat} {v : Value} {L : List It} (h : Ow e w B v L) (hb : Below w.heap.size w w') : Ow e w' B v L := by
  refine ⟨h.1, ?_⟩
  rcases h.2 with hn | ⟨g, cap, cur, h1, h2, h3, h4⟩
  · exact Or.inl hn
  · exact Or.inr ⟨g, cap, cur, h1, h2, (hb.block _ (lt_of_heap h3)).trans h3, h4⟩

/-- Of the two kinds of items. -/
def Kd (st e : TypeId) : Prop := (st = 24 ∧ e = 33) ∨ (st = 27 ∧ e = 36)
theorem Kd.parts {st e : TypeId} (h : Kd st e) : Try.prog.underlying st = some (.slice e) ∧ ∃ i0, Try.prog.info? e = some i0 ∧ i0.zero = some (.agg #[.int .u64 0, .string ⟨#[]⟩]) ∧ i0.size = 2 ∧ i0.bytes = 24 := by
  rcases h with ⟨rfl, rfl⟩ | ⟨rfl, rfl⟩
  · obtain ⟨i0, h⟩ := info_parts info33; exact ⟨Try.underlying24, i0, h⟩
  · obtain ⟨i0, h⟩ := info_parts info36; exact ⟨Try.underlying27, i0, h⟩
/-- 'a = append(a, s...)', a the call's own. -/
theorem wpList_append_its (W : World) {ops : Array Oper} {rest : List Oper} {o : Oper} {a : Act} {Q : Exit → Act → World → Prop} (hgd : o.guard = none) (s x : Operand) {st e : TypeId} (hk0 : Kd st e)
    (ho : o.op = .call { callee := .builtin .append, args := #[s, x], argTypes := #[st, st] })
    (B : Nat) (v u : Value) (K L : List It) (hs : a.eval s = v) (hown : Ow e W B v K) (hx : a.eval x = u) (hu : Sl W u L) (hB : B ≤ W.heap.size) (hk : K.length + L.length ≤ 3000000)
    (h : ∀ v' w', Ow e w' B v' (K ++ L) → Below B W w' → wpList Try.prog ops Q rest (a.put o.dst v') w') : wpList Try.prog ops Q (o :: rest) a W := by
  obtain ⟨hU, i0, hi, hz0, hz1, hz2⟩ := hk0.parts
  rcases hu with ⟨rfl, rfl⟩ | ⟨b, off, cap, rfl, _, _, _, hr⟩
  · refine wpList_append_own_none hgd s x st ho B e i0 2 hU hi v K.length (ic K) hs hown hx ?_
    have := h v W (by rw [List.append_nil]; exact hown) (Below.refl _ _)
    exact this
  · refine wpList_append_own _ hgd s x st ho B e i0 (.agg #[.int .u64 0, .string ⟨#[]⟩]) 2 24 hU hi hz0 hz1 hz2 rfl (by decide) v K.length (ic K) hs hown ⟨b, off, none⟩ L.length cap (ic L) hx (ic_len L) ?_ (ic_one L) ?_ ?_ hB ?_
    · intro j u hj
      rw [Addr.add_mid]; exact hr j u hj
    · unfold maxLen; omega
    · omega
    · intro v' w' h1 h2 _
      refine h v' w' ?_ ?_
      · unfold Ow
        rw [List.length_append, ic_append]
        exact h1
      · refine (Below.refl B W).grown h2 hB ?_
        intro g hg
        exact (hown.lt g hg).1
/-- One item, newly built. -/
theorem sl_one (W : World) (x : It) (e : TypeId) : Sl (W.alloc (.cells #[.int .u64 (x.t : Int), .string x.s] e)) (.slice (some ⟨W.heap.size, 0, none⟩) 1 1) [x] :=
  Or.inr ⟨W.heap.size, 0, 1, rfl, Nat.le_refl _, by unfold maxLen; omega, by simp, fun j v hj => by
    have := (List.getElem?_eq_some_iff.1 hj).1
    rw [ic_len] at this
    have h2 : j < 2 := by simpa using this
    rw [cell_of_row _ _ _ _ _ _ (heap_alloc_new W _)]
    match j, h2 with
    | 0, _ => simpa [ic, ec] using hj
    | 1, _ => simpa [ic, ec] using hj⟩
end Go.Proofs.Ytcoadbagjlcagaa

namespace Go.Proofs
open Go.Shelf
def Try.lays8g_ren : Go.Shelf.Ren := ⟨fun | 4 => 30 | n => n, fun | 22 => 24 | 25 => 33 | 3 => 3 | 4 => 4 | 9 => 9 | 20 => 20 | 0 => 0 | n => n, fun | n => n⟩
theorem Try.lays8g : Go.Proofs.Lays8.n4 Try.prog Try.lays8g_ren := {
  mixed := by kernel_rfl
  f4 := ⟨Try.f30.name, by decide, Try.func30.trans (congrArg some (by kernel_rfl))⟩
  t0 := Try.underlying0
  a0 := Try.isAgg0
  z0 := Try.sizeOf0
  v0 := Try.zeroValue0
  t3 := Try.underlying3
  a3 := Try.isAgg3
  z3 := Try.sizeOf3
  v3 := Try.zeroValue3
  t4 := Try.underlying4
  a4 := Try.isAgg4
  z4 := Try.sizeOf4
  v4 := Try.zeroValue4
  t9 := Try.underlying9
  a9 := Try.isAgg9
  z9 := Try.sizeOf9
  v9 := Try.zeroValue9
  t20 := Try.underlying20
  a20 := Try.isAgg20
  z20 := Try.sizeOf20
  v20 := Try.zeroValue20
  t22 := Try.underlying24
  a22 := Try.isAgg24
  z22 := Try.sizeOf24
  v22 := Try.zeroValue24 }
open Go.RowKit Go.Lib in
theorem Try.slices_Grow_grow (i0 : TypeInfo) (z : Value) (hi0 : Try.prog.info? 33 = some i0) (hz0 : i0.zero = some z) (hs0 : 0 < i0.size)
    (base : Option Addr) (l c n : Nat) (cs : List Value) (w : World) (hlc : l ≤ c) (hroom : c < l + n) (hbig : (l + n) * i0.bytes ≤ 140737488355328) (h63 : l + n ≤ 4611686018427387904)
    (hcl : cs.length = c * i0.size) (hnil : base = none → c = 0) (hcs : ∀ a, base = some a → ∀ j v, cs[j]? = some v → w.cell? (a.add j) = some v) :
    Calls Try.prog 30 #[.slice base l c, .int .i64 n] w fun e w' =>
      e = .returned (.slice (some ⟨w.heap.size, 0, none⟩) l (grownCap w (l + n) c 33)) ∧
      w' = w.drew.alloc (.cells (cs.toArray ++ Builtin.zeroCells z.cells (l + n - c) ++ Builtin.zeroCells z.cells (grownCap w (l + n) c 33 - (l + n))) 33) := Any8.slices_Grow_grow Try.lays8g i0 z hi0 hz0 hs0 base l c n cs w hlc hroom hbig h63 hcl hnil hcs
open Go.RowKit Go.Lib in
theorem Try.slices_Grow_room (base : Option Addr) (l c n : Nat) (w : World) (hlc : l ≤ c) (hc63 : c ≤ 9223372036854775807) (hn63 : n ≤ 9223372036854775807) (hroom : l + n ≤ c) :
    Calls Try.prog 30 #[.slice base l c, .int .i64 n] w fun e w' => e = .returned (.slice base l c) ∧ w' = w := Any8.slices_Grow_room Try.lays8g base l c n w hlc hc63 hn63 hroom
def Try.laysM316_ren : Go.Shelf.Ren := ⟨fun | 316 => 31 | n => n, fun | 9 => 9 | 3 => 3 | 4 => 4 | 37 => 64 | 0 => 0 | 127 => 65 | 5 => 5 | n => n, fun | n => n⟩
theorem Try.laysM316 : Go.Proofs.LaysM.n316 Try.prog Try.laysM316_ren := {
  mixed := by kernel_rfl
  f316 := Try.func31.trans (congrArg some (by kernel_rfl))
  t0 := Try.underlying0
  a0 := Try.isAgg0
  z0 := Try.sizeOf0
  v0 := Try.zeroValue0
  t3 := Try.underlying3
  a3 := Try.isAgg3
  z3 := Try.sizeOf3
  v3 := Try.zeroValue3
  t4 := Try.underlying4
  a4 := Try.isAgg4
  z4 := Try.sizeOf4
  v4 := Try.zeroValue4
  t9 := Try.underlying9
  a9 := Try.isAgg9
  z9 := Try.sizeOf9
  v9 := Try.zeroValue9
  t37 := Try.underlying64
  a37 := Try.isAgg64
  z37 := Try.sizeOf64
  v37 := Try.zeroValue64
  t127 := Try.underlying65
  a127 := Try.isAgg65
  z127 := Try.sizeOf65
  v127 := Try.zeroValue65
  t5 := Try.underlying5
  a5 := Try.isAgg5
  z5 := Try.sizeOf5
  v5 := Try.zeroValue5
  i0 := by kernel_rfl
  i3 := by kernel_rfl
  i4 := by kernel_rfl
  i5 := by kernel_rfl
  i9 := by kernel_rfl
  i37 := by kernel_rfl
  i127 := by kernel_rfl }
open Go.RowKit in
theorem Try.stringslite_Clone (s : ByteArray) (w : World) (hlim : s.size ≤ 281474976710656) :
    Calls Try.prog 31 #[.string s] w fun e w' => e = .returned (.string s) ∧ Below w.heap.size w w' := Any.stringslite_Clone Try.laysM316 s w hlim
end Go.Proofs

namespace Go.Proofs.Ytcoadbagjlcagaa
open Go.RowKit

/-- A box of two; of one. -/
def Bx (e : TypeId) (w : World) (g : Nat) (a b : Value) : Prop := w.heap[g]? = some (.cells #[a, b] e (0, 0))
def B1 (e : TypeId) (w : World) (g : Nat) (a : Value) : Prop := w.heap[g]? = some (.cells #[a] e (0, 0))
theorem Bx.cells {e : TypeId} {w : World} {g : Nat} {a b : Value} (h : Bx e w g a b) : w.cell? ⟨g, 0, none⟩ = some a ∧ w.cell? ⟨g, 1, none⟩ = some b ∧ w.frozen? ⟨g, 0, none⟩ = false ∧ w.frozen? ⟨g, 1, none⟩ = false :=
  ⟨(cell_of_row w g 0 _ _ _ h).trans rfl, (cell_of_row w g 1 _ _ _ h).trans rfl, frozen_of_row w g 0 _ _ h, frozen_of_row w g 1 _ _ h⟩
theorem B1.cells {e : TypeId} {w : World} {g : Nat} {a : Value} (h : B1 e w g a) : w.cell? ⟨g, 0, none⟩ = some a ∧ w.frozen? ⟨g, 0, none⟩ = false :=
  ⟨(cell_of_row w g 0 _ _ _ h).trans rfl, frozen_of_row w g 0 _ _ h⟩
theorem Bx.later {e : TypeId} {w w' : World} {g : Nat} {a b : Value} (h : Bx e w g a b) (hb : Below w.heap.size w w') : Bx e w' g a b := (hb.block _ (lt_of_heap h)).trans h
theorem B1.later {e : TypeId} {w w' : World} {g : Nat} {a : Value} (h : B1 e w g a) (hb : Below w.heap.size w w') : B1 e w' g a := (hb.block _ (lt_of_heap h)).trans h
theorem Bx.drewn {e : TypeId} {w : World} {g : Nat} {a b : Value} (h : Bx e w g a b) : Bx e w.drew g a b := h
theorem B1.drewn {e : TypeId} {w : World} {g : Nat} {a : Value} (h : B1 e w g a) : B1 e w.drew g a := h
theorem Bx.new (e : TypeId) (w : World) (a b : Value) : Bx e (w.alloc (.cells #[a, b] e)) w.heap.size a b := heap_alloc_new w _
theorem B1.new (e : TypeId) (w : World) (a : Value) : B1 e (w.alloc (.cells #[a] e)) w.heap.size a := heap_alloc_new w _
theorem Bx.put {e : TypeId} {w : World} {g : Nat} {a b : Value} (h : Bx e w g a b) (a' b' : Value) : Bx e ((w.setCell ⟨g, 0, none⟩ a').setCell ⟨g, 1, none⟩ b') g a' b' := by
  have h1 : _ = some (Obj.cells #[a', b] e (0, 0)) := heap_setCell_same w g 0 _ e a' h
  exact heap_setCell_same _ g 1 _ e b' h1
theorem Bx.put1 {e : TypeId} {w : World} {g : Nat} {a b : Value} (h : Bx e w g a b) (b' : Value) : Bx e (w.setCell ⟨g, 1, none⟩ b') g a b' := heap_setCell_same w g 1 _ e b' h
theorem B1.put {e : TypeId} {w : World} {g : Nat} {a : Value} (h : B1 e w g a) (a' : Value) : B1 e (w.setCell ⟨g, 0, none⟩ a') g a' := heap_setCell_same w g 0 _ e a' h
theorem Bx.away {e : TypeId} {w : World} {g : Nat} {a b : Value} (h : Bx e w g a b) (p : Addr) (hp : g ≠ p.block) (u : Value) : Bx e (w.setCell p u) g a b := (heap_setCell_other _ p g _ hp).trans h
theorem B1.away {e : TypeId} {w : World} {g : Nat} {a : Value} (h : B1 e w g a) (p : Addr) (hp : g ≠ p.block) (u : Value) : B1 e (w.setCell p u) g a := (heap_setCell_other _ p g _ hp).trans h
theorem Sl.away {w : World} {v : Value} {L : List It} (h : Sl w v L) (p : Addr) (hp : ∀ b o n c, v = .slice (some ⟨b, o, none⟩) n c → b ≠ p.block) (u : Value) : Sl (w.setCell p u) v L := by
  rcases h with h | ⟨b, off, cap, h1, h2, h3, h4, h5⟩
  · exact Or.inl h
  · exact Or.inr ⟨b, off, cap, h1, h2, h3, by simpa [World.setCell] using h4, rng_keep h5 fun _ => heap_setCell_other _ _ _ _ (hp _ _ _ _ h1)⟩

theorem Sl.awayF {w : World} {v : Value} {L : List It} (h : Sl w v L) {B : Nat} (hf : Fr B v) (p : Addr) (hp : p.block < B) (u : Value) : Sl (w.setCell p u) v L := h.away p (fun b o n c e => by have := hf b o n c e; omega) u

theorem clone_str (s : ByteArray) (hs : s.size ≤ 140737488355328) (w : World) : Calls Try.prog 28 #[.string s] w fun e w' => e = .returned (.string s) ∧ Below w.heap.size w w' := by
  have K := Lib.hid (fun w => Try.stringslite_Clone s w (by omega))
  clear hs
  go_enter Try.func28, Try.ntmps28
  go_wp2_with ((go_at_call 31; ((with_reducible refine (K.out _).mono ?_); rintro e w1 ⟨rfl, hb⟩; have HB := Lib.hid hb; clear hb)))
  go_ret
  exact ⟨rfl, HB.out⟩
theorem own_any (x : It) (hs : x.s.size ≤ 140737488355328) (w : World) : Calls Try.prog 21 #[iv x] w fun e w' => e = .returned (iv x) ∧ Below w.heap.size w w' := by
  obtain ⟨t, s⟩ := x
  have K := Lib.hid (clone_str s hs)
  have HB0 := Lib.hid (show Below w.heap.size w ((w.alloc (.cells #[.int .u64 (t : Int), .string s] 33)).alloc (.cells #[.int .u64 0, .string ⟨#[]⟩] 33)) from bt (alloc_below _ _))
  have HX := Lib.hid ((Bx.new 33 w (.int .u64 (t : Int)) (.string s)).later (alloc_below _ (.cells #[.int .u64 0, .string ⟨#[]⟩] 33)))
  have HY := Lib.hid (Bx.new 33 (w.alloc (.cells #[.int .u64 (t : Int), .string s] 33)) (.int .u64 0) (.string ⟨#[]⟩))
  rw [show (w.alloc (.cells #[.int .u64 (t : Int), .string s] 33)).heap.size = w.heap.size + 1 by simp] at HY
  unfold iv
  clear hs
  go_enter Try.func21, Try.ntmps21
  go_wp2_with ((go_at_call 28; ((with_reducible refine (K.out _).mono ?_); rintro e w1 ⟨rfl, hb⟩; have HB := Lib.hid hb; obtain ⟨x0, x1, x2, x3⟩ := (HX.out.later hb).cells; obtain ⟨y0, y1, y2, y3⟩ := (HY.out.later hb).cells; clear hb)))
  obtain ⟨z0, z1, z2, z3⟩ := (((HY.out.later HB.out).away ⟨w.heap.size, 1, none⟩ (by show w.heap.size + 1 ≠ w.heap.size; omega) (.string s)).put (.int .u64 (t : Int)) (.string s)).cells
  refine bodyPost_ret (v := .agg #[.int .u64 (t : Int), .string s]) (by simp [results, Try.results21, go_sem, *]) rfl ⟨rfl, ?_⟩
  have hb := HB0.out.trans (HB.out.mono HB0.out.size)
  exact ((hb.setCell (p := ⟨w.heap.size, 1, none⟩) (Nat.le_refl _) _).setCell (p := ⟨w.heap.size + 1, 0, none⟩) (by show w.heap.size ≤ w.heap.size + 1; omega) _).setCell (p := ⟨w.heap.size + 1, 1, none⟩) (by show w.heap.size ≤ w.heap.size + 1; omega) _

theorem len_any (o : Option Addr) (n c : Nat) (w : World) : Calls Try.prog 17 #[.agg #[.slice o n c]] w fun e w' => e = .returned (.int .i64 (n : Int)) ∧ Below w.heap.size w w' := by
  have HB := Lib.hid (alloc_below w (.cells #[.slice o n c] 26))
  go_enter Try.func17, Try.ntmps17
  go_wp2
  go_ret
  exact ⟨rfl, HB.out⟩
theorem has_yes (o : Option Addr) (n c i : Nat) (hi : i < n) (w : World) : Calls Try.prog 19 #[.agg #[.slice o n c], .int .i64 (i : Int)] w fun e w' => e = .returned (.bool true) ∧ Below w.heap.size w w' := by
  have HB := Lib.hid (alloc_below w (.cells #[.slice o n c] 26))
  have h1 : decide ((i : Int) ≥ 0) = true := by simp
  have h2 : (i : Int) < (n : Int) := by omega
  clear hi
  go_enter Try.func19, Try.ntmps19
  go_wp2
  go_ret
  exact ⟨rfl, HB.out⟩
theorem has_no (o : Option Addr) (n c : Nat) (i : Int) (hi : ¬ (0 ≤ i ∧ i < (n : Int))) (w : World) : Calls Try.prog 19 #[.agg #[.slice o n c], .int .i64 i] w fun e w' => e = .returned (.bool false) ∧ Below w.heap.size w w' := by
  have HB := Lib.hid (alloc_below w (.cells #[.slice o n c] 26))
  by_cases h0 : 0 ≤ i
  · have h2 : ¬ (i < (n : Int)) := by omega
    clear hi
    go_enter Try.func19, Try.ntmps19
    go_wp2
    go_ret
    exact ⟨rfl, HB.out⟩
  · have h1 : i < 0 := by omega
    clear hi
    go_enter Try.func19, Try.ntmps19
    go_wp2
    go_ret
    exact ⟨rfl, HB.out⟩
theorem grow_any (n : Nat) (hn : n ≤ 3000000) (w : World) : Calls Try.prog 30 #[.slice none 0 0, .int .i64 n] w fun e w' => (∃ v, e = .returned v ∧ Ow 33 w' w.heap.size v []) ∧ Below w.heap.size w w' := by
  by_cases h0 : n = 0
  · subst h0
    refine (Try.slices_Grow_room none 0 0 0 w (by omega) (by omega) (by omega) (by omega)).mono ?_
    rintro e w' ⟨rfl, rfl⟩
    exact ⟨⟨_, rfl, Ow.nil _ _ _⟩, Below.refl _ _⟩
  · obtain ⟨i0, hi, hz0, hz1, hz2⟩ := info_parts info33
    refine (Try.slices_Grow_grow i0 _ hi hz0 (by rw [hz1]; decide) none 0 0 n [] w (by omega) (by omega) (by rw [hz2]; omega) (by omega) (by simp) (fun _ => rfl) (fun a ha => by cases ha)).mono ?_
    rintro e w' ⟨rfl, rfl⟩
    refine ⟨⟨_, rfl, ?_⟩, ?_⟩
    · refine ⟨rfl, Or.inr ⟨w.heap.size, _, _, rfl, Nat.le_refl _, heap_alloc_new w.drew _, Nat.zero_le _, grownCap_le_maxLen w _ _ _ (by unfold maxLen; omega), ?_, by simp [ic]⟩⟩
      have hge := grownCap_ge w (0 + n) 0 33
      rw [Nat.zero_add] at hge
      have hz : (Value.agg #[.int .u64 0, .string ⟨#[]⟩]).cells.size = 2 := by rfl
      simp only [Array.size_append, size_zeroCells, hz]
      simp
      omega
    · exact ((Below.refl w.heap.size w).drew).alloc (Nat.le_refl _) _

/-- Two rows, by their number. -/
def tw {α : Type} (a b : α) : Nat → α
  | 0 => a
  | _ => b
/-- Those ahead of one. -/
def pre (A B : List It) : Nat → List It
  | 0 => []
  | k + 1 => pre A B k ++ tw A B k
theorem pre_len (A B : List It) (k : Nat) : (pre A B (k + 1)).length = (pre A B k).length + (tw A B k).length := by simp [pre]
theorem pre_le (A B : List It) (m : Nat) (hA : A.length ≤ m) (hB : B.length ≤ m) : ∀ k, (pre A B k).length ≤ k * m
  | 0 => by simp [pre]
  | k + 1 => by
    have := pre_le A B m hA hB k
    have h2 : (tw A B k).length ≤ m := by
      match k with
      | 0 => exact hA
      | _ + 1 => exact hB
    rw [pre_len, Nat.succ_mul]; omega

set_option maxRecDepth 100000 in
set_option maxHeartbeats 2000000 in
theorem concat_any (A B : List It) (a b : Value) (g : Nat) (w : World) (hlA : A.length ≤ 1000000) (hlB : B.length ≤ 1000000)
    (ha : Sl w a A) (hb : Sl w b B) (c0 : w.cell? ⟨g, 0, none⟩ = some a) (c1 : w.cell? ⟨g, 1, none⟩ = some b) :
    Calls Try.prog 27 #[.slice (some ⟨g, 0, none⟩) 2 2] w fun e w' => (∃ o n c, e = .returned (.slice o n c) ∧ Sl w' (.slice o n c) (A ++ B) ∧ Fr w.heap.size (.slice o n c)) ∧ Below w.heap.size w w' := by
  have HC : Hid (∀ wz, Below w.heap.size w wz → ∀ k, k < 2 → wz.cell? ⟨g, k, none⟩ = some (tw a b k) ∧ Sl wz (tw a b k) (tw A B k)) := Lib.hid (fun wz hz k hk => by
    have hg := World.block_lt_of_cell? w _ c0
    match k, hk with
    | 0, _ => exact ⟨(hz.cell hg).trans c0, ha.later hz⟩
    | 1, _ => exact ⟨(hz.cell (p := ⟨g, 1, none⟩) hg).trans c1, hb.later hz⟩)
  have HLE : Hid (∀ k, k ≤ 2 → (pre A B k).length ≤ 2000000) := Lib.hid (fun k hk => by
    have := pre_le A B 1000000 hlA hlB k
    have : k * 1000000 ≤ 2 * 1000000 := Nat.mul_le_mul_right _ hk
    omega)
  have HPL := Lib.hid (pre_len A B)
  have HFIN : Hid (pre A B 2 = A ++ B) := Lib.hid (by simp [pre, tw])
  have HPS : Hid (∀ k, pre A B (k + 1) = pre A B k ++ tw A B k) := Lib.hid (fun k => rfl)
  have HP0 : Hid (pre A B 0 = []) := Lib.hid rfl
  generalize hPR : pre A B = PR at *
  generalize hTH : tw A B = TH at *
  generalize hTV : tw a b = TV at *
  clear hPR hTH hTV ha hb c0 c1 hlA hlB
  go_enter Try.func27, Try.ntmps27
  go_wp2
  go_loopw [3, 5, 11] (fun x _ y wr => w = wr ∧ ∃ k : Nat, k ≤ 2 ∧ y = .int .i64 k ∧ x = .int .i64 ((PR k).length : Nat)) (fun _ _ y _ => 2 - (intOf y).toNat)
  case atStart => exact ⟨rfl, 0, by omega, rfl, by rw [HP0.out]; rfl⟩
  case round =>
    obtain ⟨rfl, k, hk, rfl, rfl⟩ := hrel
    by_cases hlt : k < 2
    · obtain ⟨hcell, hsl⟩ := HC.out w (Below.refl _ _) k hlt
      obtain ⟨o, cap, hv⟩ := hsl.form
      rw [hv] at hcell
      have e1 := HPL.out k
      have e2 := HLE.out k hk
      have e3 := HLE.out (k + 1) (by omega)
      obtain ⟨p1, hp1⟩ : ∃ p, p = (PR k).length := ⟨_, rfl⟩
      obtain ⟨p2, hp2⟩ : ∃ p, p = (TH k).length := ⟨_, rfl⟩
      obtain ⟨p3, hp3⟩ : ∃ p, p = (PR (k + 1)).length := ⟨_, rfl⟩
      rw [← hp2] at hcell
      rw [← hp1, ← hp2, ← hp3] at e1
      rw [← hp1] at e2
      rw [← hp3] at e3
      rw [← hp1]
      have q1 : (k : Int) < 2 := by omega
      have e4 : (p1 : Int) + (p2 : Int) = (p3 : Int) := by omega
      have HP3 := Lib.hid hp3
      clear hsl hv hp1 hp2 hp3 e1
      go_wp2
      go_roundw
      case rel => exact ⟨by simp, k + 1, by omega, by go_num, by rw [← HP3.out]⟩
      case measure => simp [intOf]; omega
    · have hk3 : k = 2 := by omega
      subst hk3
      have e3 := HLE.out 2 (by omega)
      have KG := Lib.hid (grow_any (PR 2).length (by omega) w)
      generalize (PR 2).length = p at *
      go_wp2_with (first
        | (go_at_call 30; ((with_reducible refine (KG.out).mono ?_); rintro x w5 ⟨⟨v5, rfl, ho5⟩, hb5⟩; have HO5 := Lib.hid ho5; have HB5 := Lib.hid hb5; clear ho5 hb5)))
      go_loopw [6, 8, 27] (fun x _ y wz => ∃ k : Nat, k ≤ 2 ∧ y = .int .i64 k ∧ Hid (Ow 33 wz w.heap.size x (PR k)) ∧ Hid (Below w.heap.size w wz)) (fun _ _ y _ => 2 - (intOf y).toNat)
      case atStart => exact ⟨0, by omega, rfl, by rw [HP0.out]; exact HO5, HB5⟩
      case round =>
        obtain ⟨k, hk, rfl, HO, HB⟩ := hrel
        by_cases hlt : k < 2
        · obtain ⟨hcell, hsl⟩ := HC.out wr HB.out k hlt
          have HSL := Lib.hid hsl
          have e1 := HPL.out k
          have e3 := HLE.out (k + 1) (by omega)
          have HE := Lib.hid (show (PR k).length + (TH k).length ≤ 3000000 by omega)
          have hBs := HB.out.size
          have HBs := Lib.hid hBs
          obtain ⟨t, ht⟩ : ∃ t, t = TV k := ⟨_, rfl⟩
          rw [← ht] at hcell HSL
          have q1 : (k : Int) < 2 := by omega
          clear hsl e1 e3 hBs ht
          go_wp2_with (first
            | (at_builtin; go_must (refine wpList_append_its wr rfl (.tmp 31) (.tmp 32) (Or.inl ⟨rfl, rfl⟩) rfl w.heap.size _ t (PR k) (TH k) rfl HO.out rfl HSL.out HBs.out HE.out ?_); intro v6 w6 ho6 hb6; have HO6 := Lib.hid ho6; have HB6 := Lib.hid hb6; clear ho6 hb6))
          go_roundw
          case rel => exact ⟨k + 1, by omega, by go_num, by rw [HPS.out]; exact HO6, Lib.hid (HB.out.trans HB6.out)⟩
          case measure => simp [intOf]; omega
        · have hk3 : k = 2 := by omega
          subst hk3
          go_wp2
          go_ret
          have := HO.out.sl
          have hf := HO.out.fr
          rw [HFIN.out] at this
          obtain ⟨o, c, h⟩ := this.form
          subst h
          exact ⟨⟨_, _, _, rfl, this, hf⟩, HB.out⟩
end Go.Proofs.Ytcoadbagjlcagaa
