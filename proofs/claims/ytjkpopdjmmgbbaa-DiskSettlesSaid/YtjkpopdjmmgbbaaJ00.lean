/- DERIVED: THE SHELF's CONTRACTS AT THIS DUMP, IN PLAIN WORDS (tools/lay-plain.mjs out of 'YtjkpopdjmmgbbaaLay.lean', which tools/lay-shelf.mjs wrote): THE SAME DECLARATIONS UNDER THE SAME NAMES: 'import', 'namespace', 'open', 'def', 'theorem' AND NOTHING ELSE: no command of the shelf's: FOR A HAND-IN. Each laying: the table of numbers ('.._ren') and one theorem, a field a fact of the dump's own or the kernel's comparison; each contract: ONE APPLICATION.; What a world keeps, but for blocks of a kind; blocks known whole.; A disk, plainly and in memory. -/
import Derived.Shelf.LaysM
import Derived.Shelf.Strconv.Clone
import Derived.Shelf.SlIter.Nil
import Derived.Shelf.SortM.Plain
import Derived.Shelf.SortM.SortNone
import Derived.Shelf.SlMaps.Clone
import Derived.Test.YtjkpopdjmmgbbaaProg
import Derived.WalkKit
import Derived.WalkLawsBesides
import Derived.Outline
import Derived.Laws.IdiomStrings
import Derived.Lib.Hide
import Derived.WalkSpells
import Derived.Deep.DeepCutAuto
import Derived.Deep.CutBlock
import Derived.Deep.QuietTactic
import Derived.BigQuiet
import Derived.Deep.RegionHeld3
import Derived.Deep.LoopGhost
import Derived.StillTailTactics
import Derived.Deep.RegionWith
import Derived.Deep.DeepFit
import Derived.Deep.Light
import Derived.Deep.RegionLaw
import Derived.Laws.Externs
import Derived.Laws.Rows
import Derived.Maps.OwnSet
import Derived.Maps.RangeWalk
import Derived.Maps.Ext
import Derived.StringKeys
import Derived.Test.YtjkpopdjmmgbbaaRows
set_option linter.unusedVariables false
set_option linter.unusedSimpArgs false
namespace Go.Proofs
open Go.Shelf
def Try.laysM316_ren : Go.Shelf.Ren := ⟨fun | 316 => 36 | n => n, fun | 9 => 9 | 3 => 3 | 4 => 4 | 37 => 62 | 0 => 0 | 127 => 78 | 5 => 5 | n => n, fun | n => n⟩
theorem Try.laysM316 : Go.Proofs.LaysM.n316 Try.prog Try.laysM316_ren := {
  mixed := by kernel_rfl
  f316 := Try.func36.trans (congrArg some (by kernel_rfl))
  t0 := Try.underlying0
  a0 := Try.isAgg0
  z0 := Try.sizeOf0
  v0 := Try.zeroValue0
  t3 := Try.underlying3
  a3 := Try.isAgg3
  z3 := Try.sizeOf3
  v3 := Try.zeroValue3
  t4 := Try.underlying4
  a4 := Try.isAgg4
  z4 := Try.sizeOf4
  v4 := Try.zeroValue4
  t9 := Try.underlying9
  a9 := Try.isAgg9
  z9 := Try.sizeOf9
  v9 := Try.zeroValue9
  t37 := Try.underlying62
  a37 := Try.isAgg62
  z37 := Try.sizeOf62
  v37 := Try.zeroValue62
  t127 := Try.underlying78
  a127 := Try.isAgg78
  z127 := Try.sizeOf78
  v127 := Try.zeroValue78
  t5 := Try.underlying5
  a5 := Try.isAgg5
  z5 := Try.sizeOf5
  v5 := Try.zeroValue5
  i0 := by kernel_rfl
  i3 := by kernel_rfl
  i4 := by kernel_rfl
  i5 := by kernel_rfl
  i9 := by kernel_rfl
  i37 := by kernel_rfl
  i127 := by kernel_rfl }
def Try.keys40_ren : Go.Shelf.Ren := ⟨fun | 7 => 40 | 10 => 44 | n => n, fun | 23 => 47 | 26 => 9 | 3 => 51 | 28 => 76 | 0 => 0 | 27 => 75 | 33 => 54 | 4 => 4 | n => n, fun | n => n⟩
theorem Try.keys40 : Go.Proofs.SlLaysZ.n7 Try.prog Try.keys40_ren := {
  mixed := by kernel_rfl
  f7 := ⟨Try.f40.name, by decide, Try.func40.trans (congrArg some (by kernel_rfl))⟩
  f10 := ⟨Try.f44.name, by decide, Try.func44.trans (congrArg some (by kernel_rfl))⟩
  t0 := Try.underlying0
  a0 := Try.isAgg0
  z0 := Try.sizeOf0
  v0 := Try.zeroValue0
  t4 := Try.underlying4
  a4 := Try.isAgg4
  z4 := Try.sizeOf4
  v4 := Try.zeroValue4
  t23 := Try.underlying47
  a23 := Try.isAgg47
  z23 := Try.sizeOf47
  v23 := Try.zeroValue47
  t26 := Try.underlying9
  a26 := Try.isAgg9
  z26 := Try.sizeOf9
  v26 := Try.zeroValue9
  t27 := Try.underlying75
  a27 := Try.isAgg75
  z27 := Try.sizeOf75
  v27 := Try.zeroValue75
  t28 := Try.underlying76
  a28 := Try.isAgg76
  z28 := Try.sizeOf76
  v28 := Try.zeroValue76
  t33 := Try.underlying54
  a33 := Try.isAgg54
  z33 := Try.sizeOf54
  v33 := Try.zeroValue54 }
def Try.sorted39_ren : Go.Shelf.Ren := ⟨fun | 6 => 39 | 8 => 42 | 9 => 43 | 11 => 45 | 13 => 47 | 12 => 46 | 23 => 57 | 24 => 58 | 14 => 48 | 15 => 49 | 16 => 50 | 17 => 51 | 18 => 52 | 19 => 53 | 20 => 54 | 21 => 55 | 22 => 56 | 25 => 59 | 26 => 60 | 27 => 61 | 28 => 62 | 29 => 63 | 30 => 64 | 31 => 65 | n => n, fun | 26 => 9 | 28 => 76 | 24 => 44 | 0 => 0 | 3 => 3 | 37 => 73 | 48 => 94 | 50 => 67 | 4 => 4 | 40 => 86 | 39 => 85 | 45 => 91 | 5 => 5 | 9 => 9 | 51 => 96 | 55 => 100 | 57 => 102 | 58 => 103 | 33 => 54 | n => n, fun | n => n⟩
theorem Try.sorted39 : Go.Proofs.SlLaysZ.n6 Try.prog Try.sorted39_ren := {
  mixed := by kernel_rfl
  f6 := ⟨Try.f39.name, by decide, Try.func39.trans (congrArg some (by kernel_rfl))⟩
  f8 := ⟨Try.f42.name, by decide, Try.func42.trans (congrArg some (by kernel_rfl))⟩
  f11 := ⟨Try.f45.name, by decide, Try.func45.trans (congrArg some (by kernel_rfl))⟩
  t0 := Try.underlying0
  a0 := Try.isAgg0
  z0 := Try.sizeOf0
  v0 := Try.zeroValue0
  t24 := Try.underlying44
  a24 := Try.isAgg44
  z24 := Try.sizeOf44
  v24 := Try.zeroValue44
  t26 := Try.underlying9
  a26 := Try.isAgg9
  z26 := Try.sizeOf9
  v26 := Try.zeroValue9
  t28 := Try.underlying76
  a28 := Try.isAgg76
  z28 := Try.sizeOf76
  v28 := Try.zeroValue76
  i26 := by kernel_rfl }
def Try.sort43_ren : Go.Shelf.Ren := ⟨fun | 6 => 43 | 8 => 47 | 9 => 46 | 19 => 57 | 20 => 58 | 21 => 48 | 22 => 49 | 23 => 50 | 24 => 51 | 25 => 52 | 26 => 53 | 27 => 54 | 28 => 55 | 29 => 56 | 36 => 59 | 31 => 60 | 32 => 61 | 37 => 62 | 38 => 63 | 39 => 64 | 41 => 65 | n => n, fun | 27 => 44 | 29 => 9 | 3 => 3 | 32 => 73 | 26 => 44 | 0 => 0 | 44 => 94 | 46 => 67 | 4 => 4 | 36 => 86 | 35 => 85 | 41 => 91 | 5 => 5 | 9 => 9 | 53 => 96 | 57 => 100 | 63 => 102 | 64 => 103 | n => n, fun | n => n⟩
theorem Try.sort43 : Go.Proofs.SlLaysM.n6 Try.prog Try.sort43_ren := {
  mixed := by kernel_rfl
  f6 := ⟨Try.f43.name, by decide, Try.func43.trans (congrArg some (by kernel_rfl))⟩
  f8 := Try.func47.trans (congrArg some (by kernel_rfl))
  f9 := ⟨Try.f46.name, by decide, Try.func46.trans (congrArg some (by kernel_rfl))⟩
  f19 := Try.func57.trans (congrArg some (by kernel_rfl))
  f20 := Try.func58.trans (congrArg some (by kernel_rfl))
  f21 := ⟨Try.f48.name, by decide, Try.func48.trans (congrArg some (by kernel_rfl))⟩
  f22 := ⟨Try.f49.name, by decide, Try.func49.trans (congrArg some (by kernel_rfl))⟩
  f23 := ⟨Try.f50.name, by decide, Try.func50.trans (congrArg some (by kernel_rfl))⟩
  f24 := ⟨Try.f51.name, by decide, Try.func51.trans (congrArg some (by kernel_rfl))⟩
  f25 := ⟨Try.f52.name, by decide, Try.func52.trans (congrArg some (by kernel_rfl))⟩
  f26 := ⟨Try.f53.name, by decide, Try.func53.trans (congrArg some (by kernel_rfl))⟩
  f27 := ⟨Try.f54.name, by decide, Try.func54.trans (congrArg some (by kernel_rfl))⟩
  f28 := ⟨Try.f55.name, by decide, Try.func55.trans (congrArg some (by kernel_rfl))⟩
  f29 := ⟨Try.f56.name, by decide, Try.func56.trans (congrArg some (by kernel_rfl))⟩
  f31 := Try.func60.trans (congrArg some (by kernel_rfl))
  f32 := Try.func61.trans (congrArg some (by kernel_rfl))
  f36 := ⟨Try.f59.name, by decide, Try.func59.trans (congrArg some (by kernel_rfl))⟩
  f37 := ⟨Try.f62.name, by decide, Try.func62.trans (congrArg some (by kernel_rfl))⟩
  f38 := ⟨Try.f63.name, by decide, Try.func63.trans (congrArg some (by kernel_rfl))⟩
  f39 := ⟨Try.f64.name, by decide, Try.func64.trans (congrArg some (by kernel_rfl))⟩
  f41 := ⟨Try.f65.name, by decide, Try.func65.trans (congrArg some (by kernel_rfl))⟩
  t0 := Try.underlying0
  a0 := Try.isAgg0
  z0 := Try.sizeOf0
  v0 := Try.zeroValue0
  t3 := Try.underlying3
  a3 := Try.isAgg3
  z3 := Try.sizeOf3
  v3 := Try.zeroValue3
  t4 := Try.underlying4
  a4 := Try.isAgg4
  z4 := Try.sizeOf4
  v4 := Try.zeroValue4
  t5 := Try.underlying5
  a5 := Try.isAgg5
  z5 := Try.sizeOf5
  v5 := Try.zeroValue5
  t9 := Try.underlying9
  a9 := Try.isAgg9
  z9 := Try.sizeOf9
  v9 := Try.zeroValue9
  t26 := Try.underlying44
  a26 := Try.isAgg44
  z26 := Try.sizeOf44
  v26 := Try.zeroValue44
  t27 := Try.underlying44
  a27 := Try.isAgg44
  z27 := Try.sizeOf44
  v27 := Try.zeroValue44
  t29 := Try.underlying9
  a29 := Try.isAgg9
  z29 := Try.sizeOf9
  v29 := Try.zeroValue9
  t32 := Try.underlying73
  a32 := Try.isAgg73
  z32 := Try.sizeOf73
  v32 := Try.zeroValue73
  t35 := Try.underlying85
  a35 := Try.isAgg85
  z35 := Try.sizeOf85
  v35 := Try.zeroValue85
  t36 := Try.underlying86
  a36 := Try.isAgg86
  z36 := Try.sizeOf86
  v36 := Try.zeroValue86
  t41 := Try.underlying91
  a41 := Try.isAgg91
  z41 := Try.sizeOf91
  v41 := Try.zeroValue91
  t44 := Try.underlying94
  a44 := Try.isAgg94
  z44 := Try.sizeOf94
  v44 := Try.zeroValue94
  t46 := Try.underlying67
  a46 := Try.isAgg67
  z46 := Try.sizeOf67
  v46 := Try.zeroValue67
  t53 := Try.underlying96
  a53 := Try.isAgg96
  z53 := Try.sizeOf96
  v53 := Try.zeroValue96
  t57 := Try.underlying100
  a57 := Try.isAgg100
  z57 := Try.sizeOf100
  v57 := Try.zeroValue100
  t63 := Try.underlying102
  a63 := Try.isAgg102
  z63 := Try.sizeOf102
  v63 := Try.zeroValue102
  t64 := Try.underlying103
  a64 := Try.isAgg103
  z64 := Try.sizeOf103
  v64 := Try.zeroValue103 }
def Try.clone30_ren : Go.Shelf.Ren := ⟨fun | 5 => 30 | 7 => 37 | n => n, fun | 23 => 47 | 25 => 9 | 3 => 51 | 4 => 4 | 20 => 20 | n => n, fun | n => n⟩
theorem Try.clone30 : Go.Proofs.SlLaysW.n5 Try.prog Try.clone30_ren := {
  mixed := by kernel_rfl
  f5 := ⟨Try.f30.name, by decide, Try.func30.trans (congrArg some (by kernel_rfl))⟩
  f7 := Try.func37.trans (congrArg some (by kernel_rfl))
  t4 := Try.underlying4
  a4 := Try.isAgg4
  z4 := Try.sizeOf4
  v4 := Try.zeroValue4
  t20 := Try.underlying20
  a20 := Try.isAgg20
  z20 := Try.sizeOf20
  v20 := Try.zeroValue20
  t23 := Try.underlying47
  a23 := Try.isAgg47
  z23 := Try.sizeOf47
  v23 := Try.zeroValue47 }
end Go.Proofs

namespace Go.Proofs.Ytjkpopdjmmgbbaa
open Go.RowKit

theorem gen_wp {P : Program} {c : Code} {Q : Exit → Act → World → Prop} {a : Act} {wz : World} {S : World → Prop} (h : S wz) (k : ∀ wz, S wz → c.wp P Q a wz) : c.wp P Q a wz := k _ h
theorem alloc_below (w : World) (o : Obj) : Below w.heap.size w (w.alloc o) := (Below.refl _ _).alloc (Nat.le_refl _) _
theorem alloc_lt (w : World) (o : Obj) : w.heap.size < (w.alloc o).heap.size := by simp
theorem bdn (w : World) (n : Nat) : Below w.heap.size w (w.drewN n) := ⟨rfl, rfl, rfl, Nat.le_refl _, fun _ _ => rfl⟩
theorem lt_of_heap {w : World} {g : Nat} {o : Obj} (h : w.heap[g]? = some o) : g < w.heap.size := (Array.getElem?_eq_some_iff.1 h).1
theorem heap_new (w : World) (o : Obj) : (w.alloc o).heap[w.heap.size]? = some o := heap_alloc_new w o

/-- Nothing that was there has turned, but blocks of a kind. -/
structure Kp (K : Nat → Prop) (w w' : World) : Prop where
  os : w'.os = w.os
  tape : w'.tape = w.tape
  output : w'.output = w.output
  size : w.heap.size ≤ w'.heap.size
  block : ∀ b, b < w.heap.size → ¬ K b → w'.heap[b]? = w.heap[b]?
theorem Kp.refl (K : Nat → Prop) (w : World) : Kp K w w := ⟨rfl, rfl, rfl, Nat.le_refl _, fun _ _ _ => rfl⟩
theorem Kp.trans {K : Nat → Prop} {a b c : World} (h : Kp K a b) (k : Kp K b c) : Kp K a c :=
  ⟨k.os.trans h.os, k.tape.trans h.tape, k.output.trans h.output, Nat.le_trans h.size k.size, fun i hi hk => (k.block i (Nat.lt_of_lt_of_le hi h.size) hk).trans (h.block i hi hk)⟩
/-- Blocks that are new count as turned, too. -/
theorem Kp.step {K K' : Nat → Prop} {a b c : World} (h : Kp K a b) (k : Kp K' b c) (hK : ∀ i, i < a.heap.size → K' i → K i) : Kp K a c :=
  ⟨k.os.trans h.os, k.tape.trans h.tape, k.output.trans h.output, Nat.le_trans h.size k.size, fun i hi hk => (k.block i (Nat.lt_of_lt_of_le hi h.size) (fun h' => hk (hK i hi h'))).trans (h.block i hi hk)⟩
theorem Kp.mono {K K' : Nat → Prop} {a b : World} (h : Kp K a b) (hK : ∀ i, i < a.heap.size → K i → K' i) : Kp K' a b :=
  ⟨h.os, h.tape, h.output, h.size, fun i hi hk => h.block i hi (fun h' => hk (hK i hi h'))⟩
theorem Kp.of_below {K : Nat → Prop} {a b : World} (h : Below a.heap.size a b) : Kp K a b := ⟨h.os, h.tape, h.output, h.size, fun i hi _ => h.block i hi⟩
theorem Kp.below {K : Nat → Prop} {B : Nat} {a b : World} (h : Kp K a b) (hB : ∀ i, K i → B ≤ i) (hs : B ≤ a.heap.size) : Below B a b :=
  ⟨h.os, h.tape, h.output, h.size, fun i hi => h.block i (by omega) (fun hk => by have := hB i hk; omega)⟩
theorem Kp.of_grown {K : Nat → Prop} {a b : World} {row : Option Nat} (h : a.grownBy b row) (hr : ∀ r, row = some r → r < a.heap.size → K r) : Kp K a b :=
  ⟨h.os, h.tape, h.output, h.size, fun i hi hk => h.block i hi (fun e => hk (hr i e.symm hi))⟩
theorem Kp.drew {K : Nat → Prop} {a b : World} (h : Kp K a b) : Kp K a b.drew := ⟨h.os, h.tape, h.output, h.size, h.block⟩
theorem Kp.alloc {K : Nat → Prop} {a b : World} (h : Kp K a b) (o : Obj) : Kp K a (b.alloc o) := h.trans (Kp.of_below (alloc_below b o))
theorem Kp.setCell {K : Nat → Prop} {a b : World} (h : Kp K a b) {p : Addr} (hp : K p.block ∨ a.heap.size ≤ p.block) (u : Value) : Kp K a (b.setCell p u) :=
  ⟨h.os, h.tape, h.output, by simpa [World.setCell] using h.size, fun i hi hk => (heap_setCell_other _ _ _ _ (by rintro rfl; rcases hp with hp | hp; exact hk hp; omega)).trans (h.block i hi hk)⟩
theorem Kp.cell {K : Nat → Prop} {a b : World} (h : Kp K a b) {p : Addr} (hp : p.block < a.heap.size) (hk : ¬ K p.block) : b.cell? p = a.cell? p := World.cell?_of_block (h.block p.block hp hk)
end Go.Proofs.Ytjkpopdjmmgbbaa

namespace Go.Proofs.Ytjkpopdjmmgbbaa
open Go.RowKit Go.Maps

/-- What names are, as a map reads: each has a file, by its block's number. -/
abbrev Dm := DataW Unit
def nk (s : ByteArray) : Lit := .string s.data.toList
def fl (c : Nat) : Dm := .lit (.int .i64 (c : Int))
def ptrE (v : Value) : Option (Dm × List MemPlace) :=
  match v with
  | .pointer none => some (.nil, [])
  | .pointer (some ⟨b, 0, none⟩) => some (fl b, [])
  | _ => none
theorem ptrE_mk (c : Nat) : ptrE (.pointer (some ⟨c, 0, none⟩)) = some (fl c, []) := rfl
theorem ptrE_nil : ptrE (.pointer none) = some (.nil, []) := rfl
theorem fl_inj {a b : Nat} (h : fl a = fl b) : a = b := by
  unfold fl at h
  simp at h
  omega
theorem ptrE_inv {v : Value} {z : Dm × List MemPlace} (h : ptrE v = some z) : (v = .pointer none ∧ z = (.nil, [])) ∨ ∃ c, v = .pointer (some ⟨c, 0, none⟩) ∧ z = (fl c, []) := by
  unfold ptrE at h
  split at h
  · left; exact ⟨rfl, by simpa using h.symm⟩
  · right; exact ⟨_, rfl, by simpa using h.symm⟩
  · cases h
theorem law : Keyed Try.prog 9 := string_keyed Try.underlying9
theorem zero51 (w : World) : (zeroValue 51).run Try.prog w = .ok (.pointer none) w := by kernel_rfl
theorem nk_inj {a b : ByteArray} (h : nk a = nk b) : a = b := by
  unfold nk at h
  simp at h
  exact ByteArray.ext h
theorem key_of (s : ByteArray) (h : s.size ≤ 1000000000) : keyOf Try.prog 9 (.string s) = some (nk s) := Go.WideMaps.keyOf_string_mk Try.underlying9 (by unfold maxLen; omega)

theorem key_max (s : ByteArray) (h : s.size ≤ maxLen) : keyOf Try.prog 9 (.string s) = some (nk s) := Go.WideMaps.keyOf_string_mk Try.underlying9 h
structure Tn where
  kind : Nat
  file : Nat
  frm : List ByteArray
  dest : ByteArray
structure St where
  room : Nat
  N : Dm
  S : Dm
  P : List Tn
  fuse : Int
  steps : Nat
  down : Bool
  F : Nat → ByteArray × ByteArray
/-- Each that is there is a file. -/
def Fil (D : Dm) : Prop := ∀ k, Maps.has D k = true → ∃ c, ∀ z, D.atKey k z = fl c
def St.live (st : St) (c : Nat) : Prop := (∃ k, Maps.has st.N k = true ∧ ∀ z, st.N.atKey k z = fl c) ∨ (∃ k, Maps.has st.S k = true ∧ ∀ z, st.S.atKey k z = fl c) ∨ ∃ t ∈ st.P, t.file = c

/-- A row of strings that nobody writes. -/
def StrRow (w : World) (l : List ByteArray) (v : Value) : Prop :=
  ∃ (o : Option Addr) (cap b : Nat) (cur : Array Value), v = .slice o l.length cap ∧ (0 < l.length → o = some ⟨b, 0, none⟩ ∧ w.heap[b]? = some (.cells cur 9 (0, 0))) ∧ ∀ (j : Nat) (h : j < l.length), cur[j]? = some (.string l[j])
theorem StrRow.keep {w w' : World} {l : List ByteArray} {v : Value} (h : StrRow w l v) (hk : ∀ (b : Nat) (cur : Array Value), w.heap[b]? = some (.cells cur 9 (0, 0)) → w'.heap[b]? = some (.cells cur 9 (0, 0))) : StrRow w' l v := by
  obtain ⟨o, cap, b, cur, rfl, ho, hc⟩ := h
  exact ⟨o, cap, b, cur, rfl, fun hp => ⟨(ho hp).1, hk _ _ (ho hp).2⟩, hc⟩
def TnIn (w : World) (t : Tn) (c0 c1 c2 c3 : Value) : Prop :=
  c0 = .int .i64 (t.kind : Int) ∧ c1 = .pointer (some ⟨t.file, 0, none⟩) ∧ StrRow w t.frm c2 ∧ c3 = .string t.dest ∧ t.dest.size ≤ maxLen ∧ (∀ s ∈ t.frm, s.size ≤ maxLen) ∧ t.kind ≤ 2 ∧ t.frm.length ≤ 1000000
/-- A row of cells, four to each. -/
def PRow (T : TypeId) (m : Nat) (ρ : Option Nat) (o : Option Addr) (cap n : Nat) (xs : List Value) (w : World) : Prop :=
  xs.length = n * m ∧ ((o = none ∧ cap = 0 ∧ ρ = none ∧ n = 0) ∨ ∃ (r : Nat) (cur : Array Value), ρ = some r ∧ o = some ⟨r, 0, none⟩ ∧ w.heap[r]? = some (.cells cur T (0, 0)) ∧ n ≤ cap ∧ cap ≤ maxLen ∧ cur.size = cap * m ∧ cur.toList.take (n * m) = xs)
theorem PRow.keep {T : TypeId} {m : Nat} {ρ : Option Nat} {o : Option Addr} {cap n : Nat} {xs : List Value} {w w' : World} (h : PRow T m ρ o cap n xs w) (hk : ∀ r, ρ = some r → w'.heap[r]? = w.heap[r]?) : PRow T m ρ o cap n xs w' := by
  refine ⟨h.1, ?_⟩
  rcases h.2 with h | ⟨r, cur, h1, h2, h4, h5⟩
  · exact Or.inl h
  · exact Or.inr ⟨r, cur, h1, h2, (hk r h1).trans h4, h5⟩
theorem own_keep {w w' : World} {b n : Nat} {D : Dm} (h : w.ownsMap Try.prog 9 ptrE b n D) (hb : w'.heap[b]? = w.heap[b]?) : w'.ownsMap Try.prog 9 ptrE b n D := by
  obtain ⟨es, clock, h1, h2⟩ := h
  exact ⟨es, clock, hb.trans h1, h2⟩

structure Gh where
  bn : Nat
  bs : Nat
  nn : Nat
  o : Option Addr
  cap : Nat
  ρ : Option Nat
  xs : List Value
/-- A disk's own cells. -/
def dcells (g : Gh) (st : St) : Array Value := #[.int .i64 (st.room : Int), .map (some g.bn), .map (some g.bs), .slice g.o st.P.length g.cap, .int .i64 st.fuse, .int .i64 (st.steps : Int), .bool st.down]
/-- A disk in memory, all of it in blocks of a kind. -/
structure DW (w : World) (K : Nat → Prop) (D : Nat) (g : Gh) (st : St) : Prop where
  blk : w.heap[D]? = some (.cells (dcells g st) 50 (0, 0))
  names : w.ownsMap Try.prog 9 ptrE g.bn g.nn st.N
  sure : w.ownsMap Try.prog 9 ptrE g.bs g.nn st.S
  ne : g.bn ≠ g.bs
  row : PRow 60 4 g.ρ g.o g.cap st.P.length g.xs w
  turn : ∀ (i : Nat) (h : i < st.P.length), ∃ c0 c1 c2 c3, g.xs[i * 4]? = some c0 ∧ g.xs[i * 4 + 1]? = some c1 ∧ g.xs[i * 4 + 2]? = some c2 ∧ g.xs[i * 4 + 3]? = some c3 ∧ TnIn w st.P[i] c0 c1 c2 c3
  file : ∀ c, st.live c → w.heap[c]? = some (.cells #[.string (st.F c).1, .string (st.F c).2] 56 (0, 0))
  size : ∀ c, st.live c → (st.F c).1.size ≤ 100000 ∧ (st.F c).2.size ≤ 100000
  filN : Fil st.N
  filS : Fil st.S
  few : g.nn ≤ 1000000 ∧ st.P.length ≤ 1000000 ∧ st.steps ≤ 1000000000 ∧ st.room ≤ 65536 ∧ -1000000 ≤ st.fuse ∧ st.fuse ≤ 1000000
  own : K D ∧ K g.bn ∧ K g.bs ∧ (∀ r, g.ρ = some r → K r) ∧ (∀ c, st.live c → K c) ∧ ∀ b, K b → b < w.heap.size
theorem DW.lt {w : World} {K : Nat → Prop} {D : Nat} {g : Gh} {st : St} (h : DW w K D g st) : D < w.heap.size := lt_of_heap h.blk
/-- What a disk's blocks are goes on being so. -/
theorem DW.keep {w w' : World} {K : Nat → Prop} {D : Nat} {g : Gh} {st : St} (h : DW w K D g st) (hs : w.heap.size ≤ w'.heap.size) (hk : ∀ b, b < w.heap.size → w'.heap[b]? = w.heap[b]?) : DW w' K D g st where
  blk := (hk D h.lt).trans h.blk
  names := own_keep h.names (hk _ h.names.lt)
  sure := own_keep h.sure (hk _ h.sure.lt)
  ne := h.ne
  row := h.row.keep (fun r hr => hk _ (h.own.2.2.2.2.2 r (h.own.2.2.2.1 r hr)))
  turn := fun i hi => by
    obtain ⟨c0, c1, c2, c3, e0, e1, e2, e3, t0, t1, t2, t3⟩ := h.turn i hi
    exact ⟨c0, c1, c2, c3, e0, e1, e2, e3, t0, t1, t2.keep (fun b cur hb => (hk b (lt_of_heap hb)).trans hb), t3⟩
  file := fun c hc => (hk c (lt_of_heap (h.file c hc))).trans (h.file c hc)
  size := h.size
  filN := h.filN
  filS := h.filS
  few := h.few
  own := ⟨h.own.1, h.own.2.1, h.own.2.2.1, h.own.2.2.2.1, h.own.2.2.2.2.1, fun b hb => Nat.lt_of_lt_of_le (h.own.2.2.2.2.2 b hb) hs⟩
theorem DW.later {w w' : World} {K : Nat → Prop} {D : Nat} {g : Gh} {st : St} (h : DW w K D g st) (hb : Below w.heap.size w w') : DW w' K D g st := h.keep hb.size hb.block
/-- Where nothing of a disk has turned it is as it was. -/
theorem DW.apart {w w' : World} {K K' : Nat → Prop} {D : Nat} {g : Gh} {st : St} (h : DW w K D g st) (hk : Kp K' w w') (hd : ∀ b, b < w.heap.size → ¬ K' b) : DW w' K D g st := h.keep hk.size (fun b hb => hk.block b hb (hd b hb))
end Go.Proofs.Ytjkpopdjmmgbbaa
