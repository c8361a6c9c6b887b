/- An act; what it writes.; Acts as arguments, opened.; An act's block; a Write beside a block that is none of the disk's; rows of truths and numbers, later. -/
import Derived.Test.YtjkpopdjmmgbbaaJ10
import Derived.ChangeSame
import Derived.OpenShut
import Derived.Deep.Slices
set_option linter.unusedVariables false
set_option linter.unusedSimpArgs false
namespace Go.Proofs.Ytjkpopdjmmgbbaa
open Go.RowKit Go.Maps Go.Sort

def lightB (a t : ByteArray) (n1 n2 : Nat) : Bool := decide (a.size ≤ 60 ∧ t.size ≤ 60 ∧ n1 ≤ 60 ∧ n2 ≤ 60)
set_option maxRecDepth 100000 in
set_option maxHeartbeats 2000000 in
theorem light_any (d : Nat) (a t : ByteArray) (n bb : Nat) (o1 : Option Addr) (n1 cap1 : Nat) (o2 : Option Addr) (n2 cap2 : Nat) (w : World) :
    Calls Try.prog 11 #[.agg #[.int .u8 (d : Int), .string a, .string t, .int .u16 (n : Int), .int .u8 (bb : Int), .slice o1 n1 cap1, .slice o2 n2 cap2]] w fun e w' => e = .returned (.bool (lightB a t n1 n2)) ∧ Below w.heap.size w w' := by
  by_cases hm : max (a.size : Int) (t.size : Int) ≤ 60
  · by_cases h1 : (n1 : Int) ≤ 60
    · by_cases h2 : (n2 : Int) ≤ 60
      · have e : lightB a t n1 n2 = true := decide_eq_true ⟨by omega, by omega, by omega, by omega⟩
        rw [e]
        clear e
        go_enter Try.func11, Try.ntmps11
        go_wp2
        go_ret
        exact ⟨rfl, alloc_below _ _⟩
      · have e : lightB a t n1 n2 = false := decide_eq_false (fun h => by omega)
        rw [e]
        clear e
        go_enter Try.func11, Try.ntmps11
        go_wp2
        go_ret
        exact ⟨rfl, alloc_below _ _⟩
    · have e : lightB a t n1 n2 = false := decide_eq_false (fun h => by omega)
      rw [e]
      clear e
      go_enter Try.func11, Try.ntmps11
      go_wp2
      go_ret
      exact ⟨rfl, alloc_below _ _⟩
  · have e : lightB a t n1 n2 = false := decide_eq_false (fun h => by omega)
    rw [e]
    clear e
    go_enter Try.func11, Try.ntmps11
    go_wp2
    go_ret
    exact ⟨rfl, alloc_below _ _⟩
set_option maxRecDepth 100000 in
set_option maxHeartbeats 2000000 in
theorem text_any (d : Nat) (a t : ByteArray) (n bb : Nat) (hn : n ≤ 65535) (hb : bb ≤ 255) (o1 : Option Addr) (n1 cap1 : Nat) (o2 : Option Addr) (n2 cap2 : Nat) (w : World) :
    Calls Try.prog 12 #[.agg #[.int .u8 (d : Int), .string a, .string t, .int .u16 (n : Int), .int .u8 (bb : Int), .slice o1 n1 cap1, .slice o2 n2 cap2]] w fun e w' => ∃ x : ByteArray, e = .returned (.string x) ∧ x.size ≤ 3000 ∧ Below w.heap.size w w' := by
  obtain ⟨z, hz⟩ : ∃ z : Nat, z = n % 3000 := ⟨_, rfl⟩
  have ez : (n : Int) % 3000 = (z : Int) := by omega
  have hzl : z < 3000 := by omega
  have hmk := fun w => run_make_row' (P := Try.prog) 62 5 (.int .u8 0) 1 Try.underlying62 info5 rfl .u16 .u16 z (by omega) (by omega) w
  rw [made_bytes] at hmk
  have hmk2 : ∀ w, (Instr.makeSlice 62 (.int .u16 ((n : Int) % 3000)) (.int .u16 ((n : Int) % 3000))).run Try.prog w = .ok (.slice (some ⟨w.heap.size, 0, none⟩) z z) (w.alloc (.cells (bcl (List.replicate z 0)).toArray 5)) := fun w => by rw [ez]; exact hmk w
  clear hmk ez hz
  have HBX := Lib.hid (heap_new w (.cells #[.int .u8 (d : Int), .string a, .string t, .int .u16 (n : Int), .int .u8 (bb : Int), .slice o1 n1 cap1, .slice o2 n2 cap2] 35))
  have HLT := Lib.hid (alloc_lt w (.cells #[.int .u8 (d : Int), .string a, .string t, .int .u16 (n : Int), .int .u8 (bb : Int), .slice o1 n1 cap1, .slice o2 n2 cap2] 35))
  have HB0 := Lib.hid (alloc_below w (.cells #[.int .u8 (d : Int), .string a, .string t, .int .u16 (n : Int), .int .u8 (bb : Int), .slice o1 n1 cap1, .slice o2 n2 cap2] 35))
  have HSZ : Hid ((w.alloc (.cells #[.int .u8 (d : Int), .string a, .string t, .int .u16 (n : Int), .int .u8 (bb : Int), .slice o1 n1 cap1, .slice o2 n2 cap2] 35)).heap.size = w.heap.size + 1) := Lib.hid (by simp)
  go_enter Try.func12, Try.ntmps12
  go_wp2
  generalize w.alloc (.cells #[.int .u8 (d : Int), .string a, .string t, .int .u16 (n : Int), .int .u8 (bb : Int), .slice o1 n1 cap1, .slice o2 n2 cap2] 35) = wa at *
  go_loopw [11] (fun v wr => ∃ (i : Nat) (l : List UInt8), i ≤ z ∧ v = .int .i64 (i : Int) ∧ Hid (l.length = z ∧ BB (w.heap.size + 1) 5 l wr ∧ Below w.heap.size w wr ∧ wr.heap[w.heap.size]? = some (.cells #[.int .u8 (d : Int), .string a, .string t, .int .u16 (n : Int), .int .u8 (bb : Int), .slice o1 n1 cap1, .slice o2 n2 cap2] 35 (0, 0)))) (fun v _ => z - (intOf v).toNat)
  case atStart => exact ⟨0, List.replicate z 0, by omega, rfl, Lib.hid ⟨by simp, by rw [← HSZ.out]; exact bb_new wa _ 5, HB0.out.alloc (by have := HLT.out; omega) _, ((alloc_below wa _).block _ HLT.out).trans HBX.out⟩⟩
  case round =>
    obtain ⟨i, l, hi, rfl, HL⟩ := hrel
    by_cases hlt : i < z
    · have k4 : wr.cell? ⟨w.heap.size, 4, none⟩ = some (.int .u8 (bb : Int)) := cell_of_row wr w.heap.size 4 _ _ _ HL.out.2.2.2
      have kx := HL.out.2.1.cell i (by rw [HL.out.1]; exact hlt)
      have kf := HL.out.2.1.frozen i
      have q1 : (0 : Int) ≤ (i : Int) := by omega
      have q2 : (i : Int) < (z : Int) := by omega
      go_wp2
      go_roundw
      case rel =>
        obtain ⟨x, hx⟩ : ∃ x : UInt8, ((bb : Int) + (i : Int) / 64) % 256 = ((x.toNat : Nat) : Int) := ⟨UInt8.ofNat ((bb + i / 64) % 256), by
          rw [UInt8.toNat_ofNat']; omega⟩
        rw [hx]
        exact ⟨i + 1, l.set i x, by omega, by go_num, Lib.hid ⟨by rw [List.length_set]; exact HL.out.1, HL.out.2.1.put i x, HL.out.2.2.1.setCell (p := ⟨w.heap.size + 1, i, none⟩) (by show w.heap.size ≤ w.heap.size + 1; omega) _, (heap_setCell_other _ _ _ _ (by show w.heap.size ≠ w.heap.size + 1; omega)).trans HL.out.2.2.2⟩⟩
      case measure => simp [intOf]; omega
    · have hconv := conv_bb HL.out.2.1
      rw [HL.out.1] at hconv
      go_wp2
      go_ret
      exact ⟨⟨l.toArray⟩, rfl, (by show l.length ≤ 3000; rw [HL.out.1]; omega), HL.out.2.2.1⟩
end Go.Proofs.Ytjkpopdjmmgbbaa

namespace Go.Proofs.Ytjkpopdjmmgbbaa
open Go.ChangeShapes Go.WideShapes Go.RowKit Go.Deep Go.Maps

/-- An act. -/
structure Ac where
  d : Nat
  a : ByteArray
  t : ByteArray
  n : Nat
  b : Nat
  ns : List Bool
  ss : List Nat
instance : Inhabited Ac := ⟨⟨0, ⟨#[]⟩, ⟨#[]⟩, 0, 0, [], []⟩⟩
def SlB (w : World) (l : List Bool) (v : Value) : Prop := ∃ (o : Option Addr) (cap b off : Nat), v = .slice o l.length cap ∧ (0 < l.length → o = some ⟨b, off, none⟩ ∧ b < w.heap.size) ∧ BoolsIn w l b off
def SlU (w : World) (l : List Nat) (v : Value) : Prop := ∃ (o : Option Addr) (cap b off : Nat), v = .slice o l.length cap ∧ (0 < l.length → o = some ⟨b, off, none⟩ ∧ b < w.heap.size) ∧ U64sIn w l b off
def AcIn (w : World) (q : Ac) (c0 c1 c2 c3 c4 c5 c6 : Value) : Prop := c0 = .int .u8 (q.d : Int) ∧ q.d ≤ 255 ∧ c1 = .string q.a ∧ c2 = .string q.t ∧ c3 = .int .u16 (q.n : Int) ∧ q.n ≤ 65535 ∧ c4 = .int .u8 (q.b : Int) ∧ q.b ≤ 255 ∧ SlB w q.ns c5 ∧ SlU w q.ss c6
def AcsIn (w : World) (b off : Nat) (l : List Ac) : Prop := ∀ i (h : i < l.length), ∃ c0 c1 c2 c3 c4 c5 c6, w.cell? ⟨b, off + i * 7, none⟩ = some c0 ∧ w.cell? ⟨b, off + i * 7 + 1, none⟩ = some c1 ∧ w.cell? ⟨b, off + i * 7 + 2, none⟩ = some c2 ∧ w.cell? ⟨b, off + i * 7 + 3, none⟩ = some c3 ∧ w.cell? ⟨b, off + i * 7 + 4, none⟩ = some c4 ∧ w.cell? ⟨b, off + i * 7 + 5, none⟩ = some c5 ∧ w.cell? ⟨b, off + i * 7 + 6, none⟩ = some c6 ∧ AcIn w l[i] c0 c1 c2 c3 c4 c5 c6
theorem cells35 : Try.prog.cellsOf 35 = 7 := by kernel_rfl
theorem cells4 : Try.prog.cellsOf 4 = 1 := by kernel_rfl
theorem cells67 : Try.prog.cellsOf 67 = 1 := by kernel_rfl
theorem cells5 : Try.prog.cellsOf 5 = 1 := by kernel_rfl
theorem cells9 : Try.prog.cellsOf 9 = 1 := by kernel_rfl
theorem cells33 : Try.prog.cellsOf 33 = 1 := by kernel_rfl
theorem cells23 : Try.prog.cellsOf 23 = 1 := by kernel_rfl
theorem cells24 : Try.prog.cellsOf 24 = 1 := by kernel_rfl
theorem natU8 {n : Int} (h : (Lit.int .u8 n).wf = true) : ∃ a : Nat, n = a ∧ a ≤ 255 := by
  have h0 : 0 ≤ n ∧ n ≤ 255 := by
    simp [Lit.wf, IntKind.min, IntKind.max, IntKind.signed, IntKind.bits] at h; omega
  exact ⟨n.toNat, by omega, by omega⟩
theorem natU16 {n : Int} (h : (Lit.int .u16 n).wf = true) : ∃ a : Nat, n = a ∧ a ≤ 65535 := by
  have h0 : 0 ≤ n ∧ n ≤ 65535 := by
    simp [Lit.wf, IntKind.min, IntKind.max, IntKind.signed, IntKind.bits] at h; omega
  exact ⟨n.toNat, by omega, by omega⟩
theorem natU64 {n : Int} (h : (Lit.int .u64 n).wf = true) : ∃ a : Nat, n = a ∧ a ≤ 18446744073709551615 := by
  have h0 : 0 ≤ n ∧ n ≤ 18446744073709551615 := by
    simp [Lit.wf, IntKind.min, IntKind.max, IntKind.signed, IntKind.bits] at h; omega
  exact ⟨n.toNat, by omega, by omega⟩
section
variable {H : Type} {enc : TypeId × Value → H} {w : World} {sp : Nat → Bool} {held : Bool}
set_option maxRecDepth 100000 in
theorem trod_bools {fuel : Nat} {cs : List Value} {x : DataW H × List MemPlace} (h : DataW.trod enc Try.prog w 0 sp held fuel 23 cs = some x) : ∃ l v, cs = [v] ∧ SlB w l v := by
  rcases open_slice1 Try.underlying23 cells4 h with ⟨hcs, _⟩ | ⟨a, len, cap, m, n, V, D, Pl, hcs, hb, hl, hm, hmm, hx, hi⟩
  · exact ⟨[], _, hcs, none, 0, 0, 0, rfl, fun h => absurd h (by simp), fun j h => absurd h (by simp)⟩
  · have hlm : len ≤ m := by rw [hmm]; split <;> omega
    obtain ⟨b, off, spot⟩ := a
    have each : ∀ j, j < len → ∃ u : Bool, w.cell? ((⟨b, off, spot⟩ : Addr).add j) = some (.bool u) := by
      intro j hj
      obtain ⟨h1, h2⟩ := hi j (by omega)
      obtain ⟨n, e0, _⟩ := DataW.trod_bool Try.underlying4 h2
      simp at e0
      exact ⟨n, by rw [h1, e0]⟩
    obtain ⟨u, hu⟩ := choose_lt each
    refine ⟨(List.range len).map u, _, hcs, some ⟨b, off, spot⟩, cap, b, off, by simp, ?_, ?_⟩
    · intro hp
      have h0 := hu 0 (by simpa using hp)
      have hs := World.cell?_spot h0
      have hbl := World.block_lt_of_cell? w _ h0
      unfold Addr.add at hs hbl
      simp at hs hbl
      exact ⟨by rw [hs], hbl⟩
    · intro j hj
      have hj' : j < len := by simpa using hj
      have hs := World.cell?_spot (hu 0 (by omega))
      unfold Addr.add at hs
      simp at hs
      subst hs
      have h0 := hu j hj'
      rw [add_plain] at h0
      simp only [List.getElem_map, List.getElem_range]
      exact h0
set_option maxRecDepth 100000 in
theorem trod_u64s {fuel : Nat} {cs : List Value} {x : DataW H × List MemPlace} (h : DataW.trod enc Try.prog w 0 sp held fuel 24 cs = some x) : ∃ l v, cs = [v] ∧ SlU w l v := by
  rcases open_slice1 Try.underlying24 cells67 h with ⟨hcs, _⟩ | ⟨a, len, cap, m, n, V, D, Pl, hcs, hb, hl, hm, hmm, hx, hi⟩
  · exact ⟨[], _, hcs, none, 0, 0, 0, rfl, fun h => absurd h (by simp), fun j h => absurd h (by simp)⟩
  · have hlm : len ≤ m := by rw [hmm]; split <;> omega
    obtain ⟨b, off, spot⟩ := a
    have each : ∀ j, j < len → ∃ u : Nat, w.cell? ((⟨b, off, spot⟩ : Addr).add j) = some (.int .u64 (u : Int)) ∧ u ≤ 18446744073709551615 := by
      intro j hj
      obtain ⟨h1, h2⟩ := hi j (by omega)
      obtain ⟨n, e0, _, wn⟩ := DataW.trod_int Try.underlying67 h2
      obtain ⟨u, rfl, hu⟩ := natU64 wn
      simp at e0
      exact ⟨u, by rw [h1, e0], hu⟩
    obtain ⟨u, hu⟩ := choose_lt each
    refine ⟨(List.range len).map u, _, hcs, some ⟨b, off, spot⟩, cap, b, off, by simp, ?_, ?_⟩
    · intro hp
      have h0 := (hu 0 (by simpa using hp)).1
      have hs := World.cell?_spot h0
      have hbl := World.block_lt_of_cell? w _ h0
      unfold Addr.add at hs hbl
      simp at hs hbl
      exact ⟨by rw [hs], hbl⟩
    · intro j hj
      have hj' : j < len := by simpa using hj
      have hs := World.cell?_spot (hu 0 (by omega)).1
      unfold Addr.add at hs
      simp at hs
      subst hs
      obtain ⟨h0, h1⟩ := hu j hj'
      rw [add_plain] at h0
      simp only [List.getElem_map, List.getElem_range]
      exact ⟨h0, h1⟩
set_option maxRecDepth 100000 in
theorem trod_ac {fuel : Nat} {cs : List Value} {x : DataW H × List MemPlace} (h : DataW.trod enc Try.prog w 0 sp held fuel 35 cs = some x) :
    ∃ (q : Ac) (c0 c1 c2 c3 c4 c5 c6 : Value), cs = [c0, c1, c2, c3, c4, c5, c6] ∧ AcIn w q c0 c1 c2 c3 c4 c5 c6 := by
  obtain ⟨xs, n, _, rfl, hl, hlen, hf⟩ := DataW.trod_struct Try.underlying35 h
  rw [cells35] at hl
  match cs, hl with
  | [v0, v1, v2, v3, v4, v5, v6], _ =>
    match xs, hlen with
    | [x0, x1, x2, x3, x4, x5, x6], _ =>
      have f0 := hf 0 _ rfl
      have f1 := hf 1 _ rfl
      have f2 := hf 2 _ rfl
      have f3 := hf 3 _ rfl
      have f4 := hf 4 _ rfl
      have f5 := hf 5 _ rfl
      have f6 := hf 6 _ rfl
      simp [cells5, cells9, cells33, cells23, cells24] at f0 f1 f2 f3 f4 f5 f6
      obtain ⟨k, e0, _, wk⟩ := DataW.trod_int Try.underlying5 f0
      obtain ⟨s1, e1, _, _⟩ := DataW.trod_string Try.underlying9 f1
      obtain ⟨s2, e2, _, _⟩ := DataW.trod_string Try.underlying9 f2
      obtain ⟨m, e3, _, wm⟩ := DataW.trod_int Try.underlying33 f3
      obtain ⟨bb, e4, _, wb⟩ := DataW.trod_int Try.underlying5 f4
      obtain ⟨ns, v5', e5, h5⟩ := trod_bools f5
      obtain ⟨ss, v6', e6, h6⟩ := trod_u64s f6
      simp at e0 e1 e2 e3 e4 e5 e6
      obtain ⟨k', rfl, hk⟩ := natU8 wk
      obtain ⟨m', rfl, hm⟩ := natU16 wm
      obtain ⟨b', rfl, hb⟩ := natU8 wb
      exact ⟨⟨k', s1, s2, m', b', ns, ss⟩, v0, v1, v2, v3, v4, v5, v6, rfl, e0, hk, e1, e2, e3, hm, e4, hb, by rw [e5]; exact h5, by rw [e6]; exact h6⟩
set_option maxRecDepth 100000 in
theorem open_acts {fuel : Nat} {at0 : Option Addr} {n cap : Nat} {x : DataW H × List MemPlace} (h : DataW.trod enc Try.prog w 0 sp held fuel 22 [.slice at0 n cap] = some x) :
    ∃ (l : List Ac) (b off : Nat), n = l.length ∧ (0 < l.length → at0 = some ⟨b, off, none⟩ ∧ b < w.heap.size) ∧ AcsIn w b off l := by
  rcases open_slice Try.underlying22 h with ⟨hcs, _⟩ | ⟨a, len, cap', m, n', D, Pl, hcs, hb, hl, hm, hmm, hx, hi⟩
  · simp only [List.cons.injEq, Value.slice.injEq, and_true] at hcs
    obtain ⟨rfl, rfl, rfl⟩ := hcs
    exact ⟨[], 0, 0, rfl, fun h => absurd h (by simp), fun k h => absurd h (by simp)⟩
  · simp only [List.cons.injEq, Value.slice.injEq, and_true] at hcs
    obtain ⟨rfl, rfl, rfl⟩ := hcs
    have hnm : n ≤ m := by rw [hmm]; split <;> omega
    obtain ⟨b, off, spot⟩ := a
    have each : ∀ i, i < n → ∃ q : Ac, ∃ c0 c1 c2 c3 c4 c5 c6, w.cell? (((⟨b, off, spot⟩ : Addr).add (i * 7)).add 0) = some c0 ∧ w.cell? (((⟨b, off, spot⟩ : Addr).add (i * 7)).add 1) = some c1 ∧ w.cell? (((⟨b, off, spot⟩ : Addr).add (i * 7)).add 2) = some c2 ∧ w.cell? (((⟨b, off, spot⟩ : Addr).add (i * 7)).add 3) = some c3 ∧ w.cell? (((⟨b, off, spot⟩ : Addr).add (i * 7)).add 4) = some c4 ∧ w.cell? (((⟨b, off, spot⟩ : Addr).add (i * 7)).add 5) = some c5 ∧ w.cell? (((⟨b, off, spot⟩ : Addr).add (i * 7)).add 6) = some c6 ∧ AcIn w q c0 c1 c2 c3 c4 c5 c6 := by
      intro i hlt
      obtain ⟨cs', h1, h2⟩ := hi i (by omega)
      rw [cells35] at h1
      obtain ⟨_, hlen2, hcell⟩ := World.cells?_some h1
      obtain ⟨q, c0, c1, c2, c3, c4, c5, c6, rfl, hq⟩ := trod_ac h2
      exact ⟨q, c0, c1, c2, c3, c4, c5, c6, hcell 0 (by omega), hcell 1 (by omega), hcell 2 (by omega), hcell 3 (by omega), hcell 4 (by omega), hcell 5 (by omega), hcell 6 (by omega), hq⟩
    obtain ⟨q, hq⟩ := choose_lt each
    have hspot : 0 < n → spot = none ∧ b < w.heap.size := by
      intro hp
      obtain ⟨c0, c1, c2, c3, c4, c5, c6, h0, _⟩ := hq 0 hp
      have hs := World.cell?_spot h0
      have hbl := World.block_lt_of_cell? w _ h0
      unfold Addr.add at hs hbl
      simp at hs hbl
      exact ⟨hs, hbl⟩
    refine ⟨(List.range n).map q, b, off, by simp, ?_, ?_⟩
    · intro hp
      have h1 := hspot (by simpa using hp)
      exact ⟨by rw [h1.1], h1.2⟩
    · intro k hk
      have hk' : k < n := by simpa using hk
      have hs := (hspot (by omega)).1
      subst hs
      obtain ⟨c0, c1, c2, c3, c4, c5, c6, g0, g1, g2, g3, g4, g5, g6, hn⟩ := hq k hk'
      rw [add_plain, add_plain] at g0 g1 g2 g3 g4 g5 g6
      simp only [List.getElem_map, List.getElem_range]
      exact ⟨c0, c1, c2, c3, c4, c5, c6, by simpa using g0, by simpa [Nat.add_assoc] using g1, by simpa [Nat.add_assoc] using g2, by simpa [Nat.add_assoc] using g3, by simpa [Nat.add_assoc] using g4, by simpa [Nat.add_assoc] using g5, by simpa [Nat.add_assoc] using g6, hn⟩
end
end Go.Proofs.Ytjkpopdjmmgbbaa

namespace Go.Proofs.Ytjkpopdjmmgbbaa
open Go.RowKit Go.Maps Go.Sort

theorem bools_later {w w' : World} {B : Nat} {l : List Bool} {b off : Nat} (h : BoolsIn w l b off) (hb : Below B w w') (hl : 0 < l.length → b < B) : BoolsIn w' l b off := fun j hj => (hb.cell (p := ⟨b, off + j, none⟩) (hl (by omega))).trans (h j hj)
theorem u64s_later {w w' : World} {B : Nat} {l : List Nat} {b off : Nat} (h : U64sIn w l b off) (hb : Below B w w') (hl : 0 < l.length → b < B) : U64sIn w' l b off := fun j hj => ⟨(hb.cell (p := ⟨b, off + j, none⟩) (hl (by omega))).trans (h j hj).1, (h j hj).2⟩
/-- An act's block. -/
def AcB (w : World) (na : Nat) (c0 c1 c2 c3 c4 c5 c6 : Value) : Prop := w.heap[na]? = some (.cells #[c0, c1, c2, c3, c4, c5, c6] 35 (0, 0))
section
variable {w w' : World} {na : Nat} {c0 c1 c2 c3 c4 c5 c6 : Value}
theorem AcB.cells (h : AcB w na c0 c1 c2 c3 c4 c5 c6) : w.cell? ⟨na, 0, none⟩ = some c0 ∧ w.cell? ⟨na, 1, none⟩ = some c1 ∧ w.cell? ⟨na, 2, none⟩ = some c2 ∧ w.cell? ⟨na, 3, none⟩ = some c3 ∧ w.cell? ⟨na, 4, none⟩ = some c4 ∧ w.cell? ⟨na, 5, none⟩ = some c5 ∧ w.cell? ⟨na, 6, none⟩ = some c6 :=
  ⟨cell_of_row w na 0 _ _ _ h, cell_of_row w na 1 _ _ _ h, cell_of_row w na 2 _ _ _ h, cell_of_row w na 3 _ _ _ h, cell_of_row w na 4 _ _ _ h, cell_of_row w na 5 _ _ _ h, cell_of_row w na 6 _ _ _ h⟩
theorem AcB.later (h : AcB w na c0 c1 c2 c3 c4 c5 c6) (hb : Below w.heap.size w w') : AcB w' na c0 c1 c2 c3 c4 c5 c6 := (hb.block _ (lt_of_heap h)).trans h
end
theorem acb_new (w : World) (c0 c1 c2 c3 c4 c5 c6 : Value) : AcB (w.alloc (.cells #[c0, c1, c2, c3, c4, c5, c6] 35)) w.heap.size c0 c1 c2 c3 c4 c5 c6 := heap_alloc_new w _
theorem light_at (na d : Nat) (a t : ByteArray) (n bb : Nat) (o1 : Option Addr) (n1 cap1 : Nat) (o2 : Option Addr) (n2 cap2 : Nat) (w : World) (h : AcB w na (.int .u8 (d : Int)) (.string a) (.string t) (.int .u16 (n : Int)) (.int .u8 (bb : Int)) (.slice o1 n1 cap1) (.slice o2 n2 cap2)) :
    Calls Try.prog 11 #[.agg #[.int .u8 (d : Int), .string a, .string t, .int .u16 (n : Int), .int .u8 (bb : Int), .slice o1 n1 cap1, .slice o2 n2 cap2]] w fun e w' => e = .returned (.bool (lightB a t n1 n2)) ∧ Hid (AcB w' na (.int .u8 (d : Int)) (.string a) (.string t) (.int .u16 (n : Int)) (.int .u8 (bb : Int)) (.slice o1 n1 cap1) (.slice o2 n2 cap2)) ∧ Hid (Below w.heap.size w w') :=
  (light_any d a t n bb o1 n1 cap1 o2 n2 cap2 w).mono fun e w' ⟨he, hb⟩ => ⟨he, Lib.hid (h.later hb), Lib.hid hb⟩
theorem text_at (na d : Nat) (a t : ByteArray) (n bb : Nat) (hn : n ≤ 65535) (hbb : bb ≤ 255) (o1 : Option Addr) (n1 cap1 : Nat) (o2 : Option Addr) (n2 cap2 : Nat) (w : World) (h : AcB w na (.int .u8 (d : Int)) (.string a) (.string t) (.int .u16 (n : Int)) (.int .u8 (bb : Int)) (.slice o1 n1 cap1) (.slice o2 n2 cap2)) :
    Calls Try.prog 12 #[.agg #[.int .u8 (d : Int), .string a, .string t, .int .u16 (n : Int), .int .u8 (bb : Int), .slice o1 n1 cap1, .slice o2 n2 cap2]] w fun e w' => (∃ x : ByteArray, e = .returned (.string x) ∧ Hid (x.size ≤ 3000)) ∧ Hid (AcB w' na (.int .u8 (d : Int)) (.string a) (.string t) (.int .u16 (n : Int)) (.int .u8 (bb : Int)) (.slice o1 n1 cap1) (.slice o2 n2 cap2)) ∧ Hid (Below w.heap.size w w') :=
  (text_any d a t n bb hn hbb o1 n1 cap1 o2 n2 cap2 w).mono fun e w' ⟨x, he, hx, hb⟩ => ⟨⟨x, he, Lib.hid hx⟩, Lib.hid (h.later hb), Lib.hid hb⟩
theorem Gd.write_na {B : Nat} {w0 w : World} {D c : Nat} {s text : ByteArray} {k : Nat} (h : Gd B w0 D c s text k) (hb : Below w0.heap.size w0 w) (na : Nat) (hna : w0.heap.size ≤ na ∧ na < w.heap.size) (hk : k + 1 ≤ 100) (a t : ByteArray) (ha : a.size ≤ 1000000000) (ht : t.size ≤ 100000) (hne : a ≠ s) :
    Calls Try.prog 8 #[.pointer (some ⟨D, 0, none⟩), .string a, .string t] w fun e w' => OpQ B D c s text k w e w' ∧ w'.heap[na]? = w.heap[na]? := by
  obtain ⟨K, g, st, h1, h2, h3, h4, h5, h6, h7⟩ := h
  have hB : B ≤ w.heap.size := Nat.le_trans (Nat.le_of_lt (Nat.lt_of_le_of_lt (h2 D h1.own.1) h1.lt)) hb.size
  have hK : ¬ K na := fun hc => by have := h1.own.2.2.2.2.2 na hc; omega
  have h1 := h1.later hb
  refine (write_any h1 (by omega) a t ha ht (by omega)).mono fun e w' hq => ?_
  obtain ⟨he, ⟨nf, g', hnf, hd, hg⟩, hkp⟩ := hq
  have hs := stepS_P st
  have hp := writeS_P st a t nf
  refine ⟨⟨⟨_, he⟩, ⟨_, g', _, hd, kn_base h2 hB, ?_, by omega, by omega, ?_, hk⟩, hkp.below h2 hB⟩, hkp.block na hna.2 hK⟩
  · exact h3.write h1.names.isMap h1.filN a t nf hne (fun e => by
      have hl := lt_of_heap (h1.file c (las_live h3))
      omega)
  · unfold writeS
    split
    · split
      · split
        · show (stepS st).steps ≤ k + 1
          omega
        · show (stepS st).steps ≤ k + 1
          omega
      · omega
    · omega
end Go.Proofs.Ytjkpopdjmmgbbaa
