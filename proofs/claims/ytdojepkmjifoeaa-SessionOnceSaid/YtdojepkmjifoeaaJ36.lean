/- Layer 19's awake.; A map of texts by numbers that the law SessionOnce keeps: what is needed of it.; SessionOnce: acts as arguments, opened. -/
import Derived.Test.YtdojepkmjifoeaaJ35
import Derived.Maps.OwnSet
import Derived.Maps.Views
import Derived.ChangeSame
import Derived.OpenShut
import Derived.Deep.Slices
set_option linter.unusedVariables false
set_option linter.unusedSimpArgs false
namespace Go.Proofs.Ytdojepkmjifoeaa
open Go.RowKit

theorem awake7o_any (w : World) : Calls Try.prog 17 #[] w fun e w' => e = .returned (.bool true) ∧ Below w.heap.size w w' := by
  have K := Lib.hid (fun w => awake7_any w)
  go_enter Try.func17, Try.ntmps17
  go_wp2_with (first | (go_at_call 37; ((with_reducible refine (K.out _).mono ?_); rintro e w1 ⟨rfl, hb1⟩)))
  go_ret
  exact ⟨rfl, hb1⟩
theorem awake8o_any (w : World) : Calls Try.prog 18 #[] w fun e w' => e = .returned (.bool true) ∧ Below w.heap.size w w' := by
  have K := Lib.hid (fun w => awake8_any w)
  go_enter Try.func18, Try.ntmps18
  go_wp2_with (first | (go_at_call 38; ((with_reducible refine (K.out _).mono ?_); rintro e w1 ⟨rfl, hb1⟩)))
  go_ret
  exact ⟨rfl, hb1⟩
theorem awake18o_any (w : World) : Calls Try.prog 19 #[] w fun e w' => e = .returned (.bool true) ∧ Below w.heap.size w w' := by
  have K := Lib.hid (fun w => Bk.awake18_any w)
  go_enter Try.func19, Try.ntmps19
  go_wp2_with (first | (go_at_call 39; ((with_reducible refine (K.out _).mono ?_); rintro e w1 ⟨rfl, hb1⟩)))
  go_ret
  exact ⟨rfl, hb1⟩
def s0 : Ss := Ss.new 1 8 0 5
def m0 : ByteArray := msgV 1 1 ⟨#[]⟩ [5]
theorem m0_ok : MsOk 1 1 ⟨#[]⟩ [5] := ⟨by omega, by omega, by omega, by simp [ByteArray.size], by simp, by simp⟩
set_option maxRecDepth 100000 in
set_option maxHeartbeats 8000000 in
theorem awake19_any (w : World) : Calls Try.prog 6 #[] w fun e w' => e = .returned (.bool true) ∧ Below w.heap.size w w' := by
  have K17 := Lib.hid (fun w => awake7o_any w)
  have K18 := Lib.hid (fun w => awake8o_any w)
  have K19 := Lib.hid (fun w => awake18o_any w)
  have K12 : Hid (∀ w, Calls Try.prog 12 #[.agg #[.int .u64 1, .int .u64 8, .int .i64 0], .int .u64 5] w fun r w' => r = .returned (.agg #[.int .u64 0, .int .u64 5, .int .u64 0, .int .u64 0, .string ⟨#[]⟩, .bool false, .int .u64 1, .int .u64 8, .int .i64 0]) ∧ Below w.heap.size w w') := Lib.hid (fun w => new_any 1 8 0 5 w)
  obtain ⟨M, hM⟩ : ∃ M, msgV 1 1 ⟨#[]⟩ [5] = M := ⟨_, rfl⟩
  have K13 : Hid (∀ w, Calls Try.prog 13 #[.agg #[.int .u64 0, .int .u64 5, .int .u64 0, .int .u64 0, .string ⟨#[]⟩, .bool false, .int .u64 1, .int .u64 8, .int .i64 0], .int .u64 0] w fun z w' => z = .returned (.tuple #[.agg #[.int .u64 1, .int .u64 5, .int .u64 0, .int .u64 0, .string ⟨#[]⟩, .bool true, .int .u64 1, .int .u64 8, .int .i64 0], .string M]) ∧ Below w.heap.size w w') :=
    Lib.hid (fun w => tick_ok (Ss.new 1 8 0 5) 0 ⟨by simp [Ss.new], by simp [Ss.new], by simp [Ss.new], by simp [Ss.new], by simp [Ss.new, ByteArray.size], by simp [Ss.new], by simp [Ss.new]⟩ rfl (by simp [Ss.new]) M hM w)
  obtain ⟨h1, h2, h3, h4, h5⟩ := ms_read m0_ok rfl (fun _ => rfl)
  have hM' : msgV ((1 : Nat) : Int) 1 ⟨#[]⟩ [5] = M := hM
  rw [hM'] at h1 h2 h3 h4 h5
  have K9 := fun w => read_ok M (by rw [← hM']; have := (ms_size m0_ok).1; omega) h1 w
  rw [h2, h3, h4, h5] at K9
  simp only [List.length_cons, List.length_nil, Nat.zero_add] at K9
  have K9 := Lib.hid K9
  clear hM hM' h1 h2 h3 h4 h5
  go_enter Try.func6, Try.ntmps6
  go_wp2_with (first
    | (go_at_call 12; ((with_reducible refine (K12.out _).mono ?_); rintro z w1 ⟨rfl, hb1⟩))
    | (go_at_call 13; ((with_reducible refine (K13.out _).mono ?_); rintro z w2 ⟨rfl, hb2⟩; have HB2 := Lib.hid (hb1.trans (hb2.mono hb1.size)); clear hb1 hb2))
    | (go_at_call 9; ((with_reducible refine (K9.out _).mono ?_); rintro z w3 ⟨ρ, oN, capN, rfl, hpa⟩; obtain ⟨rr, hrr, horr, hc⟩ := hpa.2.1.cell 0 (by simp); subst horr; have HN3 := Lib.hid ((N9.new w2 (.int .u64 1) (.int .u64 5) (.int .u64 0) (.int .u64 0) (.string ⟨#[]⟩) (.bool true) (.int .u64 1) (.int .u64 8) (.int .i64 0)).later hpa.1); have HC3 : Hid (w3.cell? ⟨rr, 0, none⟩ = some (.int .u64 5)) := Lib.hid hc; have HB3 := Lib.hid (HB2.out.trans ((Bk.bt hpa.1).mono HB2.out.size)); clear hpa hrr hc))
    | (go_at_call 17; ((with_reducible refine (K17.out _).mono ?_); rintro z w4 ⟨rfl, hb4⟩; have HN4 := Lib.hid (HN3.out.later hb4); have HC4 := Lib.hid ((hb4.cell (p := ⟨rr, 0, none⟩) (World.block_lt_of_cell? _ _ HC3.out)).trans HC3.out); have HB4 := Lib.hid (HB3.out.trans (hb4.mono HB3.out.size)); clear hb4))
    | (go_at_call 18; ((with_reducible refine (K18.out _).mono ?_); rintro z w5 ⟨rfl, hb5⟩; have HN5 := Lib.hid (HN4.out.later hb5); have HC5 := Lib.hid ((hb5.cell (p := ⟨rr, 0, none⟩) (World.block_lt_of_cell? _ _ HC4.out)).trans HC4.out); have HB5 := Lib.hid (HB4.out.trans (hb5.mono HB4.out.size)); clear hb5))
    | (go_at_call 19; ((with_reducible refine (K19.out _).mono ?_); rintro z w6 ⟨rfl, hb6⟩; have HN6 := Lib.hid (HN5.out.later hb6); have HC6 := Lib.hid ((hb6.cell (p := ⟨rr, 0, none⟩) (World.block_lt_of_cell? _ _ HC5.out)).trans HC5.out); have HB6 := Lib.hid (HB5.out.trans (hb6.mono HB5.out.size)); clear hb6; obtain ⟨⟨c0, c1, c2, c3, c4, c5, c6, c7, c8⟩, _⟩ := nine HN6.out; have cc := HC6.out)))
  go_ret
  exact ⟨rfl, HB6.out⟩
end Go.Proofs.Ytdojepkmjifoeaa

namespace Go.Proofs.Ytdojepkmjifoeaa
open Go.RowKit Go.Maps

theorem keyed22 : Keyed Try.prog 22 := int_keyed Try.underlying22
theorem zero9 (w : World) : (zeroValue 9).run Try.prog w = .ok (.string ⟨#[]⟩) w := by kernel_rfl
theorem wf64 {n : Nat} (h : n ≤ 18446744073709551615) : (Lit.int .u64 (n : Int)).wf = true := by
  simp [Lit.wf, IntKind.min, IntKind.max, IntKind.signed, IntKind.bits]; omega
theorem key64 {n : Nat} (h : n ≤ 18446744073709551615) : keyOf Try.prog 22 (.int .u64 (n : Int)) = some (.int .u64 (n : Int)) := keyOf_int_mk Try.underlying22 (wf64 h)
abbrev Dn := DataW Unit
def tx (r : ByteArray) : Dn := .lit (.string r.data.toList)
/-- A map in block b, under which the number N has the text R (if N isn't 0). -/
def MpR (w : World) (b k N : Nat) (R : ByteArray) : Prop := ∃ D : Dn, w.ownsMap Try.prog 22 (plainElem Try.prog 9) b k D ∧ (N ≠ 0 → ∀ z, D.atKey (.int .u64 (N : Int)) z = tx R)
set_option maxRecDepth 100000 in
theorem plain_str {v : Value} {R : ByteArray} {ps : List MemPlace} (h : plainElem (H := Unit) Try.prog 9 v = some (tx R, ps)) : v = .string R := by
  unfold plainElem at h
  rw [Try.underlying9] at h
  cases v <;> simp at h
  obtain ⟨_, h1, _⟩ := h
  unfold tx at h1
  simp at h1
  rw [ByteArray.ext h1]
theorem MpR.look {w : World} {b k N : Nat} {R : ByteArray} (h : MpR w b k N R) (hN : N ≠ 0) (hn : N ≤ 18446744073709551615) : (Instr.lookup 43 (.map (some b)) (.int .u64 (N : Int)) false).run Try.prog w = .ok (.string R) w := by
  obtain ⟨D, ho, hD⟩ := h
  obtain ⟨v, ps, hrun, hv⟩ := ho.lookup keyed22 Try.underlying43 (zero9 w) (plainElem_string Try.underlying9 (s := ⟨#[]⟩) (Nat.zero_le _)) (key64 hn)
  rw [hD hN] at hv
  rw [plain_str hv] at hrun
  exact hrun
theorem MpR.made (w : World) : MpR (w.alloc (.map #[] 0)) w.heap.size 0 0 ⟨#[]⟩ := ⟨.map [], World.ownsMap_made w Try.prog 22 (plainElem Try.prog 9), fun h => absurd rfl h⟩
theorem MpR.block {w w' : World} {b k N : Nat} {R : ByteArray} (h : MpR w b k N R) (hb : w'.heap[b]? = w.heap[b]?) : MpR w' b k N R := by
  obtain ⟨D, ⟨es, clock, h1, h2, h3, h4⟩, hD⟩ := h
  exact ⟨D, ⟨es, clock, hb.trans h1, h2, h3, h4⟩, hD⟩
theorem MpR.lt {w : World} {b k N : Nat} {R : ByteArray} (h : MpR w b k N R) : b < w.heap.size := by
  obtain ⟨D, ⟨es, clock, h1, _⟩, _⟩ := h
  exact lt_of_heap h1
theorem MpR.later {w w' : World} {b k N : Nat} {R : ByteArray} (h : MpR w b k N R) (hb : Below w.heap.size w w') : MpR w' b k N R := h.block (hb.block b h.lt)
theorem isMap_of {w : World} {b k : Nat} {D : Dn} (h : w.ownsMap Try.prog 22 (plainElem Try.prog 9) b k D) : IsMap D := by
  obtain ⟨es, clock, _, _, _, rfl⟩ := h
  exact ⟨_, rfl⟩
/-- 'm[n] = r'. -/
theorem wpList_mapput {w : World} {ops : Array Oper} {rest : List Oper} {o : Oper} {a : Act} {Q : Exit → Act → World → Prop} (hg : o.guard = none) (m x v : Operand) (hop : o.op = Op.mapUpdate 43 m x v) (b k N0 N : Nat) (R0 R : ByteArray)
    (hm : a.eval m = .map (some b)) (h : MpR w b k N0 R0) (hk : k < 1000000) (hN : N ≤ 18446744073709551615) (hR : R.size ≤ 1000000000) (hx : a.eval x = .int .u64 (N : Int)) (hv : a.eval v = .string R)
    (hK : ∀ w', MpR w' b (k + 1) N R → (∀ q, q < w.heap.size → q ≠ b → w'.heap[q]? = w.heap[q]?) → (∀ B, B ≤ b → Below B w w') → wpList Try.prog ops Q rest (a.put o.dst undef) w') : wpList Try.prog ops Q (o :: rest) a w := by
  obtain ⟨D, ho, _⟩ := h
  have hmp := isMap_of ho
  have hsz : R.size ≤ maxLen := by unfold maxLen; omega
  have hkm : k < maxLen := by unfold maxLen; omega
  refine wpList_mapUpdate_in w hg m x v 43 hop 22 9 keyed22 Try.underlying43 (plainElem Try.prog 9) b k D hm ho hkm _ _ _ hx hv (key64 hN) (tx R) [] (plainElem_string Try.underlying9 hsz) ?_
  intro w' h1 h2
  have hblt : b < w.heap.size := by
    obtain ⟨es, clock, hb, _⟩ := ho
    exact lt_of_heap hb
  obtain ⟨g1, g2, g3, g4, g5⟩ := h2.grown
  have hoth : ∀ q, q < w.heap.size → q ≠ b → w'.heap[q]? = w.heap[q]? := fun q hq hne => g5 q hq (fun e => hne (Option.some.inj e))
  refine hK _ ⟨_, h1, fun _ z => ?_⟩ hoth (fun B hB => ⟨g1, g2, g3, g4, fun q hq => hoth q (by omega) (by omega)⟩)
  exact atKey_put_same hmp (show WideAt.IsKeyLit (.int .u64 (N : Int)) from trivial) _ _
end Go.Proofs.Ytdojepkmjifoeaa

namespace Go.Proofs.Ytdojepkmjifoeaa
open Go.ChangeShapes Go.WideShapes Go.RowKit Go.Deep Go.Maps

/-- An act. -/
structure Ac where
  d : Nat
  w : Nat
  v : Nat
  n : Nat
  b : ByteArray
  t : ByteArray
  c : Nat
instance : Inhabited Ac := ⟨⟨0, 0, 0, 0, ⟨#[]⟩, ⟨#[]⟩, 0⟩⟩
structure Ac.ok (q : Ac) : Prop where
  d : q.d ≤ 255
  w : q.w ≤ 18446744073709551615
  v : q.v ≤ 18446744073709551615
  n : q.n ≤ 18446744073709551615
  c : q.c ≤ 255
def AcsIn (w : World) (b off : Nat) (l : List Ac) : Prop := ∀ i (h : i < l.length), w.cell? ⟨b, off + i * 7, none⟩ = some (.int .u8 (l[i].d : Int)) ∧ w.cell? ⟨b, off + i * 7 + 1, none⟩ = some (.int .u64 (l[i].w : Int)) ∧ w.cell? ⟨b, off + i * 7 + 2, none⟩ = some (.int .u64 (l[i].v : Int)) ∧ w.cell? ⟨b, off + i * 7 + 3, none⟩ = some (.int .u64 (l[i].n : Int)) ∧
  w.cell? ⟨b, off + i * 7 + 4, none⟩ = some (.string l[i].b) ∧ w.cell? ⟨b, off + i * 7 + 5, none⟩ = some (.string l[i].t) ∧ w.cell? ⟨b, off + i * 7 + 6, none⟩ = some (.int .u8 (l[i].c : Int)) ∧ l[i].ok
theorem cells45 : Try.prog.cellsOf 45 = 7 := by kernel_rfl
theorem cells5 : Try.prog.cellsOf 5 = 1 := by kernel_rfl
theorem cells9 : Try.prog.cellsOf 9 = 1 := by kernel_rfl
theorem cells22 : Try.prog.cellsOf 22 = 1 := by kernel_rfl
theorem natU8 {n : Int} (h : (Lit.int .u8 n).wf = true) : ∃ a : Nat, n = a ∧ a ≤ 255 := by
  have h0 : 0 ≤ n ∧ n ≤ 255 := by
    simp [Lit.wf, IntKind.min, IntKind.max, IntKind.signed, IntKind.bits] at h; omega
  exact ⟨n.toNat, by omega, by omega⟩
theorem natU64 {n : Int} (h : (Lit.int .u64 n).wf = true) : ∃ a : Nat, n = a ∧ a ≤ 18446744073709551615 := by
  have h0 : 0 ≤ n ∧ n ≤ 18446744073709551615 := by
    simp [Lit.wf, IntKind.min, IntKind.max, IntKind.signed, IntKind.bits] at h; omega
  exact ⟨n.toNat, by omega, by omega⟩
section
variable {H : Type} {enc : TypeId × Value → H} {w : World} {sp : Nat → Bool} {held : Bool}
set_option maxRecDepth 100000 in
theorem trod_ac {fuel : Nat} {cs : List Value} {x : DataW H × List MemPlace} (h : DataW.trod enc Try.prog w 0 sp held fuel 45 cs = some x) :
    ∃ q : Ac, cs = [.int .u8 (q.d : Int), .int .u64 (q.w : Int), .int .u64 (q.v : Int), .int .u64 (q.n : Int), .string q.b, .string q.t, .int .u8 (q.c : Int)] ∧ q.ok := by
  obtain ⟨xs, n, _, rfl, hl, hlen, hf⟩ := DataW.trod_struct Try.underlying45 h
  rw [cells45] at hl
  match cs, hl with
  | [v0, v1, v2, v3, v4, v5, v6], _ =>
    match xs, hlen with
    | [x0, x1, x2, x3, x4, x5, x6], _ =>
      have f0 := hf 0 _ rfl
      have f1 := hf 1 _ rfl
      have f2 := hf 2 _ rfl
      have f3 := hf 3 _ rfl
      have f4 := hf 4 _ rfl
      have f5 := hf 5 _ rfl
      have f6 := hf 6 _ rfl
      simp [cells5, cells9, cells22] at f0 f1 f2 f3 f4 f5 f6
      obtain ⟨a0, e0, _, w0⟩ := DataW.trod_int Try.underlying5 f0
      obtain ⟨a1, e1, _, w1⟩ := DataW.trod_int Try.underlying22 f1
      obtain ⟨a2, e2, _, w2⟩ := DataW.trod_int Try.underlying22 f2
      obtain ⟨a3, e3, _, w3⟩ := DataW.trod_int Try.underlying22 f3
      obtain ⟨s4, e4, _, _⟩ := DataW.trod_string Try.underlying9 f4
      obtain ⟨s5, e5, _, _⟩ := DataW.trod_string Try.underlying9 f5
      obtain ⟨a6, e6, _, w6⟩ := DataW.trod_int Try.underlying5 f6
      simp at e0 e1 e2 e3 e4 e5 e6
      obtain ⟨b0, rfl, h0⟩ := natU8 w0
      obtain ⟨b1, rfl, h1⟩ := natU64 w1
      obtain ⟨b2, rfl, h2⟩ := natU64 w2
      obtain ⟨b3, rfl, h3⟩ := natU64 w3
      obtain ⟨b6, rfl, h6⟩ := natU8 w6
      exact ⟨⟨b0, b1, b2, b3, s4, s5, b6⟩, by rw [e0, e1, e2, e3, e4, e5, e6], h0, h1, h2, h3, h6⟩
set_option maxRecDepth 100000 in
theorem open_acts {fuel : Nat} {at0 : Option Addr} {n cap : Nat} {x : DataW H × List MemPlace} (h : DataW.trod enc Try.prog w 0 sp held fuel 35 [.slice at0 n cap] = some x) :
    ∃ (l : List Ac) (b off : Nat), n = l.length ∧ (0 < l.length → at0 = some ⟨b, off, none⟩ ∧ b < w.heap.size) ∧ AcsIn w b off l := by
  rcases open_slice Try.underlying35 h with ⟨hcs, _⟩ | ⟨a, len, cap', m, n', D, Pl, hcs, hb, hl, hm, hmm, hx, hi⟩
  · simp only [List.cons.injEq, Value.slice.injEq, and_true] at hcs
    obtain ⟨rfl, rfl, rfl⟩ := hcs
    exact ⟨[], 0, 0, rfl, fun h => absurd h (by simp), fun k h => absurd h (by simp)⟩
  · simp only [List.cons.injEq, Value.slice.injEq, and_true] at hcs
    obtain ⟨rfl, rfl, rfl⟩ := hcs
    have hnm : n ≤ m := by rw [hmm]; split <;> omega
    obtain ⟨b, off, spot⟩ := a
    have each : ∀ i, i < n → ∃ q : Ac, (∀ j u, [Value.int .u8 (q.d : Int), .int .u64 (q.w : Int), .int .u64 (q.v : Int), .int .u64 (q.n : Int), .string q.b, .string q.t, .int .u8 (q.c : Int)][j]? = some u → w.cell? (((⟨b, off, spot⟩ : Addr).add (i * 7)).add j) = some u) ∧ q.ok := by
      intro i hlt
      obtain ⟨cs', h1, h2⟩ := hi i (by omega)
      rw [cells45] at h1
      obtain ⟨_, hlen2, hcell⟩ := World.cells?_some h1
      obtain ⟨q, rfl, hq⟩ := trod_ac h2
      refine ⟨q, fun j u hj => ?_, hq⟩
      have hjl := (List.getElem?_eq_some_iff.1 hj)
      obtain ⟨hjl, he⟩ := hjl
      have := hcell j (by simpa using hjl)
      rw [this]
      first | (rw [← he]; rfl) | (rw [← he]; simp) | (simpa using hj)
    obtain ⟨q, hq⟩ := choose_lt each
    have hspot : 0 < n → spot = none ∧ b < w.heap.size := by
      intro hp
      have h0 := (hq 0 hp).1 0 _ rfl
      have hs := World.cell?_spot h0
      have hbl := World.block_lt_of_cell? w _ h0
      unfold Addr.add at hs hbl
      simp at hs hbl
      exact ⟨hs, hbl⟩
    refine ⟨(List.range n).map q, b, off, by simp, ?_, ?_⟩
    · intro hp
      have h1 := hspot (by simpa using hp)
      exact ⟨by rw [h1.1], h1.2⟩
    · intro k hk
      have hk' : k < n := by simpa using hk
      have hs := (hspot (by omega)).1
      subst hs
      obtain ⟨hc, hok⟩ := hq k hk'
      have cc : ∀ j u, [Value.int .u8 ((q k).d : Int), .int .u64 ((q k).w : Int), .int .u64 ((q k).v : Int), .int .u64 ((q k).n : Int), .string (q k).b, .string (q k).t, .int .u8 ((q k).c : Int)][j]? = some u → w.cell? ⟨b, off + k * 7 + j, none⟩ = some u := fun j u hj => by
        have := hc j u hj
        rw [add_plain, add_plain] at this
        exact this
      simp only [List.getElem_map, List.getElem_range]
      exact ⟨cc 0 _ rfl, cc 1 _ rfl, cc 2 _ rfl, cc 3 _ rfl, cc 4 _ rfl, cc 5 _ rfl, cc 6 _ rfl, hok⟩
end
end Go.Proofs.Ytdojepkmjifoeaa
