/- A slice of nodes as an argument, opened.; The laws of layer 7, where nothing is made. -/
import Derived.Test.YtlochpnifjmefaaJ32
import Derived.Test.YtlochpnifjmefaaJ34
set_option linter.unusedVariables false
set_option linter.unusedSimpArgs false
namespace Go.Proofs.Ytlochpnifjmefaa
open Go.ChangeShapes Go.WideShapes Go.ChangeAt Go.RowKit Go.Deep

instance : Inhabited Nd := ⟨⟨0, 0, ⟨#[]⟩, []⟩⟩
theorem cells75 : Try.prog.cellsOf 75 = 4 := by kernel_rfl
theorem cells69 : Try.prog.cellsOf 69 = 1 := by kernel_rfl
theorem cells5 : Try.prog.cellsOf 5 = 1 := by kernel_rfl
theorem bulk_one {H : Type} (d : DataW H) : 1 ≤ Rows.uptoBulk d := by
  cases d with
  | lit l => cases l <;> simp [Rows.uptoBulk]
  | _ => simp [Rows.uptoBulk]
theorem bulk_part {H : Type} {d : DataW H} {l : List (DataW H)} (h : d ∈ l) : Rows.uptoBulk d ≤ Rows.uptoBulkAll l := by
  induction l with
  | nil => cases h
  | cons x r ih =>
    simp only [Rows.uptoBulkAll]
    cases List.mem_cons.1 h with
    | inl e => subst e; omega
    | inr e => have := ih e; omega
theorem bulk_len {H : Type} (l : List (DataW H)) : l.length ≤ Rows.uptoBulkAll l := by
  induction l with
  | nil => simp
  | cons x r ih => have := bulk_one x; simp only [Rows.uptoBulkAll, List.length_cons]; omega
section
variable {H : Type} {enc : TypeId × Value → H} {w : World} {sp : Nat → Bool} {held : Bool}
theorem nat8 {n : Int} (h : (Lit.int .u8 n).wf = true) : ∃ a : UInt8, n = (a.toNat : Int) := by
  have h0 : 0 ≤ n ∧ n ≤ 255 := by
    simp [Lit.wf, IntKind.min, IntKind.max, IntKind.signed, IntKind.bits] at h; omega
  refine ⟨UInt8.ofNat n.toNat, ?_⟩
  rw [UInt8.toNat_ofNat']; omega
set_option maxRecDepth 100000 in
theorem trod_bk {fuel : Nat} {cs : List Value} {x : DataW H × List MemPlace} (h : DataW.trod enc Try.prog w 0 sp held fuel 69 cs = some x) :
    ∃ (back : List UInt8) (o : Option Addr) (cap b off : Nat), cs = [.slice o back.length cap] ∧ back.length ≤ Rows.uptoBulk x.1 ∧ (0 < back.length → o = some ⟨b, off, none⟩ ∧ b < w.heap.size) ∧ ∀ j (hj : j < back.length), w.cell? ⟨b, off + j, none⟩ = some (.int .u8 ((back[j].toNat : Nat) : Int)) := by
  rcases open_slice1 Try.underlying69 cells5 h with ⟨hcs, _⟩ | ⟨a, len, cap, m, n, V, D, Pl, hcs, hb, hl, hm, hmm, hx, hi⟩
  · exact ⟨[], none, 0, 0, 0, hcs, by simp, fun h => absurd h (by simp), fun j h => absurd h (by simp)⟩
  · have hlm : len ≤ m := by rw [hmm]; split <;> omega
    obtain ⟨b, off, spot⟩ := a
    have each : ∀ j, j < len → ∃ u : UInt8, w.cell? ((⟨b, off, spot⟩ : Addr).add j) = some (.int .u8 ((u.toNat : Nat) : Int)) := by
      intro j hj
      obtain ⟨h1, h2⟩ := hi j (by omega)
      obtain ⟨n, e0, _, wn⟩ := DataW.trod_int Try.underlying5 h2
      obtain ⟨u, rfl⟩ := nat8 wn
      simp at e0
      exact ⟨u, by rw [h1, e0]⟩
    obtain ⟨u, hu⟩ := choose_lt each
    refine ⟨(List.range len).map u, some ⟨b, off, spot⟩, cap, b, off, by rw [hcs]; simp, ?_, ?_, ?_⟩
    · rw [hx]
      have := bulk_len ((List.range len).map D)
      simp only [Rows.uptoBulk, List.length_map, List.length_range] at this ⊢
      omega
    · intro hp
      have h0 := hu 0 (by simpa using hp)
      have hs := World.cell?_spot h0
      have hbl := World.block_lt_of_cell? w _ h0
      unfold Addr.add at hs hbl
      simp at hs hbl
      exact ⟨by rw [hs], hbl⟩
    · intro j hj
      have hj' : j < len := by simpa using hj
      have hs := World.cell?_spot (hu 0 (by omega))
      unfold Addr.add at hs
      simp at hs
      subst hs
      have h0 := hu j hj'
      rw [add_plain] at h0
      simp only [List.getElem_map, List.getElem_range]
      exact h0
set_option maxRecDepth 100000 in
theorem trod_nd {fuel : Nat} {cs : List Value} {x : DataW H × List MemPlace} (h : DataW.trod enc Try.prog w 0 sp held fuel 75 cs = some x) :
    ∃ (q : Nd) (c0 c1 c2 c3 : Value), cs = [c0, c1, c2, c3] ∧ (Rows.uptoBulk x.1 ≤ 1048576 → NdIn w q c0 c1 c2 c3) := by
  obtain ⟨xs, n, _, rfl, hl, hlen, hf⟩ := DataW.trod_struct Try.underlying75 h
  rw [cells75] at hl
  match cs, hl with
  | [v0, v1, v2, v3], _ =>
    match xs, hlen with
    | [x0, x1, x2, x3], _ =>
      have f0 := hf 0 _ rfl
      have f1 := hf 1 _ rfl
      have f2 := hf 2 _ rfl
      have f3 := hf 3 _ rfl
      simp [cells3, cells24, cells9, cells69] at f0 f1 f2 f3
      obtain ⟨k, e0, _, wk⟩ := DataW.trod_int Try.underlying3 f0
      obtain ⟨e, e1, _, we⟩ := DataW.trod_int Try.underlying24 f1
      obtain ⟨b, e2, eb, wb⟩ := DataW.trod_string Try.underlying9 f2
      obtain ⟨back, o, cap, bb, offb, e3, hbk, hob, hcl⟩ := trod_bk f3
      simp at e0 e1 e2 e3
      obtain ⟨e', rfl, he⟩ := nat64 we
      refine ⟨⟨k, e', b, back⟩, v0, v1, v2, v3, rfl, fun hu => ⟨e0, e1, he, e2, ?_, o, cap, bb, offb, e3, hob, hcl⟩⟩
      simp only [Rows.uptoBulk, List.map_cons, List.map_nil, Rows.uptoBulkAll] at hu
      rw [eb] at hu
      simp only [Rows.uptoBulk, Array.length_toList] at hu
      have hbs : b.data.size = b.size := rfl
      refine ⟨by show b.size ≤ 2000000; omega, by show back.length ≤ 2000000; omega⟩
set_option maxRecDepth 100000 in
theorem open_nodes {fuel : Nat} {at0 : Option Addr} {n cap : Nat} {x : DataW H × List MemPlace} (h : DataW.trod enc Try.prog w 0 sp held fuel 22 [.slice at0 n cap] = some x) (hu : Rows.uptoBulk x.1 ≤ 1048576) :
    ∃ (l : List Nd) (b off : Nat), n = l.length ∧ l.length ≤ 2000000 ∧ (0 < l.length → at0 = some ⟨b, off, none⟩ ∧ b < w.heap.size) ∧ NdsIn w b off l := by
  rcases open_slice Try.underlying22 h with ⟨hcs, _⟩ | ⟨a, len, cap', m, n', D, Pl, hcs, hb, hl, hm, hmm, hx, hi⟩
  · simp only [List.cons.injEq, Value.slice.injEq, and_true] at hcs
    obtain ⟨rfl, rfl, rfl⟩ := hcs
    exact ⟨[], 0, 0, rfl, by simp, fun h => absurd h (by simp), fun k h => absurd h (by simp)⟩
  · simp only [List.cons.injEq, Value.slice.injEq, and_true] at hcs
    obtain ⟨rfl, rfl, rfl⟩ := hcs
    have hnm : n ≤ m := by rw [hmm]; split <;> omega
    obtain ⟨b, off, spot⟩ := a
    rw [hx] at hu
    simp only [Rows.uptoBulk] at hu
    have hlen := bulk_len ((List.range n).map D)
    simp only [List.length_map, List.length_range] at hlen
    have each : ∀ i, i < n → ∃ q : Nd, ∃ c0 c1 c2 c3, w.cell? (((⟨b, off, spot⟩ : Addr).add (i * 4)).add 0) = some c0 ∧ w.cell? (((⟨b, off, spot⟩ : Addr).add (i * 4)).add 1) = some c1 ∧ w.cell? (((⟨b, off, spot⟩ : Addr).add (i * 4)).add 2) = some c2 ∧ w.cell? (((⟨b, off, spot⟩ : Addr).add (i * 4)).add 3) = some c3 ∧ NdIn w q c0 c1 c2 c3 := by
      intro i hlt
      obtain ⟨cs', h1, h2⟩ := hi i (by omega)
      rw [cells75] at h1
      obtain ⟨_, hlen2, hcell⟩ := World.cells?_some h1
      obtain ⟨q, c0, c1, c2, c3, rfl, hq⟩ := trod_nd h2
      have hbd : Rows.uptoBulk (D i) ≤ 1048576 := by
        have := bulk_part (d := D i) (l := (List.range n).map D) (List.mem_map.2 ⟨i, by simpa using hlt, rfl⟩)
        omega
      exact ⟨q, c0, c1, c2, c3, hcell 0 (by omega), hcell 1 (by omega), hcell 2 (by omega), hcell 3 (by omega), hq hbd⟩
    obtain ⟨q, hq⟩ := choose_lt each
    have hspot : 0 < n → spot = none ∧ b < w.heap.size := by
      intro hp
      obtain ⟨c0, c1, c2, c3, h0, _⟩ := hq 0 hp
      have hs := World.cell?_spot h0
      have hbl := World.block_lt_of_cell? w _ h0
      unfold Addr.add at hs hbl
      simp at hs hbl
      exact ⟨hs, hbl⟩
    refine ⟨(List.range n).map q, b, off, by simp, by simp; omega, ?_, ?_⟩
    · intro hp
      have h1 := hspot (by simpa using hp)
      exact ⟨by rw [h1.1], h1.2⟩
    · intro k hk
      have hk' : k < n := by simpa using hk
      have hs := (hspot (by omega)).1
      subst hs
      obtain ⟨c0, c1, c2, c3, g0, g1, g2, g3, hn⟩ := hq k hk'
      rw [add_plain, add_plain] at g0 g1 g2 g3
      simp only [List.getElem_map, List.getElem_range]
      exact ⟨c0, c1, c2, c3, by simpa using g0, by simpa [Nat.add_assoc] using g1, by simpa [Nat.add_assoc] using g2, by simpa [Nat.add_assoc] using g3, hn⟩
end
end Go.Proofs.Ytlochpnifjmefaa

namespace Go.Proofs.Ytlochpnifjmefaa
open Go.RowKit

theorem NdIn.later {w w' : World} {x : Nd} {c0 c1 c2 c3 : Value} (h : NdIn w x c0 c1 c2 c3) (hb : Below w.heap.size w w') : NdIn w' x c0 c1 c2 c3 := by
  obtain ⟨h0, h1, h2, h3, h4, o, cap, b, off, h5, ho, hc⟩ := h
  exact ⟨h0, h1, h2, h3, h4, o, cap, b, off, h5, fun hp => ⟨(ho hp).1, Nat.lt_of_lt_of_le (ho hp).2 hb.size⟩, fun j hj => (hb.cell (p := ⟨b, _, none⟩) (ho (by omega)).2).trans (hc j hj)⟩
theorem NdsIn.later {w w' : World} {b off : Nat} {l : List Nd} (h : NdsIn w b off l) (hb : Below w.heap.size w w') (hbl : 0 < l.length → b < w.heap.size) : NdsIn w' b off l := fun i hi => by
  obtain ⟨c0, c1, c2, c3, e0, e1, e2, e3, hn⟩ := h i hi
  have hbb := hbl (by omega)
  exact ⟨c0, c1, c2, c3, (hb.cell (p := ⟨b, _, none⟩) hbb).trans e0, (hb.cell (p := ⟨b, _, none⟩) hbb).trans e1, (hb.cell (p := ⟨b, _, none⟩) hbb).trans e2, (hb.cell (p := ⟨b, _, none⟩) hbb).trans e3, hn.later hb⟩
/-- What Made answers, as the laws want it. -/
def MdA (w : World) (R : Option Tr) (e : Ending) (w' : World) : Prop :=
  ∃ (k : Int) (n : Nat) (s : ByteArray) (o : Option Addr) (l c : Nat) (ok : Bool), e = .returned (.tuple #[.agg #[.int .i64 k, .int .u64 (n : Int), .string s, .slice o l c], .bool ok]) ∧ Below w.heap.size w w' ∧ ok = R.isSome ∧ ∀ t, R = some t → VInP w' (fun b => w.heap.size ≤ b) t (.int .i64 k) (.int .u64 (n : Int)) (.string s) (.slice o l c) ∧ okN t ∧ tsz t ≤ 2000
theorem made_call (l : List Nd) (o : Option Addr) (cap b off : Nat) (w : World) (hlen : l.length ≤ 2000000) (ho : 0 < l.length → o = some ⟨b, off, none⟩ ∧ b < w.heap.size) (hl : NdsIn w b off l) (wy : World) (hy : Below w.heap.size w wy) :
    Calls Try.prog 10 #[.slice o l.length cap] wy (MdA wy (made l)) := by
  refine (made_any l o cap b off wy hlen (fun hp => ⟨(ho hp).1, Nat.lt_of_lt_of_le (ho hp).2 hy.size⟩) (hl.later hy (fun hp => (ho hp).2))).mono ?_
  intro e w' h
  unfold MdQ at h
  unfold MdA made
  cases hr : (madeF l.length l [] []).bind fun all => all.getLast? with
  | none =>
    rw [hr] at h
    obtain ⟨rfl, hb⟩ := h
    exact ⟨0, 0, ⟨#[]⟩, none, 0, 0, false, rfl, hb, rfl, fun t ht => by cases ht⟩
  | some t =>
    rw [hr] at h
    obtain ⟨d0, d1, d2, d3, rfl, hv, hb, h1, h2⟩ := h
    obtain ⟨k, n, s, o, l, c, rfl, rfl, rfl, rfl⟩ := hv.cells
    exact ⟨k, n, s, o, l, c, true, rfl, hb, rfl, fun t' ht => by cases ht; exact ⟨hv, h1, h2⟩⟩

set_option maxRecDepth 100000 in
set_option maxHeartbeats 4000000 in
theorem puts_none (o p : Option Addr) (cap cap2 ln mn : Nat) (R S : Option Tr) (w : World)
    (h1 : ∀ wy, Below w.heap.size w wy → Calls Try.prog 10 #[.slice o ln cap] wy (MdA wy R)) (h2 : ∀ wy, Below w.heap.size w wy → Calls Try.prog 10 #[.slice p mn cap2] wy (MdA wy S)) (hno : R = none ∨ S = none) :
    Calls Try.prog 3 #[.slice o ln cap, .slice p mn cap2] w fun e w' => e = .returned (.bool true) ∧ Below w.heap.size w w' := by
  have K9 := Lib.hid awake7_any
  have K1 := Lib.hid h1
  have K2 := Lib.hid h2
  have HNO := Lib.hid hno
  clear h1 h2 hno
  go_enter Try.func3, Try.ntmps3
  go_upto_region 5 with (first
    | (go_at_call 9; ((with_reducible refine (K9.out _).mono ?_); rintro x w1 ⟨rfl, hb1⟩; have HB1 := Lib.hid hb1; clear hb1))
    | (go_at_call 10; ((with_reducible refine (K1.out _ HB1.out).mono ?_); rintro x w2 ⟨k, n, s, o2, l, c, ok, rfl, hb2, hok, _⟩; have HB2 := Lib.hid (HB1.out.trans (hb2.mono HB1.out.size)); have HA2 := Lib.hid (HB2.out.trans ((alloc_below w2 (.cells #[.int .i64 k, .int .u64 (n : Int), .string s, .slice o2 l c] 27)).mono HB2.out.size)); have hst := store27 w2 k n s o2 l c; have HOK := Lib.hid hok; clear hb2 hok))
    | (go_at_call 10; ((with_reducible refine (K2.out _ HA2.out).mono ?_); rintro x w3 ⟨k3, n3, s3, o3, l3, c3, ok3, rfl, hb3, hok3, _⟩; have HB3 := Lib.hid (HA2.out.trans (hb3.mono HA2.out.size)); have HA3 := Lib.hid (HB3.out.trans ((alloc_below w3 (.cells #[.int .i64 k3, .int .u64 (n3 : Int), .string s3, .slice o3 l3 c3] 27)).mono HB3.out.size)); have hst3 := store27 w3 k3 n3 s3 o3 l3 c3; have HOK3 := Lib.hid hok3; clear hb3 hok3)))
  refine gen_wp (S := fun wz => Hid (Below w.heap.size w wz)) HA3 ?_
  intro W5 H5
  clear hst hst3
  have hOr : ok = false ∨ ok3 = false := by
    rcases HNO.out with h | h
    · left; rw [HOK.out, h]; rfl
    · right; rw [HOK3.out, h]; rfl
  clear HB1 HB2 HA2 HB3 HA3 HOK HOK3 HNO K9 K1 K2
  cases ok
  · clear hOr
    go_wp2
    go_ret
    exact ⟨rfl, H5.out⟩
  · obtain rfl : ok3 = false := by simpa using hOr
    clear hOr
    go_wp2
    go_ret
    exact ⟨rfl, H5.out⟩
end Go.Proofs.Ytlochpnifjmefaa
