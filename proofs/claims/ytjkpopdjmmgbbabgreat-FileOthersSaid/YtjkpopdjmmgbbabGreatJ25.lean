/- Three names, and what they have: plainly, and in arrays.; The law FileOthers.; The law FileOthers, for any argument. -/
import Derived.Test.YtjkpopdjmmgbbabGreatJ24
set_option linter.unusedVariables false
set_option linter.unusedSimpArgs false
namespace Go.Proofs.YtjkpopdjmmgbbabGreat.Fi
open Go.RowKit Dk Go.Maps

def nmK : Nat → ByteArray
  | 0 => ⟨#[97]⟩
  | 1 => ⟨#[98]⟩
  | _ => ⟨#[99]⟩
def txM (m : Nat → Option ByteArray) (s : ByteArray) : Option ByteArray :=
  if s = nmK 0 then (m 0).map sealB else if s = nmK 1 then (m 1).map sealB else if s = nmK 2 then (m 2).map sealB else none
def upd (m : Nat → Option ByteArray) (k : Nat) (x : ByteArray) : Nat → Option ByteArray := fun j => if j = k then some x else m j
def one (o : Option ByteArray) : Nat := if o.isSome = true then 1 else 0
def cnt (m : Nat → Option ByteArray) : Nat := one (m 0) + one (m 1) + one (m 2)
def hC (m : Nat → Option ByteArray) : Array Value := #[.bool (m 0).isSome, .bool (m 1).isSome, .bool (m 2).isSome]
def tC (m : Nat → Option ByteArray) : Array Value := #[.string ((m 0).getD ⟨#[]⟩), .string ((m 1).getD ⟨#[]⟩), .string ((m 2).getD ⟨#[]⟩)]
theorem cnt_le (m : Nat → Option ByteArray) : cnt m ≤ 3 := by
  have h : ∀ o, one o ≤ 1 := fun o => by unfold one; split <;> omega
  unfold cnt
  have := h (m 0)
  have := h (m 1)
  have := h (m 2)
  omega
theorem nm_ne {i j : Nat} (hi : i < 3) (hj : j < 3) (h : i ≠ j) : nmK i ≠ nmK j := by
  match i, j, hi, hj with
  | 0, 0, _, _ => exact absurd rfl h
  | 0, 1, _, _ => decide
  | 0, 2, _, _ => decide
  | 1, 0, _, _ => decide
  | 1, 1, _, _ => exact absurd rfl h
  | 1, 2, _, _ => decide
  | 2, 0, _, _ => decide
  | 2, 1, _, _ => decide
  | 2, 2, _, _ => exact absurd rfl h
theorem nm_ok {k : Nat} (hk : k < 3) : nmK k ≠ spareN ∧ nmB (nmK k) = true ∧ (nmK k).size ≤ 32 := by
  match k, hk with
  | 0, _ => exact ⟨by decide, by decide, by decide⟩
  | 1, _ => exact ⟨by decide, by decide, by decide⟩
  | 2, _ => exact ⟨by decide, by decide, by decide⟩
theorem txM_at (m : Nat → Option ByteArray) {k : Nat} (hk : k < 3) : txM m (nmK k) = (m k).map sealB := by
  match k, hk with
  | 0, _ => exact if_pos rfl
  | 1, _ => unfold txM; rw [if_neg (nm_ne (by omega) (by omega) (by omega)), if_pos rfl]
  | 2, _ => unfold txM; rw [if_neg (nm_ne (by omega) (by omega) (by omega)), if_neg (nm_ne (by omega) (by omega) (by omega)), if_pos rfl]
theorem txM_spare (m : Nat → Option ByteArray) : txM m spareN = none := by
  unfold txM
  rw [if_neg (fun e => (nm_ok (k := 0) (by omega)).1 e.symm), if_neg (fun e => (nm_ok (k := 1) (by omega)).1 e.symm), if_neg (fun e => (nm_ok (k := 2) (by omega)).1 e.symm)]
theorem txM_size (m : Nat → Option ByteArray) (s : ByteArray) (h : txM m s ≠ none) : s.size ≤ 32 := by
  unfold txM at h
  by_cases e0 : s = nmK 0
  · rw [e0]; decide
  · by_cases e1 : s = nmK 1
    · rw [e1]; decide
    · by_cases e2 : s = nmK 2
      · rw [e2]; decide
      · rw [if_neg e0, if_neg e1, if_neg e2] at h
        exact absurd rfl h
theorem txM_upd (m : Nat → Option ByteArray) {k : Nat} (hk : k < 3) (x : ByteArray) : (fun s => if s = nmK k then some (sealB x) else txM m s) = txM (upd m k x) := by
  funext s
  by_cases e : s = nmK k
  · rw [if_pos e, e, txM_at _ hk]
    unfold upd
    rw [if_pos rfl]
    rfl
  · rw [if_neg e]
    unfold txM
    have hu : ∀ j, j < 3 → s = nmK j → upd m k x j = m j := fun j hj es => by
      unfold upd
      rw [if_neg (fun ejk => e (by rw [es, ejk]))]
    by_cases e0 : s = nmK 0
    · rw [if_pos e0, if_pos e0, hu 0 (by omega) e0]
    · rw [if_neg e0, if_neg e0]
      by_cases e1 : s = nmK 1
      · rw [if_pos e1, if_pos e1, hu 1 (by omega) e1]
      · rw [if_neg e1, if_neg e1]
        by_cases e2 : s = nmK 2
        · rw [if_pos e2, if_pos e2, hu 2 (by omega) e2]
        · rw [if_neg e2, if_neg e2]
theorem cnt_upd (m : Nat → Option ByteArray) {k : Nat} (hk : k < 3) (x : ByteArray) : cnt (upd m k x) = if (m k).isSome = true then cnt m else cnt m + 1 := by
  match k, hk with
  | 0, _ =>
    unfold cnt
    show one (some x) + one (m 1) + one (m 2) = _
    unfold one
    split <;> simp_all <;> omega
  | 1, _ =>
    unfold cnt
    show one (m 0) + one (some x) + one (m 2) = _
    unfold one
    split <;> simp_all <;> omega
  | 2, _ =>
    unfold cnt
    show one (m 0) + one (m 1) + one (some x) = _
    unfold one
    split <;> simp_all <;> omega
theorem hC_get (m : Nat → Option ByteArray) {k : Nat} (hk : k < 3) : (hC m)[k]? = some (.bool (m k).isSome) := by
  match k, hk with
  | 0, _ => rfl
  | 1, _ => rfl
  | 2, _ => rfl
theorem tC_get (m : Nat → Option ByteArray) {k : Nat} (hk : k < 3) : (tC m)[k]? = some (.string ((m k).getD ⟨#[]⟩)) := by
  match k, hk with
  | 0, _ => rfl
  | 1, _ => rfl
  | 2, _ => rfl
theorem hC_set (m : Nat → Option ByteArray) {k : Nat} (hk : k < 3) (x : ByteArray) : (hC m).setIfInBounds k (.bool true) = hC (upd m k x) := by
  match k, hk with
  | 0, _ => rfl
  | 1, _ => rfl
  | 2, _ => rfl
theorem tC_set (m : Nat → Option ByteArray) {k : Nat} (hk : k < 3) (x : ByteArray) : (tC m).setIfInBounds k (.string x) = tC (upd m k x) := by
  match k, hk with
  | 0, _ => rfl
  | 1, _ => rfl
  | 2, _ => rfl
theorem hC_same (m : Nat → Option ByteArray) {k : Nat} (hk : k < 3) (x : ByteArray) (h : (m k).isSome = true) : hC (upd m k x) = hC m := by
  match k, hk with
  | 0, _ => unfold hC; rw [h]; rfl
  | 1, _ => unfold hC; rw [h]; rfl
  | 2, _ => unfold hC; rw [h]; rfl
def aC : Array Value := #[.string ⟨#[97]⟩, .string ⟨#[98]⟩, .string ⟨#[99]⟩]
theorem aC_get {k : Nat} (hk : k < 3) : aC[k]? = some (.string (nmK k)) := by
  match k, hk with
  | 0, _ => rfl
  | 1, _ => rfl
  | 2, _ => rfl
/-- The disk, and the law's arrays. -/
structure Oz (B bt bh ba : Nat) (Z : Nat → Prop) (w : World) (D k : Nat) (m mh mt : Nat → Option ByteArray) : Prop where
  pz : Pz (fun b => b = bt ∨ b = bh ∨ b = ba ∨ Z b) B w D k (Ox (txM m) (cnt m))
  t : w.heap[bt]? = some (.cells (tC mt) 28 (0, 0))
  h : w.heap[bh]? = some (.cells (hC mh) 29 (0, 0))
  a : w.heap[ba]? = some (.cells aC 9 (0, 0))
section
variable {B bt bh ba : Nat} {Z : Nat → Prop} {w w' : World} {D k : Nat} {m mh mt : Nat → Option ByteArray}
theorem Oz.later (o : Oz B bt bh ba Z w D k m mh mt) (hb : Below w.heap.size w w') : Oz B bt bh ba Z w' D k m mh mt :=
  ⟨o.pz.later hb, (hb.block _ (lt_of_heap o.t)).trans o.t, (hb.block _ (lt_of_heap o.h)).trans o.h, (hb.block _ (lt_of_heap o.a)).trans o.a⟩
theorem Oz.apart (o : Oz B bt bh ba Z w D k m mh mt) : bt ≠ bh ∧ bt ≠ ba ∧ bh ≠ ba := by
  refine ⟨fun e => ?_, fun e => ?_, fun e => ?_⟩
  · have h1 := o.t
    rw [e, o.h] at h1
    simp at h1
  · have h1 := o.t
    rw [e, o.a] at h1
    simp at h1
  · have h1 := o.h
    rw [e, o.a] at h1
    simp at h1
theorem Oz.cellT (o : Oz B bt bh ba Z w D k m mh mt) {j : Nat} (hj : j < 3) : w.cell? ⟨bt, j, none⟩ = some (.string ((mt j).getD ⟨#[]⟩)) := by rw [cell_of_row w bt j _ _ _ o.t]; exact tC_get mt hj
theorem Oz.cellH (o : Oz B bt bh ba Z w D k m mh mt) {j : Nat} (hj : j < 3) : w.cell? ⟨bh, j, none⟩ = some (.bool (mh j).isSome) := by rw [cell_of_row w bh j _ _ _ o.h]; exact hC_get mh hj
theorem Oz.cellA (o : Oz B bt bh ba Z w D k m mh mt) {j : Nat} (hj : j < 3) : w.cell? ⟨ba, j, none⟩ = some (.string (nmK j)) := by rw [cell_of_row w ba j _ _ _ o.a]; exact aC_get hj
theorem Oz.frT (o : Oz B bt bh ba Z w D k m mh mt) (j : Nat) : w.frozen? ⟨bt, j, none⟩ = false := frozen_of_row w bt j _ _ o.t
theorem Oz.frH (o : Oz B bt bh ba Z w D k m mh mt) (j : Nat) : w.frozen? ⟨bh, j, none⟩ = false := frozen_of_row w bh j _ _ o.h
theorem Oz.setH (o : Oz B bt bh ba Z w D k m mh mt) {j : Nat} (hj : j < 3) (x : ByteArray) : Oz B bt bh ba Z (w.setCell ⟨bh, j, none⟩ (.bool true)) D k m (upd mh j x) mt ∧ Below B w (w.setCell ⟨bh, j, none⟩ (.bool true)) := by
  obtain ⟨a1, a2, a3⟩ := o.apart
  obtain ⟨p1, p2⟩ := o.pz.set (p := ⟨bh, j, none⟩) (Or.inr (Or.inl rfl)) (.bool true)
  refine ⟨⟨p1, ?_, ?_, ?_⟩, p2⟩
  · rw [heap_setCell_other _ _ _ _ (by show bt ≠ bh; exact a1)]; exact o.t
  · rw [heap_setCell_same _ _ _ _ _ _ o.h, hC_set mh hj x]
  · rw [heap_setCell_other _ _ _ _ (by show ba ≠ bh; exact a3.symm)]; exact o.a
theorem Oz.setT (o : Oz B bt bh ba Z w D k m mh mt) {j : Nat} (hj : j < 3) (x : ByteArray) : Oz B bt bh ba Z (w.setCell ⟨bt, j, none⟩ (.string x)) D k m mh (upd mt j x) ∧ Below B w (w.setCell ⟨bt, j, none⟩ (.string x)) := by
  obtain ⟨a1, a2, a3⟩ := o.apart
  obtain ⟨p1, p2⟩ := o.pz.set (p := ⟨bt, j, none⟩) (Or.inl rfl) (.string x)
  refine ⟨⟨p1, ?_, ?_, ?_⟩, p2⟩
  · rw [heap_setCell_same _ _ _ _ _ _ o.t, tC_set mt hj x]
  · rw [heap_setCell_other _ _ _ _ (by show bh ≠ bt; exact a1.symm)]; exact o.h
  · rw [heap_setCell_other _ _ _ _ (by show ba ≠ bt; exact a2.symm)]; exact o.a
theorem Oz.save (o : Oz B bt bh ba Z w D k m mh mt) (hk : k ≤ 100) {j : Nat} (hj : j < 3) (x : ByteArray) (hx : x.size ≤ 3000) :
    Calls Tryz.prog 6 #[.pointer (some ⟨D, 0, none⟩), .string (nmK j), .string ⟨#[115, 112, 97, 114, 101]⟩, .string x] w fun e w' => e = .returned (.int .i64 0) ∧ Oz B bt bh ba Z w' D (k + 1) (upd m j x) mh mt ∧ Below B w w' ∧ ∀ b, Z b → w'.heap[b]? = w.heap[b]? := by
  obtain ⟨n1, n2, n3⟩ := nm_ok hj
  refine (o.pz.save hk (cnt_le m) (nmK j) x hx (txM_spare m) n1 n2 n3).mono fun e w' ⟨he, hp, hb, hz⟩ => ⟨he, ⟨?_, (hz bt (Or.inl rfl)).trans o.t, (hz bh (Or.inr (Or.inl rfl))).trans o.h, (hz ba (Or.inr (Or.inr (Or.inl rfl)))).trans o.a⟩, hb, fun b hz' => hz b (Or.inr (Or.inr (Or.inr hz')))⟩
  rw [txM_upd m hj x, txM_at m hj] at hp
  have e1 : ((m j).map sealB).isSome = (m j).isSome := by cases m j <;> rfl
  rw [e1, ← cnt_upd m hj x] at hp
  exact hp
end
end Go.Proofs.YtjkpopdjmmgbbabGreat.Fi

namespace Go.Proofs.YtjkpopdjmmgbbabGreat.Fi
open Go.RowKit Dk Go.Maps

def m0 : Nat → Option ByteArray := fun _ => none
theorem Pz.start (w wy : World) (hb : Below w.heap.size w wy) : Calls Tryz.prog 5 #[.int .i64 65536] wy fun e w' => ∃ D, e = .returned (.tuple #[.pointer (some ⟨D, 0, none⟩), .int .i64 0]) ∧ Hid (Pz (fun _ => False) w.heap.size w' D 0 (Ox (txM m0) (cnt m0))) ∧ Hid (Below w.heap.size w w') :=
  (Dz.new 65536 (by omega) wy).mono fun e w' ⟨D, he, ⟨K, g, h1, h2, h3⟩, hb'⟩ => ⟨D, he, Lib.hid ⟨K, g, _, h1, fun b hb2 => Nat.le_trans hb.size (h2 b hb2), by omega, by show 0 ≤ _; omega, rfl, by
    have hno : ∀ s, txM m0 s = none := fun s => by unfold txM m0; split <;> first | rfl | (split <;> first | rfl | (split <;> rfl))
    exact ⟨⟨rfl, rfl, rfl, fun s _ => rfl, fun s T hs => by rw [hno s] at hs; cases hs⟩, rfl, rfl⟩, fun b hz => hz.elim⟩, Lib.hid (hb.trans (hb'.mono hb.size))⟩
theorem Oz.start {B D : Nat} {w : World} (h : Pz (fun _ => False) B w D 0 (Ox (txM m0) (cnt m0))) :
    Oz B w.heap.size (w.heap.size + 1) (w.heap.size + 1 + 1) (fun _ => False) (((w.alloc (.cells #[.string ⟨#[]⟩, .string ⟨#[]⟩, .string ⟨#[]⟩] 28)).alloc (.cells #[.bool false, .bool false, .bool false] 29)).alloc (.cells #[.string ⟨#[97]⟩, .string ⟨#[98]⟩, .string ⟨#[99]⟩] 9)) D 0 m0 m0 m0 := by
  obtain ⟨o1, e1⟩ : ∃ o1, o1 = Obj.cells #[.string ⟨#[]⟩, .string ⟨#[]⟩, .string ⟨#[]⟩] 28 (0, 0) := ⟨_, rfl⟩
  obtain ⟨o2, e2⟩ : ∃ o2, o2 = Obj.cells #[.bool false, .bool false, .bool false] 29 (0, 0) := ⟨_, rfl⟩
  obtain ⟨o3, e3⟩ : ∃ o3, o3 = Obj.cells #[.string ⟨#[97]⟩, .string ⟨#[98]⟩, .string ⟨#[99]⟩] 9 (0, 0) := ⟨_, rfl⟩
  rw [← e1, ← e2, ← e3]
  have s1 : (w.alloc o1).heap.size = w.heap.size + 1 := by simp
  have s2 : ((w.alloc o1).alloc o2).heap.size = w.heap.size + 1 + 1 := by simp
  have p := ((h.new o1).new o2).new o3
  have b2 := alloc_below (w.alloc o1) o2
  have b3 := alloc_below ((w.alloc o1).alloc o2) o3
  have t1 : ((w.alloc o1)).heap[w.heap.size]? = some o1 := heap_new w o1
  have t2 : ((w.alloc o1).alloc o2).heap[w.heap.size + 1]? = some o2 := by rw [← s1]; exact heap_new _ o2
  have t3 : (((w.alloc o1).alloc o2).alloc o3).heap[w.heap.size + 1 + 1]? = some o3 := by rw [← s2]; exact heap_new _ o3
  refine ⟨p.sub (fun b hb => ?_), ?_, ?_, ?_⟩
  · rcases hb with hb | hb | hb | hb
    · exact Or.inl (Or.inl (Or.inr hb))
    · exact Or.inl (Or.inr (by rw [s1]; exact hb))
    · exact Or.inr (by rw [s2]; exact hb)
    · exact hb.elim
  · rw [b3.block _ (by omega), b2.block _ (by omega), t1, e1]; rfl
  · rw [b3.block _ (by omega), t2, e2]; rfl
  · rw [t3, e3]; rfl
theorem Oz.sub {B bt bh ba : Nat} {Z Z' : Nat → Prop} {w : World} {D k : Nat} {m mh mt : Nat → Option ByteArray} (o : Oz B bt bh ba Z w D k m mh mt) (hz : ∀ b, Z' b → Z b) : Oz B bt bh ba Z' w D k m mh mt :=
  ⟨o.pz.sub (fun b hb => by rcases hb with hb | hb | hb | hb; exact Or.inl hb; exact Or.inr (Or.inl hb); exact Or.inr (Or.inr (Or.inl hb)); exact Or.inr (Or.inr (Or.inr (hz b hb)))), o.t, o.h, o.a⟩
theorem Oz.new {B bt bh ba : Nat} {w : World} {D k : Nat} {m mh mt : Nat → Option ByteArray} (o : Oz B bt bh ba (fun _ => False) w D k m mh mt) (ob : Obj) : Oz B bt bh ba (fun b => b = w.heap.size) (w.alloc ob) D k m mh mt := by
  have hb := alloc_below w ob
  refine ⟨(o.pz.new ob).sub (fun b hz => ?_), (hb.block _ (lt_of_heap o.t)).trans o.t, (hb.block _ (lt_of_heap o.h)).trans o.h, (hb.block _ (lt_of_heap o.a)).trans o.a⟩
  rcases hz with hz | hz | hz | hz
  · exact Or.inl (Or.inl hz)
  · exact Or.inl (Or.inr (Or.inl hz))
  · exact Or.inl (Or.inr (Or.inr (Or.inl hz)))
  · exact Or.inr hz
theorem Oz.le {B bt bh ba : Nat} {Z : Nat → Prop} {w : World} {D k : Nat} {m mh mt : Nat → Option ByteArray} (o : Oz B bt bh ba Z w D k m mh mt) (k' : Nat) (hk : k ≤ k') : Oz B bt bh ba Z w D k' m mh mt := ⟨o.pz.le k' hk, o.t, o.h, o.a⟩
theorem open_sealed (y : ByteArray) (h : y.size ≤ 3000) : opV (sealB y) = .tuple #[.string y, .int .i64 0] := by
  have e : y.data.toList.length = y.size := rfl
  have ho : opnL (sealB y).data.toList = some y.data.toList := opn_seal y.data.toList (by omega)
  unfold opV
  rw [ho]
  show Value.tuple #[.string (W.str y.data.toList), .int .i64 0] = _
  rw [str_list]
/-- An act's block, and the row of names. -/
def AcB (w : World) (na : Nat) (a b : ByteArray) (n bb : Nat) (cl : Bool) (f : Int) : Prop := w.heap[na]? = some (.cells (actC a b n bb cl f) 34 (0, 0))
theorem AcB.cells {w : World} {na : Nat} {a b : ByteArray} {n bb : Nat} {cl : Bool} {f : Int} (h : AcB w na a b n bb cl f) : w.cell? ⟨na, 0, none⟩ = some (.string a) ∧ w.cell? ⟨na, 1, none⟩ = some (.string b) ∧ w.cell? ⟨na, 2, none⟩ = some (.int .u16 (n : Int)) ∧ w.cell? ⟨na, 3, none⟩ = some (.int .u8 (bb : Int)) ∧ w.cell? ⟨na, 4, none⟩ = some (.bool cl) ∧ w.cell? ⟨na, 5, none⟩ = some (.int .i8 f) :=
  ⟨cell_of_row w na 0 _ _ _ h, cell_of_row w na 1 _ _ _ h, cell_of_row w na 2 _ _ _ h, cell_of_row w na 3 _ _ _ h, cell_of_row w na 4 _ _ _ h, cell_of_row w na 5 _ _ _ h⟩
theorem acb_new (w : World) (a b : ByteArray) (n bb : Nat) (cl : Bool) (f : Int) : AcB (w.alloc (.cells #[.string a, .string b, .int .u16 (n : Int), .int .u8 (bb : Int), .bool cl, .int .i8 f] 34)) w.heap.size a b n bb cl f := heap_alloc_new w _
theorem AcB.ne {w : World} {na x : Nat} {a b : ByteArray} {n bb : Nat} {cl : Bool} {f : Int} (h : AcB w na a b n bb cl f) {cs : Array Value} {T : TypeId} (hx : w.heap[x]? = some (.cells cs T (0, 0))) (hT : T ≠ 34) : na ≠ x := fun e => by
  unfold AcB at h
  rw [e, hx] at h
  simp at h
  exact hT h.2
def AB (w : World) (ba na : Nat) (a b : ByteArray) (n bb : Nat) (cl : Bool) (f : Int) : Prop := AcB w na a b n bb cl f ∧ w.heap[ba]? = some (.cells aC 9 (0, 0))
set_option maxRecDepth 100000 in
set_option maxHeartbeats 8000000 in
theorem others_any (l : List Ac) (hll : l.length ≤ 8) (oa : Option Addr) (cap b off : Nat) (w : World) (ho : 0 < l.length → oa = some ⟨b, off, none⟩ ∧ b < w.heap.size) (hin : AcsIn w b off l) :
    Calls Tryz.prog 3 #[.slice oa l.length cap] w fun e w' => e = .returned (.bool true) ∧ Below w.heap.size w w' := by
  have K4 := Lib.hid (awake_any w)
  have K5 := Lib.hid (Pz.start w)
  obtain ⟨m, hm⟩ : ∃ m, m = l.length := ⟨_, rfl⟩
  have HO := Lib.hid ho
  have HIN := Lib.hid hin
  have HM := Lib.hid hm
  have q8 : (m : Int) ≤ 8 := by omega
  rw [← hm]
  clear ho hin hm hll
  go_enter Tryz.func3, Tryz.ntmps3
  go_upto_region 9 with (first
    | (go_at_call 4; ((with_reducible refine (K4.out).mono ?_); rintro e w1 ⟨rfl, hb1⟩; have HB1 := Lib.hid hb1; clear hb1))
    | (go_at_call 5; ((with_reducible refine (K5.out _ HB1.out).mono ?_); rintro e w2 ⟨D, rfl, HD2, HB2⟩)))
  refine gen_wp (S := fun wz => Hid (Oz w.heap.size w2.heap.size (w2.heap.size + 1) (w2.heap.size + 1 + 1) (fun _ => False) wz D 0 m0 m0 m0) ∧ Hid (Below w.heap.size w wz)) ⟨Lib.hid (Oz.start HD2.out), Lib.hid (((HB2.out.alloc HB2.out.size _).alloc (by have := HB2.out.size; simp; omega) _).alloc (by have := HB2.out.size; simp; omega) _)⟩ ?_
  intro W3 H3
  obtain ⟨HZ3, HB3⟩ := H3
  clear K4 K5 HB1 HD2 HB2
  generalize w2.heap.size = bt at *
  obtain ⟨bh, hbh⟩ : ∃ bh, bh = bt + 1 := ⟨_, rfl⟩
  obtain ⟨ba, hba⟩ : ∃ ba, ba = bt + 1 + 1 := ⟨_, rfl⟩
  rw [← hba, ← hbh] at HZ3
  rw [← hba, ← hbh]
  clear hba hbh
  go_wp2
  go_loopw [30, 8] (fun v nv wr => ∃ (i : Nat) (mm : Nat → Option ByteArray), i ≤ m ∧ v = .int .i64 (i : Int) ∧ nv = .int .i64 ((cnt mm : Nat) : Int) ∧ Hid (Oz w.heap.size bt bh ba (fun _ => False) wr D i mm mm mm) ∧ Hid (∀ k x, mm k = some x → x.size ≤ 3000) ∧ Hid (Below w.heap.size w wr)) (fun v _ _ => m - (intOf v).toNat)
  case atStart => exact ⟨0, m0, by omega, rfl, rfl, HZ3, Lib.hid (fun k x h => by cases h), HB3⟩
  case round =>
    obtain ⟨i, mm, hi, rfl, rfl, HZ, HS, HB⟩ := hrel
    by_cases hlt : i < m
    · have hil : i < l.length := by rw [← HM.out]; exact hlt
      obtain ⟨q, hq⟩ : ∃ q, q = l[i] := ⟨_, rfl⟩
      obtain ⟨c0, c1, c2, c3, c4, c5, g0, g1, g2, g3, g4, g5, hac⟩ := HIN.out i hil
      rw [← hq] at hac
      obtain ⟨eo, hbl⟩ := HO.out (by omega)
      obtain ⟨a, bn, n, bb, cl, f⟩ := q
      unfold AcIn at hac
      obtain ⟨rfl, rfl, rfl, hn, rfl, hbb, rfl, rfl, hf1, hf2⟩ := hac
      simp only at g0 g1 g2 g3 g4 g5 hn hbb hf1 hf2
      have k0 := (HB.out.cell (p := ⟨b, off + i * 6, none⟩) hbl).trans g0
      have k1 := (HB.out.cell (p := ⟨b, off + i * 6 + 1, none⟩) hbl).trans g1
      have k2 := (HB.out.cell (p := ⟨b, off + i * 6 + 2, none⟩) hbl).trans g2
      have k3 := (HB.out.cell (p := ⟨b, off + i * 6 + 3, none⟩) hbl).trans g3
      have k4 := (HB.out.cell (p := ⟨b, off + i * 6 + 4, none⟩) hbl).trans g4
      have k5 := (HB.out.cell (p := ⟨b, off + i * 6 + 5, none⟩) hbl).trans g5
      have q1 : (0 : Int) ≤ (i : Int) := by omega
      have q2 : (i : Int) < (m : Int) := by omega
      have hi8 : i + 3 ≤ 100 := by omega
      obtain ⟨kk, hkk⟩ : ∃ kk, kk = bb % 3 := ⟨_, rfl⟩
      have hk3 : kk < 3 := by omega
      have ekk : (bb : Int) % 3 = (kk : Int) := by omega
      have q3 : (0 : Int) ≤ (kk : Int) := by omega
      have q4 : (kk : Int) < 3 := by omega
      have q5 : IntKind.i64.wrap (kk : Int) = (kk : Int) := IntWalk.i64_in _ ⟨by omega, by omega⟩
      obtain ⟨x, hx⟩ : ∃ x, x = txB n bb := ⟨_, rfl⟩
      have HX : Hid (x.size ≤ 3000) := Lib.hid (by rw [hx]; exact txB_size n bb)
      obtain ⟨na, hna⟩ : ∃ na, na = wr.heap.size := ⟨_, rfl⟩
      have hbw := alloc_below wr (.cells #[.string a, .string bn, .int .u16 (n : Int), .int .u8 (bb : Int), .bool cl, .int .i8 f] 34)
      have HO6 : Hid (Oz w.heap.size bt bh ba (fun b => b = na) (wr.alloc (.cells #[.string a, .string bn, .int .u16 (n : Int), .int .u8 (bb : Int), .bool cl, .int .i8 f] 34)) D i mm mm mm) := Lib.hid (by rw [hna]; exact HZ.out.new _)
      have HA6 : Hid (AB (wr.alloc (.cells #[.string a, .string bn, .int .u16 (n : Int), .int .u8 (bb : Int), .bool cl, .int .i8 f] 34)) ba na a bn n bb cl f) := Lib.hid ⟨by rw [hna]; exact acb_new wr a bn n bb cl f, HO6.out.a⟩
      have HB6 : Hid (Below w.heap.size w (wr.alloc (.cells #[.string a, .string bn, .int .u16 (n : Int), .int .u8 (bb : Int), .bool cl, .int .i8 f] 34))) := Lib.hid (HB.out.alloc HB.out.size _)
      have K7 : Hid (∀ w6, AB w6 ba na a bn n bb cl f → Calls Tryz.prog 7 #[.agg #[.string a, .string bn, .int .u16 (n : Int), .int .u8 (bb : Int), .bool cl, .int .i8 f]] w6 fun e w' => e = .returned (.string x) ∧ Hid (AB w' ba na a bn n bb cl f) ∧ Hid (Below w6.heap.size w6 w')) := Lib.hid (fun w6 ha => (text_exact a bn n bb cl f hn hbb w6).mono fun e w' ⟨he, hb⟩ => ⟨by rw [hx]; exact he, Lib.hid ⟨(hb.block _ (lt_of_heap ha.1)).trans ha.1, (hb.block _ (lt_of_heap ha.2)).trans ha.2⟩, Lib.hid hb⟩)
      subst eo
      clear g0 g1 g2 g3 g4 g5 hn hbb hf1 hf2 hq hx hbw hkk
      go_upto_region 14 with (first | fail)
      rw [← hna]
      refine gen_wp (S := fun wz => Hid (Oz w.heap.size bt bh ba (fun b => b = na) wz D i mm mm mm) ∧ Hid (AB wz ba na a bn n bb cl f) ∧ Hid (Below w.heap.size w wz)) ⟨HO6, HA6, HB6⟩ ?_
      clear HO6 HA6 HB6 HZ HB k0 k1 k2 k3 k4 k5 hna
      rintro W6 ⟨HO6, HA6, HB6⟩
      have K6 : Hid (∀ w6, Hid (Below W6.heap.size W6 w6) → Hid (AB w6 ba na a bn n bb cl f) → Calls Tryz.prog 6 #[.pointer (some ⟨D, 0, none⟩), .string (nmK kk), .string ⟨#[115, 112, 97, 114, 101]⟩, .string x] w6 fun e w' => e = .returned (.int .i64 0) ∧ Hid (AB w' ba na a bn n bb cl f) ∧ Hid (Oz w.heap.size bt bh ba (fun b => b = na) w' D (i + 1) (upd mm kk x) mm mm) ∧ Hid (Below w.heap.size w6 w')) := Lib.hid (fun w6 hb ha => ((HO6.out.later hb.out).save (by omega) hk3 x HX.out).mono fun e w' ⟨he, h1, h2, h3⟩ => ⟨he, Lib.hid ⟨(h3 na rfl).trans ha.out.1, h1.a⟩, Lib.hid h1, Lib.hid h2⟩)
      have hcA := HO6.out.cellA hk3
      have HC6 := Lib.hid (Below.refl W6.heap.size W6)
      have HR : Hid (∀ w1, Hid (AB w1 ba na a bn n bb cl f) → (w1.cell? ⟨na, 0, none⟩ = some (.string a) ∧ w1.cell? ⟨na, 1, none⟩ = some (.string bn) ∧ w1.cell? ⟨na, 2, none⟩ = some (.int .u16 (n : Int)) ∧ w1.cell? ⟨na, 3, none⟩ = some (.int .u8 (bb : Int)) ∧ w1.cell? ⟨na, 4, none⟩ = some (.bool cl) ∧ w1.cell? ⟨na, 5, none⟩ = some (.int .i8 f) ∧ w1.cell? ⟨ba, kk, none⟩ = some (.string (nmK kk))) ∧ Hid (AB w1 ba na a bn n bb cl f)) := Lib.hid (fun w1 h => by
        obtain ⟨y0, y1, y2, y3, y4, y5⟩ := h.out.1.cells
        exact ⟨⟨y0, y1, y2, y3, y4, y5, by rw [cell_of_row w1 ba kk _ _ _ h.out.2]; exact aC_get hk3⟩, h⟩)
      obtain ⟨s, hs⟩ : ∃ s, s = nmK kk := ⟨_, rfl⟩
      rw [← hs] at K6 hcA HR
      obtain ⟨z0, z1, z2, z3, z4, z5⟩ := HA6.out.1.cells
      clear hs
      go_region_held3 (fun wz => (wz.cell? ⟨na, 0, none⟩ = some (.string a) ∧ wz.cell? ⟨na, 1, none⟩ = some (.string bn) ∧ wz.cell? ⟨na, 2, none⟩ = some (.int .u16 (n : Int)) ∧ wz.cell? ⟨na, 3, none⟩ = some (.int .u8 (bb : Int)) ∧ wz.cell? ⟨na, 4, none⟩ = some (.bool cl) ∧ wz.cell? ⟨na, 5, none⟩ = some (.int .i8 f) ∧ wz.cell? ⟨ba, kk, none⟩ = some (.string s)) ∧ Hid (AB wz ba na a bn n bb cl f))
        (first | exact HR.out _ (by assumption) | exact HR.out _ HA6 | go_keep)
        (first
          | (go_at_call 7; ((with_reducible refine (K7.out _ (Hid.out ?_)).mono ?_); (first | assumption | exact HA6); rintro e w7 ⟨rfl, HA7, HB7⟩))
          | (go_at_call 6; ((with_reducible refine (K6.out _ ?_ ?_).mono ?_); (first | exact Lib.hid (HC6.out.drew.trans (HB7.out.mono HC6.out.size))); (first | assumption | exact HA7); rintro e w8 ⟨rfl, HA8, HO8, HB8⟩)))
      simp only [Exit.then]
      apply_assumption
      clear z0 z1 z2 z3 z4 z5 hcA HR K6 HC6 HO6 HA6
      have HBw8 : Hid (Below w.heap.size w w8) := Lib.hid ((HB6.out.drew.trans (HB7.out.mono HB6.out.size)).trans HB8.out)
      have HS2 : Hid (∀ k y, upd mm kk x k = some y → y.size ≤ 3000) := Lib.hid (fun k y hy => by
        unfold upd at hy
        by_cases e : k = kk
        · rw [if_pos e] at hy
          cases hy
          exact HX.out
        · rw [if_neg e] at hy
          exact HS.out k y hy)
      clear HB6 HB7 HB8 HA7
      cases hth : (mm kk).isSome
      · have cH : w8.cell? ⟨bh, kk, none⟩ = some (.bool false) := by rw [HO8.out.cellH hk3, hth]
        have fH := HO8.out.frH kk
        have hcnt : ((cnt mm : Nat) : Int) + 1 = ((cnt (upd mm kk x) : Nat) : Int) := by rw [cnt_upd mm hk3 x, if_neg (by rw [hth]; simp)]; rfl
        have hwc : wrap64 ((cnt (upd mm kk x) : Nat) : Int) = ((cnt (upd mm kk x) : Nat) : Int) := IntWalk.wrap64_in _ ⟨by omega, by have := cnt_le (upd mm kk x); omega⟩
        obtain ⟨p1, p2⟩ := HO8.out.setH hk3 x
        have hne := HA8.out.1.ne HO8.out.h (by decide)
        have hA9 : AB (w8.setCell ⟨bh, kk, none⟩ (.bool true)) ba na a bn n bb cl f := ⟨(heap_setCell_other _ _ _ _ (by show na ≠ bh; exact hne)).trans HA8.out.1, p1.a⟩
        have HP9 := Lib.hid (And.intro p1 (And.intro p2 hA9))
        have K7b : Hid (Calls Tryz.prog 7 #[.agg #[.string a, .string bn, .int .u16 (n : Int), .int .u8 (bb : Int), .bool cl, .int .i8 f]] (w8.setCell ⟨bh, kk, none⟩ (.bool true)) fun e w' => (e = .returned (.string x) ∧ w'.cell? ⟨bt, kk, none⟩ = some (.string ((mm kk).getD ⟨#[]⟩)) ∧ w'.frozen? ⟨bt, kk, none⟩ = false) ∧ Hid (Oz w.heap.size bt bh ba (fun b => b = na) w' D (i + 1) (upd mm kk x) (upd mm kk x) mm) ∧ Hid (Below w.heap.size w w')) := Lib.hid ((K7.out _ HP9.out.2.2).mono fun e w' ⟨he, _, hb⟩ => ⟨⟨he, (HP9.out.1.later hb.out).cellT hk3, (HP9.out.1.later hb.out).frT kk⟩, Lib.hid (HP9.out.1.later hb.out), Lib.hid ((HBw8.out.trans HP9.out.2.1).trans (hb.out.mono (Nat.le_trans HBw8.out.size HP9.out.2.1.size)))⟩)
        obtain ⟨y0, y1, y2, y3, y4, y5⟩ := HP9.out.2.2.1.cells
        clear hne p1 p2 hA9 K7
        go_upto_region 20 with (first
          | (go_at_call 7; ((with_reducible refine (K7b.out).mono ?_); rintro e w9 ⟨⟨rfl, cT, fT⟩, HO9, HB9⟩)))
        obtain ⟨t1, t2⟩ := HO9.out.setT hk3 x
        refine gen_wp (S := fun wz => Hid (Oz w.heap.size bt bh ba (fun _ => False) wz D (i + 1) (upd mm kk x) (upd mm kk x) (upd mm kk x)) ∧ Hid (Below w.heap.size w wz)) ⟨Lib.hid (t1.sub (fun b hb => hb.elim)), Lib.hid (HB9.out.trans t2)⟩ ?_
        clear t1 t2 HO9 HB9 HP9 K7b cH fH cT fT y0 y1 y2 y3 y4 y5 HO8 HA8 HBw8 hth
        obtain ⟨m', hm'⟩ : ∃ m', m' = upd mm kk x := ⟨_, rfl⟩
        try rw [← hm'] at hcnt
        rw [← hm'] at HS2
        rw [← hm']
        rintro W9 ⟨HO9, HB9⟩
        clear hm'
        clear hcnt
        go_wp2
        go_loopw [61] (fun v wr => ∃ j : Nat, j ≤ 3 ∧ v = .int .i64 (j : Int) ∧ Hid (Oz w.heap.size bt bh ba (fun _ => False) wr D (i + 1) m' m' m') ∧ Hid (Below w.heap.size w wr)) (fun v _ => 3 - (intOf v).toNat)
        case atStart => exact ⟨0, by omega, rfl, HO9, HB9⟩
        case round =>
          obtain ⟨j, hj, rfl, HOj, HBj⟩ := hrel
          by_cases hjl : j < 3
          · have cA := HOj.out.cellA hjl
            have r1 : (0 : Int) ≤ (j : Int) := by omega
            have r2 : (j : Int) < 3 := by omega
            obtain ⟨sj, hsj⟩ : ∃ sj, sj = nmK j := ⟨_, rfl⟩
            have hz32 : sj.size ≤ 1000000 := by rw [hsj]; have := (nm_ok hjl).2.2; omega
            have htx : txM m' sj = (m' j).map sealB := by rw [hsj]; exact txM_at m' hjl
            have K8 := HOj.out.pz.load sj hz32
            rw [htx] at K8
            rw [← hsj] at cA
            cases hmj : m' j with
            | none =>
              rw [hmj] at K8
              have KL : Hid (Calls Tryz.prog 8 #[.pointer (some ⟨D, 0, none⟩), .string sj] _ fun e w' => (e = .returned (.tuple #[.string ⟨#[]⟩, .int .i64 12]) ∧ w'.cell? ⟨bh, j, none⟩ = some (.bool false)) ∧ Hid (Oz w.heap.size bt bh ba (fun _ => False) w' D (i + 1) m' m' m') ∧ Hid (Below w.heap.size w w')) := Lib.hid (K8.mono fun e w' ⟨he, hb⟩ => ⟨⟨he, by rw [(HOj.out.later hb).cellH hjl, hmj]; rfl⟩, Lib.hid (HOj.out.later hb), Lib.hid (HBj.out.trans (hb.mono HBj.out.size))⟩)
              clear K8 hmj hsj htx hz32 HOj HBj
              go_wp2_with (first
                | (go_at_call 8; ((with_reducible refine (KL.out).mono ?_); rintro e w10 ⟨⟨rfl, ch⟩, HO10, HB10⟩)))
              go_roundw
              case rel => exact ⟨j + 1, by omega, by go_num, HO10, HB10⟩
              case measure => simp [intOf]; omega
            | some y =>
              rw [hmj] at K8
              have hy3 : y.size ≤ 3000 := HS2.out j y hmj
              have ho : opV (sealB y) = .tuple #[.string y, .int .i64 0] := open_sealed y hy3
              have KL : Hid (Calls Tryz.prog 8 #[.pointer (some ⟨D, 0, none⟩), .string sj] _ fun e w' => (e = .returned (.tuple #[.string y, .int .i64 0]) ∧ w'.cell? ⟨bh, j, none⟩ = some (.bool true) ∧ w'.cell? ⟨bt, j, none⟩ = some (.string y)) ∧ Hid (Oz w.heap.size bt bh ba (fun _ => False) w' D (i + 1) m' m' m') ∧ Hid (Below w.heap.size w w')) := Lib.hid (K8.mono fun e w' ⟨he, hb⟩ => ⟨⟨by rw [he]; exact congrArg Ending.returned ho, by rw [(HOj.out.later hb).cellH hjl, hmj]; rfl, by rw [(HOj.out.later hb).cellT hjl, hmj]; rfl⟩, Lib.hid (HOj.out.later hb), Lib.hid (HBj.out.trans (hb.mono HBj.out.size))⟩)
              clear K8 hmj hsj htx hz32 HOj HBj ho hy3
              go_wp2_with (first
                | (go_at_call 8; ((with_reducible refine (KL.out).mono ?_); rintro e w10 ⟨⟨rfl, ch, ct⟩, HO10, HB10⟩)))
              go_roundw
              case rel => exact ⟨j + 1, by omega, by go_num, HO10, HB10⟩
              case measure => simp [intOf]; omega
          · go_wp2
            go_roundw
            case rel => exact ⟨i + 1, m', by omega, by go_num, rfl, HOj, HS2, HBj⟩
            case measure => simp [intOf]; omega
      · have cH : w8.cell? ⟨bh, kk, none⟩ = some (.bool true) := by rw [HO8.out.cellH hk3, hth]
        have hcnt : ((cnt mm : Nat) : Int) = ((cnt (upd mm kk x) : Nat) : Int) := by rw [cnt_upd mm hk3 x, if_pos hth]
        have hO8 : Oz w.heap.size bt bh ba (fun b => b = na) w8 D (i + 1) (upd mm kk x) (upd mm kk x) mm := ⟨HO8.out.pz, HO8.out.t, by rw [hC_same mm hk3 x hth]; exact HO8.out.h, HO8.out.a⟩
        have HP9 := Lib.hid hO8
        have K7b : Hid (Calls Tryz.prog 7 #[.agg #[.string a, .string bn, .int .u16 (n : Int), .int .u8 (bb : Int), .bool cl, .int .i8 f]] w8 fun e w' => (e = .returned (.string x) ∧ w'.cell? ⟨bt, kk, none⟩ = some (.string ((mm kk).getD ⟨#[]⟩)) ∧ w'.frozen? ⟨bt, kk, none⟩ = false) ∧ Hid (Oz w.heap.size bt bh ba (fun b => b = na) w' D (i + 1) (upd mm kk x) (upd mm kk x) mm) ∧ Hid (Below w.heap.size w w')) := Lib.hid ((K7.out _ HA8.out).mono fun e w' ⟨he, _, hb⟩ => ⟨⟨he, (HP9.out.later hb.out).cellT hk3, (HP9.out.later hb.out).frT kk⟩, Lib.hid (HP9.out.later hb.out), Lib.hid (HBw8.out.trans (hb.out.mono HBw8.out.size))⟩)
        obtain ⟨y0, y1, y2, y3, y4, y5⟩ := HA8.out.1.cells
        clear hO8 K7
        go_upto_region 20 with (first
          | (go_at_call 7; ((with_reducible refine (K7b.out).mono ?_); rintro e w9 ⟨⟨rfl, cT, fT⟩, HO9, HB9⟩)))
        obtain ⟨t1, t2⟩ := HO9.out.setT hk3 x
        refine gen_wp (S := fun wz => Hid (Oz w.heap.size bt bh ba (fun _ => False) wz D (i + 1) (upd mm kk x) (upd mm kk x) (upd mm kk x)) ∧ Hid (Below w.heap.size w wz)) ⟨Lib.hid (t1.sub (fun b hb => hb.elim)), Lib.hid (HB9.out.trans t2)⟩ ?_
        clear t1 t2 HO9 HB9 HP9 K7b cH cT fT y0 y1 y2 y3 y4 y5 HO8 HA8 HBw8 hth
        obtain ⟨m', hm'⟩ : ∃ m', m' = upd mm kk x := ⟨_, rfl⟩
        try rw [← hm'] at hcnt
        rw [← hm'] at HS2
        rw [← hm']
        rintro W9 ⟨HO9, HB9⟩
        clear hm'
        clear hcnt
        go_wp2
        go_loopw [61] (fun v wr => ∃ j : Nat, j ≤ 3 ∧ v = .int .i64 (j : Int) ∧ Hid (Oz w.heap.size bt bh ba (fun _ => False) wr D (i + 1) m' m' m') ∧ Hid (Below w.heap.size w wr)) (fun v _ => 3 - (intOf v).toNat)
        case atStart => exact ⟨0, by omega, rfl, HO9, HB9⟩
        case round =>
          obtain ⟨j, hj, rfl, HOj, HBj⟩ := hrel
          by_cases hjl : j < 3
          · have cA := HOj.out.cellA hjl
            have r1 : (0 : Int) ≤ (j : Int) := by omega
            have r2 : (j : Int) < 3 := by omega
            obtain ⟨sj, hsj⟩ : ∃ sj, sj = nmK j := ⟨_, rfl⟩
            have hz32 : sj.size ≤ 1000000 := by rw [hsj]; have := (nm_ok hjl).2.2; omega
            have htx : txM m' sj = (m' j).map sealB := by rw [hsj]; exact txM_at m' hjl
            have K8 := HOj.out.pz.load sj hz32
            rw [htx] at K8
            rw [← hsj] at cA
            cases hmj : m' j with
            | none =>
              rw [hmj] at K8
              have KL : Hid (Calls Tryz.prog 8 #[.pointer (some ⟨D, 0, none⟩), .string sj] _ fun e w' => (e = .returned (.tuple #[.string ⟨#[]⟩, .int .i64 12]) ∧ w'.cell? ⟨bh, j, none⟩ = some (.bool false)) ∧ Hid (Oz w.heap.size bt bh ba (fun _ => False) w' D (i + 1) m' m' m') ∧ Hid (Below w.heap.size w w')) := Lib.hid (K8.mono fun e w' ⟨he, hb⟩ => ⟨⟨he, by rw [(HOj.out.later hb).cellH hjl, hmj]; rfl⟩, Lib.hid (HOj.out.later hb), Lib.hid (HBj.out.trans (hb.mono HBj.out.size))⟩)
              clear K8 hmj hsj htx hz32 HOj HBj
              go_wp2_with (first
                | (go_at_call 8; ((with_reducible refine (KL.out).mono ?_); rintro e w10 ⟨⟨rfl, ch⟩, HO10, HB10⟩)))
              go_roundw
              case rel => exact ⟨j + 1, by omega, by go_num, HO10, HB10⟩
              case measure => simp [intOf]; omega
            | some y =>
              rw [hmj] at K8
              have hy3 : y.size ≤ 3000 := HS2.out j y hmj
              have ho : opV (sealB y) = .tuple #[.string y, .int .i64 0] := open_sealed y hy3
              have KL : Hid (Calls Tryz.prog 8 #[.pointer (some ⟨D, 0, none⟩), .string sj] _ fun e w' => (e = .returned (.tuple #[.string y, .int .i64 0]) ∧ w'.cell? ⟨bh, j, none⟩ = some (.bool true) ∧ w'.cell? ⟨bt, j, none⟩ = some (.string y)) ∧ Hid (Oz w.heap.size bt bh ba (fun _ => False) w' D (i + 1) m' m' m') ∧ Hid (Below w.heap.size w w')) := Lib.hid (K8.mono fun e w' ⟨he, hb⟩ => ⟨⟨by rw [he]; exact congrArg Ending.returned ho, by rw [(HOj.out.later hb).cellH hjl, hmj]; rfl, by rw [(HOj.out.later hb).cellT hjl, hmj]; rfl⟩, Lib.hid (HOj.out.later hb), Lib.hid (HBj.out.trans (hb.mono HBj.out.size))⟩)
              clear K8 hmj hsj htx hz32 HOj HBj ho hy3
              go_wp2_with (first
                | (go_at_call 8; ((with_reducible refine (KL.out).mono ?_); rintro e w10 ⟨⟨rfl, ch, ct⟩, HO10, HB10⟩)))
              go_roundw
              case rel => exact ⟨j + 1, by omega, by go_num, HO10, HB10⟩
              case measure => simp [intOf]; omega
          · go_wp2
            go_roundw
            case rel => exact ⟨i + 1, m', by omega, by go_num, rfl, HOj, HS2, HBj⟩
            case measure => simp [intOf]; omega
    · have hjm : i = m := by omega
      subst hjm
      have K8 := HZ.out.pz.load spareN (by decide)
      rw [txM_spare] at K8
      have KL : Hid (Calls Tryz.prog 8 #[.pointer (some ⟨D, 0, none⟩), .string ⟨#[115, 112, 97, 114, 101]⟩] _ fun e w' => e = .returned (.tuple #[.string ⟨#[]⟩, .int .i64 12]) ∧ Hid (Oz w.heap.size bt bh ba (fun _ => False) w' D i mm mm mm) ∧ Hid (Below w.heap.size w w')) := Lib.hid (K8.mono fun e w' ⟨he, hb⟩ => ⟨he, Lib.hid (HZ.out.later hb), Lib.hid (HB.out.trans (hb.mono HB.out.size))⟩)
      have KN : Hid (∀ w6, Hid (Oz w.heap.size bt bh ba (fun _ => False) w6 D i mm mm mm) → Hid (Below w.heap.size w w6) → Calls Tryz.prog 9 #[.pointer (some ⟨D, 0, none⟩)] w6 fun e w' => (∃ o cap, e = .returned (.slice o (cnt mm) cap)) ∧ Hid (Below w.heap.size w w')) := Lib.hid (fun w6 h hb => (h.out.pz.names (txM_size mm)).mono fun e w' ⟨he, hb2⟩ => ⟨he, Lib.hid (hb.out.trans (hb2.mono hb.out.size))⟩)
      clear K8 HZ HB HS
      generalize cnt mm = nn at *
      go_wp2_with (first
        | (go_at_call 8; ((with_reducible refine (KL.out).mono ?_); rintro e w9 ⟨rfl, HO9, HB9⟩))
        | (go_at_call 9; ((with_reducible refine (KN.out _ HO9 HB9).mono ?_); rintro e w10 ⟨⟨o10, cap10, rfl⟩, HB10⟩)))
      go_ret
      exact ⟨rfl, HB10.out⟩
end Go.Proofs.YtjkpopdjmmgbbabGreat.Fi

namespace Go.Proofs.YtjkpopdjmmgbbabGreat.Fi
open Go.RowKit Dk Go.Maps
set_option maxRecDepth 100000 in
theorem others_great (n : Nat) (oa : Option Addr) (cap : Nat) (h : 8 < n) (w : World) :
    Calls Tryz.prog 3 #[.slice oa n cap] w fun e w' => e = .returned (.bool true) ∧ Below w.heap.size w w' := by
  have K4 := Lib.hid (awake_any w)
  have q1 : (8 : Int) < (n : Int) := by omega
  clear h
  go_enter Tryz.func3, Tryz.ntmps3
  go_wp2_with (first | (go_at_call 4; ((with_reducible refine (K4.out).mono ?_); rintro e w1 ⟨rfl, hb1⟩)))
  go_ret
  exact ⟨rfl, hb1⟩
theorem others_walk (l : List Ac) (oa : Option Addr) (cap b off : Nat) (w : World) (ho : 0 < l.length → oa = some ⟨b, off, none⟩ ∧ b < w.heap.size) (hin : AcsIn w b off l) :
    Calls Tryz.prog 3 #[.slice oa l.length cap] w fun e w' => e = .returned (.bool true) ∧ Below w.heap.size w w' := by
  by_cases hg : 8 < l.length
  · exact others_great _ _ _ hg w
  · exact others_any l (by omega) oa cap b off w ho hin
end Go.Proofs.YtjkpopdjmmgbbabGreat.Fi
