/- One round of the document's sum: plain facts. -/
import Derived.Test.YtfakkbjnapelfaaDY
namespace Go.Proofs.Ytfakkbjnapelfaa.Dg
open Go.RowKit

theorem not_sub (e : Nat) (h : e < 4294967296) : 4294967295 - e = 4294967295 ^^^ e := by
  have h2 : (~~~(BitVec.ofNat 32 e)).toNat = 4294967295 - e := by
    rw [BitVec.toNat_not, BitVec.toNat_ofNat, Nat.mod_eq_of_lt (by omega)]
  have h3 : (BitVec.allOnes 32 ^^^ BitVec.ofNat 32 e).toNat = 4294967295 ^^^ e := by
    rw [BitVec.toNat_xor, BitVec.toNat_allOnes, BitVec.toNat_ofNat, Nat.mod_eq_of_lt (by omega)]
  rw [← h2, ← h3, BitVec.allOnes_xor]
theorem eight (l : List Nat) (h : l.length = 8) : ∃ a b c d e f g h, l = [a, b, c, d, e, f, g, h] := by
  match l, h with
  | [a, b, c, d, e, f, g, h], _ => exact ⟨a, b, c, d, e, f, g, h, rfl⟩
/-- What the operations of a round come to. -/
theorem rotr3 (x a b c : Nat) (hx : x < 4294967296) : bits BinOp.xor IntKind.u32 (ror x a : Nat) (ror x b : Nat) = ((ror x a ^^^ ror x b : Nat) : Int) ∧ bits BinOp.xor IntKind.u32 ((ror x a ^^^ ror x b : Nat) : Int) (ror x c : Nat) = ((ror x a ^^^ ror x b ^^^ ror x c : Nat) : Int) := by
  have ha := (ror_or x a hx).2.2
  have hb := (ror_or x b hx).2.2
  have hc := (ror_or x c hx).2.2
  have h1 := xor_nat _ _ ha hb
  exact ⟨h1.1, (xor_nat _ _ h1.2 hc).1⟩
/-- The sum's words, and its bytes. -/
def OX (w : World) (gk gh go : Nat) (h : List Nat) (l : List UInt8) (wr : World) : Prop := T2 w gk gh h wr ∧ BB go 5 l wr ∧ gh < go
section
variable {w wr w1 : World} {gk gh go : Nat} {h : List Nat} {l : List UInt8}
theorem OX.later (t : OX w gk gh go h l wr) (hb : Below wr.heap.size wr w1) : OX w gk gh go h l w1 := ⟨t.1.later hb, t.2.1.later hb, t.2.2⟩
theorem OX.put (t : OX w gk gh go h l wr) (j : Nat) (x : UInt8) : OX w gk gh go h (l.set j x) (wr.setCell ⟨go, j, none⟩ (.int .u8 (x.toNat : Int))) :=
  ⟨⟨t.1.1.other _ (by have := t.2.2; have := t.1.2.2.2.1; show gk ≠ go; omega), t.1.2.1.other _ (by have := t.2.2; show gh ≠ go; omega), t.1.2.2.1, t.1.2.2.2.1, t.1.2.2.2.2.setCell (by have := t.2.2; have := t.1.2.2.1; have := t.1.2.2.2.1; show w.heap.size ≤ go; omega) _⟩, t.2.1.put j x, t.2.2⟩
theorem OX.fresh (t : T2 w gk gh h wr) : OX w gk gh wr.heap.size h zb32 (wr.alloc (.cells (W.bcells zb32).toArray 5)) :=
  ⟨t.later ((Below.refl _ _).alloc (Nat.le_refl _) _), bb_new wr zb32 5, t.2.1.lt⟩
end
/-- The first bytes of a sum, then noughts. -/
def outB (h : List Nat) (i : Nat) : List UInt8 := (bytes4 h).take i ++ List.replicate (32 - i) 0
theorem outB_len (h : List Nat) (h1 : h.length = 8) (i : Nat) (hi : i ≤ 32) : (outB h i).length = 32 := by
  have := bytes4_len h
  unfold outB; simp; omega
theorem outB_0 (h : List Nat) : outB h 0 = zb32 := rfl
theorem outB_32 (h : List Nat) (h1 : h.length = 8) : outB h 32 = bytes4 h := by
  have := bytes4_len h
  unfold outB; rw [List.take_of_length_le (by omega)]; simp
theorem outB_set (h : List Nat) (h1 : h.length = 8) (i : Nat) (hi : i < 32) (x : UInt8) (hx : (bytes4 h)[i]? = some x) : (outB h i).set i x = outB h (i + 1) := by
  have hl := bytes4_len h
  have hi' : i < (bytes4 h).length := by omega
  rw [List.getElem?_eq_getElem hi'] at hx
  unfold outB
  rw [List.set_append_right _ _ (List.length_take_le _ _), show i - ((bytes4 h).take i).length = 0 by simp; omega, show 32 - i = (32 - (i + 1)) + 1 by omega, List.replicate_succ, List.set_cons_zero, List.take_succ_eq_append_getElem hi', List.append_assoc]
  congr 1
  simp at hx
  rw [hx]; rfl
theorem bytes4_at : ∀ (h : List Nat) (q r : Nat) (hq : q < h.length), r < 4 → (bytes4 h)[4 * q + r]? = some (UInt8.ofNat (h[q] / 256 ^ (3 - r)))
  | [], q, _, hq, _ => absurd hq (by simp)
  | x :: h, 0, r, _, hr => by
    have e : bytes4 (x :: h) = W.be x 4 ++ bytes4 h := by simp [bytes4]
    rw [e, List.getElem?_append_left (by rw [W.be_length]; omega)]
    match r, hr with
    | 0, _ => rfl
    | 1, _ => rfl
    | 2, _ => rfl
    | 3, _ => rfl
  | x :: h, q + 1, r, hq, hr => by
    have e : bytes4 (x :: h) = W.be x 4 ++ bytes4 h := by simp [bytes4]
    have ih := bytes4_at h q r (by simpa using hq) hr
    rw [e, List.getElem?_append_right (by rw [W.be_length]; omega), W.be_length, show 4 * (q + 1) + r - 4 = 4 * q + r by omega, ih]
    rfl
theorem conv_bb {g : Nat} {l : List UInt8} {w : World} (h : BB g 5 l w) (hl : l.length = 32) : (convert 46 9 (.slice (some ⟨g, 0, none⟩) 32 32)).run Try.prog w = .ok (.string (W.str l)) w := by
  have h2 := run_convert_bytes_back (P := Try.prog) w 46 9 5 ⟨g, 0, none⟩ 32 l Try.underlying46 Try.underlying5 Try.underlying9 (fun j hj => by
    have := h.cell j hj
    have hadd : (⟨g, 0, none⟩ : Addr).add j = ⟨g, j, none⟩ := by unfold Addr.add; split <;> simp_all
    rw [hadd]; exact this)
  rw [hl] at h2
  exact h2
end Go.Proofs.Ytfakkbjnapelfaa.Dg
