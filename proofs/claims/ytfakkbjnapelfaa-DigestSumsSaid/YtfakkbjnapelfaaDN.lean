/- The plain words of digest.Sum. -/
import Derived.Test.YtfakkbjnapelfaaDM
namespace Go.Proofs.Ytfakkbjnapelfaa.Dg
open Go.RowKit

def addL (h v : List Nat) : List Nat := List.zipWith (fun a b => (a + b) % 4294967296) h v
/-- What is there behind so many blocks. -/
def hsn (t : ByteArray) : Nat → List Nat
  | 0 => HS
  | k + 1 => addL (hsn t k) (rds KS (sch (t.extract (64 * k) (64 * k + 64)) 64) (hsn t k))
def bytes4 (h : List Nat) : List UInt8 := (h.map fun x => W.be x 4).flatten
/-- The sum of a text. -/
def sumL (l : List UInt8) : List UInt8 := bytes4 (hsn (W.str (wholeL l)) ((wholeL l).length / 64))

theorem small_HS : HS.length = 8 ∧ small HS := ⟨rfl, by unfold small; decide +kernel⟩
theorem small_KS : KS.length = 64 ∧ small KS := ⟨rfl, by unfold small; decide +kernel⟩
theorem addL_ok (h v : List Nat) (h1 : h.length = 8) (h2 : v.length = 8) : (addL h v).length = 8 ∧ small (addL h v) := by
  refine ⟨by simp [addL, h1, h2], ?_⟩
  intro x hx
  obtain ⟨i, hi, rfl⟩ := List.getElem_of_mem hx
  simp only [addL, List.getElem_zipWith]
  omega
theorem rds_ok : ∀ (ks ws l : List Nat), l.length = 8 → small l → (rds ks ws l).length = 8 ∧ small (rds ks ws l)
  | [], _, l, h, hs => ⟨h, hs⟩
  | _ :: _, [], l, h, hs => ⟨h, hs⟩
  | k :: ks, w :: ws, l, h, hs => by
    have := stp_ok k w l h hs
    exact rds_ok ks ws _ this.1 this.2
theorem hsn_ok (t : ByteArray) : ∀ k, (hsn t k).length = 8 ∧ small (hsn t k)
  | 0 => small_HS
  | k + 1 => by
    have h := hsn_ok t k
    exact addL_ok _ _ h.1 (rds_ok _ _ _ h.1 h.2).1
/-- The first j words summed. -/
def mixL (h v : List Nat) (j : Nat) : List Nat := (addL h v).take j ++ h.drop j
theorem mixL_len (h v : List Nat) (h1 : h.length = 8) (h2 : v.length = 8) (j : Nat) (hj : j ≤ 8) : (mixL h v j).length = 8 := by
  have := (addL_ok h v h1 h2).1
  unfold mixL; simp; omega
theorem mixL_0 (h v : List Nat) : mixL h v 0 = h := by simp [mixL]
theorem mixL_8 (h v : List Nat) (h1 : h.length = 8) (h2 : v.length = 8) : mixL h v 8 = addL h v := by
  have := (addL_ok h v h1 h2).1
  unfold mixL; rw [List.take_of_length_le (by omega), List.drop_of_length_le (by omega), List.append_nil]
theorem mixL_get (h v : List Nat) (h1 : h.length = 8) (h2 : v.length = 8) (j : Nat) (hj : j < 8) : (mixL h v j)[j]'(by rw [mixL_len h v h1 h2 j (by omega)]; exact hj) = h[j] := by
  have := (addL_ok h v h1 h2).1
  unfold mixL
  rw [List.getElem_append_right (by simp; omega)]
  simp
  congr 1
  omega
theorem mixL_set (h v : List Nat) (h1 : h.length = 8) (h2 : v.length = 8) (j : Nat) (hj : j < 8) : (mixL h v j).set j ((h[j] + v[j]) % 4294967296) = mixL h v (j + 1) := by
  have h3 := (addL_ok h v h1 h2).1
  unfold mixL
  rw [List.set_append_right _ _ (by simp; omega)]
  rw [show j - ((addL h v).take j).length = 0 by simp; omega]
  rw [List.drop_eq_getElem_cons (by omega), List.set_cons_zero]
  rw [List.take_succ_eq_append_getElem (by omega), List.append_assoc]
  simp [addL]
/-- The first words as bytes, then noughts. -/
def outL (h : List Nat) (j : Nat) : List UInt8 := bytes4 (h.take j) ++ List.replicate (32 - 4 * j) 0
theorem bytes4_len : ∀ h : List Nat, (bytes4 h).length = 4 * h.length
  | [] => rfl
  | x :: h => by
    have := bytes4_len h
    unfold bytes4 at this ⊢
    simp [W.be_length] at this ⊢; omega
theorem outL_len (h : List Nat) (h1 : h.length = 8) (j : Nat) (hj : j ≤ 8) : (outL h j).length = 32 := by
  unfold outL; rw [List.length_append, bytes4_len]; simp; omega
theorem outL_8 (h : List Nat) (h1 : h.length = 8) : outL h 8 = bytes4 h := by
  unfold outL; rw [List.take_of_length_le (by omega)]; simp
theorem sumL_len (l : List UInt8) : (sumL l).length = 32 := by
  unfold sumL; rw [bytes4_len, (hsn_ok _ _).1]
theorem run_index_u32 (V : List Nat) (q : Nat) (hq : q < V.length) (hV : V.length = 8) (w : World) : (Instr.index 82 (.agg (u32c V)) (.int .i64 (q : Int))).run Try.prog w = .ok (.int .u32 (V[q] : Int)) w := by
  obtain ⟨i, hi, hz, hsz, _⟩ := info_parts (show (Try.prog.info? 51).map (fun i => (i.zero, i.size, i.bytes)) = some (some (.int .u32 0), 1, 4) by kernel_rfl)
  have hg := u32c_get V q hq
  simp [Instr.index, run_underlying Try.underlying82, asIntOf, part, isAgg, run_underlying Try.underlying51, sizeOf, typeInfo, hi, hsz, hg]
  intro h8
  omega
end Go.Proofs.Ytfakkbjnapelfaa.Dg
