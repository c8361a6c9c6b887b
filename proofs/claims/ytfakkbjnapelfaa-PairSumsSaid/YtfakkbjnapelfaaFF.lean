/- Walk of pair.Sum, and of the law PairTurns. -/
import Derived.Test.YtfakkbjnapelfaaFE
namespace Go.Proofs.Ytfakkbjnapelfaa
open Go.RowKit
open Fl

def accA : List (Int × Int) → Int → Int
  | [], s => s
  | p :: l, s => accA l (holdI (s + p.1))
def accB : List (Int × Int) → Int → Int
  | [], s => s
  | p :: l, s => accB l (holdI (s + p.2))

theorem psum_any (l : List (Int × Int)) (hl : ∀ p ∈ l, In p.1 ∧ In p.2) (hn : l.length ≤ 50) (at0 : Option Addr) (n cap g : Nat) (hlen : n = l.length) (w : World)
    (hat : 0 < l.length → at0 = some ⟨g, 0, none⟩) (hc : ∀ k (h : k < l.length), w.cell? ⟨g, k, none⟩ = some (cplx l[k].1 l[k].2)) :
    Calls Try.prog 11 #[.slice at0 n cap] w fun e w' => e = .returned (cplx (accA l 0) (accB l 0)) ∧ w = w' := by
  subst hlen
  obtain ⟨A, hA⟩ : ∃ A, accA l 0 = A := ⟨_, rfl⟩
  obtain ⟨B, hB⟩ : ∃ B, accB l 0 = B := ⟨_, rfl⟩
  rw [hA, hB]
  have HA := Lib.hid hA
  have HB := Lib.hid hB
  have HC := Lib.hid hc
  have HAT := Lib.hid hat
  have HL := Lib.hid hl
  clear hA hB hc hat hl
  have z0 : fb 0 = 0 := rfl
  go_enter Try.func11, Try.ntmps11
  go_wp2
  go_loop [3, 8] (fun z i => ∃ (k : Nat) (s t : Int), k ≤ l.length ∧ i = .int .i64 k ∧ z = .complex .f64 (fb s) (fb t) ∧ In s ∧ In t ∧ Hid (accA (l.drop k) s = A) ∧ Hid (accB (l.drop k) t = B)) (fun _ i => l.length - (intOf i).toNat)
  case atStart => exact ⟨0, 0, 0, by omega, rfl, rfl, by unfold In; omega, by unfold In; omega, HA, HB⟩
  case round =>
    obtain ⟨k, s, t, hk, rfl, rfl, hs, ht, hA, hB⟩ := hrel
    by_cases hlt : k < l.length
    · have hcell := HC.out k hlt
      obtain rfl := HAT.out (by omega)
      have hin := HL.out l[k] (List.getElem_mem hlt)
      have KA := Lib.hid (add_any s t l[k].1 l[k].2 hs ht hin.1 hin.2)
      have hd := List.drop_eq_getElem_cons hlt
      have HA2 : Hid (accA (l.drop (k + 1)) (holdI (s + l[k].1)) = A) := Lib.hid (by have := hA.out; rw [hd] at this; exact this)
      have HB2 : Hid (accB (l.drop (k + 1)) (holdI (t + l[k].2)) = B) := Lib.hid (by have := hB.out; rw [hd] at this; exact this)
      have HIN := Lib.hid (And.intro (holdI_in (s + l[k].1)) (holdI_in (t + l[k].2)))
      clear hin hd hA hB hs ht
      unfold cplx at hcell KA
      generalize l[k].1 = x at *
      generalize l[k].2 = y at *
      generalize holdI (s + x) = s2 at *
      generalize holdI (t + y) = t2 at *
      go_wp2_with ((go_at_call 14; ((with_reducible refine (KA.out _).mono ?_); rintro e w1 ⟨rfl, rfl⟩)))
      go_round
      case rel => exact ⟨k + 1, s2, t2, by omega, by go_num, rfl, HIN.out.1, HIN.out.2, HA2, HB2⟩
      case measure => simp [intOf]; omega
    · have e : l.drop k = [] := List.drop_of_length_le (by omega)
      have eA := hA.out
      have eB := hB.out
      rw [e] at eA eB
      have EA := Lib.hid eA
      have EB := Lib.hid eB
      clear eA eB e hA hB
      go_wp2
      go_ret
      rw [← EA.out, ← EB.out]
      exact ⟨rfl, rfl⟩
end Go.Proofs.Ytfakkbjnapelfaa
