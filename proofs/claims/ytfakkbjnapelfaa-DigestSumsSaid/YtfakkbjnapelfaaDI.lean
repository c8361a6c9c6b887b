/- Walk of digest.turned. -/
import Derived.Test.YtfakkbjnapelfaaDH
namespace Go.Proofs.Ytfakkbjnapelfaa.Dg
open Go.RowKit

/-- The exclusive or of turns. -/
def xrs (x : Nat) : List Nat → Nat → Nat
  | [], a => a
  | b :: l, a => xrs x l (a ^^^ ror x b)
theorem xor_nat (a b : Nat) (ha : a < 4294967296) (hb : b < 4294967296) : bits BinOp.xor IntKind.u32 (a : Int) (b : Int) = ((a ^^^ b : Nat) : Int) ∧ a ^^^ b < 4294967296 :=
  ⟨u32_xor_nat a b ha hb, Nat.xor_lt_two_pow (n := 32) ha hb⟩
theorem ror_lt (x n : Nat) (hx : x < 4294967296) : ror x n < 4294967296 := (ror_or x n hx).2.2

theorem turned_any (x : Nat) (hx : x < 4294967296) (l : List Nat) (hl : ∀ b ∈ l, 1 ≤ b ∧ b ≤ 31) (hn : l.length ≤ 8) (g m cap : Nat) (hm : m = l.length) (w : World)
    (hc : ∀ k (h : k < l.length), w.cell? ⟨g, k, none⟩ = some (.int .i64 (l[k] : Int))) :
    Calls Try.prog 59 #[.int .u32 (x : Int), .slice (some ⟨g, 0, none⟩) m cap] w fun e w' => e = .returned (.int .u32 (xrs x l 0 : Nat)) ∧ w = w' := by
  subst hm
  obtain ⟨R, hR⟩ : ∃ R, xrs x l 0 = R := ⟨_, rfl⟩
  rw [hR]
  have HR := Lib.hid hR
  have HC := Lib.hid hc
  have HL := Lib.hid hl
  have HX := Lib.hid hx
  clear hR hc hl hx
  go_enter Try.func59, Try.ntmps59
  go_wp2
  go_loop [5, 10] (fun n i => ∃ (k a : Nat), k ≤ l.length ∧ i = .int .i64 k ∧ n = .int .u32 (a : Int) ∧ Hid (a < 4294967296) ∧ Hid (xrs x (l.drop k) a = R)) (fun _ i => l.length - (intOf i).toNat)
  case atStart => exact ⟨0, 0, by omega, rfl, rfl, Lib.hid (by omega), HR⟩
  case round =>
    obtain ⟨k, a, hk, rfl, rfl, ha, hD⟩ := hrel
    by_cases hlt : k < l.length
    · have hcell := HC.out k hlt
      have hin := HL.out l[k] (List.getElem_mem hlt)
      have hd := hD.out
      rw [List.drop_eq_getElem_cons hlt] at hd
      have hd2 : xrs x (l.drop (k + 1)) (a ^^^ ror x l[k]) = R := hd
      have KR := Lib.hid (rol_any x l[k] HX.out hin.1 hin.2)
      obtain ⟨hx1, hx2⟩ := xor_nat a (ror x l[k]) ha.out (ror_lt x l[k] HX.out)
      have HD2 := Lib.hid hd2
      have HA2 := Lib.hid hx2
      obtain ⟨h1, h2⟩ := hin
      clear hd hd2 hx2 hD ha
      generalize l[k] = b at *
      generalize a ^^^ ror x b = a2 at *
      generalize ror x b = r at *
      go_wp2_with ((go_at_call 68; ((with_reducible refine (KR.out _).mono ?_); rintro e w1 ⟨rfl, rfl⟩)))
      go_round
      case rel => exact ⟨k + 1, a2, by omega, by go_num, rfl, HA2, HD2⟩
      case measure => simp [intOf]; omega
    · have hd := hD.out
      rw [List.drop_of_length_le (by omega)] at hd
      have HE : Hid (a = R) := Lib.hid hd
      clear hd hD
      go_wp2
      go_ret
      rw [← HE.out]
      exact ⟨rfl, rfl⟩
end Go.Proofs.Ytfakkbjnapelfaa.Dg
