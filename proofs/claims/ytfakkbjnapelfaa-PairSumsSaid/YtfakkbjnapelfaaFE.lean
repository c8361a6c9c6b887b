/- Contracts of pair.Cmp, pair.Norm at the example, awake, pair.Sum, and of the law's own 'is'. -/
import Derived.Test.YtfakkbjnapelfaaFD
namespace Go.Proofs.Ytfakkbjnapelfaa
open Go.RowKit
open Fl

def cmpI (a b : Int) : Int := if a < b then -1 else if b < a then 1 else 0

theorem nan_any (a : Int) (h : a.natAbs < 2 ^ 53) (w : World) :
    Calls Try.prog 52 #[.float .f64 (fb a)] w fun e w' => e = .returned (.bool false) ∧ w = w' := by
  have h1 : FloatKind.f64.format.order (fb a) (fb a) = some .eq := by rw [order_lits a a h h, cmp_eq]
  generalize fb a = x at *
  go_enter Try.func52, Try.ntmps52
  go_wp2
  go_ret
  exact ⟨rfl, rfl⟩
theorem compare_any (a b : Int) (ha : a.natAbs < 2 ^ 53) (hb : b.natAbs < 2 ^ 53) (w : World) :
    Calls Try.prog 34 #[.float .f64 (fb a), .float .f64 (fb b)] w fun e w' => e = .returned (.int .i64 (cmpI a b)) ∧ w = w' := by
  have KA := Lib.hid (nan_any a ha)
  have KB := Lib.hid (nan_any b hb)
  have h1 := order_lits a b ha hb
  unfold cmpI
  rcases Int.lt_trichotomy a b with g | g | g
  · rw [cmp_lt g] at h1
    rw [if_pos g]
    generalize fb a = x at *
    generalize fb b = y at *
    go_enter Try.func34, Try.ntmps34
    go_wp2_with (first
      | (go_at_call 52; ((with_reducible refine (KA.out _).mono ?_); rintro e w1 ⟨rfl, rfl⟩))
      | (go_at_call 52; ((with_reducible refine (KB.out _).mono ?_); rintro e w1 ⟨rfl, rfl⟩)))
    go_ret
    exact ⟨rfl, rfl⟩
  · subst g
    rw [cmp_eq] at h1
    rw [if_neg (by omega), if_neg (by omega)]
    generalize fb a = x at *
    go_enter Try.func34, Try.ntmps34
    go_wp2_with (first
      | (go_at_call 52; ((with_reducible refine (KA.out _).mono ?_); rintro e w1 ⟨rfl, rfl⟩)))
    go_ret
    exact ⟨rfl, rfl⟩
  · rw [cmp_gt g] at h1
    rw [if_neg (by omega), if_pos g]
    generalize fb a = x at *
    generalize fb b = y at *
    go_enter Try.func34, Try.ntmps34
    go_wp2_with (first
      | (go_at_call 52; ((with_reducible refine (KA.out _).mono ?_); rintro e w1 ⟨rfl, rfl⟩))
      | (go_at_call 52; ((with_reducible refine (KB.out _).mono ?_); rintro e w1 ⟨rfl, rfl⟩)))
    go_ret
    exact ⟨rfl, rfl⟩

def orI (x y : Int) : Int := if x = 0 then y else x
theorem or_any (x y : Int) (g : Nat) (w : World) (h0 : w.cell? ⟨g, 0, none⟩ = some (.int .i64 x)) (h1 : w.cell? ⟨g, 1, none⟩ = some (.int .i64 y)) :
    Calls Try.prog 33 #[.slice (some ⟨g, 0, none⟩) 2 2] w fun e w' => e = .returned (.int .i64 (orI x y)) ∧ w = w' := by
  obtain ⟨r, hr⟩ : ∃ r, orI x y = r := ⟨_, rfl⟩
  rw [hr]
  have HR := Lib.hid hr
  clear hr
  go_enter Try.func33, Try.ntmps33
  go_wp2
  go_loop [8] (fun i => ∃ k : Nat, k ≤ 2 ∧ i = .int .i64 k ∧ (1 ≤ k → x = 0) ∧ (2 ≤ k → y = 0)) (fun i => 2 - (intOf i).toNat)
  case atStart => exact ⟨0, by omega, rfl, fun h => absurd h (by omega), fun h => absurd h (by omega)⟩
  case round =>
    obtain ⟨k, hk, rfl, hx, hy⟩ := hrel
    obtain rfl | rfl | rfl : k = 0 ∨ k = 1 ∨ k = 2 := by omega
    · by_cases e : x = 0
      · subst e
        go_wp2
        go_round
        case rel => exact ⟨1, by omega, rfl, fun _ => trivial, fun h => absurd h (by omega)⟩
        case measure => simp [intOf]
      · have e' : ¬ (x = 0) := e
        clear hx hy
        go_wp2
        go_ret
        rw [← HR.out]; unfold orI; rw [if_neg e]
        exact ⟨rfl, rfl⟩
    · obtain rfl : x = 0 := hx (by omega)
      clear hx hy
      by_cases e : y = 0
      · subst e
        go_wp2
        go_round
        case rel => exact ⟨2, by omega, rfl, fun _ => trivial, fun _ => trivial⟩
        case measure => simp [intOf]
      · have e' : ¬ (y = 0) := e
        go_wp2
        go_ret
        rw [← HR.out]; unfold orI; rw [if_pos rfl]
        exact ⟨rfl, rfl⟩
    · obtain rfl : x = 0 := hx (by omega)
      obtain rfl : y = 0 := hy (by omega)
      clear hx hy
      go_wp2
      go_ret
      rw [← HR.out]
      exact ⟨rfl, rfl⟩

def cmp2 (a b c d : Int) : Int := orI (cmpI a c) (cmpI b d)
theorem cmp_any (a b c d : Int) (ha : In a) (hb : In b) (hc : In c) (hd : In d) (w : World) :
    Calls Try.prog 15 #[cplx a b, cplx c d] w fun e w' => e = .returned (.int .i64 (cmp2 a b c d)) ∧ Below w.heap.size w w' := by
  have KI := Lib.hid (is_any a b ha hb)
  have KJ := Lib.hid (is_any c d hc hd)
  have K1 := Lib.hid (compare_any a c ha.small3 hc.small3)
  have K2 := Lib.hid (compare_any b d hb.small3 hd.small3)
  unfold cmp2
  have K3 : Hid (Calls Try.prog 33 #[.slice (some ⟨w.heap.size, 0, none⟩) 2 2] (w.alloc (.cells #[.int .i64 (cmpI a c), .int .i64 (cmpI b d)] 3)) fun e w' => e = .returned (.int .i64 (orI (cmpI a c) (cmpI b d))) ∧ w.alloc (.cells #[.int .i64 (cmpI a c), .int .i64 (cmpI b d)] 3) = w') := Lib.hid (or_any _ _ _ _ (by rw [World.cell?_alloc_new]; rfl) (by rw [World.cell?_alloc_new]; rfl))
  clear ha hb hc hd
  generalize cmpI a c = p at *
  generalize cmpI b d = q at *
  generalize orI p q = r at *
  unfold cplx at *
  generalize fb a = x at *
  generalize fb b = y at *
  generalize fb c = z at *
  generalize fb d = u at *
  go_enter Try.func15, Try.ntmps15
  go_wp2_with (first
    | (go_at_call 29; ((with_reducible refine (KI.out _).mono ?_); rintro e w1 ⟨rfl, rfl⟩))
    | (go_at_call 29; ((with_reducible refine (KJ.out _).mono ?_); rintro e w1 ⟨rfl, rfl⟩))
    | (go_at_call 34; ((with_reducible refine (K1.out _).mono ?_); rintro e w1 ⟨rfl, rfl⟩))
    | (go_at_call 34; ((with_reducible refine (K2.out _).mono ?_); rintro e w1 ⟨rfl, rfl⟩))
    | (go_at_call 33; ((with_reducible refine (K3.out).mono ?_); rintro e w1 ⟨rfl, rfl⟩)))
  go_ret
  exact ⟨rfl, (Below.refl _ _).alloc (Nat.le_refl _) _⟩

theorem norm_example (w : World) :
    Calls Try.prog 27 #[cplx 3 4] w fun e w' => e = .returned (.float .f64 (fb 25)) ∧ w = w' := by
  have KI := Lib.hid (is_any 3 4 (by unfold In; omega) (by unfold In; omega))
  have h1 : ∀ w, (binOp .mul 57 (.float .f64 (fb 3)) (.float .f64 (fb 3))).run Try.prog w = .ok (.float .f64 (fb 9)) w := fun w => run_float_arith w .mul 57 .f64 _ _ _ (by decide +kernel)
  have h2 : ∀ w, (binOp .mul 57 (.float .f64 (fb 4)) (.float .f64 (fb 4))).run Try.prog w = .ok (.float .f64 (fb 16)) w := fun w => run_float_arith w .mul 57 .f64 _ _ _ (by decide +kernel)
  have h3 : ∀ w, (binOp .add 57 (.float .f64 (fb 9)) (.float .f64 (fb 16))).run Try.prog w = .ok (.float .f64 (fb 25)) w := fun w => run_float_arith w .add 57 .f64 _ _ _ (by decide +kernel)
  unfold cplx at *
  generalize fb 3 = a at *
  generalize fb 4 = b at *
  generalize fb 9 = c at *
  generalize fb 16 = d at *
  generalize fb 25 = f at *
  go_enter Try.func27, Try.ntmps27
  go_wp2_with ((go_at_call 29; ((with_reducible refine (KI.out _).mono ?_); rintro e w1 ⟨rfl, rfl⟩)))
  go_ret
  exact ⟨rfl, rfl⟩
theorem awake_any (w : World) : Calls Try.prog 7 #[] w fun e w' => e = .returned (.bool true) ∧ w = w' := by
  have KO := Lib.hid (of_any 3 4 (by unfold In; omega) (by unfold In; omega))
  have KT : Hid (∀ w, Calls Try.prog 12 #[cplx 3 4, .int .i64 1] w fun e w' => e = .returned (cplx (-4) 3) ∧ w = w') := Lib.hid (fun w => turn_any 3 4 1 (by omega) (by unfold In; omega) (by unfold In; omega) w)
  have KN := Lib.hid norm_example
  have h1 : FloatKind.f64.format.order (fb (-4)) 13839561654909534208 = some .eq := by decide +kernel
  have h2 : FloatKind.f64.format.order (fb 3) 4613937818241073152 = some .eq := by decide +kernel
  have h3 : FloatKind.f64.format.order (fb 25) 4627730092099895296 = some .eq := by decide +kernel
  unfold cplx at *
  generalize fb 3 = a at *
  generalize fb 4 = b at *
  generalize fb (-4) = c at *
  generalize fb 25 = f at *
  go_enter Try.func7, Try.ntmps7
  go_wp2_with (first
    | (go_at_call 8; ((with_reducible refine (KO.out _).mono ?_); rintro e w1 ⟨rfl, rfl⟩))
    | (go_at_call 12; ((with_reducible refine (KT.out _).mono ?_); rintro e w1 ⟨rfl, rfl⟩))
    | (go_at_call 27; ((with_reducible refine (KN.out _).mono ?_); rintro e w1 ⟨rfl, rfl⟩)))
  go_ret
  exact ⟨rfl, rfl⟩

theorem is_law (a b : Int) (ha : In a) (hb : In b) (w : World) :
    Calls Try.prog 10 #[cplx a b, .int .i64 a, .int .i64 b] w fun e w' => e = .returned (.bool true) ∧ w = w' := by
  have KP := Lib.hid (parts_any a b ha hb)
  have KI := Lib.hid (is_any a b ha hb)
  have KS := Lib.hid (sign_any a ha.small3)
  have h1 := run_of a
  have h2 := run_of b
  have h3 : FloatKind.f64.format.order (fb a) (fb a) = some .eq := by rw [order_lits a a ha.small3 ha.small3, cmp_eq]
  have h4 : FloatKind.f64.format.order (fb b) (fb b) = some .eq := by rw [order_lits b b hb.small3 hb.small3, cmp_eq]
  have h5 : ∀ w, (binOp .add 57 (.float .f64 (fb a)) (.float .f64 0)).run Try.prog w = .ok (.float .f64 (fb a)) w := fun w => by
    refine run_float_arith w .add 57 .f64 (fb a) 0 (fb a) ?_
    have := add_fb a 0 ha.small (by decide)
    rw [Int.add_zero, fb_zero] at this
    exact this
  obtain ⟨D, hD⟩ : ∃ D : Bool, decide (a < 0) = D := ⟨_, rfl⟩
  have h6 : decide (0 ≤ a) = !D := by
    rw [← hD]
    by_cases g : a < 0
    · rw [decide_eq_true g, decide_eq_false (by omega)]; rfl
    · rw [decide_eq_false g, decide_eq_true (by omega)]; rfl
  rw [hD] at KS
  clear hD ha hb
  unfold cplx at *
  generalize fb a = x at *
  generalize fb b = y at *
  cases D
  all_goals
    go_enter Try.func10, Try.ntmps10
    go_wp2_with (first
      | (go_at_call 28; ((with_reducible refine (KP.out _).mono ?_); rintro e w1 ⟨rfl, rfl⟩))
      | (go_at_call 29; ((with_reducible refine (KI.out _).mono ?_); rintro e w1 ⟨rfl, rfl⟩))
      | (go_at_call 30; ((with_reducible refine (KS.out _).mono ?_); rintro e w1 ⟨rfl, rfl⟩)))
    go_ret
    exact ⟨rfl, rfl⟩
end Go.Proofs.Ytfakkbjnapelfaa
