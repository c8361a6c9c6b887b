/- A turn of a spin, plainly.; Next: its loop's code, and its ways.; Next: a way of a pass.; Next: a way of a pass. -/
import Derived.Test.YtbnopmkfmggliaaL01
import Derived.ScopeJumps
set_option linter.unusedVariables false
set_option linter.unusedSimpArgs false
namespace Go.Proofs.Ytbnopmkfmggliaa
open Go.RowKit
open Fl

/-- The sum of the weights of all that are up, of the first k. -/
def tS (up : Nat → Bool) (u : Nat → Int) : Nat → Int
  | 0 => 0
  | k + 1 => if up k = true then tS up u k + u k else tS up u k
/-- What is in hand behind the first k. -/
def tH (up : Nat → Bool) (h u : Nat → Int) (k : Nat) : Nat → Int := fun i => if i < k ∧ up i = true then h i + u i else h i
/-- Who is chosen of the first k. -/
def tC (up : Nat → Bool) (h u : Nat → Int) : Nat → Option Nat
  | 0 => none
  | k + 1 => if up k = true then (match tC up h u k with
      | none => some k
      | some j => if h j + u j < h k + u k then some k else some j) else tC up h u k
theorem tC_lt {up : Nat → Bool} {h u : Nat → Int} : ∀ {k j : Nat}, tC up h u k = some j → j < k ∧ up j = true
  | 0, j, e => by cases e
  | k + 1, j, e => by
    unfold tC at e
    by_cases hu : up k = true
    · rw [if_pos hu] at e
      cases hc : tC up h u k with
      | none => rw [hc] at e; simp only [Option.some.injEq] at e; subst e; exact ⟨by omega, hu⟩
      | some i =>
        rw [hc] at e
        simp only at e
        by_cases hl : h i + u i < h k + u k
        · rw [if_pos hl] at e; simp only [Option.some.injEq] at e; subst e; exact ⟨by omega, hu⟩
        · rw [if_neg hl] at e; simp only [Option.some.injEq] at e; subst e; have := tC_lt hc; exact ⟨by omega, this.2⟩
    · rw [if_neg hu] at e
      have := tC_lt e; exact ⟨by omega, this.2⟩
theorem tS_bound {up : Nat → Bool} {u : Nat → Int} {n : Nat} (hu : ∀ i, i < n → 0 ≤ u i ∧ u i ≤ 100) : ∀ k, k ≤ n → 0 ≤ tS up u k ∧ tS up u k ≤ 100 * k
  | 0, _ => ⟨Int.le_refl _, by simp [tS]⟩
  | k + 1, hk => by
    have h1 := tS_bound (up := up) hu k (by omega)
    have h2 := hu k (by omega)
    unfold tS
    split <;> omega
theorem tH_zero (up : Nat → Bool) (h u : Nat → Int) : tH up h u 0 = h := by
  funext i
  unfold tH
  rw [if_neg (by omega)]
theorem tH_at (up : Nat → Bool) (h u : Nat → Int) (k : Nat) : tH up h u k k = h k := by
  unfold tH
  rw [if_neg (by omega)]
theorem tH_up {up : Nat → Bool} {h u : Nat → Int} {k : Nat} (hu : up k = true) : upd (tH up h u k) k (h k + u k) = tH up h u (k + 1) := by
  funext i
  unfold upd tH
  by_cases e : i = k
  · subst e; rw [if_pos rfl, if_pos ⟨by omega, hu⟩]
  · rw [if_neg e]
    by_cases h1 : i < k ∧ up i = true
    · rw [if_pos h1, if_pos ⟨by omega, h1.2⟩]
    · rw [if_neg h1, if_neg (fun h2 => h1 ⟨by omega, h2.2⟩)]
theorem tH_down {up : Nat → Bool} {h u : Nat → Int} {k : Nat} (hu : up k = false) : tH up h u (k + 1) = tH up h u k := by
  funext i
  unfold tH
  by_cases e : i = k
  · subst e; rw [if_neg (by rw [hu]; simp), if_neg (by omega)]
  · by_cases h1 : i < k ∧ up i = true
    · rw [if_pos h1, if_pos ⟨by omega, h1.2⟩]
    · rw [if_neg h1, if_neg (fun h2 => h1 ⟨by omega, h2.2⟩)]
theorem tH_chosen {up : Nat → Bool} {h u : Nat → Int} {k j : Nat} (hc : tC up h u k = some j) : ∀ m, k ≤ m → tH up h u m j = h j + u j := by
  intro m hm
  have := tC_lt hc
  unfold tH
  rw [if_pos ⟨by omega, this.2⟩]
theorem upd_self (u : Nat → Int) (k : Nat) : upd u k (u k) = u := by
  funext i
  unfold upd
  by_cases e : i = k
  · subst e; rw [if_pos rfl]
  · rw [if_neg e]
/-- In a number: whom a turn has chosen. -/
def cI : Option Nat → Int
  | none => -1
  | some j => (j : Int)
/-- The spin behind a turn. -/
def nH (up : Nat → Bool) (h u : Nat → Int) (n : Nat) : Nat → Int := match tC up h u n with
  | none => h
  | some j => upd (tH up h u n) j (h j + u j - tS up u n)
/-- Who was chosen, as it is told. -/
def cN : Option Nat → Int
  | none => 0
  | some j => (j : Int)
theorem tH_none {up : Nat → Bool} {h u : Nat → Int} : ∀ {k : Nat}, tC up h u k = none → tH up h u k = h
  | 0, _ => tH_zero up h u
  | k + 1, e => by
    unfold tC at e
    by_cases hu : up k = true
    · rw [if_pos hu] at e
      cases hc : tC up h u k with
      | none => rw [hc] at e; cases e
      | some i =>
        rw [hc] at e
        simp only at e
        split at e <;> cases e
    · rw [if_neg hu] at e
      rw [tH_down (by simpa using hu), tH_none e]
theorem holdI_id {a : Int} (h : In a) : holdI a = a := by unfold In at h; unfold holdI; rw [if_neg (by omega), if_neg (by omega)]
/-- Adding, where no end is met. -/
theorem add_in (a b c d : Int) (ha : In a) (hb : In b) (hc : In c) (hd : In d) (h1 : In (a + c)) (h2 : In (b + d)) (w : World) :
    Calls Try.prog 22 #[.complex .f64 (fb a) (fb b), .complex .f64 (fb c) (fb d)] w fun e w' => e = .returned (.complex .f64 (fb (a + c)) (fb (b + d))) ∧ w = w' := by
  have := add_any a b c d ha hb hc hd w
  rw [holdI_id h1, holdI_id h2] at this
  exact this
/-- A half turn turns the sign. -/
theorem half_any (a : Int) (ha : In a) (w : World) : Calls Try.prog 23 #[.complex .f64 (fb a) 0, .int .i64 2] w fun e w' => e = .returned (.complex .f64 (fb (-a)) 0) ∧ w = w' := by
  have := turn_any a 0 2 (by omega) ha (by unfold In; omega) w
  exact this
end Go.Proofs.Ytbnopmkfmggliaa

namespace Go.Proofs.Ytbnopmkfmggliaa
open Go.RowKit
open Fl

theorem st25 {w : World} {a : Addr} {x : Value} {p q : Nat} (hc : w.cell? a = some x) (hf : w.frozen? a = false) : (store a (.complex .f64 p q)).run Try.prog w = .ok () (w.setCell a (.complex .f64 p q)) := by
  refine (run_store Try.prog w a _ _ rfl).trans ?_
  rw [hc]
  simp [hf]
def scopeIn : Code → Option Code
  | .scope c => some c
  | .seq a b => match scopeIn a with
    | some c => some c
    | none => scopeIn b
  | .block _ c => scopeIn c
  | _ => none
noncomputable def labC : Code := (((Try.f12.body.bind scopeIn).bind fun c => findLabel c 0).getD .skip)
noncomputable def labT : Code := match labC with
  | .seq _ c => c
  | c => c
def fr (g2 g3 g4 : Nat) (v0 v1 s8 s9 s10 : Value) (t : Nat → Value) : Act := ⟨List.toArray [v0, v1, .pointer (some ⟨g2, 0, none⟩), .pointer (some ⟨g3, 0, none⟩), .pointer (some ⟨g4, 0, none⟩), .int .i64 0, .bool false, .func (.func 20) #[] #[.pointer (some ⟨g3, 0, none⟩)], s8, s9, s10, t 11, t 12, t 13, t 14, t 15, t 16, t 17, t 18, t 19, t 20, t 21, t 22, t 23, t 24, t 25, t 26, t 27, t 28, t 29, t 30, t 31, t 32, t 33, t 34, t 35, t 36, t 37, t 38, t 39, t 40, t 41, t 42, t 43, t 44, t 45, t 46, t 47, t 48, t 49, t 50, t 51, t 52, t 53, t 54, t 55, t 56, t 57, t 58, t 59, t 60, t 61, t 62, t 63, t 64, t 65, t 66, t 67, t 68, t 69, t 70], []⟩
section
variable {g2 g3 g4 : Nat} {v0 v1 : Value} {wr : World} {t : Nat → Value} {J : Act → World → Prop} {Q0 : Exit → Act → World → Prop} {n k j x p q x2 p2 p3 q3 c : Nat}

set_option maxRecDepth 1000000 in
theorem way_down {s8 : Value} {c : Int} (hk : k < n) (hn : n ≤ 8) (c8 : wr.cell? ⟨g2, 8, none⟩ = some (.int .i64 (n : Int)))
    (K20 : Hid (Calls Try.prog 20 #[.int .i64 (k : Int), .pointer (some ⟨g3, 0, none⟩)] wr fun e w' => e = .returned (.bool false) ∧ wr = w'))
    (hJ : ∀ a' : Act, a' = fr g2 g3 g4 v0 v1 s8 (.int .i64 ((k : Int) + 1)) (.int .i64 c) (fun i => a'.tmps.getD i undef) → J a' wr) :
    Code.wp Try.prog labT (Exit.jump 0 J Q0) (fr g2 g3 g4 v0 v1 s8 (.int .i64 (k : Int)) (.int .i64 c) t) wr := by
  have H := Lib.hid hJ
  clear hJ
  conv => arg 2; whnf
  unfold fr
  have i1 : (k : Int) < (n : Int) := by omega
  go_wp2_with ((go_at_call 20; ((with_reducible refine (K20.out).mono ?_); rintro e w1 ⟨rfl, rfl⟩)))
  go_step3
  exact ⟨rfl, H.out _ rfl⟩
end
end Go.Proofs.Ytbnopmkfmggliaa

namespace Go.Proofs.Ytbnopmkfmggliaa
open Go.RowKit
open Fl

section
variable {g2 g3 g4 : Nat} {v0 v1 : Value} {wr : World} {t : Nat → Value} {J : Act → World → Prop} {Q0 : Exit → Act → World → Prop} {n k j x p q x2 p2 p3 q3 c : Nat}

set_option maxRecDepth 1000000 in
set_option maxHeartbeats 4000000 in
theorem way_none (hk : k < n) (hn : n ≤ 8) (c8 : wr.cell? ⟨g2, 8, none⟩ = some (.int .i64 (n : Int))) (ck : wr.cell? ⟨g2, k, none⟩ = some (.complex .f64 p q)) (fk : wr.frozen? ⟨g2, k, none⟩ = false)
    (K20 : Hid (Calls Try.prog 20 #[.int .i64 (k : Int), .pointer (some ⟨g3, 0, none⟩)] wr fun e w' => e = .returned (.bool true) ∧ wr = w'))
    (KA : Hid (∀ w, Calls Try.prog 22 #[.complex .f64 x 0, .complex .f64 q 0] w fun e w' => e = .returned (.complex .f64 x2 0) ∧ w = w')) (KB : Hid (∀ w, Calls Try.prog 22 #[.complex .f64 p q, .complex .f64 q 0] w fun e w' => e = .returned (.complex .f64 p2 q) ∧ w = w'))
    (hJ : ∀ a' : Act, a' = fr g2 g3 g4 v0 v1 (.complex .f64 x2 0) (.int .i64 ((k : Int) + 1)) (.int .i64 (k : Int)) (fun i => a'.tmps.getD i undef) → ∀ m : Nat, J a' ((wr.setCell ⟨g2, k, none⟩ (.complex .f64 p2 q)).drewN m)) :
    Code.wp Try.prog labT (Exit.jump 0 J Q0) (fr g2 g3 g4 v0 v1 (.complex .f64 x 0) (.int .i64 (k : Int)) (.int .i64 (-1)) t) wr := by
  have H := Lib.hid hJ
  clear hJ
  conv => arg 2; whnf
  unfold fr
  have i1 : (k : Int) < (n : Int) := by omega
  have i2 : (k : Int) < 8 := by omega
  have hst := st25 (p := p2) (q := q) ck fk
  go_upto_region 8 with (first
    | (go_at_call 20; ((with_reducible refine (K20.out).mono ?_); rintro e w1 ⟨rfl, rfl⟩))
    | (go_at_call 22; ((with_reducible refine (KA.out _).mono ?_); rintro e w1 ⟨rfl, rfl⟩)))
  go_upto_region 9 with (first
    | (go_at_call 22; ((with_reducible refine (KB.out _).mono ?_); rintro e w1 ⟨rfl, rfl⟩)))
  clear ck c8 fk hst
  skip
  generalize wr.setCell ⟨g2, k, none⟩ (.complex .f64 p2 q) = w2 at *
  go_quiet ((fail))
  go_wp2
  go_step3
  exact ⟨rfl, H.out _ rfl _⟩
end
end Go.Proofs.Ytbnopmkfmggliaa

namespace Go.Proofs.Ytbnopmkfmggliaa
open Go.RowKit
open Fl

section
variable {g2 g3 g4 : Nat} {v0 v1 : Value} {wr : World} {t : Nat → Value} {J : Act → World → Prop} {Q0 : Exit → Act → World → Prop} {n k j x p q x2 p2 p3 q3 c : Nat}

set_option maxRecDepth 1000000 in
set_option maxHeartbeats 4000000 in
theorem way_gt (hk : k < n) (hn : n ≤ 8) (c8 : wr.cell? ⟨g2, 8, none⟩ = some (.int .i64 (n : Int))) (ck : wr.cell? ⟨g2, k, none⟩ = some (.complex .f64 p q)) (fk : wr.frozen? ⟨g2, k, none⟩ = false)
    (K20 : Hid (Calls Try.prog 20 #[.int .i64 (k : Int), .pointer (some ⟨g3, 0, none⟩)] wr fun e w' => e = .returned (.bool true) ∧ wr = w'))
    (KA : Hid (∀ w, Calls Try.prog 22 #[.complex .f64 x 0, .complex .f64 q 0] w fun e w' => e = .returned (.complex .f64 x2 0) ∧ w = w')) (KB : Hid (∀ w, Calls Try.prog 22 #[.complex .f64 p q, .complex .f64 q 0] w fun e w' => e = .returned (.complex .f64 p2 q) ∧ w = w')) (hj : j < 8) (ck2' : (wr.setCell ⟨g2, k, none⟩ (.complex .f64 p2 q)).cell? ⟨g2, k, none⟩ = some (.complex .f64 p2 q)) (cj2' : (wr.setCell ⟨g2, k, none⟩ (.complex .f64 p2 q)).cell? ⟨g2, j, none⟩ = some (.complex .f64 p3 q3)) (hor : FloatKind.f64.format.order p2 p3 = some .gt)
    (hJ : ∀ a' : Act, a' = fr g2 g3 g4 v0 v1 (.complex .f64 x2 0) (.int .i64 ((k : Int) + 1)) (.int .i64 (k : Int)) (fun i => a'.tmps.getD i undef) → ∀ m : Nat, J a' ((wr.setCell ⟨g2, k, none⟩ (.complex .f64 p2 q)).drewN m)) :
    Code.wp Try.prog labT (Exit.jump 0 J Q0) (fr g2 g3 g4 v0 v1 (.complex .f64 x 0) (.int .i64 (k : Int)) (.int .i64 (j : Int)) t) wr := by
  have H := Lib.hid hJ
  clear hJ
  conv => arg 2; whnf
  unfold fr
  have i1 : (k : Int) < (n : Int) := by omega
  have i2 : (k : Int) < 8 := by omega
  have i3 : (j : Int) < 8 := by omega
  have hst := st25 (p := p2) (q := q) ck fk
  go_upto_region 8 with (first
    | (go_at_call 20; ((with_reducible refine (K20.out).mono ?_); rintro e w1 ⟨rfl, rfl⟩))
    | (go_at_call 22; ((with_reducible refine (KA.out _).mono ?_); rintro e w1 ⟨rfl, rfl⟩)))
  go_upto_region 9 with (first
    | (go_at_call 22; ((with_reducible refine (KB.out _).mono ?_); rintro e w1 ⟨rfl, rfl⟩)))
  clear ck c8 fk hst
  have ck2 := ck2'
  have cj2 := cj2'
  clear ck2' cj2'

  generalize wr.setCell ⟨g2, k, none⟩ (.complex .f64 p2 q) = w2 at *
  go_quiet ((fail))
  go_wp2
  go_step3
  exact ⟨rfl, H.out _ rfl _⟩
end
end Go.Proofs.Ytbnopmkfmggliaa
