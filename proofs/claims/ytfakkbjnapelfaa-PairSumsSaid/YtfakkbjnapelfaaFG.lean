/- Walk of the law PairTurns. -/
import Derived.Test.YtfakkbjnapelfaaFF
namespace Go.Proofs.Ytfakkbjnapelfaa
open Go.RowKit
open Fl

theorem rot_add (p q : Nat) (a b : Int) : rotA (q % 4) (rotA (p % 4) a b) (rotB (p % 4) a b) = rotA ((p + q) % 4) a b ∧ rotB (q % 4) (rotA (p % 4) a b) (rotB (p % 4) a b) = rotB ((p + q) % 4) a b := by
  rw [Nat.add_mod]
  have h1 : p % 4 < 4 := Nat.mod_lt _ (by omega)
  have h2 : q % 4 < 4 := Nat.mod_lt _ (by omega)
  generalize p % 4 = x at *
  generalize q % 4 = y at *
  obtain rfl | rfl | rfl | rfl : x = 0 ∨ x = 1 ∨ x = 2 ∨ x = 3 := by omega
  all_goals
    obtain rfl | rfl | rfl | rfl : y = 0 ∨ y = 1 ∨ y = 2 ∨ y = 3 := by omega
    all_goals simp [rotA, rotB]
theorem rot_in (k : Nat) : ∀ (a b : Int), In a → In b → In (rotA k a b) ∧ In (rotB k a b) := by
  induction k with
  | zero => exact fun a b ha hb => ⟨ha, hb⟩
  | succ k ih => exact fun a b ha hb => ih (-b) a hb.neg ha
theorem holdI_id {n : Int} (h : In n) : holdI n = n := by
  unfold In at h; unfold holdI; rw [if_neg (by omega), if_neg (by omega)]
theorem cmp2_anti (a b c d : Int) : cmp2 c d a b = -cmp2 a b c d := by
  unfold cmp2 orI cmpI
  repeat' split
  all_goals omega
theorem cmp2_range (a b c d : Int) : cmp2 a b c d = -1 ∨ cmp2 a b c d = 0 ∨ cmp2 a b c d = 1 := by
  unfold cmp2 orI cmpI
  repeat' split
  all_goals omega
theorem order_self (a : Int) (h : In a) : FloatKind.f64.format.order (fb a) (fb a) = some .eq := by rw [order_lits a a h.small3 h.small3, cmp_eq]

/-- z times i. -/
theorem run_mul_i (a b : Int) (ha : In a) (hb : In b) : ∃ re im : Nat, (∀ w, (binOp .mul 26 (.complex .f64 (fb a) (fb b)) (.complex .f64 0 4607182418800017408)).run Try.prog w = .ok (.complex .f64 re im) w) ∧
    FloatKind.f64.format.order (fb (-b)) re = some .eq ∧ FloatKind.f64.format.order (fb a) im = some .eq := by
  have e53 : (2 : Nat) ^ 53 = 9007199254740992 := rfl
  have va := val_fb a ha.small3
  have vb := val_fb b hb.small3
  have v0 : Val 0 0 := val_fb 0 (by decide)
  have v1 : Val 4607182418800017408 1 := by
    have := val_fb 1 (by decide)
    rw [show fb 1 = 4607182418800017408 by decide +kernel] at this
    exact this
  unfold In at ha hb
  obtain ⟨ac, h1, u1⟩ := mul_val va v0 (by rw [e53]; omega)
  obtain ⟨bd, h2, u2⟩ := mul_val vb v1 (by rw [e53]; omega)
  rw [Int.mul_zero] at u1
  rw [Int.mul_one] at u2
  obtain ⟨re, h3, u3⟩ := sub_val u1 u2 (by rw [e53]; omega)
  obtain ⟨ad, h4, u4⟩ := mul_val va v1 (by rw [e53]; omega)
  obtain ⟨bc, h5, u5⟩ := mul_val vb v0 (by rw [e53]; omega)
  rw [Int.mul_one] at u4
  rw [Int.mul_zero] at u5
  obtain ⟨im, h6, u6⟩ := add_val u4 u5 (by rw [e53]; omega)
  rw [Int.zero_sub] at u3
  rw [Int.add_zero] at u6
  refine ⟨re, im, fun w => run_complex_mul w 26 _ _ _ _ _ _ ?_, ?_, ?_⟩
  · unfold cMulBits
    rw [show floatBits .mul .f64 (fb a) 0 = some ac from h1, show floatBits .mul .f64 (fb b) 4607182418800017408 = some bd from h2]
    show (floatBits .sub .f64 ac bd).bind _ = _
    rw [show floatBits .sub .f64 ac bd = some re from h3]
    show (floatBits .mul .f64 (fb a) 4607182418800017408).bind _ = _
    rw [show floatBits .mul .f64 (fb a) 4607182418800017408 = some ad from h4]
    show (floatBits .mul .f64 (fb b) 0).bind _ = _
    rw [show floatBits .mul .f64 (fb b) 0 = some bc from h5]
    show (floatBits .add .f64 ad bc).bind _ = _
    rw [show floatBits .add .f64 ad bc = some im from h6]
    rfl
  · show Ieee.double.order _ _ = _
    rw [order_val (val_fb (-b) (by rw [e53]; omega)) u3, cmp_eq]
  · show Ieee.double.order _ _ = _
    rw [order_val va u6, cmp_eq]

theorem wf32 {a : Int} (h : (Lit.int .i32 a).wf = true) : -2147483648 ≤ a ∧ a ≤ 2147483647 := by
  simp [Lit.wf, IntKind.min, IntKind.max, IntKind.signed, IntKind.bits] at h
  omega
theorem wf8 {a : Int} (h : (Lit.int .u8 a).wf = true) : ∃ p : Nat, a = (p : Int) ∧ p < 256 := by
  simp [Lit.wf, IntKind.min, IntKind.max, IntKind.signed, IntKind.bits] at h
  exact ⟨a.toNat, by omega, by omega⟩

set_option maxRecDepth 1000000 in
set_option maxHeartbeats 4000000 in
theorem turns_walk (a b c d : Int) (p q : Nat) (ha1 : -2147483648 ≤ a) (ha2 : a ≤ 2147483647) (hb1 : -2147483648 ≤ b) (hb2 : b ≤ 2147483647) (hc1 : -2147483648 ≤ c) (hc2 : c ≤ 2147483647) (hd1 : -2147483648 ≤ d) (hd2 : d ≤ 2147483647) (hp : p < 256) (hq : q < 256) (w : World) :
    Calls Try.prog 4 #[.int .i32 a, .int .i32 b, .int .i32 c, .int .i32 d, .int .u8 (p : Int), .int .u8 (q : Int)] w fun e w' => e = .returned (.bool true) ∧ Below w.heap.size w w' := by
  have ia : In a := by unfold In; omega
  have ib : In b := by unfold In; omega
  have ic : In c := by unfold In; omega
  have id : In d := by unfold In; omega
  have is1 : In (a + c) := by unfold In; omega
  have is2 : In (b + d) := by unfold In; omega
  have K0 := Lib.hid awake_any
  have KO1 := Lib.hid (of_any a b ia ib)
  have KO2 := Lib.hid (of_any c d ic id)
  have KT1 : Hid (∀ w, Calls Try.prog 12 #[cplx a b, .int .i64 1] w fun e w' => e = .returned (cplx (-b) a) ∧ w = w') := Lib.hid (turn_any a b 1 (by omega) ia ib)
  have KT2 : Hid (∀ w, Calls Try.prog 12 #[cplx a b, .int .i64 2] w fun e w' => e = .returned (cplx (-a) (-b)) ∧ w = w') := Lib.hid (turn_any a b 2 (by omega) ia ib)
  have KT3 : Hid (∀ w, Calls Try.prog 12 #[cplx a (-b), .int .i64 3] w fun e w' => e = .returned (cplx (-b) (-a)) ∧ w = w') := Lib.hid (by
    have := turn_any a (-b) 3 (by omega) ia ib.neg
    simp only [rotA, rotB, Int.neg_neg] at this
    exact this)
  have KTp := turn_any a b p (by omega) ia ib
  have KTpq : ∀ w, Calls Try.prog 12 #[cplx a b, .int .i64 ((p : Int) + (q : Int))] w fun e w' => e = .returned (cplx (rotA ((p + q) % 4) a b) (rotB ((p + q) % 4) a b)) ∧ w = w' := by
    have := turn_any a b (p + q) (by omega) ia ib
    rw [Int.natCast_add] at this
    exact this
  obtain ⟨ip1, ip2⟩ := rot_in (p % 4) a b ia ib
  have KTq := turn_any (rotA (p % 4) a b) (rotB (p % 4) a b) q (by omega) ip1 ip2
  obtain ⟨er1, er2⟩ := rot_add p q a b
  rw [er1, er2] at KTq
  obtain ⟨iq1, iq2⟩ := rot_in ((p + q) % 4) a b ia ib
  have KM1 : Hid (∀ w, Calls Try.prog 13 #[cplx (-b) a] w fun e w' => e = .returned (cplx (-b) (-a)) ∧ w = w') := Lib.hid (mirror_any (-b) a ib.neg ia)
  have KM2 := Lib.hid (mirror_any a b ia ib)
  have KA1 := add_any a b c d ia ib ic id
  have KA2 := add_any c d a b ic id ia ib
  rw [holdI_id is1, holdI_id is2] at KA1
  rw [Int.add_comm c a, Int.add_comm d b, holdI_id is1, holdI_id is2] at KA2
  have hsum := run_sum a b c d ia ib ic id
  have KS : Hid (∀ w1 : World, Calls Try.prog 11 #[.slice (some ⟨w1.heap.size, 0, none⟩) 3 3] (w1.alloc (.cells #[cplx a b, cplx c d, cplx (-a) (-b)] 26)) fun e w' => e = .returned (cplx c d) ∧ w1.alloc (.cells #[cplx a b, cplx c d, cplx (-a) (-b)] 26) = w') := Lib.hid (fun w1 => by
    have := psum_any [(a, b), (c, d), (-a, -b)] (by simp; exact ⟨⟨ia, ib⟩, ⟨ic, id⟩, ⟨ia.neg, ib.neg⟩⟩) (by simp) (some ⟨w1.heap.size, 0, none⟩) 3 3 w1.heap.size rfl (w1.alloc (.cells #[cplx a b, cplx c d, cplx (-a) (-b)] 26)) (fun _ => rfl) (fun k h => by
      have h3 : k < 3 := h
      obtain rfl | rfl | rfl : k = 0 ∨ k = 1 ∨ k = 2 := by omega
      all_goals (rw [World.cell?_alloc_new]; rfl))
    have eA : accA [(a, b), (c, d), (-a, -b)] 0 = c := by
      unfold accA accA accA accA
      dsimp only
      rw [Int.zero_add, holdI_id ia, holdI_id is1, holdI_id (by unfold In at *; omega)]; omega
    have eB : accB [(a, b), (c, d), (-a, -b)] 0 = d := by
      unfold accB accB accB accB
      dsimp only
      rw [Int.zero_add, holdI_id ib, holdI_id is2, holdI_id (by unfold In at *; omega)]; omega
    rw [eA, eB] at this
    exact this)
  have KC1 := cmp_any a b c d ia ib ic id
  have KC2 := cmp_any c d a b ic id ia ib
  have hr := cmp2_range a b c d
  rw [cmp2_anti a b c d] at KC2
  obtain ⟨re, im, hmul, ho1, ho2⟩ := run_mul_i a b ia ib
  have o1 := order_self _ iq1
  have o2 := order_self _ iq2
  have o3 := order_self _ ib.neg
  have o4 := order_self _ ia.neg
  have o5 := order_self _ is1
  have o6 := order_self _ is2
  have o7 := order_self _ ic
  have o8 := order_self _ id
  generalize rotA ((p + q) % 4) a b = qa at *
  generalize rotB ((p + q) % 4) a b = qb at *
  generalize rotA (p % 4) a b = pa at *
  generalize rotB (p % 4) a b = pb at *
  generalize cmp2 a b c d = R at *
  clear ia ib ic id is1 is2 ip1 ip2 iq1 iq2 er1 er2
  unfold cplx at *
  generalize fb (a + c) = f1 at *
  generalize fb (b + d) = f2 at *
  generalize fb (-a) = f3 at *
  generalize fb (-b) = f4 at *
  generalize fb a = f5 at *
  generalize fb b = f6 at *
  generalize fb c = f7 at *
  generalize fb d = f8 at *
  generalize fb pa = f9 at *
  generalize fb pb = f10 at *
  generalize fb qa = f11 at *
  generalize fb qb = f12 at *
  replace KTp := Lib.hid KTp
  replace KTq := Lib.hid KTq
  replace KTpq := Lib.hid KTpq
  replace KA1 := Lib.hid KA1
  replace KA2 := Lib.hid KA2
  replace KC1 := Lib.hid KC1
  replace KC2 := Lib.hid KC2
  have hp0 : (0 : Int) ≤ p := by omega
  have hp1 : (p : Int) < 256 := by omega
  have hq0 : (0 : Int) ≤ q := by omega
  have hq1 : (q : Int) < 256 := by omega
  have hr1 : -1 ≤ R := by omega
  have hr2 : R ≤ 1 := by omega
  clear hr
  go_enter Try.func4, Try.ntmps4
  go_wp2_with (first
    | (go_at_call 7; ((with_reducible refine (K0.out _).mono ?_); rintro e w1 ⟨rfl, rfl⟩))
    | (go_at_call 8; ((with_reducible refine (KO1.out _).mono ?_); rintro e w1 ⟨rfl, rfl⟩))
    | (go_at_call 8; ((with_reducible refine (KO2.out _).mono ?_); rintro e w1 ⟨rfl, rfl⟩))
    | (go_at_call 12; ((with_reducible refine (KT1.out _).mono ?_); rintro e w1 ⟨rfl, rfl⟩))
    | (go_at_call 12; ((with_reducible refine (KT2.out _).mono ?_); rintro e w1 ⟨rfl, rfl⟩))
    | (go_at_call 12; ((with_reducible refine (KT3.out _).mono ?_); rintro e w1 ⟨rfl, rfl⟩))
    | (go_at_call 12; ((with_reducible refine (KTp.out _).mono ?_); rintro e w1 ⟨rfl, rfl⟩))
    | (go_at_call 12; ((with_reducible refine (KTq.out _).mono ?_); rintro e w1 ⟨rfl, rfl⟩))
    | (go_at_call 12; ((with_reducible refine (KTpq.out _).mono ?_); rintro e w1 ⟨rfl, rfl⟩))
    | (go_at_call 13; ((with_reducible refine (KM1.out _).mono ?_); rintro e w1 ⟨rfl, rfl⟩))
    | (go_at_call 13; ((with_reducible refine (KM2.out _).mono ?_); rintro e w1 ⟨rfl, rfl⟩))
    | (go_at_call 14; ((with_reducible refine (KA1.out _).mono ?_); rintro e w1 ⟨rfl, rfl⟩))
    | (go_at_call 14; ((with_reducible refine (KA2.out _).mono ?_); rintro e w1 ⟨rfl, rfl⟩))
    | (go_at_call 11; ((with_reducible refine (KS.out _).mono ?_); rintro e w1 ⟨rfl, rfl⟩))
    | (go_at_call 15; ((with_reducible refine (KC1.out _).mono ?_); rintro e w2 ⟨rfl, hb2⟩))
    | (go_at_call 15; ((with_reducible refine (KC2.out _).mono ?_); rintro e w3 ⟨rfl, hb3⟩)))
  go_ret
  refine ⟨rfl, ?_⟩
  have B2 := ((Below.refl w.heap.size w).alloc (Nat.le_refl _) _).trans (hb2.mono (by simp))
  exact B2.trans (hb3.mono B2.size)
end Go.Proofs.Ytfakkbjnapelfaa
