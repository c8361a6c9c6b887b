/- DERIVED: THE SHELF's CONTRACTS AT THIS DUMP, IN PLAIN WORDS (tools/lay-plain.mjs out of 'YtjkpopdjmmgbbabGreatShelfD.lean', which tools/lay-shelf.mjs wrote): THE SAME DECLARATIONS UNDER THE SAME NAMES: 'import', 'namespace', 'open', 'def', 'theorem' AND NOTHING ELSE: no command of the shelf's: FOR A HAND-IN. Each laying: the table of numbers ('.._ren') and one theorem, a field a fact of the dump's own or the kernel's comparison; each contract: ONE APPLICATION.; Walks of digest.high, digest.root, digest.divided, digest.primes.; Walks of digest.divided and digest.primes. -/
import Derived.Shelf.Strings.Builder1
import Derived.Shelf.Strings.Builder2
import Derived.Shelf.Strings.OnBuilder
import Derived.Shelf.Strings.BuilderF
import Derived.Shelf.Strings.Prefix
import Derived.Shelf.Bits.Mul64
import Derived.Test.YtjkpopdjmmgbbabGreatProg
import Derived.Test.YtjkpopdjmmgbbabGreatJ00
set_option linter.unusedVariables false
set_option linter.unusedSimpArgs false
namespace Go.Proofs
open Go.Shelf
def Tryz.lays156_ren : Go.Shelf.Ren := ⟨fun | 156 => 56 | 165 => 67 | 166 => 68 | 169 => 69 | 240 => 88 | 241 => 89 | 276 => 101 | 277 => 102 | n => n, fun | 31 => 30 | 9 => 9 | 3 => 3 | 4 => 4 | 0 => 0 | 20 => 20 | 72 => 109 | 76 => 113 | 70 => 107 | 37 => 51 | 75 => 112 | 127 => 91 | 164 => 148 | 5 => 5 | 80 => 36 | n => n, fun | n => n⟩
theorem Tryz.lays156 : Go.Proofs.Lays.n156 Tryz.prog Tryz.lays156_ren := {
  mixed := by kernel_rfl
  f156 := Tryz.func56.trans (congrArg some (by kernel_rfl))
  f165 := Tryz.func67.trans (congrArg some (by kernel_rfl))
  f166 := Tryz.func68.trans (congrArg some (by kernel_rfl))
  f169 := Tryz.func69.trans (congrArg some (by kernel_rfl))
  f240 := Tryz.func88.trans (congrArg some (by kernel_rfl))
  f241 := Tryz.func89.trans (congrArg some (by kernel_rfl))
  f276 := Tryz.func101.trans (congrArg some (by kernel_rfl))
  f277 := Tryz.func102.trans (congrArg some (by kernel_rfl))
  t0 := Tryz.underlying0
  a0 := Tryz.isAgg0
  z0 := Tryz.sizeOf0
  v0 := Tryz.zeroValue0
  t3 := Tryz.underlying3
  a3 := Tryz.isAgg3
  z3 := Tryz.sizeOf3
  v3 := Tryz.zeroValue3
  t4 := Tryz.underlying4
  a4 := Tryz.isAgg4
  z4 := Tryz.sizeOf4
  v4 := Tryz.zeroValue4
  t9 := Tryz.underlying9
  a9 := Tryz.isAgg9
  z9 := Tryz.sizeOf9
  v9 := Tryz.zeroValue9
  t20 := Tryz.underlying20
  a20 := Tryz.isAgg20
  z20 := Tryz.sizeOf20
  v20 := Tryz.zeroValue20
  t31 := Tryz.underlying30
  a31 := Tryz.isAgg30
  z31 := Tryz.sizeOf30
  v31 := Tryz.zeroValue30
  t37 := Tryz.underlying51
  a37 := Tryz.isAgg51
  z37 := Tryz.sizeOf51
  v37 := Tryz.zeroValue51
  t70 := Tryz.underlying107
  a70 := Tryz.isAgg107
  z70 := Tryz.sizeOf107
  v70 := Tryz.zeroValue107
  t72 := Tryz.underlying109
  a72 := Tryz.isAgg109
  z72 := Tryz.sizeOf109
  v72 := Tryz.zeroValue109
  t75 := Tryz.underlying112
  a75 := Tryz.isAgg112
  z75 := Tryz.sizeOf112
  v75 := Tryz.zeroValue112
  t76 := Tryz.underlying113
  a76 := Tryz.isAgg113
  z76 := Tryz.sizeOf113
  v76 := Tryz.zeroValue113
  t127 := Tryz.underlying91
  a127 := Tryz.isAgg91
  z127 := Tryz.sizeOf91
  v127 := Tryz.zeroValue91
  t164 := Tryz.underlying148
  a164 := Tryz.isAgg148
  z164 := Tryz.sizeOf148
  v164 := Tryz.zeroValue148 }
theorem Tryz.Builder_Extra_156 : Builder.Extra Tryz.prog Tryz.lays156_ren := {
  sizeBuilder := by kernel_rfl
  liesBuilder := by kernel_rfl
  t5 := Tryz.underlying5
  a5 := Tryz.isAgg5
  z5 := Tryz.sizeOf5
  v5 := Tryz.zeroValue5
  infoByte := by kernel_rfl
  cellsByte := by kernel_rfl
  sizeByte := by kernel_rfl
  neB5 := by decide }
open Go.RowKit in
/-- No element: the empty string; the world is as it was. (Whatever the slice's address and capacity: a nil slice too.) (LAID: no walk: one application.) -/
theorem Tryz.strings_Join_none (a : Option Addr) (c : Nat) (sep : ByteArray) (w : World) :
    Calls Tryz.prog 56 #[.slice a 0 c, .string sep] w fun e w' => e = .returned (.string ⟨#[]⟩) ∧ w' = w := Any.strings_Join_none Tryz.lays156 Tryz.Builder_Extra_156 a c sep w
open Go.RowKit in
/-- strings.Join: "Join concatenates the elements of its first argument to create a single string. The separator string sep is placed between elements in the resulting string.": HOWEVER MANY ELEMENTS. Below the heap's end the world is as it was. (LAID: no walk: one application.) -/
theorem Tryz.strings_Join (bk o c : Nat) (xs : List ByteArray) (sep : ByteArray) (w : World) (hcells : ∀ (j : Nat) x, xs[j]? = some x → w.cell? ⟨bk, o + j, none⟩ = some (.string x)) (hbk : bk < w.heap.size) (hN : xs.length ≤ 140737488355328) (hcap : xs.length ≤ c) (hlen : (Lib.join (xs.map (·.data.toList)) sep.data.toList).length ≤ 140737488355328) :
    Calls Tryz.prog 56 #[.slice (some ⟨bk, o, none⟩) xs.length c, .string sep] w fun e w' => e = .returned (.string ⟨(Lib.join (xs.map (·.data.toList)) sep.data.toList).toArray⟩) ∧ Below w.heap.size w w' := Any.strings_Join Tryz.lays156 Tryz.Builder_Extra_156 bk o c xs sep w hcells hbk hN hcap hlen
def Tryz.lays99_ren : Go.Shelf.Ren := ⟨fun | 99 => 45 | 206 => 54 | n => n, fun | 9 => 9 | 4 => 4 | 3 => 3 | n => n, fun | n => n⟩
theorem Tryz.lays99 : Go.Proofs.Lays.n99 Tryz.prog Tryz.lays99_ren := {
  mixed := by kernel_rfl
  f99 := Tryz.func45.trans (congrArg some (by kernel_rfl))
  f206 := Tryz.func54.trans (congrArg some (by kernel_rfl))
  t3 := Tryz.underlying3
  a3 := Tryz.isAgg3
  z3 := Tryz.sizeOf3
  v3 := Tryz.zeroValue3
  t4 := Tryz.underlying4
  a4 := Tryz.isAgg4
  z4 := Tryz.sizeOf4
  v4 := Tryz.zeroValue4
  t9 := Tryz.underlying9
  a9 := Tryz.isAgg9
  z9 := Tryz.sizeOf9
  v9 := Tryz.zeroValue9 }
open Go.RowKit Go.Lib in
/-- strings.HasPrefix: "HasPrefix reports whether the string s begins with prefix.": IT RETURNS 'Lib.hasPrefix s prefix'; the world is as it was. (LAID: no walk: one application.) -/
theorem Tryz.strings_HasPrefix (s p : ByteArray) (w : World) :
    Calls Tryz.prog 45 #[.string s, .string p] w fun e w' => e = .returned (.bool (Lib.hasPrefix s.data.toList p.data.toList)) ∧ w' = w := Any.strings_HasPrefix Tryz.lays99 s p w
def Tryz.lays264_ren : Go.Shelf.Ren := ⟨fun | 264 => 100 | n => n, fun | 53 => 55 | 46 => 77 | n => n, fun | n => n⟩
theorem Tryz.lays264 : Go.Proofs.Lays.n264 Tryz.prog Tryz.lays264_ren := {
  mixed := by kernel_rfl
  f264 := Tryz.func100.trans (congrArg some (by kernel_rfl))
  t46 := Tryz.underlying77
  a46 := Tryz.isAgg77
  z46 := Tryz.sizeOf77
  v46 := Tryz.zeroValue77
  t53 := Tryz.underlying55
  a53 := Tryz.isAgg55
  z53 := Tryz.sizeOf55
  v53 := Tryz.zeroValue55 }
open Go.RowKit Go.Lib in
theorem Tryz.bits_Mul64 (x y : Nat) (hx : x < 18446744073709551616) (hy : y < 18446744073709551616) (w : World) :
    Calls Tryz.prog 100 #[.int .u64 x, .int .u64 y] w fun e w' => e = .returned (.tuple #[.int .u64 ((x * y / 18446744073709551616 : Nat) : Int), .int .u64 ((x * y % 18446744073709551616 : Nat) : Int)]) ∧ w' = w := Any.bits_Mul64 Tryz.lays264 x y hx hy w
end Go.Proofs

namespace Go.Proofs.YtjkpopdjmmgbbabGreat.Dg
open Go.RowKit

theorem hw_step (u r o : Nat) : IntKind.u64.wrap (IntKind.u64.wrap ((u : Int) * (r : Int)) + (o : Int)) = (((u * r + o) % 18446744073709551616 : Nat) : Int) := by
  rw [IntKind.wrap_u64, IntKind.wrap_u64]
  have : (u : Int) * (r : Int) = ((u * r : Nat) : Int) := by simp
  rw [this]
  omega
theorem high_any (r d : Nat) (hr : r < 18446744073709551616) (hd : d ≤ 3) (w : World) :
    Calls Tryz.prog 91 #[.int .u64 (r : Int), .int .i64 (d : Int)] w fun e w' => e = .returned (.int .u64 (high r d : Nat)) ∧ w = w' := by
  obtain ⟨H, hH⟩ : ∃ H, high r d = H := ⟨_, rfl⟩
  rw [hH]
  have HH := Lib.hid hH
  have HR := Lib.hid hr
  clear hH hr
  go_enter Tryz.func91, Tryz.ntmps91
  go_wp2
  go_loop [5, 6, 10] (fun x y i => ∃ (k u l : Nat), k ≤ d ∧ i = .int .i64 k ∧ x = .int .u64 u ∧ y = .int .u64 l ∧ l < 18446744073709551616 ∧ Hid (hiU (d - k) r u l = H)) (fun _ _ i => d - (intOf i).toNat)
  case atStart => exact ⟨0, 0, 1, by omega, rfl, rfl, rfl, by omega, HH⟩
  case round =>
    obtain ⟨k, u, l, hk, rfl, rfl, rfl, hl, hH⟩ := hrel
    by_cases hlt : k < d
    · have KM := Lib.hid (Tryz.bits_Mul64 l r hl HR.out)
      have hs := hw_step u r (l * r / 18446744073709551616)
      have hH2 : Hid (hiU (d - (k + 1)) r ((u * r + l * r / 18446744073709551616) % 18446744073709551616) (l * r % 18446744073709551616) = H) := Lib.hid (by
        have := hH.out
        rw [show d - k = (d - (k + 1)) + 1 by omega] at this
        exact this)
      have hl2 : l * r % 18446744073709551616 < 18446744073709551616 := Nat.mod_lt _ (by omega)
      clear hl hH
      generalize l * r % 18446744073709551616 = l2 at *
      generalize l * r / 18446744073709551616 = o at *
      generalize (u * r + o) % 18446744073709551616 = u2 at *
      go_wp2_with ((go_at_call 100; ((with_reducible refine (KM.out _).mono ?_); rintro e w1 ⟨rfl, rfl⟩)))
      go_round
      case rel => exact ⟨k + 1, u2, l2, by omega, by go_num, by rw [← hs], rfl, hl2, hH2⟩
      case measure => simp [intOf]; omega
    · have e : d - k = 0 := by omega
      have h := hH.out
      rw [e] at h
      have HE := Lib.hid h
      clear h hH e
      go_wp2
      go_ret
      rw [← HE.out]
      exact ⟨rfl, rfl⟩

/-- What holds at each jump back. -/
def RootJ (p D : Int) (d most R : Nat) (w : World) (a' : Act) (w' : World) : Prop :=
  w = w' ∧ ∃ (k r : Nat) (u2 u3 u4 u8 u9 u10 u11 u12 u13 u14 u15 u16 u17 u18 u19 u20 u21 u22 u23 u24 u25 u26 u27 u28 : Value), a' = { tmps := #[.int .u64 p, .int .i64 D, u2, u3, u4, .int .u64 most, .int .u64 r, .int .u64 (2 ^ k : Nat), u8, u9, u10, u11, u12, u13, u14, u15, u16, u17, u18, u19, u20, u21, u22, u23, u24, u25, u26, u27, u28], defers := [] } ∧ k ≤ 33 ∧ r < 34359738368 ∧ rootL k most d r = R
theorem or_nat (r k : Nat) (hr : r < 34359738368) (hk : k ≤ 34) : bits BinOp.or IntKind.u64 (r : Int) ((2 ^ k : Nat) : Int) = ((r ||| 2 ^ k : Nat) : Int) ∧ (r ||| 2 ^ k) < 34359738368 := by
  have h2 : 2 ^ k ≤ 2 ^ 34 := Nat.pow_le_pow_right (by omega) hk
  have h3 : (2 : Nat) ^ 34 = 17179869184 := rfl
  exact ⟨u64_or_nat r (2 ^ k) (by omega) (by omega), Nat.or_lt_two_pow (n := 35) hr (show 2 ^ k < 2 ^ 35 by have : (2 : Nat) ^ 35 = 34359738368 := rfl; omega)⟩

theorem rootL_succ (k most d r : Nat) : rootL (k + 1) most d r = rootL k most d (if high (r ||| 2 ^ (k + 1)) d < most then r ||| 2 ^ (k + 1) else r) := rfl
theorem rootL_zero (most d r : Nat) : rootL 0 most d r = if high (r ||| 2 ^ 0) d < most then r ||| 2 ^ 0 else r := rfl
theorem half_pow (k : Nat) : ((2 ^ (k + 1) : Nat) : Int) / 2 = ((2 ^ k : Nat) : Int) := by rw [Nat.pow_succ]; omega

set_option maxRecDepth 1000000 in
theorem root_core (p d most R : Nat) (D : Int) (hD : D = (d : Int)) (hd : (d = 2 ∧ IntKind.u64.wrap (p : Int) = (most : Int)) ∨ (d = 3 ∧ IntKind.u64.wrap ((p : Int) * 4294967296) = (most : Int))) (hR : Hid (rootL (33 + 1) most d 0 = R)) (w : World) :
    Calls Tryz.prog 71 #[.int .u64 (p : Int), .int .i64 D] w fun e w' => e = .returned (.int .u32 ((R % 4294967296 : Nat) : Int)) ∧ w = w' := by
  have hd3 : d ≤ 3 := by omega
  have KALL : Hid (∀ r : Nat, r < 34359738368 → ∀ w, Calls Tryz.prog 91 #[.int .u64 (r : Int), .int .i64 D] w fun e w' => e = .returned (.int .u64 (high r d : Nat)) ∧ w = w') := Lib.hid (fun r hr w => by rw [hD]; exact high_any r d (by omega) hd3 w)
  have K0 : Hid (∀ w, Calls Tryz.prog 91 #[.int .u64 17179869184, .int .i64 D] w fun e w' => e = .returned (.int .u64 (high 17179869184 d : Nat)) ∧ w = w') := by
    have h := KALL.out 17179869184 (by omega)
    generalize high 17179869184 d = x at *
    exact Lib.hid h
  have hor0 : bits BinOp.or IntKind.u64 0 17179869184 = 17179869184 := by decide +kernel
  have hdd : (D = 2 ∧ IntKind.u64.wrap (p : Int) = (most : Int)) ∨ (D = 3 ∧ IntKind.u64.wrap ((p : Int) * 4294967296) = (most : Int)) := by
    rcases hd with ⟨rfl, h⟩ | ⟨rfl, h⟩
    · exact Or.inl ⟨hD, h⟩
    · exact Or.inr ⟨hD, h⟩
  clear hd hd3 hD
  rcases hdd with ⟨rfl, hm⟩ | ⟨rfl, hm⟩
  · go_enter Tryz.func71, Tryz.ntmps71
    go_wp2
    refine wp_scope_jumps 0 (RootJ p 2 d most R w) (fun a' _ => (intOf (a'.tmps.getD 7 undef)).toNat) rfl ?_ ?_
    · by_cases h : high 17179869184 d < most
      · have HJ : Hid (rootL 33 most d 17179869184 = R) := Lib.hid (by
          have := hR.out
          rw [rootL_succ, show (0 : Nat) ||| 2 ^ (33 + 1) = 17179869184 from rfl, if_pos h] at this
          exact this)
        clear hR
        generalize high 17179869184 d = H at *
        go_wp2_with ((go_at_call 91; ((with_reducible refine (K0.out _).mono ?_); rintro e w1 ⟨rfl, rfl⟩)))
        go_step3
        go_wp2_with ((go_at_call 91; ((with_reducible refine (K0.out _).mono ?_); rintro e w1 ⟨rfl, rfl⟩)))
        go_step3
        exact ⟨rfl, rfl, 33, 17179869184, _, _, _, _, _, _, _, _, _, _, _, _, _, _, _, _, _, _, _, _, _, _, _, _, rfl, by omega, by omega, HJ.out⟩
      · have HJ : Hid (rootL 33 most d 0 = R) := Lib.hid (by
          have := hR.out
          rw [rootL_succ, show (0 : Nat) ||| 2 ^ (33 + 1) = 17179869184 from rfl, if_neg h] at this
          exact this)
        clear hR
        generalize high 17179869184 d = H at *
        go_wp2_with ((go_at_call 91; ((with_reducible refine (K0.out _).mono ?_); rintro e w1 ⟨rfl, rfl⟩)))
        go_step3
        go_wp2_with ((go_at_call 91; ((with_reducible refine (K0.out _).mono ?_); rintro e w1 ⟨rfl, rfl⟩)))
        go_step3
        exact ⟨rfl, rfl, 33, 0, _, _, _, _, _, _, _, _, _, _, _, _, _, _, _, _, _, _, _, _, _, _, _, _, rfl, by omega, by omega, HJ.out⟩
    · rintro a' w' ⟨rfl, k, r, u2, u3, u4, u8, u9, u10, u11, u12, u13, u14, u15, u16, u17, u18, u19, u20, u21, u22, u23, u24, u25, u26, u27, u28, rfl, hk, hr, hR⟩
      clear K0 hor0 hm
      obtain ⟨ho, hq⟩ := or_nat r k hr (by omega)
      have KH := Lib.hid (KALL.out (r ||| 2 ^ k) hq)
      obtain rfl | ⟨j, rfl⟩ : k = 0 ∨ ∃ j, k = j + 1 := by cases k with
        | zero => exact Or.inl rfl
        | succ j => exact Or.inr ⟨j, rfl⟩
      · rw [rootL_zero] at hR
        have hh : ((2 ^ 0 : Nat) : Int) / 2 = 0 := rfl
        by_cases h : high (r ||| 2 ^ 0) d < most
        · rw [if_pos h] at hR
          have HR := Lib.hid hR
          clear hR
          generalize high (r ||| 2 ^ 0) d = H at *
          generalize r ||| 2 ^ 0 = q at *
          generalize (2 : Nat) ^ 0 = X at *
          go_wp2_with ((go_at_call 91; ((with_reducible refine (KH.out _).mono ?_); rintro e w1 ⟨rfl, rfl⟩)))
          simp only [Exit.jump]
          go_ret
          rw [← HR.out]
          exact ⟨rfl, rfl⟩
        · rw [if_neg h] at hR
          have HR := Lib.hid hR
          clear hR
          generalize high (r ||| 2 ^ 0) d = H at *
          generalize r ||| 2 ^ 0 = q at *
          generalize (2 : Nat) ^ 0 = X at *
          go_wp2_with ((go_at_call 91; ((with_reducible refine (KH.out _).mono ?_); rintro e w1 ⟨rfl, rfl⟩)))
          simp only [Exit.jump]
          go_ret
          rw [← HR.out]
          exact ⟨rfl, rfl⟩
      · rw [rootL_succ] at hR
        have hh := half_pow j
        have hpos : 0 < 2 ^ j := Nat.two_pow_pos j
        by_cases h : high (r ||| 2 ^ (j + 1)) d < most
        · rw [if_pos h] at hR
          have HR := Lib.hid hR
          clear hR
          generalize high (r ||| 2 ^ (j + 1)) d = H at *
          generalize r ||| 2 ^ (j + 1) = q at *
          have hlt : 2 ^ j < 2 ^ (j + 1) := Nat.pow_lt_pow_right (by omega) (by omega)
          have HLT := Lib.hid hlt
          clear hlt
          generalize hX : (2 : Nat) ^ (j + 1) = X at *
          generalize hY : (2 : Nat) ^ j = Y at *
          have HY := Lib.hid hY
          clear hX hY
          go_wp2_with ((go_at_call 91; ((with_reducible refine (KH.out _).mono ?_); rintro e w1 ⟨rfl, rfl⟩)))
          go_step3
          refine ⟨rfl, ⟨rfl, j, q, _, _, _, _, _, _, _, _, _, _, _, _, _, _, _, _, _, _, _, _, _, _, _, _, by rw [HY.out], by omega, hq, HR.out⟩, ?_⟩
          have := HLT.out
          simp [intOf]; omega
        · rw [if_neg h] at hR
          have HR := Lib.hid hR
          clear hR
          generalize high (r ||| 2 ^ (j + 1)) d = H at *
          generalize r ||| 2 ^ (j + 1) = q at *
          have hlt : 2 ^ j < 2 ^ (j + 1) := Nat.pow_lt_pow_right (by omega) (by omega)
          have HLT := Lib.hid hlt
          clear hlt
          generalize hX : (2 : Nat) ^ (j + 1) = X at *
          generalize hY : (2 : Nat) ^ j = Y at *
          have HY := Lib.hid hY
          clear hX hY
          go_wp2_with ((go_at_call 91; ((with_reducible refine (KH.out _).mono ?_); rintro e w1 ⟨rfl, rfl⟩)))
          go_step3
          refine ⟨rfl, ⟨rfl, j, r, _, _, _, _, _, _, _, _, _, _, _, _, _, _, _, _, _, _, _, _, _, _, _, _, by rw [HY.out], by omega, hr, HR.out⟩, ?_⟩
          have := HLT.out
          simp [intOf]; omega
  · go_enter Tryz.func71, Tryz.ntmps71
    go_wp2
    refine wp_scope_jumps 0 (RootJ p 3 d most R w) (fun a' _ => (intOf (a'.tmps.getD 7 undef)).toNat) rfl ?_ ?_
    · by_cases h : high 17179869184 d < most
      · have HJ : Hid (rootL 33 most d 17179869184 = R) := Lib.hid (by
          have := hR.out
          rw [rootL_succ, show (0 : Nat) ||| 2 ^ (33 + 1) = 17179869184 from rfl, if_pos h] at this
          exact this)
        clear hR
        generalize high 17179869184 d = H at *
        go_wp2_with ((go_at_call 91; ((with_reducible refine (K0.out _).mono ?_); rintro e w1 ⟨rfl, rfl⟩)))
        go_step3
        go_wp2_with ((go_at_call 91; ((with_reducible refine (K0.out _).mono ?_); rintro e w1 ⟨rfl, rfl⟩)))
        go_step3
        exact ⟨rfl, rfl, 33, 17179869184, _, _, _, _, _, _, _, _, _, _, _, _, _, _, _, _, _, _, _, _, _, _, _, _, rfl, by omega, by omega, HJ.out⟩
      · have HJ : Hid (rootL 33 most d 0 = R) := Lib.hid (by
          have := hR.out
          rw [rootL_succ, show (0 : Nat) ||| 2 ^ (33 + 1) = 17179869184 from rfl, if_neg h] at this
          exact this)
        clear hR
        generalize high 17179869184 d = H at *
        go_wp2_with ((go_at_call 91; ((with_reducible refine (K0.out _).mono ?_); rintro e w1 ⟨rfl, rfl⟩)))
        go_step3
        go_wp2_with ((go_at_call 91; ((with_reducible refine (K0.out _).mono ?_); rintro e w1 ⟨rfl, rfl⟩)))
        go_step3
        exact ⟨rfl, rfl, 33, 0, _, _, _, _, _, _, _, _, _, _, _, _, _, _, _, _, _, _, _, _, _, _, _, _, rfl, by omega, by omega, HJ.out⟩
    · rintro a' w' ⟨rfl, k, r, u2, u3, u4, u8, u9, u10, u11, u12, u13, u14, u15, u16, u17, u18, u19, u20, u21, u22, u23, u24, u25, u26, u27, u28, rfl, hk, hr, hR⟩
      clear K0 hor0 hm
      obtain ⟨ho, hq⟩ := or_nat r k hr (by omega)
      have KH := Lib.hid (KALL.out (r ||| 2 ^ k) hq)
      obtain rfl | ⟨j, rfl⟩ : k = 0 ∨ ∃ j, k = j + 1 := by cases k with
        | zero => exact Or.inl rfl
        | succ j => exact Or.inr ⟨j, rfl⟩
      · rw [rootL_zero] at hR
        have hh : ((2 ^ 0 : Nat) : Int) / 2 = 0 := rfl
        by_cases h : high (r ||| 2 ^ 0) d < most
        · rw [if_pos h] at hR
          have HR := Lib.hid hR
          clear hR
          generalize high (r ||| 2 ^ 0) d = H at *
          generalize r ||| 2 ^ 0 = q at *
          generalize (2 : Nat) ^ 0 = X at *
          go_wp2_with ((go_at_call 91; ((with_reducible refine (KH.out _).mono ?_); rintro e w1 ⟨rfl, rfl⟩)))
          simp only [Exit.jump]
          go_ret
          rw [← HR.out]
          exact ⟨rfl, rfl⟩
        · rw [if_neg h] at hR
          have HR := Lib.hid hR
          clear hR
          generalize high (r ||| 2 ^ 0) d = H at *
          generalize r ||| 2 ^ 0 = q at *
          generalize (2 : Nat) ^ 0 = X at *
          go_wp2_with ((go_at_call 91; ((with_reducible refine (KH.out _).mono ?_); rintro e w1 ⟨rfl, rfl⟩)))
          simp only [Exit.jump]
          go_ret
          rw [← HR.out]
          exact ⟨rfl, rfl⟩
      · rw [rootL_succ] at hR
        have hh := half_pow j
        have hpos : 0 < 2 ^ j := Nat.two_pow_pos j
        by_cases h : high (r ||| 2 ^ (j + 1)) d < most
        · rw [if_pos h] at hR
          have HR := Lib.hid hR
          clear hR
          generalize high (r ||| 2 ^ (j + 1)) d = H at *
          generalize r ||| 2 ^ (j + 1) = q at *
          have hlt : 2 ^ j < 2 ^ (j + 1) := Nat.pow_lt_pow_right (by omega) (by omega)
          have HLT := Lib.hid hlt
          clear hlt
          generalize hX : (2 : Nat) ^ (j + 1) = X at *
          generalize hY : (2 : Nat) ^ j = Y at *
          have HY := Lib.hid hY
          clear hX hY
          go_wp2_with ((go_at_call 91; ((with_reducible refine (KH.out _).mono ?_); rintro e w1 ⟨rfl, rfl⟩)))
          go_step3
          refine ⟨rfl, ⟨rfl, j, q, _, _, _, _, _, _, _, _, _, _, _, _, _, _, _, _, _, _, _, _, _, _, _, _, by rw [HY.out], by omega, hq, HR.out⟩, ?_⟩
          have := HLT.out
          simp [intOf]; omega
        · rw [if_neg h] at hR
          have HR := Lib.hid hR
          clear hR
          generalize high (r ||| 2 ^ (j + 1)) d = H at *
          generalize r ||| 2 ^ (j + 1) = q at *
          have hlt : 2 ^ j < 2 ^ (j + 1) := Nat.pow_lt_pow_right (by omega) (by omega)
          have HLT := Lib.hid hlt
          clear hlt
          generalize hX : (2 : Nat) ^ (j + 1) = X at *
          generalize hY : (2 : Nat) ^ j = Y at *
          have HY := Lib.hid hY
          clear hX hY
          go_wp2_with ((go_at_call 91; ((with_reducible refine (KH.out _).mono ?_); rintro e w1 ⟨rfl, rfl⟩)))
          go_step3
          refine ⟨rfl, ⟨rfl, j, r, _, _, _, _, _, _, _, _, _, _, _, _, _, _, _, _, _, _, _, _, _, _, _, _, by rw [HY.out], by omega, hr, HR.out⟩, ?_⟩
          have := HLT.out
          simp [intOf]; omega
end Go.Proofs.YtjkpopdjmmgbbabGreat.Dg

namespace Go.Proofs.YtjkpopdjmmgbbabGreat.Dg
open Go.RowKit

def ucells (l : List Nat) : List Value := l.map fun p : Nat => .int .u64 (p : Int)

theorem divided_any (n : Nat) (l : List Nat) (hn : n < 1000000) (hl : ∀ p ∈ l, 2 ≤ p ∧ p ≤ 1000) (hlen : l.length ≤ 64) (at0 : Option Addr) (m cap g : Nat) (hm : m = l.length) (w : World)
    (hat : 0 < l.length → at0 = some ⟨g, 0, none⟩) (hc : ∀ k (h : k < l.length), w.cell? ⟨g, k, none⟩ = some (.int .u64 (l[k] : Int))) :
    Calls Tryz.prog 90 #[.int .u64 (n : Int), .slice at0 m cap] w fun e w' => e = .returned (.bool (divB n l)) ∧ w = w' := by
  subst hm
  obtain ⟨D, hD⟩ : ∃ D, divB n l = D := ⟨_, rfl⟩
  rw [hD]
  have HD := Lib.hid hD
  have HC := Lib.hid hc
  have HAT := Lib.hid hat
  have HL := Lib.hid hl
  clear hD hc hat hl
  go_enter Tryz.func90, Tryz.ntmps90
  go_wp2
  go_loop [9] (fun i => ∃ (k : Nat), k ≤ l.length ∧ i = .int .i64 k ∧ Hid (divB n (l.drop k) = D)) (fun i => l.length - (intOf i).toNat)
  case atStart => exact ⟨0, by omega, rfl, HD⟩
  case round =>
    obtain ⟨k, hk, rfl, hD⟩ := hrel
    by_cases hlt : k < l.length
    · have hcell := HC.out k hlt
      obtain rfl := HAT.out (by omega)
      have hin := HL.out l[k] (List.getElem_mem hlt)
      have hd := hD.out
      rw [List.drop_eq_getElem_cons hlt] at hd
      have hd2 : ((n % l[k] == 0) || divB n (l.drop (k + 1))) = D := hd
      generalize l[k] = p at *
      by_cases h : n % p = 0
      · have hz : ((n : Int) % (p : Int) == 0) = true := by rw [beq_iff_eq]; omega
        have HE : Hid (D = true) := Lib.hid (by rw [← hd2, h]; rfl)
        clear hd hd2 hD h
        go_wp2
        go_ret
        rw [HE.out]
        exact ⟨rfl, rfl⟩
      · have hz : ((n : Int) % (p : Int) == 0) = false := by rw [beq_eq_false_iff_ne]; omega
        have HE : Hid (divB n (l.drop (k + 1)) = D) := Lib.hid (by rw [← hd2, show (n % p == 0) = false from by rw [beq_eq_false_iff_ne]; exact h]; rfl)
        clear hd hd2 hD h
        go_wp2
        go_round
        case rel => exact ⟨k + 1, by omega, by go_num, HE⟩
        case measure => simp [intOf]; omega
    · have hd := hD.out
      rw [List.drop_of_length_le (by omega)] at hd
      have HE : Hid (D = false) := Lib.hid (by rw [← hd]; rfl)
      clear hd hD
      go_wp2
      go_ret
      rw [HE.out]
      exact ⟨rfl, rfl⟩

theorem Tryz.info55 : (Tryz.prog.info? 55).map (fun i => (i.zero, i.size, i.bytes)) = some (some (.int .u64 0), 1, 8) := by kernel_rfl
theorem ucells_snoc (l : List Nat) (p : Nat) : ucells l ++ [.int .u64 (p : Int)] = ucells (l ++ [p]) := by simp [ucells]
/-- 'l = append(l, p)' of one number, l nil or the call's own. -/
theorem wpList_append_u64 (W : World) {ops : Array Oper} {rest : List Oper} {o : Oper} {a : Act} {Q : Exit → Act → World → Prop} (hgd : o.guard = none) (s x : Operand)
    (ho : o.op = .call { callee := .builtin .append, args := #[s, x], argTypes := #[101, 101] })
    (B : Nat) (v : Value) (k : Nat) (l : List Nat) (hs : a.eval s = v) (hown : W.ownsRow B 55 1 v k (ucells l))
    (c : Int) (p : Nat) (hcp : c = (p : Int)) (hx : a.eval x = .slice (some ⟨W.heap.size, 0, none⟩) 1 1)
    (hk : k + 1 ≤ 1000) (hB : B ≤ W.heap.size)
    (h : ∀ v' w', w'.ownsRow B 55 1 v' (k + 1) (ucells (l ++ [p])) → Below B W w' → wpList Tryz.prog ops Q rest (a.put o.dst v') w') :
    wpList Tryz.prog ops Q (o :: rest) a (W.alloc (.cells #[.int .u64 c] 55)) := by
  subst hcp
  obtain ⟨i0, hi, hz0, hz1, hz2⟩ := info_parts Tryz.info55
  refine wpList_append_own _ hgd s x 101 ho B 55 i0 (.int .u64 0) 1 8 Tryz.underlying101 hi hz0 hz1 hz2 rfl (by decide) v k (ucells l) hs (hown.alloc _) ⟨W.heap.size, 0, none⟩ 1 1 [.int .u64 (p : Int)] hx rfl ?_ ?_ ?_ ?_ ?_ ?_
  · intro j u hj
    match j, hj with
    | 0, hj => simp at hj; subst hj; simp [Addr.add]
  · intro u hu; simp at hu; subst hu; rfl
  · unfold maxLen; omega
  · omega
  · simp; omega
  · intro v' w' h1 h2 _
    rw [ucells_snoc l p] at h1
    refine h v' w' h1 (((Below.refl B W).alloc hB _).grown h2 (by simp; omega) ?_)
    intro g hg
    exact (hown.lt g hg).1
/-- What is known of a row that the call owns, for those that read it. -/
theorem owns_read {B n : Nat} {v : Value} {l : List Nat} {wr : World} (h : wr.ownsRow B 55 1 v n (ucells l)) :
    ∃ (at0 : Option Addr) (cap g : Nat), v = .slice at0 n cap ∧ n = l.length ∧ (0 < l.length → at0 = some ⟨g, 0, none⟩) ∧ (∀ k (hk : k < l.length), wr.cell? ⟨g, k, none⟩ = some (.int .u64 (l[k] : Int))) ∧ (0 < l.length → B ≤ g) := by
  have hn : n = l.length := by have := h.1; simp [ucells] at this; omega
  rcases h.2 with ⟨rfl, h0⟩ | ⟨g, cap, cur, rfl, hbg, _⟩
  · exact ⟨none, 0, 0, by rw [h0], hn, fun h => by omega, fun k hk => by omega, fun h => by omega⟩
  · refine ⟨some ⟨g, 0, none⟩, cap, g, rfl, hn, fun _ => rfl, fun k hk => ?_, fun _ => hbg⟩
    rw [h.cellAt k (by omega)]
    unfold ucells
    rw [List.getElem?_map, List.getElem?_eq_getElem hk]; rfl

/-- The row of primes that a call gives. -/
def PrimesR (n K : Nat) (w : World) (e : Ending) (w' : World) : Prop :=
  ∃ v, e = .returned v ∧ w'.ownsRow w.heap.size 55 1 v n (ucells (upto (K + 1))) ∧ Below w.heap.size w w'

set_option maxRecDepth 1000000 in
theorem primes_any (n K : Nat) (hK : K ≤ 900) (h1 : (upto K).length + 1 = n) (h2 : (upto (K + 1)).length = n) (hn : n ≤ 64) (w : World) :
    Calls Tryz.prog 70 #[.int .i64 (n : Int)] w (PrimesR n K w) := by
  have HU : Hid (∀ k, k ≤ K → (upto k).length < n) := Lib.hid (fun k hk => upto_lt (K := K) (by omega) hk)
  have H2 := Lib.hid h2
  clear h1 h2
  go_enter Tryz.func70, Tryz.ntmps70
  go_wp2
  go_loopw [3, 4] (fun v q wr => ∃ (k m : Nat), k ≤ K + 1 ∧ q = .int .u64 ((k : Int) + 2) ∧ Hid (m = (upto k).length) ∧ Hid (wr.ownsRow w.heap.size 55 1 v m (ucells (upto k))) ∧ Hid (Below w.heap.size w wr)) (fun _ q _ => K + 3 - (intOf q).toNat)
  case atStart => exact ⟨0, 0, by omega, rfl, Lib.hid rfl, Lib.hid (World.ownsRow_nil w w.heap.size 55 1), Lib.hid (Below.refl _ _)⟩
  case round =>
    obtain ⟨k, m, hk, rfl, hm, hown, hb⟩ := hrel
    obtain ⟨at0, cap, g, rfl, -, hat, hc, -⟩ := owns_read hown.out
    have HAT := Lib.hid hat
    have HC := Lib.hid hc
    clear hat hc
    by_cases hlt : k ≤ K
    · have hmn : m < n := by rw [hm.out]; exact HU.out k hlt
      have hm64 : m ≤ 63 := by omega
      have KD : Hid (∀ wx, (∀ j (h : j < (upto k).length), wx.cell? ⟨g, j, none⟩ = some (.int .u64 ((upto k)[j] : Int))) → Calls Tryz.prog 90 #[.int .u64 ((k : Int) + 2), .slice at0 m cap] wx fun e w' => e = .returned (.bool (divB (k + 2) (upto k))) ∧ wx = w') := Lib.hid (fun wx hwx =>
        divided_any (k + 2) (upto k) (by omega) (fun p hp => by have := upto_bd k p hp; omega) (by rw [← hm.out]; omega) at0 m cap g hm.out wx HAT.out hwx)
      have hw3 : IntKind.u64.wrap ((k : Int) + 2 + 1) = (k : Int) + 2 + 1 := IntWalk.u64_in _ ⟨by omega, by omega⟩
      have hn' : n ≤ 64 := hn
      have hb0 := hb.out.size
      by_cases hdv : divB (k + 2) (upto k) = true
      · have hu : upto (k + 1) = upto k := by rw [upto_succ, if_pos hdv]
        have HM2 : Hid (m = (upto (k + 1)).length) := Lib.hid (by rw [hu]; exact hm.out)
        have HO2 : Hid (wr.ownsRow w.heap.size 55 1 (.slice at0 m cap) m (ucells (upto (k + 1)))) := Lib.hid (by rw [hu]; exact hown.out)
        rw [hdv] at KD
        clear hu hdv hown hm
        go_wp2_with ((go_at_call 90; ((with_reducible refine (KD.out _ HC.out).mono ?_); rintro e w1 ⟨rfl, rfl⟩)))
        go_roundw
        case rel => exact ⟨k + 1, m, by omega, by go_num, HM2, HO2, hb⟩
        case measure => simp [intOf]; omega
      · have hu : upto (k + 1) = upto k ++ [k + 2] := by rw [upto_succ, if_neg hdv]
        have hdf : divB (k + 2) (upto k) = false := by simpa using hdv
        have HM2 : Hid (m + 1 = (upto (k + 1)).length) := Lib.hid (by rw [hu, List.length_append, ← hm.out]; rfl)
        rw [hdf] at KD
        have HU2 := Lib.hid hu
        clear hu hdv hdf hm
        go_wp2_with (first
          | (go_at_call 90; ((with_reducible refine (KD.out _ HC.out).mono ?_); rintro e w1 ⟨rfl, rfl⟩))
          | (at_builtin; go_must (refine wpList_append_u64 wr rfl (.tmp 15) (.tmp 17) rfl w.heap.size (.slice at0 m cap) m (upto k) rfl hown.out _ (k + 2) (by omega) rfl (by omega) hb0 ?_); intro v' w' hown3 hb3))
        go_roundw
        case rel => exact ⟨k + 1, m + 1, by omega, by go_num, HM2, by rw [HU2.out]; exact Lib.hid hown3, Lib.hid (hb.out.trans hb3)⟩
        case measure => simp [intOf]; omega
    · obtain rfl : k = K + 1 := by omega
      obtain rfl : m = n := hm.out.trans H2.out
      clear hlt
      go_wp2
      go_ret
      exact ⟨_, rfl, hown.out, hb.out⟩
end Go.Proofs.YtjkpopdjmmgbbabGreat.Dg
