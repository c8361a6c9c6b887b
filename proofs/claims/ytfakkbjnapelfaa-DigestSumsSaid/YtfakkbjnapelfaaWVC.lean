/- Walk of word.Short. -/
import Derived.Test.YtfakkbjnapelfaaWVB
namespace Go.Proofs.Ytfakkbjnapelfaa.W
open Go.RowKit

theorem sh_more (m : Nat) (h : 127 < m) : sh m = UInt8.ofNat (m % 128 + 128) :: sh (m / 128) := by rw [sh, dif_pos h]
theorem sh_last (m : Nat) (h : ¬ 127 < m) : sh m = [UInt8.ofNat m] := by rw [sh, dif_neg h]
theorem sh_pos (m : Nat) : 1 ≤ (sh m).length := by rw [sh]; split <;> simp
theorem sh_len (k : Nat) : ∀ m, m < 128 ^ (k + 1) → (sh m).length ≤ k + 1 := by
  induction k with
  | zero => intro m hm; rw [sh_last m (by omega)]; simp
  | succ k ih =>
    intro m hm
    by_cases h : 127 < m
    · rw [sh_more m h]
      have := ih (m / 128) (by rw [Nat.pow_succ] at hm; omega)
      simp; omega
    · rw [sh_last m h]; simp
theorem sh_ten (n : Nat) (hn : n ≤ 18446744073709551615) : (sh n).length ≤ 10 := sh_len 9 n (by omega)

/-- What holds at each jump back. -/
def ShortJ (n : Nat) (w : World) (a' : Act) (w' : World) : Prop :=
  Below w.heap.size w w' ∧ ∃ (m k : Nat) (acc : List UInt8) (v u4 u5 u6 u7 u8 u9 u10 u11 u12 u13 u14 u15 u16 u17 u18 u19 u20 u1 u2 : Value), a' = { tmps := #[.int .u64 m, u1, u2, v, u4, u5, u6, u7, u8, u9, u10, u11, u12, u13, u14, u15, u16, u17, u18, u19, u20], defers := [] } ∧ m ≤ n ∧ acc ++ sh m = sh n ∧ w'.ownsRow w.heap.size 5 1 v k (bcells acc)

theorem bit7 (m : Nat) (h : m ≤ 18446744073709551615) : bits BinOp.and IntKind.u64 (m : Int) 127 = ((m % 128 : Nat) : Int) := by
  have := u64_and_nat m 127 (by omega) (by omega)
  rw [nat_mask7] at this
  exact this

set_option maxRecDepth 1000000 in
theorem short_any (n : Nat) (hn : n ≤ 18446744073709551615) (w : World) :
    Calls Try.prog 65 #[.int .u64 n] w fun e w' => e = .returned (.string (str (sh n))) ∧ Below w.heap.size w w' := by
  have HN := Lib.hid hn
  clear hn
  go_enter Try.func65, Try.ntmps65
  go_wp2
  refine wp_scope_jumps 0 (ShortJ n w) (fun a' _ => (intOf (a'.tmps.getD 0 undef)).toNat) rfl ?_ ?_
  · have hown := World.ownsRow_nil w w.heap.size 5 1
    have hbit := bit7 n HN.out
    obtain ⟨r, hr⟩ : ∃ r, r = n % 128 := ⟨_, rfl⟩
    rw [← hr] at hbit
    have hr2 : r ≤ 127 := by omega
    have HR := Lib.hid hr
    clear hr
    by_cases hm : 127 < n
    · go_wp2
      go_step3
      go_wp2_with (first
        | (at_builtin; go_must (refine wpList_append_byte w rfl (.tmp 6) (.tmp 11) rfl w.heap.size (.slice none 0 0) 0 [] rfl hown _ (r + 128) (by omega) (by omega) rfl (by omega) (by omega) ?_); intro v1 w1 hown1 hb1))
      go_step3
      refine ⟨rfl, hb1, n / 128, 0 + 1, _, v1, _, _, _, _, _, _, _, _, _, _, _, _, _, _, _, _, _, _, _, rfl, ?_, ?_, hown1⟩
      · omega
      · rw [sh_more n hm, HR.out]; rfl
    · go_wp2
      go_step3
      go_wp2_with (first
        | (at_builtin; go_must (refine wpList_append_byte w rfl (.tmp 15) (.tmp 18) rfl w.heap.size (.slice none 0 0) 0 [] rfl hown _ n (by omega) (by omega) rfl (by omega) (by omega) ?_); intro v1 w1 hown1 hb1; have hcv := own_string hown1))
      simp only [Exit.jump]
      go_ret
      refine ⟨?_, hb1⟩
      rw [sh_last n hm]; rfl
  · rintro a' w' ⟨hb, m, k, acc, v, u4, u5, u6, u7, u8, u9, u10, u11, u12, u13, u14, u15, u16, u17, u18, u19, u20, u1, u2, rfl, hmn, hacc, hown⟩
    have hk : k ≤ 9 := by
      have h1 := congrArg List.length hacc
      have h2 := sh_pos m
      have h3 := sh_ten n HN.out
      have h4 := hown.1
      simp [bcells] at h1 h4
      omega
    have hbs := hb.size
    have hbit := bit7 m (by have := HN.out; omega)
    obtain ⟨r, hr⟩ : ∃ r, r = m % 128 := ⟨_, rfl⟩
    rw [← hr] at hbit
    have hr2 : r ≤ 127 := by omega
    have HR := Lib.hid hr
    have HA := Lib.hid hacc
    have HM := Lib.hid hmn
    clear hmn hacc hr
    by_cases hm : 127 < m
    · go_wp2_with (first
        | (at_builtin; go_must (refine wpList_append_byte w' rfl (.tmp 6) (.tmp 11) rfl w.heap.size v k acc rfl hown _ (r + 128) (by omega) (by omega) rfl (by omega) (by omega) ?_); intro v1 w1 hown1 hb1))
      go_step3
      refine ⟨rfl, ⟨hb.trans hb1, m / 128, k + 1, _, v1, _, _, _, _, _, _, _, _, _, _, _, _, _, _, _, _, _, _, _, rfl, ?_, ?_, hown1⟩, ?_⟩
      · have := HM.out; omega
      · rw [← HA.out, sh_more m hm, HR.out]; simp
      · simp [intOf]; omega
    · go_wp2_with (first
        | (at_builtin; go_must (refine wpList_append_byte w' rfl (.tmp 15) (.tmp 18) rfl w.heap.size v k acc rfl hown _ m (by omega) (by omega) rfl (by omega) (by omega) ?_); intro v1 w1 hown1 hb1; have hcv := own_string hown1))
      simp only [Exit.jump]
      go_ret
      refine ⟨?_, hb.trans hb1⟩
      rw [← HA.out, sh_last m hm]; rfl
end Go.Proofs.Ytfakkbjnapelfaa.W
