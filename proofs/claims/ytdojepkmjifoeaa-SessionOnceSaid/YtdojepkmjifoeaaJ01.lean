/- YtdojepkmjifoeaaC; YtdojepkmjifoeaaD; YtdojepkmjifoeaaE -/
import Derived.Test.YtdojepkmjifoeaaJ00
set_option linter.unusedVariables false
set_option linter.unusedSimpArgs false
namespace Go.Proofs.Ytdojepkmjifoeaa
open Go.RowKit

theorem sh_more (m : Nat) (h : 127 < m) : sh m = UInt8.ofNat (m % 128 + 128) :: sh (m / 128) := by rw [sh, dif_pos h]
theorem sh_last (m : Nat) (h : ¬ 127 < m) : sh m = [UInt8.ofNat m] := by rw [sh, dif_neg h]
theorem sh_pos (m : Nat) : 1 ≤ (sh m).length := by rw [sh]; split <;> simp
theorem sh_len (k : Nat) : ∀ m, m < 128 ^ (k + 1) → (sh m).length ≤ k + 1 := by
  induction k with
  | zero => intro m hm; rw [sh_last m (by omega)]; simp
  | succ k ih =>
    intro m hm
    by_cases h : 127 < m
    · rw [sh_more m h]
      have := ih (m / 128) (by rw [Nat.pow_succ] at hm; omega)
      simp; omega
    · rw [sh_last m h]; simp
theorem sh_ten (n : Nat) (hn : n ≤ 18446744073709551615) : (sh n).length ≤ 10 := sh_len 9 n (by omega)

/-- What holds at each jump back. -/
def ShortJ (n : Nat) (w : World) (a' : Act) (w' : World) : Prop :=
  Below w.heap.size w w' ∧ ∃ (m k : Nat) (acc : List UInt8) (v u4 u5 u6 u7 u8 u9 u10 u11 u12 u13 u14 u15 u16 u17 u18 u19 u20 u1 u2 : Value), a' = { tmps := #[.int .u64 m, u1, u2, v, u4, u5, u6, u7, u8, u9, u10, u11, u12, u13, u14, u15, u16, u17, u18, u19, u20], defers := [] } ∧ m ≤ n ∧ acc ++ sh m = sh n ∧ w'.ownsRow w.heap.size 5 1 v k (bcells acc)

theorem bit7 (m : Nat) (h : m ≤ 18446744073709551615) : bits BinOp.and IntKind.u64 (m : Int) 127 = ((m % 128 : Nat) : Int) := by
  have := u64_and_nat m 127 (by omega) (by omega)
  rw [nat_mask7] at this
  exact this

set_option maxRecDepth 1000000 in
theorem short_any (n : Nat) (hn : n ≤ 18446744073709551615) (w : World) :
    Calls Try.prog 80 #[.int .u64 n] w fun e w' => e = .returned (.string (str (sh n))) ∧ Below w.heap.size w w' := by
  have HN := Lib.hid hn
  clear hn
  go_enter Try.func80, Try.ntmps80
  go_wp2
  refine wp_scope_jumps 0 (ShortJ n w) (fun a' _ => (intOf (a'.tmps.getD 0 undef)).toNat) rfl ?_ ?_
  · have hown := World.ownsRow_nil w w.heap.size 5 1
    have hbit := bit7 n HN.out
    obtain ⟨r, hr⟩ : ∃ r, r = n % 128 := ⟨_, rfl⟩
    rw [← hr] at hbit
    have hr2 : r ≤ 127 := by omega
    have HR := Lib.hid hr
    clear hr
    by_cases hm : 127 < n
    · go_wp2
      go_step3
      go_wp2_with (first
        | (at_builtin; go_must (refine wpList_append_byte w rfl (.tmp 6) (.tmp 11) rfl w.heap.size (.slice none 0 0) 0 [] rfl hown _ (r + 128) (by omega) (by omega) rfl (by omega) (by omega) ?_); intro v1 w1 hown1 hb1))
      go_step3
      refine ⟨rfl, hb1, n / 128, 0 + 1, _, v1, _, _, _, _, _, _, _, _, _, _, _, _, _, _, _, _, _, _, _, rfl, ?_, ?_, hown1⟩
      · omega
      · rw [sh_more n hm, HR.out]; rfl
    · go_wp2
      go_step3
      go_wp2_with (first
        | (at_builtin; go_must (refine wpList_append_byte w rfl (.tmp 15) (.tmp 18) rfl w.heap.size (.slice none 0 0) 0 [] rfl hown _ n (by omega) (by omega) rfl (by omega) (by omega) ?_); intro v1 w1 hown1 hb1; have hcv := own_string hown1))
      simp only [Exit.jump]
      go_ret
      refine ⟨?_, hb1⟩
      rw [sh_last n hm]; rfl
  · rintro a' w' ⟨hb, m, k, acc, v, u4, u5, u6, u7, u8, u9, u10, u11, u12, u13, u14, u15, u16, u17, u18, u19, u20, u1, u2, rfl, hmn, hacc, hown⟩
    have hk : k ≤ 9 := by
      have h1 := congrArg List.length hacc
      have h2 := sh_pos m
      have h3 := sh_ten n HN.out
      have h4 := hown.1
      simp [bcells] at h1 h4
      omega
    have hbs := hb.size
    have hbit := bit7 m (by have := HN.out; omega)
    obtain ⟨r, hr⟩ : ∃ r, r = m % 128 := ⟨_, rfl⟩
    rw [← hr] at hbit
    have hr2 : r ≤ 127 := by omega
    have HR := Lib.hid hr
    have HA := Lib.hid hacc
    have HM := Lib.hid hmn
    clear hmn hacc hr
    by_cases hm : 127 < m
    · go_wp2_with (first
        | (at_builtin; go_must (refine wpList_append_byte w' rfl (.tmp 6) (.tmp 11) rfl w.heap.size v k acc rfl hown _ (r + 128) (by omega) (by omega) rfl (by omega) (by omega) ?_); intro v1 w1 hown1 hb1))
      go_step3
      refine ⟨rfl, ⟨hb.trans hb1, m / 128, k + 1, _, v1, _, _, _, _, _, _, _, _, _, _, _, _, _, _, _, _, _, _, _, rfl, ?_, ?_, hown1⟩, ?_⟩
      · have := HM.out; omega
      · rw [← HA.out, sh_more m hm, HR.out]; simp
      · simp [intOf]; omega
    · go_wp2_with (first
        | (at_builtin; go_must (refine wpList_append_byte w' rfl (.tmp 15) (.tmp 18) rfl w.heap.size v k acc rfl hown _ m (by omega) (by omega) rfl (by omega) (by omega) ?_); intro v1 w1 hown1 hb1; have hcv := own_string hown1))
      simp only [Exit.jump]
      go_ret
      refine ⟨?_, hb.trans hb1⟩
      rw [← HA.out, sh_last m hm]; rfl
end Go.Proofs.Ytdojepkmjifoeaa

namespace Go.Proofs.Ytdojepkmjifoeaa
open Go.RowKit

/-- The last k bytes of a number, the highest first. -/
def be (n : Nat) : Nat → List UInt8
  | 0 => []
  | k + 1 => UInt8.ofNat (n / 256 ^ k) :: be n k

theorem be_length (n k : Nat) : (be n k).length = k := by induction k with
  | zero => rfl
  | succ k ih => simp [be, ih]

theorem byte_at (n k : Nat) : (n : Int) / 2 ^ (8 * k) % 256 = ((UInt8.ofNat (n / 256 ^ k)).toNat : Int) := by
  have e : (2 : Int) ^ (8 * k) = ((256 ^ k : Nat) : Int) := by
    rw [Int.pow_mul]; simp
  rw [e]
  simp

theorem put_step {wr : World} {B g s k t n : Nat} (hk : k < s) (ht : t = s - 1 - k)
    (h : wr.ownsRow B 5 1 (.slice (some ⟨g, 0, none⟩) s s) s (bcells (List.replicate (s - k) 0 ++ be n k))) :
    (wr.setCell ⟨g, t, none⟩ (.int .u8 ((n : Int) / 2 ^ (8 * k) % 256))).ownsRow B 5 1 (.slice (some ⟨g, 0, none⟩) s s) s (bcells (List.replicate (s - (k + 1)) 0 ++ be n (k + 1))) := by
  have h1 := (h.stored t (.int .u8 ((n : Int) / 2 ^ (8 * k) % 256))).1
  have e : (bcells (List.replicate (s - k) 0 ++ be n k)).set t (.int .u8 ((n : Int) / 2 ^ (8 * k) % 256)) = bcells (List.replicate (s - (k + 1)) 0 ++ be n (k + 1)) := by
    rw [byte_at]
    have e2 : s - k = (s - (k + 1)) + 1 := by omega
    have e3 : t = (s - (k + 1)) := by omega
    rw [e2, e3, List.replicate_succ', bcells, bcells, be]
    simp [List.map_append]
  rw [e] at h1
  exact h1

/-- What word.Put makes of a size. -/
def clip (size : Int) : Nat := (min (max size 0) 8).toNat

set_option maxRecDepth 1000000 in
theorem put_any (n : Nat) (size : Int) (hn : n ≤ 18446744073709551615) (w : World) :
    Calls Try.prog 42 #[.int .u64 n, .int .i64 size] w fun e w' => e = .returned (.string (str (be n (clip size)))) ∧ Below w.heap.size w w' := by
  have HN := Lib.hid hn
  clear hn
  obtain ⟨s, hs⟩ : ∃ s, s = clip size := ⟨_, rfl⟩
  have hs8 : s ≤ 8 := by rw [hs]; unfold clip; omega
  have hm : min (max size 0) 8 = (s : Int) := by rw [hs]; unfold clip; omega
  have HS := Lib.hid hs
  clear hs
  obtain ⟨i0, hi, hz0, hz1, hz2⟩ := info_parts Try.info5
  go_enter Try.func42, Try.ntmps42
  go_upto_region 1 with (fail)
  go_cut [1] from 7 (fun s1 w1 => s1 = .int .i64 (s : Int) ∧ w = w1)
  case first =>
    go_wp2_with fail
    all_goals (go_meet; case rel => exact ⟨by first | (congr 1; done) | (congr 1; omega), rfl⟩)
  case rest =>
    obtain ⟨rfl, rfl⟩ := hcut
    clear hm
    go_wp2_with (first | (at_make; refine wpList_make_full w rfl (.tmp 10) (.tmp 10) 94 rfl w.heap.size 5 i0 (.int .u8 0) 1 Try.underlying94 hi hz0 hz1 .i64 .i64 s s s rfl rfl rfl rfl (by rw [hz2]; omega) (by unfold maxLen; omega) (Nat.le_refl _) ?_; intro w1 hown hgr))
    have hb0 : Below w.heap.size w w1 := (Below.refl _ _).grown hgr (Nat.le_refl _) (by simp)
    have hown0 : w1.ownsRow w.heap.size 5 1 (Value.slice (some ⟨w.heap.size, 0, none⟩) s s) s (bcells (List.replicate (s - 0) 0 ++ be n 0)) := by
      have e : (madeCells (Value.int IntKind.u8 0).cells (s * 1)).toList = bcells (List.replicate (s - 0) 0 ++ be n 0) := by
        rw [Nat.mul_one]
        simp [bcells, be, Value.cells, toList_madeCells_one]
      rw [e] at hown
      exact hown
    have HB0 := Lib.hid hb0
    have HO0 := Lib.hid hown0
    clear hb0 hown0 hown hgr hi hz0 hz1 hz2
    go_loopw [13] (fun i wr => ∃ k : Nat, k ≤ s ∧ i = .int .i64 k ∧ wr.ownsRow w.heap.size 5 1 (Value.slice (some ⟨w.heap.size, 0, none⟩) s s) s (bcells (List.replicate (s - k) 0 ++ be n k)) ∧ Below w.heap.size w wr) (fun i _ => s - (intOf i).toNat)
    case atStart => exact ⟨0, Nat.zero_le _, rfl, HO0.out, HB0.out⟩
    case round =>
      obtain ⟨k, hk, rfl, hown, hb⟩ := hrel
      by_cases hlt : k < s
      · obtain ⟨t, ht⟩ : ∃ t, t = s - 1 - k := ⟨_, rfl⟩
        have e1 : (s : Int) - 1 - k = (t : Int) := by omega
        have hts : t < s := by omega
        have hz := hown.frozenAt t
        have hc : wr.cell? ⟨w.heap.size, t, none⟩ = some (.int .u8 0) := by
          rw [hown.cellAt t (by omega)]
          rw [bcells, List.getElem?_map, List.getElem?_append_left (by simp; omega), List.getElem?_replicate, if_pos (by omega)]
          rfl
        have hst := put_step hlt ht hown
        have hsb := hb.setCell (p := ⟨w.heap.size, t, none⟩) (Nat.le_refl _) (.int .u8 ((n : Int) / 2 ^ (8 * k) % 256))
        have HST := Lib.hid hst
        have HSB := Lib.hid hsb
        clear hst hsb ht hk hown hb
        go_wp2
        go_roundw
        case rel => exact ⟨k + 1, by omega, by go_num, HST.out, HSB.out⟩
        case measure => simp [intOf]; omega
      · have hcv := own_string hown
        have HO := Lib.hid hown
        clear hown
        go_wp2
        go_ret
        refine ⟨?_, hb⟩
        have e : k = s := by omega
        subst e
        rw [← HS.out]
        simp
end Go.Proofs.Ytdojepkmjifoeaa

namespace Go.Proofs.Ytdojepkmjifoeaa
open Go.RowKit

theorem toList_str (l : List UInt8) : (str l).toList = l := ByteArray.toList_mk l

theorem awake_any (w : World) : Calls Try.prog 78 #[] w fun e w' => e = .returned (.bool true) ∧ Below w.heap.size w w' := by
  have h1 : (str (sh 300)).toList = [172, 2] := by
    rw [toList_str, sh_more 300 (by omega), sh_last _ (by omega)]
    rfl
  have h2 : ((str (be 258 (clip 2))).toList == [1, 2]) = true := by
    rw [toList_str]
    rfl
  go_enter Try.func78, Try.ntmps78
  go_wp2_with (first
    | (go_at_call 80; go_must (refine (short_any 300 (by omega) _).mono ?_); rintro e w1 ⟨rfl, hb1⟩)
    | (go_at_call 42; go_must (refine (put_any 258 2 (by omega) _).mono ?_); rintro e w2 ⟨rfl, hb2⟩))
  go_ret
  exact ⟨rfl, hb1.trans (hb2.mono hb1.size)⟩

theorem awake1_any (w : World) : Calls Try.prog 58 #[] w fun e w' => e = .returned (.bool true) ∧ Below w.heap.size w w' := by
  go_enter Try.func58, Try.ntmps58
  go_wp2_with (first
    | (go_at_call 78; go_must (refine (awake_any _).mono ?_); rintro e w1 ⟨rfl, hb1⟩))
  go_ret
  exact ⟨rfl, hb1⟩
end Go.Proofs.Ytdojepkmjifoeaa
