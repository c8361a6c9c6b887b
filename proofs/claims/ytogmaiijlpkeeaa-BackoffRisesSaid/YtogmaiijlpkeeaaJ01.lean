/- Walk of word.Put.; Walks of awake, the document's Digits.; Walks of tries, Delay, Next, Reset, Jitter.; Walks of Add, sum, the closure in Total, Total of no and of one delay. -/
import Derived.Test.YtogmaiijlpkeeaaJ00
import Derived.Lib.Strings
set_option linter.unusedVariables false
set_option linter.unusedSimpArgs false
namespace Go.Proofs.Ytogmaiijlpkeeaa.W
open Go.RowKit

/-- The last k bytes of a number, the highest first. -/
def be (n : Nat) : Nat → List UInt8
  | 0 => []
  | k + 1 => UInt8.ofNat (n / 256 ^ k) :: be n k

theorem be_length (n k : Nat) : (be n k).length = k := by induction k with
  | zero => rfl
  | succ k ih => simp [be, ih]

theorem byte_at (n k : Nat) : (n : Int) / 2 ^ (8 * k) % 256 = ((UInt8.ofNat (n / 256 ^ k)).toNat : Int) := by
  have e : (2 : Int) ^ (8 * k) = ((256 ^ k : Nat) : Int) := by
    rw [Int.pow_mul]; simp
  rw [e]
  simp

theorem put_step {wr : World} {B g s k t n : Nat} (hk : k < s) (ht : t = s - 1 - k)
    (h : wr.ownsRow B 5 1 (.slice (some ⟨g, 0, none⟩) s s) s (bcells (List.replicate (s - k) 0 ++ be n k))) :
    (wr.setCell ⟨g, t, none⟩ (.int .u8 ((n : Int) / 2 ^ (8 * k) % 256))).ownsRow B 5 1 (.slice (some ⟨g, 0, none⟩) s s) s (bcells (List.replicate (s - (k + 1)) 0 ++ be n (k + 1))) := by
  have h1 := (h.stored t (.int .u8 ((n : Int) / 2 ^ (8 * k) % 256))).1
  have e : (bcells (List.replicate (s - k) 0 ++ be n k)).set t (.int .u8 ((n : Int) / 2 ^ (8 * k) % 256)) = bcells (List.replicate (s - (k + 1)) 0 ++ be n (k + 1)) := by
    rw [byte_at]
    have e2 : s - k = (s - (k + 1)) + 1 := by omega
    have e3 : t = (s - (k + 1)) := by omega
    rw [e2, e3, List.replicate_succ', bcells, bcells, be]
    simp [List.map_append]
  rw [e] at h1
  exact h1

/-- What word.Put makes of a size. -/
def clip (size : Int) : Nat := (min (max size 0) 8).toNat

set_option maxRecDepth 1000000 in
theorem put_any (n : Nat) (size : Int) (hn : n ≤ 18446744073709551615) (w : World) :
    Calls Try.prog 19 #[.int .u64 n, .int .i64 size] w fun e w' => e = .returned (.string (str (be n (clip size)))) ∧ Below w.heap.size w w' := by
  have HN := Lib.hid hn
  clear hn
  obtain ⟨s, hs⟩ : ∃ s, s = clip size := ⟨_, rfl⟩
  have hs8 : s ≤ 8 := by rw [hs]; unfold clip; omega
  have hm : min (max size 0) 8 = (s : Int) := by rw [hs]; unfold clip; omega
  have HS := Lib.hid hs
  clear hs
  obtain ⟨i0, hi, hz0, hz1, hz2⟩ := info_parts Try.info5
  go_enter Try.func19, Try.ntmps19
  go_upto_region 1 with (fail)
  go_cut [1] from 7 (fun s1 w1 => s1 = .int .i64 (s : Int) ∧ w = w1)
  case first =>
    go_wp2_with fail
    all_goals (go_meet; case rel => exact ⟨by first | (congr 1; done) | (congr 1; omega), rfl⟩)
  case rest =>
    obtain ⟨rfl, rfl⟩ := hcut
    clear hm
    go_wp2_with (first | (at_make; refine wpList_make_full w rfl (.tmp 10) (.tmp 10) 41 rfl w.heap.size 5 i0 (.int .u8 0) 1 Try.underlying41 hi hz0 hz1 .i64 .i64 s s s rfl rfl rfl rfl (by rw [hz2]; omega) (by unfold maxLen; omega) (Nat.le_refl _) ?_; intro w1 hown hgr))
    have hb0 : Below w.heap.size w w1 := (Below.refl _ _).grown hgr (Nat.le_refl _) (by simp)
    have hown0 : w1.ownsRow w.heap.size 5 1 (Value.slice (some ⟨w.heap.size, 0, none⟩) s s) s (bcells (List.replicate (s - 0) 0 ++ be n 0)) := by
      have e : (madeCells (Value.int IntKind.u8 0).cells (s * 1)).toList = bcells (List.replicate (s - 0) 0 ++ be n 0) := by
        rw [Nat.mul_one]
        simp [bcells, be, Value.cells, toList_madeCells_one]
      rw [e] at hown
      exact hown
    have HB0 := Lib.hid hb0
    have HO0 := Lib.hid hown0
    clear hb0 hown0 hown hgr hi hz0 hz1 hz2
    go_loopw [13] (fun i wr => ∃ k : Nat, k ≤ s ∧ i = .int .i64 k ∧ wr.ownsRow w.heap.size 5 1 (Value.slice (some ⟨w.heap.size, 0, none⟩) s s) s (bcells (List.replicate (s - k) 0 ++ be n k)) ∧ Below w.heap.size w wr) (fun i _ => s - (intOf i).toNat)
    case atStart => exact ⟨0, Nat.zero_le _, rfl, HO0.out, HB0.out⟩
    case round =>
      obtain ⟨k, hk, rfl, hown, hb⟩ := hrel
      by_cases hlt : k < s
      · obtain ⟨t, ht⟩ : ∃ t, t = s - 1 - k := ⟨_, rfl⟩
        have e1 : (s : Int) - 1 - k = (t : Int) := by omega
        have hts : t < s := by omega
        have hz := hown.frozenAt t
        have hc : wr.cell? ⟨w.heap.size, t, none⟩ = some (.int .u8 0) := by
          rw [hown.cellAt t (by omega)]
          rw [bcells, List.getElem?_map, List.getElem?_append_left (by simp; omega), List.getElem?_replicate, if_pos (by omega)]
          rfl
        have hst := put_step hlt ht hown
        have hsb := hb.setCell (p := ⟨w.heap.size, t, none⟩) (Nat.le_refl _) (.int .u8 ((n : Int) / 2 ^ (8 * k) % 256))
        have HST := Lib.hid hst
        have HSB := Lib.hid hsb
        clear hst hsb ht hk hown hb
        go_wp2
        go_roundw
        case rel => exact ⟨k + 1, by omega, by go_num, HST.out, HSB.out⟩
        case measure => simp [intOf]; omega
      · have hcv := own_string hown
        have HO := Lib.hid hown
        clear hown
        go_wp2
        go_ret
        refine ⟨?_, hb⟩
        have e : k = s := by omega
        subst e
        rw [← HS.out]
        simp
end Go.Proofs.Ytogmaiijlpkeeaa.W

namespace Go.Proofs.Ytogmaiijlpkeeaa.W
open Go.RowKit

theorem toList_str (l : List UInt8) : (str l).toList = l := ByteArray.toList_mk l
theorem awake_any (w : World) : Calls Try.prog 15 #[] w fun e w' => e = .returned (.bool true) ∧ Below w.heap.size w w' := by
  have h1 : (str (sh 300)).toList = [172, 2] := by
    rw [toList_str, sh_more 300 (by omega), sh_last _ (by omega)]
    rfl
  have h2 : ((str (be 258 (clip 2))).toList == [1, 2]) = true := by
    rw [toList_str]
    rfl
  go_enter Try.func15, Try.ntmps15
  go_wp2_with (first
    | (go_at_call 18; go_must (refine (short_any 300 (by omega) _).mono ?_); rintro e w1 ⟨rfl, hb1⟩)
    | (go_at_call 19; go_must (refine (put_any 258 2 (by omega) _).mono ?_); rintro e w2 ⟨rfl, hb2⟩))
  go_ret
  exact ⟨rfl, hb1.trans (hb2.mono hb1.size)⟩

/-- 'string([]byte{c})' of a slice just laid. -/
theorem run_one_byte (W : World) (c : Int) (n : Nat) (hc : c = (n : Int)) (hn : n < 256) :
    (convert 41 9 (.slice (some ⟨W.heap.size, 0, none⟩) 1 1)).run Try.prog (W.alloc (.cells #[.int .u8 c] 5)) = .ok (.string (str [UInt8.ofNat n])) (W.alloc (.cells #[.int .u8 c] 5)) := by
  subst hc
  refine run_convert_bytes_back (P := Try.prog) (W.alloc (.cells #[.int .u8 (n : Int)] 5)) 41 9 5 ⟨W.heap.size, 0, none⟩ 1 [UInt8.ofNat n] Try.underlying41 Try.underlying5 Try.underlying9 ?_
  intro j hj
  match j, hj with
  | 0, _ => simp [Addr.add, Nat.mod_eq_of_lt hn]
theorem str_append (a b : List UInt8) : str a ++ str b = str (a ++ b) := by
  apply ByteArray.ext
  simp [str]
theorem size_str (a : List UInt8) : (str a).size = a.length := by simp [str, ByteArray.size]
theorem run_str_add (a b : List UInt8) (h : a.length + b.length ≤ 1000000000) (W : World) : (Op.stringOp .add (str a) (str b)).run Try.prog W = .ok (.string (str (a ++ b))) W := by
  rw [run_string_add_sum W (str a) (str b) (by rw [size_str, size_str]; omega), str_append]

end Go.Proofs.Ytogmaiijlpkeeaa.W

namespace Go.Proofs.Ytogmaiijlpkeeaa
open Go.RowKit

theorem alloc_below (w : World) (o : Obj) : Below w.heap.size w (w.alloc o) := (Below.refl _ _).alloc (Nat.le_refl _) _

theorem box3 {w w1 : World} {x y z : Value} (h : Below (w.alloc (.cells #[x, y, z] 24)).heap.size (w.alloc (.cells #[x, y, z] 24)) w1) :
    w1.cell? ⟨w.heap.size, 0, none⟩ = some x ∧ w1.cell? ⟨w.heap.size, 1, none⟩ = some y ∧ w1.cell? ⟨w.heap.size, 2, none⟩ = some z :=
  ⟨(h.cell (p := ⟨w.heap.size, 0, none⟩) (by simp)).trans (by simp), (h.cell (p := ⟨w.heap.size, 1, none⟩) (by simp)).trans (by simp), (h.cell (p := ⟨w.heap.size, 2, none⟩) (by simp)).trans (by simp)⟩
theorem bt {w w1 : World} {o : Obj} (h : Below (w.alloc o).heap.size (w.alloc o) w1) : Below w.heap.size w w1 := (alloc_below w o).trans (h.mono (by simp))
theorem bdn (B : Nat) (w : World) (n : Nat) : Below B w (w.drewN n) := ⟨rfl, rfl, rfl, Nat.le_refl _, fun _ _ => rfl⟩
theorem box3b {w w1 : World} {x y z x2 y2 z2 : Value} (h : Below ((w.alloc (.cells #[x, y, z] 24)).alloc (.cells #[x2, y2, z2] 24)).heap.size ((w.alloc (.cells #[x, y, z] 24)).alloc (.cells #[x2, y2, z2] 24)) w1) :
    (w1.cell? ⟨w.heap.size, 0, none⟩ = some x ∧ w1.cell? ⟨w.heap.size, 1, none⟩ = some y ∧ w1.cell? ⟨w.heap.size, 2, none⟩ = some z ∧ w1.frozen? ⟨w.heap.size, 2, none⟩ = false) ∧
    (w1.cell? ⟨w.heap.size + 1, 0, none⟩ = some x2 ∧ w1.cell? ⟨w.heap.size + 1, 1, none⟩ = some y2 ∧ w1.cell? ⟨w.heap.size + 1, 2, none⟩ = some z2) ∧
    w1.frozen? ⟨w.heap.size + 1, 0, none⟩ = false ∧ w1.frozen? ⟨w.heap.size + 1, 1, none⟩ = false ∧ w1.frozen? ⟨w.heap.size + 1, 2, none⟩ = false := by
  refine ⟨⟨?_, ?_, ?_, ?_⟩, ⟨?_, ?_, ?_⟩, ?_, ?_, ?_⟩
  iterate 3 (first | exact (h.cell (by first | (simp; done) | (simp; omega))).trans (by simp) | exact (h.cell (by simp)).trans (by simp))
  · exact (h.frozen (by first | (simp; done) | (simp; omega))).trans (by simp)
  iterate 3 (exact (h.cell (by simp)).trans (by simp))
  iterate 3 (exact (h.frozen (by simp)).trans (by simp))
theorem tries_any (b c t : Int) (w : World) : Calls Try.prog 11 #[.agg #[.int .u64 b, .int .u64 c, .int .i64 t]] w fun e w' => e = .returned (.int .i64 (max t 0)) ∧ Below w.heap.size w w' := by
  go_enter Try.func11, Try.ntmps11
  go_wp2
  go_ret
  exact ⟨rfl, alloc_below _ _⟩

def T64 : Nat := 18446744073709551615
theorem delay_any (b c : Nat) (t : Int) (k : Nat) (hk : max t 0 = (k : Int)) (h64 : k ≤ 64) (hb : b ≤ 18446744073709551615) (hc : c ≤ 18446744073709551615) (w : World) :
    Calls Try.prog 5 #[.agg #[.int .u64 b, .int .u64 c, .int .i64 t]] w fun e w' => e = .returned (.int .u64 (dl b c k : Nat)) ∧ Below w.heap.size w w' := by
  have K1 := Lib.hid (fun w => tries_any b c t w)
  rw [hk] at K1
  clear hk
  have K2 := Lib.hid (fun w => Try.bits_LeadingZeros64 (b : Int) w (by omega) (by omega))
  have hl := len_le b (by omega)
  obtain ⟨z, hz⟩ : ∃ z, z = 64 - Lib.bitLen b := ⟨_, rfl⟩
  have hz2 : (64 - (Lib.bitLen ((b : Int).toNat) : Int)) = (z : Int) := by rw [Int.toNat_natCast]; omega
  rw [hz2] at K2
  clear hz2
  have hzk : b ≠ 0 → (z < k ↔ 64 < k + Lib.bitLen b) := fun _ => by omega
  clear hz hl
  obtain ⟨m, hm⟩ : ∃ m, m = b * 2 ^ k := ⟨_, rfl⟩
  have em : (b : Int) * 2 ^ k = (m : Int) := by rw [hm]; simp
  have W (hs : b * 2 ^ k < 18446744073709551616) : IntKind.u64.wrap (m : Int) = (m : Int) := by
    exact IntWalk.u64_in _ ⟨by omega, by omega⟩
  have E0 : ((dl b c k : Nat) : Int) = min (m : Int) (c : Int) := by unfold dl; rw [← hm]; omega
  by_cases h0 : b = 0
  · have hw := W (dl_small (by omega) (Or.inl h0))
    have q : decide ((0 : Int) < (b : Int)) = false := by rw [decide_eq_false_iff_not]; omega
    have q2 : ¬ (0 : Int) < (b : Int) := by omega
    rw [E0]
    clear hzk W h0 hm E0
    go_enter Try.func5, Try.ntmps5
    go_wp2_with (first
      | (go_at_call 11; ((with_reducible refine (K1.out _).mono ?_); rintro e w1 ⟨rfl, hb1⟩; have HB1 := Lib.hid hb1; obtain ⟨c0, c1, _⟩ := box3 hb1; clear hb1))
      | (go_at_call 12; ((with_reducible refine (K2.out _).mono ?_); rintro e w' ⟨rfl, rfl⟩)))
    go_quiet (fail)
    go_wp2
    go_ret
    exact ⟨rfl, (bt HB1.out).trans (bdn _ _ _)⟩
  · by_cases hg : z < k
    · have hd : dl b c k = c := dl_great (by omega) h0 (by omega) ((hzk h0).1 hg)
      rw [hd]
      have q : decide ((0 : Int) < (b : Int)) = true := by rw [decide_eq_true_iff]; omega
      have q1 : (0 : Int) < (b : Int) := by omega
      clear h0 hd hzk W hm em E0
      go_enter Try.func5, Try.ntmps5
      go_wp2_with (first
        | (go_at_call 11; ((with_reducible refine (K1.out _).mono ?_); rintro e w1 ⟨rfl, hb1⟩; have HB1 := Lib.hid hb1; obtain ⟨c0, c1, _⟩ := box3 hb1; clear hb1))
        | (go_at_call 12; ((with_reducible refine (K2.out _).mono ?_); rintro e w' ⟨rfl, rfl⟩)))
      go_ret
      exact ⟨rfl, bt HB1.out⟩
    · have hw := W (dl_small (by omega) (Or.inr (by have := hzk h0; omega)))
      have q : decide ((0 : Int) < (b : Int)) = true := by rw [decide_eq_true_iff]; omega
      have q1 : (0 : Int) < (b : Int) := by omega
      rw [E0]
      clear h0 hzk W hm E0
      go_enter Try.func5, Try.ntmps5
      go_wp2_with (first
        | (go_at_call 11; ((with_reducible refine (K1.out _).mono ?_); rintro e w1 ⟨rfl, hb1⟩; have HB1 := Lib.hid hb1; obtain ⟨c0, c1, _⟩ := box3 hb1; clear hb1))
        | (go_at_call 12; ((with_reducible refine (K2.out _).mono ?_); rintro e w' ⟨rfl, rfl⟩)))
      go_quiet (fail)
      go_wp2
      go_ret
      exact ⟨rfl, (bt HB1.out).trans (bdn _ _ _)⟩

/-- How often it was, one more. -/
def nx (k : Nat) : Nat := min k 63 + 1
theorem next_any (b c t : Int) (k : Nat) (hk : max t 0 = (k : Int)) (w : World) : Calls Try.prog 6 #[.agg #[.int .u64 b, .int .u64 c, .int .i64 t]] w fun e w' => e = .returned (.agg #[.int .u64 b, .int .u64 c, .int .i64 (nx k : Nat)]) ∧ Below w.heap.size w w' := by
  have K1 := Lib.hid (fun w => tries_any b c t w)
  rw [hk] at K1
  clear hk
  have e : ((nx k : Nat) : Int) = min (k : Int) 63 + 1 := by unfold nx; omega
  rw [e]
  clear e
  obtain ⟨m, hm⟩ : ∃ m : Nat, min (k : Int) 63 = (m : Int) := ⟨min k 63, by omega⟩
  have hm2 : m ≤ 63 := by omega
  go_enter Try.func6, Try.ntmps6
  go_wp2_with (first
    | (go_at_call 11; ((with_reducible refine (K1.out _).mono ?_); rintro e w1 ⟨rfl, hb1⟩; have HB1 := Lib.hid hb1; obtain ⟨⟨c0, c1, c2, fz⟩, ⟨d0, d1, d2⟩, f0, f1, f2⟩ := box3b hb1; clear hb1)))
  refine bodyPost_ret (v := .agg #[.int .u64 b, .int .u64 c, .int .i64 ((m : Int) + 1)]) (by simp [results, Try.results6, go_sem, *]) rfl ⟨by rw [hm], ?_⟩
  exact (((((bt (bt HB1.out)).setCell (Nat.le_refl _) _).setCell (by simp) _).setCell (by simp) _).setCell (by simp) _)
theorem reset_any (b c t : Int) (w : World) : Calls Try.prog 8 #[.agg #[.int .u64 b, .int .u64 c, .int .i64 t]] w fun e w' => e = .returned (.agg #[.int .u64 b, .int .u64 c, .int .i64 0]) ∧ Below w.heap.size w w' := by
  go_enter Try.func8, Try.ntmps8
  go_wp2
  refine bodyPost_ret (v := .agg #[.int .u64 b, .int .u64 c, .int .i64 0]) (by simp [results, Try.results8, go_sem]) rfl ⟨rfl, ?_⟩
  exact bt (alloc_below _ _)
def jit (d x : Nat) : Nat := d / 2 + x % (d - d / 2 + 1)
theorem jitter_any (b c : Nat) (t : Int) (k x : Nat) (hk : max t 0 = (k : Int)) (h64 : k ≤ 64) (hb : b ≤ 18446744073709551615) (hc : c ≤ 18446744073709551615) (hx : x ≤ 18446744073709551615) (w : World) :
    Calls Try.prog 7 #[.agg #[.int .u64 b, .int .u64 c, .int .i64 t], .int .u64 x] w fun e w' => e = .returned (.int .u64 (jit (dl b c k) x : Nat)) ∧ Below w.heap.size w w' := by
  have K1 := Lib.hid (fun w => delay_any b c t k hk h64 hb hc w)
  have hd : dl b c k ≤ 18446744073709551615 := Nat.le_trans (dl_cap b c k) hc
  generalize dl b c k = d at *
  have e : ((jit d x : Nat) : Int) = (d : Int) / 2 + (x : Int) % ((d : Int) - (d : Int) / 2 + 1) := by
    unfold jit
    have e1 : (d : Int) - (d : Int) / 2 + 1 = ((d - d / 2 + 1 : Nat) : Int) := by omega
    rw [e1]
    simp
  obtain ⟨h, hh⟩ : ∃ h : Nat, h = d / 2 := ⟨_, rfl⟩
  obtain ⟨r, hr⟩ : ∃ r : Nat, r = d - h + 1 := ⟨_, rfl⟩
  have e1 : (d : Int) / 2 = (h : Int) := by omega
  have e2 : (d : Int) - h + 1 = (r : Int) := by omega
  obtain ⟨q, hq⟩ : ∃ q : Nat, q = x % r := ⟨_, rfl⟩
  have e3 : (x : Int) % r = (q : Int) := by rw [hq]; simp
  have q1 : q < r := by rw [hq]; exact Nat.mod_lt _ (by omega)
  rw [e1, e2, e3] at e
  rw [e]
  have b1 : h ≤ d := by omega
  have b2 : r ≤ 9223372036854775809 := by omega
  have b3 : h ≤ 9223372036854775807 := by omega
  have b4 : (0 : Int) < (r : Int) := by omega
  clear e hk hh hr hq
  go_enter Try.func7, Try.ntmps7
  go_wp2_with (first
    | (go_at_call 5; ((with_reducible refine (K1.out _).mono ?_); rintro e w1 ⟨rfl, hb1⟩; have HB1 := Lib.hid hb1; clear hb1)))
  go_ret
  exact ⟨rfl, bt HB1.out⟩
end Go.Proofs.Ytogmaiijlpkeeaa

namespace Go.Proofs.Ytogmaiijlpkeeaa
open Go.RowKit

theorem run20 (y : Int) (hy : 0 ≤ y) (hy2 : y ≤ 18446744073709551615) (w : World) :
    (callFunc 20 #[.int .u64 0, .int .u64 y, .int .u64 0]).run Try.prog w = .ok (.value (.tuple #[.int .u64 y, .int .u64 0])) w := by
  rw [run_callFunc_extern Try.func20 (by kernel_rfl) (by kernel_rfl) (by kernel_rfl) (e := add64Entry) (by kernel_rfl), run_add64 0 y 0 (by omega) hy (by omega) (by omega)]
  have e1 : (0 + y + 0) % 18446744073709551616 = y := by omega
  have e2 : (0 + y + 0) / 18446744073709551616 = 0 := by omega
  simp only [Result.andThen, e1, e2]
theorem add_zero (d : Int) (h0 : 0 ≤ d) (h1 : d ≤ 18446744073709551615) (w : World) : Calls Try.prog 17 #[.int .u64 0, .int .u64 d] w fun e w' => e = .returned (.int .u64 d) ∧ w = w' := by
  have hd := fun w => run20 d h0 h1 w
  clear h0 h1
  go_enter Try.func17, Try.ntmps17
  go_wp2
  go_ret
  exact ⟨rfl, rfl⟩

theorem sum_none (w : World) : Calls Try.prog 14 #[.slice none 0 0] w fun e w' => e = .returned (.int .u64 0) ∧ w = w' := by
  go_enter Try.func14, Try.ntmps14
  go_wp2
  refine wp_scope_jumps 0 (fun _ _ => False) (fun _ _ => 0) rfl ?_ ?_
  · go_wp2
    go_step3
    go_wp2
    simp only [Exit.jump]
    go_ret
    exact ⟨rfl, rfl⟩
  · intro a' w' h
    exact absurd h id

/-- What holds at the jump back. -/
def SumJ (v : Value) (d : Nat) (w : World) (a' : Act) (w' : World) : Prop :=
  w = w' ∧ ∃ (u1 u2 u5 u6 u7 u8 u9 u10 u11 u12 u13 u14 u15 u16 u17 : Value), a' = { tmps := #[v, u1, u2, .int .u64 d, .int .i64 1, u5, u6, u7, u8, u9, u10, u11, u12, u13, u14, u15, u16, u17], defers := [] }
theorem sum_one (g cap d : Nat) (hd : d ≤ 18446744073709551615) (w : World) (hc : w.cell? ⟨g, 0, none⟩ = some (.int .u64 d)) :
    Calls Try.prog 14 #[.slice (some ⟨g, 0, none⟩) 1 cap] w fun e w' => e = .returned (.int .u64 d) ∧ w = w' := by
  have K1 := Lib.hid (fun w => add_zero d (by omega) (by omega) w)
  go_enter Try.func14, Try.ntmps14
  go_wp2
  refine wp_scope_jumps 0 (SumJ (.slice (some ⟨g, 0, none⟩) 1 cap) d w) (fun a' _ => (1 - intOf (a'.tmps.getD 4 undef)).toNat) rfl ?_ ?_
  · go_wp2
    go_step3
    go_wp2_with (first
      | (go_at_call 17; ((with_reducible refine (K1.out _).mono ?_); rintro e w' ⟨rfl, rfl⟩)))
    go_step3
    exact ⟨rfl, rfl, _, _, _, _, _, _, _, _, _, _, _, _, _, _, _, rfl⟩
  · rintro a' w' ⟨rfl, u1, u2, u5, u6, u7, u8, u9, u10, u11, u12, u13, u14, u15, u16, u17, rfl⟩
    go_wp2
    simp only [Exit.jump]
    go_ret
    exact ⟨rfl, rfl⟩
end Go.Proofs.Ytogmaiijlpkeeaa
