/- Rotations.; Walk of digest.turned.; Walk of digest.spread.; Walk of digest.rounds. -/
import Derived.Test.YtpcmmejlmhbcdaaGreatJ19
import Derived.Deep.RegionHeld3
import Derived.Laws.IdiomCopy
set_option linter.unusedVariables false
set_option linter.unusedSimpArgs false
namespace Go.Proofs.YtpcmmejlmhbcdaaGreat.Dg
open Go.RowKit

/-- Turned right, of words of 32 bits. -/
def ror (x n : Nat) : Nat := x / 2 ^ n ||| (x * 2 ^ (32 - n)) % 4294967296
theorem ret_u32 {a b : Int} (h : a = b) : Ending.returned (.int .u32 a) = .returned (.int .u32 b) := by rw [h]
theorem ror_or (x n : Nat) (hx : x < 4294967296) : bits BinOp.or IntKind.u32 ((x / 2 ^ n : Nat) : Int) ((x * 2 ^ (32 - n) % 4294967296 : Nat) : Int) = (ror x n : Nat) ∧
    bits BinOp.or IntKind.u32 ((x * 2 ^ (32 - n) % 4294967296 : Nat) : Int) ((x / 2 ^ n : Nat) : Int) = (ror x n : Nat) ∧ ror x n < 4294967296 := by
  have h1 : x / 2 ^ n < 4294967296 := Nat.lt_of_le_of_lt (Nat.div_le_self _ _) hx
  have h2 : x * 2 ^ (32 - n) % 4294967296 < 4294967296 := Nat.mod_lt _ (by omega)
  unfold ror
  refine ⟨u32_or_nat _ _ h1 h2, ?_, Nat.or_lt_two_pow (n := 32) h1 h2⟩
  rw [u32_or_nat _ _ h2 h1, Nat.or_comm]

theorem or_right (x n m : Nat) (hm : 32 - n = m) (hx : x < 4294967296) : bits BinOp.or IntKind.u32 ((x : Int) / 2 ^ n) ((x : Int) * 2 ^ m % 4294967296) = (ror x n : Nat) := by
  subst hm
  rw [← (ror_or x n hx).1]; simp
theorem or_left (x n m : Nat) (hm : 32 - n = m) (hx : x < 4294967296) : bits BinOp.or IntKind.u32 ((x : Int) * 2 ^ m % 4294967296) ((x : Int) / 2 ^ n) = (ror x n : Nat) := by
  subst hm
  rw [← (ror_or x n hx).2.1]; simp

theorem rol_any (x n : Nat) (hx : x < 4294967296) (h1 : 1 ≤ n) (h2 : n ≤ 31) (w : World) :
    Calls Tryz.prog 154 #[.int .u32 (x : Int), .int .i64 (-(n : Int))] w fun e w' => e = .returned (.int .u32 (ror x n : Nat)) ∧ w = w' := by
  have r3 := or_left x n (32 - n) rfl hx
  have hb : bits BinOp.and IntKind.u64 (IntKind.u64.wrap (-(n : Int))) 31 = ((32 - n : Nat) : Int) := by
    have e : IntKind.u64.wrap (-(n : Int)) = ((18446744073709551616 - n : Nat) : Int) := by rw [IntKind.wrap_u64]; omega
    rw [e]
    have := u64_and_nat (18446744073709551616 - n) 31 (by omega) (by omega)
    rw [show (31 : Nat) = 2 ^ 5 - 1 from rfl, Nat.and_two_pow_sub_one_eq_mod] at this
    rw [show ((2 ^ 5 - 1 : Nat) : Int) = 31 from rfl] at this
    rw [this]; omega
  have hm : IntKind.u64.wrap (32 - ((32 - n : Nat) : Int)) = (n : Int) := by rw [IntKind.wrap_u64]; omega
  have m1 : min (32 - n) 32 = 32 - n := by omega
  have m2 : min n 32 = n := by omega
  generalize hmm : 32 - n = m at *
  have R3 := Lib.hid r3
  clear hmm hx h1 h2 r3
  generalize ror x n = S at *
  go_enter Tryz.func154, Tryz.ntmps154
  go_wp2
  go_ret
  exact ⟨ret_u32 R3.out, rfl⟩
end Go.Proofs.YtpcmmejlmhbcdaaGreat.Dg

namespace Go.Proofs.YtpcmmejlmhbcdaaGreat.Dg
open Go.RowKit

/-- The exclusive or of turns. -/
def xrs (x : Nat) : List Nat → Nat → Nat
  | [], a => a
  | b :: l, a => xrs x l (a ^^^ ror x b)
theorem xor_nat (a b : Nat) (ha : a < 4294967296) (hb : b < 4294967296) : bits BinOp.xor IntKind.u32 (a : Int) (b : Int) = ((a ^^^ b : Nat) : Int) ∧ a ^^^ b < 4294967296 :=
  ⟨u32_xor_nat a b ha hb, Nat.xor_lt_two_pow (n := 32) ha hb⟩
theorem ror_lt (x n : Nat) (hx : x < 4294967296) : ror x n < 4294967296 := (ror_or x n hx).2.2

theorem turned_any (x : Nat) (hx : x < 4294967296) (l : List Nat) (hl : ∀ b ∈ l, 1 ≤ b ∧ b ≤ 31) (hn : l.length ≤ 8) (g m cap : Nat) (hm : m = l.length) (w : World)
    (hc : ∀ k (h : k < l.length), w.cell? ⟨g, k, none⟩ = some (.int .i64 (l[k] : Int))) :
    Calls Tryz.prog 135 #[.int .u32 (x : Int), .slice (some ⟨g, 0, none⟩) m cap] w fun e w' => e = .returned (.int .u32 (xrs x l 0 : Nat)) ∧ w = w' := by
  subst hm
  obtain ⟨R, hR⟩ : ∃ R, xrs x l 0 = R := ⟨_, rfl⟩
  rw [hR]
  have HR := Lib.hid hR
  have HC := Lib.hid hc
  have HL := Lib.hid hl
  have HX := Lib.hid hx
  clear hR hc hl hx
  go_enter Tryz.func135, Tryz.ntmps135
  go_wp2
  go_loop [5, 10] (fun n i => ∃ (k a : Nat), k ≤ l.length ∧ i = .int .i64 k ∧ n = .int .u32 (a : Int) ∧ Hid (a < 4294967296) ∧ Hid (xrs x (l.drop k) a = R)) (fun _ i => l.length - (intOf i).toNat)
  case atStart => exact ⟨0, 0, by omega, rfl, rfl, Lib.hid (by omega), HR⟩
  case round =>
    obtain ⟨k, a, hk, rfl, rfl, ha, hD⟩ := hrel
    by_cases hlt : k < l.length
    · have hcell := HC.out k hlt
      have hin := HL.out l[k] (List.getElem_mem hlt)
      have hd := hD.out
      rw [List.drop_eq_getElem_cons hlt] at hd
      have hd2 : xrs x (l.drop (k + 1)) (a ^^^ ror x l[k]) = R := hd
      have KR := Lib.hid (rol_any x l[k] HX.out hin.1 hin.2)
      obtain ⟨hx1, hx2⟩ := xor_nat a (ror x l[k]) ha.out (ror_lt x l[k] HX.out)
      have HD2 := Lib.hid hd2
      have HA2 := Lib.hid hx2
      obtain ⟨h1, h2⟩ := hin
      clear hd hd2 hx2 hD ha
      generalize l[k] = b at *
      generalize a ^^^ ror x b = a2 at *
      generalize ror x b = r at *
      go_wp2_with ((go_at_call 154; ((with_reducible refine (KR.out _).mono ?_); rintro e w1 ⟨rfl, rfl⟩)))
      go_round
      case rel => exact ⟨k + 1, a2, by omega, by go_num, rfl, HA2, HD2⟩
      case measure => simp [intOf]; omega
    · have hd := hD.out
      rw [List.drop_of_length_le (by omega)] at hd
      have HE : Hid (a = R) := Lib.hid hd
      clear hd hD
      go_wp2
      go_ret
      rw [← HE.out]
      exact ⟨rfl, rfl⟩
end Go.Proofs.YtpcmmejlmhbcdaaGreat.Dg

namespace Go.Proofs.YtpcmmejlmhbcdaaGreat.Dg
open Go.RowKit

/-- The i-th word of a block. -/
def word4 (s : ByteArray) (i : Nat) : Nat := W.gt (s.extract (4 * i) (4 * (i + 1))).data.toList
theorem extract_size (s : ByteArray) (i j : Nat) (h : j ≤ s.size) : (s.extract i j).size = j - i := by
  rw [ByteArray.size_extract]; omega
theorem word4_lt (s : ByteArray) (i : Nat) (h : 4 * i + 4 ≤ s.size) : word4 s i < 4294967296 := by
  have := W.gt_lt (s.extract (4 * i) (4 * (i + 1))).data.toList
  have hl : (s.extract (4 * i) (4 * (i + 1))).data.toList.length = 4 := by
    have h2 := extract_size s (4 * i) (4 * (i + 1)) (by omega)
    rw [Array.length_toList]
    show (s.extract (4 * i) (4 * (i + 1))).size = 4
    omega
  rw [hl] at this
  exact this
def sg0 (x : Nat) : Nat := ror x 7 ^^^ ror x 18 ^^^ x / 8
def sg1 (x : Nat) : Nat := ror x 17 ^^^ ror x 19 ^^^ x / 1024
def gd (l : List Nat) (j : Nat) : Nat := l.getD j 0
def nextW (l : List Nat) (k : Nat) : Nat := (gd l (k - 16) + sg0 (gd l (k - 15)) + gd l (k - 7) + sg1 (gd l (k - 2))) % 4294967296
/-- The first k words that are made of a block. -/
def sch (s : ByteArray) : Nat → List Nat
  | 0 => []
  | k + 1 => sch s k ++ [if k < 16 then word4 s k else nextW (sch s k) k]
theorem sch_len (s : ByteArray) (k : Nat) : (sch s k).length = k := by
  induction k with
  | zero => rfl
  | succ k ih => simp [sch, ih]
theorem nextW_lt (l : List Nat) (k : Nat) : nextW l k < 4294967296 := Nat.mod_lt _ (by omega)
theorem sch_lt (s : ByteArray) (hs : s.size = 64) : ∀ k, ∀ x ∈ sch s k, x < 4294967296 := by
  intro k
  induction k with
  | zero => intro x h; simp [sch] at h
  | succ k ih =>
    intro x h
    rcases List.mem_append.1 h with h | h
    · exact ih x h
    · simp at h
      subst h
      split
      · exact word4_lt s k (by omega)
      · exact nextW_lt _ _
def schA (s : ByteArray) (k : Nat) : List Nat := sch s k ++ List.replicate (64 - k) 0
theorem schA_len (s : ByteArray) (k : Nat) (hk : k ≤ 64) : (schA s k).length = 64 := by unfold schA; simp [sch_len]; omega
theorem schA_get (s : ByteArray) (k j : Nat) (hk : k ≤ 64) (hj : j < k) : (schA s k)[j]'(by rw [schA_len s k hk]; omega) = gd (sch s k) j := by
  unfold schA gd
  rw [List.getElem_append_left (by rw [sch_len]; exact hj), List.getD_eq_getElem?_getD, List.getElem?_eq_getElem (by rw [sch_len]; exact hj)]; rfl
theorem schA_step (s : ByteArray) (k : Nat) (hk : k < 64) : (schA s k).set k (if k < 16 then word4 s k else nextW (sch s k) k) = schA s (k + 1) := by
  unfold schA
  rw [List.set_append_right _ _ (by rw [sch_len]; omega), sch_len, Nat.sub_self, show 64 - k = (64 - (k + 1)) + 1 by omega, List.replicate_succ, List.set_cons_zero]
  rw [show sch s (k + 1) = sch s k ++ [if k < 16 then word4 s k else nextW (sch s k) k] from rfl, List.append_assoc]; rfl

theorem turned2 (x b0 b1 : Nat) (hx : x < 4294967296) (h0 : 1 ≤ b0 ∧ b0 ≤ 31) (h1 : 1 ≤ b1 ∧ b1 ≤ 31) (T : Nat) (hT : T = ror x b0 ^^^ ror x b1) (g : Nat) (w : World)
    (c0 : w.cell? ⟨g, 0, none⟩ = some (.int .i64 (b0 : Int))) (c1 : w.cell? ⟨g, 1, none⟩ = some (.int .i64 (b1 : Int))) :
    Calls Tryz.prog 135 #[.int .u32 (x : Int), .slice (some ⟨g, 0, none⟩) 2 2] w fun e w' => e = .returned (.int .u32 (T : Int)) ∧ w = w' := by
  have := turned_any x hx [b0, b1] (by intro b hb; simp at hb; rcases hb with rfl | rfl <;> assumption) (by simp) g 2 2 rfl w (fun k h => by
    match k, h with
    | 0, _ => exact c0
    | 1, _ => exact c1)
  have e : xrs x [b0, b1] 0 = T := by unfold xrs xrs xrs; rw [Nat.zero_xor, hT]
  rw [e] at this
  exact this
theorem sg_xor (x b0 b1 d : Nat) (hx : x < 4294967296) : bits BinOp.xor IntKind.u32 ((ror x b0 ^^^ ror x b1 : Nat) : Int) ((x : Int) / (d : Int)) = ((ror x b0 ^^^ ror x b1 ^^^ x / d : Nat) : Int) := by
  have h1 : ror x b0 ^^^ ror x b1 < 4294967296 := Nat.xor_lt_two_pow (n := 32) (ror_lt x b0 hx) (ror_lt x b1 hx)
  have h2 : x / d < 4294967296 := Nat.lt_of_le_of_lt (Nat.div_le_self _ _) hx
  have := u32_xor_nat _ _ h1 h2
  rw [← this]; simp
theorem add_mod32 (a b : Nat) : IntKind.u32.wrap ((a : Int) + (b : Int)) = (((a + b) % 4294967296 : Nat) : Int) := by
  rw [IntKind.wrap_u32]; omega

/-- What holds of the world in the round that makes the k-th word: all but the block at hand is as it was; that one has k words, or one more. -/
def SpG (s : ByteArray) (k g : Nat) (W w : World) : Prop :=
  w.os = W.os ∧ w.tape = W.tape ∧ w.output = W.output ∧ W.heap.size ≤ w.heap.size ∧ (∀ b, b < W.heap.size → b ≠ g → w.heap[b]? = W.heap[b]?) ∧ (UB g 176 (schA s k) w ∨ UB g 176 (schA s (k + 1)) w)
section
variable {s : ByteArray} {k g : Nat} {W w : World}
theorem SpG.start (h : UB g 176 (schA s k) W) : SpG s k g W W.drew := ⟨rfl, rfl, rfl, Nat.le_refl _, fun _ _ _ => rfl, Or.inl h⟩
theorem SpG.drew (h : SpG s k g W w) : SpG s k g W w.drew := h
theorem SpG.alloc (h : SpG s k g W w) (o : Obj) : SpG s k g W (w.alloc o) := by
  obtain ⟨h1, h2, h3, h4, h5, h6⟩ := h
  refine ⟨h1, h2, h3, by simp; omega, fun b hb hne => (Below.heap_alloc w o b (by omega)).trans (h5 b hb hne), ?_⟩
  rcases h6 with h | h
  · exact Or.inl (h.later ((Below.refl _ _).alloc (Nat.le_refl _) _))
  · exact Or.inr (h.later ((Below.refl _ _).alloc (Nat.le_refl _) _))
theorem SpG.undrew (h : SpG s k g W w.drew) : SpG s k g W w := h
theorem SpG.put (h : SpG s k g W w) (x : Nat) (hx : (schA s k).set k x = schA s (k + 1)) : SpG s k g W (w.setCell ⟨g, k, none⟩ (.int .u32 (x : Int))) ∧ UB g 176 (schA s (k + 1)) (w.setCell ⟨g, k, none⟩ (.int .u32 (x : Int))) := by
  obtain ⟨h1, h2, h3, h4, h5, h6⟩ := h
  have hu : UB g 176 (schA s (k + 1)) (w.setCell ⟨g, k, none⟩ (.int .u32 (x : Int))) := by
    rcases h6 with h | h
    · rw [← hx]; exact h.put k x
    · have := h.put k x
      rw [← hx, List.set_set, hx] at this
      exact this
  exact ⟨⟨h1, h2, h3, by simp; omega, fun b hb hne => (heap_setCell_other w ⟨g, k, none⟩ b _ hne).trans (h5 b hb hne), Or.inr hu⟩, hu⟩
theorem SpG.cell (h : SpG s k g W w) (hk : k < 64) (t : Nat) (ht : t < k) : w.cell? ⟨g, t, none⟩ = some (.int .u32 (gd (sch s k) t : Nat)) := by
  rcases h.2.2.2.2.2 with h | h
  · rw [h.cell t (by rw [schA_len s k (by omega)]; omega), schA_get s k t (by omega) ht]
  · rw [h.cell t (by rw [schA_len s (k + 1) (by omega)]; omega), schA_get s (k + 1) t (by omega) (by omega)]
    unfold gd
    rw [show sch s (k + 1) = sch s k ++ [if k < 16 then word4 s k else nextW (sch s k) k] from rfl, List.getD_eq_getElem?_getD, List.getD_eq_getElem?_getD, List.getElem?_append_left (by rw [sch_len]; exact ht)]
theorem SpG.frozen (h : SpG s k g W w) (t : Nat) : w.frozen? ⟨g, t, none⟩ = false := by
  rcases h.2.2.2.2.2 with h | h <;> exact h.frozen t
theorem SpG.some (h : SpG s k g W w) (hk : k < 64) : ∃ y : Nat, w.cell? ⟨g, k, none⟩ = some (.int .u32 (y : Int)) := by
  rcases h.2.2.2.2.2 with h | h
  · exact ⟨_, h.cell k (by rw [schA_len s k (by omega)]; omega)⟩
  · exact ⟨_, h.cell k (by rw [schA_len s (k + 1) (by omega)]; omega)⟩
end
/-- What stands in a cell, as a name. -/
def cv (w : World) (a : Addr) : Value := (w.cell? a).getD undef
theorem cv_of {w : World} {a : Addr} {v : Value} (h : w.cell? a = some v) : w.cell? a = some (cv w a) := by unfold cv; rw [h]; rfl

set_option maxRecDepth 1000000 in
set_option maxHeartbeats 2000000 in
theorem spread_any (s : ByteArray) (hs : s.size = 64) (w : World) : Calls Tryz.prog 124 #[.string s] w fun e w' => e = .returned (.agg (u32c (sch s 64))) ∧ Below w.heap.size w w' := by
  have HS := Lib.hid hs
  go_enter Tryz.func124, Tryz.ntmps124
  go_wp2
  rw [keys_zero]
  have hd0 : schA s 0 = List.replicate 64 0 := rfl
  rw [← hd0]
  have U1 := Lib.hid (ub_new w (schA s 0) 176)
  have B1 := Lib.hid (show Below w.heap.size w (w.alloc (.cells (u32c (schA s 0)) 176)) from (Below.refl _ _).alloc (Nat.le_refl _) _)
  have S1 : (w.alloc (.cells (u32c (schA s 0)) 176)).heap.size = w.heap.size + 1 := by simp
  have U2 := Lib.hid (ub_new (w.alloc (.cells (u32c (schA s 0)) 176)) (schA s 0) 176)
  rw [S1] at U2
  have V1 := Lib.hid (UB.later U1.out (show Below _ _ ((w.alloc (.cells (u32c (schA s 0)) 176)).alloc (.cells (u32c (schA s 0)) 176)) from (Below.refl _ _).alloc (Nat.le_refl _) _))
  have B2 := Lib.hid (show Below w.heap.size w ((w.alloc (.cells (u32c (schA s 0)) 176)).alloc (.cells (u32c (schA s 0)) 176)) from B1.out.alloc (by simp) _)
  clear U1 B1 S1 hd0 hs
  generalize (w.alloc (.cells (u32c (schA s 0)) 176)).alloc (.cells (u32c (schA s 0)) 176) = W2 at *
  go_loopw [9] (fun i wr => ∃ (k : Nat), k ≤ 64 ∧ i = .int .i64 k ∧ Hid (UB (w.heap.size + 1) 176 (schA s k) wr) ∧ Hid (UB w.heap.size 176 (schA s 0) wr) ∧ Hid (Below w.heap.size w wr)) (fun i _ => 64 - (intOf i).toNat)
  case atStart => exact ⟨0, by omega, rfl, U2, V1, B2⟩
  case round =>
    obtain ⟨k, hk, rfl, hU, hV, hB⟩ := hrel
    by_cases hlt : k < 64
    · by_cases h16 : k < 16
      · have hs64 : s.size = 64 := HS.out
        obtain ⟨x, hx⟩ : ∃ x, word4 s k = x := ⟨_, rfl⟩
        have KG : Hid (∀ w, Calls Tryz.prog 136 #[.string (s.extract (4 * k) (4 * (k + 1)))] w fun e w' => e = .returned (.tuple #[.int .u64 (x : Int), .int .i64 0]) ∧ w = w') := Lib.hid (fun w => by
          have h2 := extract_size s (4 * k) (4 * (k + 1)) (by omega)
          rw [← hx]
          exact W.get_ok _ (by omega) (by omega) w)
        obtain ⟨y, c0⟩ : ∃ y : Nat, wr.cell? ⟨w.heap.size + 1, k, none⟩ = some (.int .u32 (y : Int)) := ⟨_, hU.out.cell k (by rw [schA_len s k hk]; exact hlt)⟩
        have f0 := hU.out.frozen k
        have hw4 : IntKind.u32.wrap (x : Int) = (x : Int) := by have := word4_lt s k (by omega); rw [hx] at this; rw [IntKind.wrap_u32]; omega
        have hw5 : (x : Int) % 4294967296 = (x : Int) := by rw [← IntKind.wrap_u32]; exact hw4
        have hput := hU.out.put k x
        have hstep := schA_step s k hlt
        rw [if_pos h16, hx] at hstep
        have HU2 : Hid (UB (w.heap.size + 1) 176 (schA s (k + 1)) (wr.setCell ⟨w.heap.size + 1, k, none⟩ (.int .u32 (x : Int)))) := Lib.hid (by rw [← hstep]; exact hput)
        have HV2 := Lib.hid (hV.out.other (a := ⟨w.heap.size + 1, k, none⟩) (.int .u32 (x : Int)) (by simp))
        have HB2 := Lib.hid (hB.out.setCell (p := ⟨w.heap.size + 1, k, none⟩) (show w.heap.size ≤ w.heap.size + 1 by omega) (.int .u32 (x : Int)))
        have hz : (4 : Int) * k + 4 ≤ s.size := by omega
        clear hs64 hput hstep hU hV hB hx
        go_wp2_with ((go_at_call 136; ((with_reducible refine (KG.out _).mono ?_); rintro e w1 ⟨rfl, rfl⟩)))
        go_roundw
        case rel => exact ⟨k + 1, by omega, by go_num, HU2, HV2, HB2⟩
        case measure => simp [intOf]; omega
      · obtain ⟨t16, e16⟩ : ∃ t : Nat, (k : Int) - 16 = (t : Int) := ⟨k - 16, by omega⟩
        obtain ⟨t15, e15⟩ : ∃ t : Nat, (k : Int) - 15 = (t : Int) := ⟨k - 15, by omega⟩
        obtain ⟨t7, e7⟩ : ∃ t : Nat, (k : Int) - 7 = (t : Int) := ⟨k - 7, by omega⟩
        obtain ⟨t2, e2⟩ : ∃ t : Nat, (k : Int) - 2 = (t : Int) := ⟨k - 2, by omega⟩
        have hcells : ∀ t, t < k → wr.cell? ⟨w.heap.size + 1, t, none⟩ = some (.int .u32 (gd (sch s k) t : Nat)) := fun t ht => by
          rw [hU.out.cell t (by rw [schA_len s k hk]; omega), schA_get s k t hk ht]
        have c16 := hcells t16 (by omega)
        have c15 := hcells t15 (by omega)
        have c7 := hcells t7 (by omega)
        have c2 := hcells t2 (by omega)
        have l16 : t16 < 64 := by omega
        have l15 : t15 < 64 := by omega
        have l7 : t7 < 64 := by omega
        have l2 : t2 < 64 := by omega
        have g16 : t16 = k - 16 := by omega
        have g15 : t15 = k - 15 := by omega
        have g7 : t7 = k - 7 := by omega
        have g2 : t2 = k - 2 := by omega
        have hbd : ∀ t, t < k → gd (sch s k) t < 4294967296 := fun t ht => by
          unfold gd
          rw [List.getD_eq_getElem?_getD, List.getElem?_eq_getElem (by rw [sch_len]; exact ht)]
          exact sch_lt s HS.out k _ (List.getElem_mem (by rw [sch_len]; exact ht))
        have b16 := hbd t16 (by omega)
        have b15 := hbd t15 (by omega)
        have b7 := hbd t7 (by omega)
        have b2 := hbd t2 (by omega)
        obtain ⟨y, c0⟩ : ∃ y : Nat, wr.cell? ⟨w.heap.size + 1, k, none⟩ = some (.int .u32 (y : Int)) := ⟨_, hU.out.cell k (by rw [schA_len s k hk]; exact hlt)⟩
        have f0 := hU.out.frozen k
        have HN : Hid (nextW (sch s k) k = (gd (sch s k) t16 + sg0 (gd (sch s k) t15) + gd (sch s k) t7 + sg1 (gd (sch s k) t2)) % 4294967296) := Lib.hid (by rw [g16, g15, g7, g2]; rfl)
        clear hcells hbd g16 g15 g7 g2
        have HSTEP : Hid ((schA s k).set k (nextW (sch s k) k) = schA s (k + 1)) := Lib.hid (by have := schA_step s k hlt; rw [if_neg h16] at this; exact this)
        obtain ⟨x16, hx16⟩ : ∃ x, gd (sch s k) t16 = x := ⟨_, rfl⟩
        obtain ⟨x15, hx15⟩ : ∃ x, gd (sch s k) t15 = x := ⟨_, rfl⟩
        obtain ⟨x7, hx7⟩ : ∃ x, gd (sch s k) t7 = x := ⟨_, rfl⟩
        obtain ⟨x2, hx2'⟩ : ∃ x, gd (sch s k) t2 = x := ⟨_, rfl⟩
        rw [hx16] at c16 b16 HN
        rw [hx15] at c15 b15 HN
        rw [hx7] at c7 b7 HN
        rw [hx2'] at c2 b2 HN
        have X16 := Lib.hid hx16
        have X7 := Lib.hid hx7
        clear hx16 hx15 hx7 hx2'
        have HE := Lib.hid (And.intro e16 (And.intro e15 (And.intro e7 e2)))
        have HBD := Lib.hid (And.intro b16 (And.intro b15 (And.intro b7 b2)))
        clear b16 b15 b7 b2
        go_wp2
        go_quiet (fail)
        simp only [Exit.then]
        apply_assumption
        obtain ⟨T0, hT0⟩ : ∃ T, T = ror x15 7 ^^^ ror x15 18 := ⟨_, rfl⟩
        obtain ⟨T1, hT1⟩ : ∃ T, T = ror x2 17 ^^^ ror x2 19 := ⟨_, rfl⟩
        have KTa : Hid (∀ g w, w.cell? ⟨g, 0, none⟩ = some (.int .i64 7) → w.cell? ⟨g, 1, none⟩ = some (.int .i64 18) → Calls Tryz.prog 135 #[.int .u32 (x15 : Int), .slice (some ⟨g, 0, none⟩) 2 2] w fun e w' => e = .returned (.int .u32 (T0 : Int)) ∧ w = w') := Lib.hid (fun g w => turned2 x15 7 18 HBD.out.2.1 (by omega) (by omega) T0 hT0 g w)
        have KTb : Hid (∀ g w, w.cell? ⟨g, 0, none⟩ = some (.int .i64 17) → w.cell? ⟨g, 1, none⟩ = some (.int .i64 19) → Calls Tryz.prog 135 #[.int .u32 (x2 : Int), .slice (some ⟨g, 0, none⟩) 2 2] w fun e w' => e = .returned (.int .u32 (T1 : Int)) ∧ w = w') := Lib.hid (fun g w => turned2 x2 17 19 HBD.out.2.2.2 (by omega) (by omega) T1 hT1 g w)
        have hx1 : bits BinOp.xor IntKind.u32 (T0 : Int) ((x15 : Int) / 8) = (sg0 x15 : Int) := by rw [hT0]; exact sg_xor x15 7 18 8 HBD.out.2.1
        have hx2 : bits BinOp.xor IntKind.u32 (T1 : Int) ((x2 : Int) / 1024) = (sg1 x2 : Int) := by rw [hT1]; exact sg_xor x2 17 19 1024 HBD.out.2.2.2
        have ha1 := add_mod32 x16 (sg0 x15)
        have ha2 := add_mod32 ((x16 + sg0 x15) % 4294967296) x7
        have ha3 := add_mod32 (((x16 + sg0 x15) % 4294967296 + x7) % 4294967296) (sg1 x2)
        have hfin : ((((x16 + sg0 x15) % 4294967296 + x7) % 4294967296 + sg1 x2) % 4294967296) = nextW (sch s k) k := by rw [HN.out]; omega
        rw [hfin] at ha3
        have HX : Hid ((schA s k).set k (nextW (sch s k) k) = schA s (k + 1)) := HSTEP
        generalize nextW (sch s k) k = x at ha3 HX
        generalize ((x16 + sg0 x15) % 4294967296 + x7) % 4294967296 = n2 at ha2 ha3
        generalize (x16 + sg0 x15) % 4294967296 = n1 at ha1 ha2
        generalize sg0 x15 = s0 at hx1 ha1
        generalize sg1 x2 = s1 at hx2 ha3
        clear hT0 hT1 hfin HN HBD HSTEP HE
        have hU' : Hid (UB (w.heap.size + 1) 176 (schA s k) (wr.drewN nq)) := hU
        have hV' : Hid (UB w.heap.size 176 (schA s 0) (wr.drewN nq)) := hV
        have hB' : Hid (Below w.heap.size w (wr.drewN nq)) := Lib.hid ⟨hB.out.os, hB.out.tape, hB.out.output, hB.out.size, hB.out.block⟩
        clear c16 c15 c7 c2 c0 f0 hU hV hB
        generalize wr.drewN nq = W9 at *
        have hs16' : IntKind.i64.wrap (t16 : Int) = (t16 : Int) := IntWalk.i64_in _ ⟨by omega, by omega⟩
        have hs7' : IntKind.i64.wrap (t7 : Int) = (t7 : Int) := IntWalk.i64_in _ ⟨by omega, by omega⟩
        have i16 : (t16 : Int) < 64 := by omega
        have i7 : (t7 : Int) < 64 := by omega
        have ik : (k : Int) < 64 := by omega
        have n16 : (0 : Int) ≤ t16 := by omega
        have n7 : (0 : Int) ≤ t7 := by omega
        have nk : (0 : Int) ≤ k := by omega
        have mk : Hid (∀ wz, SpG s k (w.heap.size + 1) W9 wz → wz.cell? ⟨w.heap.size + 1, t16, none⟩ = some (.int .u32 (x16 : Int)) ∧ wz.cell? ⟨w.heap.size + 1, t7, none⟩ = some (.int .u32 (x7 : Int)) ∧ wz.cell? ⟨w.heap.size + 1, k, none⟩ = some (cv wz ⟨w.heap.size + 1, k, none⟩) ∧ wz.frozen? ⟨w.heap.size + 1, k, none⟩ = false ∧ Hid (SpG s k (w.heap.size + 1) W9 wz)) := Lib.hid (fun wz h => by
          obtain ⟨y, hy⟩ := h.some hlt
          exact ⟨by rw [h.cell hlt t16 (by omega), X16.out], by rw [h.cell hlt t7 (by omega), X7.out], cv_of hy, h.frozen k, Lib.hid h⟩)
        have hst := Lib.hid (SpG.start hU'.out)
        have HPUT : Hid (∀ wz, SpG s k (w.heap.size + 1) W9 wz → SpG s k (w.heap.size + 1) W9 (wz.setCell ⟨w.heap.size + 1, k, none⟩ (.int .u32 (x : Int))) ∧ UB (w.heap.size + 1) 176 (schA s (k + 1)) (wz.setCell ⟨w.heap.size + 1, k, none⟩ (.int .u32 (x : Int)))) := Lib.hid (fun wz h => h.put x HX.out)
        have HS0 : Hid (SpG s k (w.heap.size + 1) W9 W9) := Lib.hid (SpG.undrew hst.out)
        have HFIN : Hid (∀ wz, SpG s k (w.heap.size + 1) W9 wz → Hid (UB (w.heap.size + 1) 176 (schA s (k + 1)) (wz.setCell ⟨w.heap.size + 1, k, none⟩ (.int .u32 (x : Int))).drew) ∧ Hid (UB w.heap.size 176 (schA s 0) (wz.setCell ⟨w.heap.size + 1, k, none⟩ (.int .u32 (x : Int))).drew) ∧ Hid (Below w.heap.size w (wz.setCell ⟨w.heap.size + 1, k, none⟩ (.int .u32 (x : Int))).drew)) := Lib.hid (fun wz h => by
          obtain ⟨p1, p2⟩ := h.put x HX.out
          obtain ⟨q1, q2, q3, q4, q5, _⟩ := p1
          have hlt9 := hV'.out.lt
          have hb := hB'.out
          refine ⟨Lib.hid p2, Lib.hid ((q5 w.heap.size hlt9 (by omega)).trans hV'.out), Lib.hid ⟨q1.trans hb.os, q2.trans hb.tape, q3.trans hb.output, Nat.le_trans hb.size q4, fun b hb2 => (q5 b (by omega) (by omega)).trans (hb.block b hb2)⟩⟩)
        go_region_held3 (fun wz => wz.cell? ⟨w.heap.size + 1, t16, none⟩ = some (.int .u32 (x16 : Int)) ∧ wz.cell? ⟨w.heap.size + 1, t7, none⟩ = some (.int .u32 (x7 : Int)) ∧ wz.cell? ⟨w.heap.size + 1, k, none⟩ = some (cv wz ⟨w.heap.size + 1, k, none⟩) ∧ wz.frozen? ⟨w.heap.size + 1, k, none⟩ = false ∧ Hid (SpG s k (w.heap.size + 1) W9 wz))
          (first
            | exact mk.out _ hst.out
            | (refine mk.out _ (SpG.drew (SpG.alloc ?_ _)); go_split_ands; (first | (refine Hid.out ?_; assumption) | (refine SpG.undrew (Hid.out ?_); assumption)))
            | (refine mk.out _ (SpG.drew (HPUT.out _ ?_).1); go_split_ands; (first | (refine Hid.out ?_; assumption) | (refine SpG.undrew (Hid.out ?_); assumption)))
            | (refine mk.out _ (SpG.alloc ?_ _); go_split_ands; (first | (refine Hid.out ?_; assumption) | (refine SpG.undrew (Hid.out ?_); assumption)))
            | (refine mk.out _ (HPUT.out _ ?_).1; go_split_ands; (first | (refine Hid.out ?_; assumption) | (refine SpG.undrew (Hid.out ?_); assumption)))
            | (refine mk.out _ ?_; go_split_ands; (first | (refine Hid.out ?_; assumption) | (refine SpG.undrew (Hid.out ?_); assumption)))
            | (refine mk.out _ (SpG.drew ?_); go_split_ands; (first | (refine Hid.out ?_; assumption) | (refine SpG.undrew (Hid.out ?_); assumption))))
          (first
            | (go_at_call 135; ((with_reducible refine (KTa.out _ _ ?_ ?_).mono ?_); (simp [go_sem]); (simp [go_sem]); rintro e w1 ⟨rfl, rfl⟩))
            | (go_at_call 135; ((with_reducible refine (KTb.out _ _ ?_ ?_).mono ?_); (simp [go_sem]); (simp [go_sem]); rintro e w1 ⟨rfl, rfl⟩)))
        all_goals
          clear mk hst HPUT
          simp only [Exit.inBlock, Exit.then]
          apply_assumption
          obtain ⟨R1, R2, R3⟩ := HFIN.out _ ((HS0.out.alloc _).alloc _)
          go_wp2
          go_roundw
          case rel => exact ⟨k + 1, by omega, by go_num, R1, R2, R3⟩
          case measure => simp [intOf]; omega
    · obtain rfl : k = 64 := by omega
      have hfin : schA s 64 = sch s 64 := by unfold schA; simp
      rw [hfin] at hU
      have HU3 := Lib.hid (hV.out.row (sch s 64))
      have HB3 := Lib.hid (below_row hB.out (Nat.le_refl _) (u32c (sch s 64)))
      have hln : (Tryz.prog.info? 176).map (·.size) = some (sch s 64).length := by rw [sch_len]; exact keys_info
      have HLN := Lib.hid hln
      have HLL : Hid ((schA s 0).length = (sch s 64).length) := Lib.hid (by rw [schA_len s 0 (by omega), sch_len])
      clear hlt hB hln hfin
      go_wp2_with (first
        | (refine wpList_load_ub rfl 176 (.tmp 3) rfl hU.out Tryz.underlying176 HLN.out rfl ?_)
        | (refine wpList_store_ub rfl 176 (.tmp 2) (.tmp 63) rfl hV.out (l2 := sch s 64) HLN.out HLL.out rfl rfl ?_))
      refine bodyPost_ret (v := .agg (u32c (sch s 64))) ?_ rfl ⟨rfl, HB3.out⟩
      exact results_cell_row rfl _ _ w.heap.size 176 (u32c (sch s 64)) (0, 0) _ rfl HU3.out Tryz.underlying176 rfl (by rw [u32c_size]; exact HLN.out)
end Go.Proofs.YtpcmmejlmhbcdaaGreat.Dg

namespace Go.Proofs.YtpcmmejlmhbcdaaGreat.Dg
open Go.RowKit

def bs0 (x : Nat) : Nat := ror x 2 ^^^ ror x 13 ^^^ ror x 22
def bs1 (x : Nat) : Nat := ror x 6 ^^^ ror x 11 ^^^ ror x 25
def chN (e f g : Nat) : Nat := (e &&& f) ^^^ ((4294967295 ^^^ e) &&& g)
def majN (a b c : Nat) : Nat := (a &&& b) ^^^ (a &&& c) ^^^ (b &&& c)
def t1N (e f g h k w : Nat) : Nat := ((((h + bs1 e) % 4294967296 + chN e f g) % 4294967296 + k) % 4294967296 + w) % 4294967296
def t2N (a b c : Nat) : Nat := (bs0 a + majN a b c) % 4294967296
/-- One round. -/
def stp (k w : Nat) : List Nat → List Nat
  | [a, b, c, d, e, f, g, h] => [(t1N e f g h k w + t2N a b c) % 4294967296, a, b, c, (d + t1N e f g h k w) % 4294967296, e, f, g]
  | l => l
def rds : List Nat → List Nat → List Nat → List Nat
  | k :: ks, w :: ws, l => rds ks ws (stp k w l)
  | _, _, l => l
def small (l : List Nat) : Prop := ∀ x ∈ l, x < 4294967296
theorem stp_ok (k w : Nat) (l : List Nat) (h : l.length = 8) (hs : small l) : (stp k w l).length = 8 ∧ small (stp k w l) := by
  match l, h with
  | [a, b, c, d, e, f, g, h], _ =>
    refine ⟨rfl, ?_⟩
    intro x hx
    have hm : ∀ y, y % 4294967296 < 4294967296 := fun y => Nat.mod_lt _ (by omega)
    simp only [stp, List.mem_cons, List.not_mem_nil, or_false] at hx
    rcases hx with rfl | rfl | rfl | rfl | rfl | rfl | rfl | rfl
    · exact hm _
    · exact hs _ (by simp)
    · exact hs _ (by simp)
    · exact hs _ (by simp)
    · exact hm _
    · exact hs _ (by simp)
    · exact hs _ (by simp)
    · exact hs _ (by simp)

theorem turned3 (x b0 b1 b2 : Nat) (hx : x < 4294967296) (h0 : 1 ≤ b0 ∧ b0 ≤ 31) (h1 : 1 ≤ b1 ∧ b1 ≤ 31) (h2 : 1 ≤ b2 ∧ b2 ≤ 31) (g : Nat) (w : World)
    (c0 : w.cell? ⟨g, 0, none⟩ = some (.int .i64 (b0 : Int))) (c1 : w.cell? ⟨g, 1, none⟩ = some (.int .i64 (b1 : Int))) (c2 : w.cell? ⟨g, 2, none⟩ = some (.int .i64 (b2 : Int))) :
    Calls Tryz.prog 135 #[.int .u32 (x : Int), .slice (some ⟨g, 0, none⟩) 3 3] w fun e w' => e = .returned (.int .u32 ((ror x b0 ^^^ ror x b1 ^^^ ror x b2 : Nat) : Int)) ∧ w = w' := by
  have := turned_any x hx [b0, b1, b2] (by intro b hb; simp at hb; rcases hb with rfl | rfl | rfl <;> assumption) (by simp) g 3 3 rfl w (fun k h => by
    match k, h with
    | 0, _ => exact c0
    | 1, _ => exact c1
    | 2, _ => exact c2)
  have e : xrs x [b0, b1, b2] 0 = ror x b0 ^^^ ror x b1 ^^^ ror x b2 := by unfold xrs xrs xrs xrs; rw [Nat.zero_xor]
  rw [e] at this
  exact this

theorem setCells_same (q : Nat) : ∀ (vs : List Value) (o : Nat) (w : World), (w.setCells q o vs).os = w.os ∧ (w.setCells q o vs).tape = w.tape ∧ (w.setCells q o vs).output = w.output ∧ (w.setCells q o vs).heap.size = w.heap.size ∧ ∀ x, x ≠ q → (w.setCells q o vs).heap[x]? = w.heap[x]?
  | [], _, _ => ⟨rfl, rfl, rfl, rfl, fun _ _ => rfl⟩
  | v :: r, o, w => by
    obtain ⟨h1, h2, h3, h4, h5⟩ := setCells_same q r (o + 1) (w.setCell ⟨q, o, none⟩ v)
    unfold World.setCells
    exact ⟨h1, h2, h3, by rw [h4]; simp, fun x hx => (h5 x hx).trans (heap_setCell_other w ⟨q, o, none⟩ x v hx)⟩
/-- 'copy(h[1:], h[:])' of eight words. -/
theorem rounds_copy (q a b c d e f g h : Nat) (w : World) (hU : UB q 178 [a, b, c, d, e, f, g, h] w) (ty : TypeId) :
    ∃ W1, (Builtin.copy_ #[196, 196] ty #[.slice (some ⟨q, 1, none⟩) 7 7, .slice (some ⟨q, 0, none⟩) 8 8]).run Tryz.prog w = .ok (.int .i64 7) W1 ∧ UB q 178 [a, a, b, c, d, e, f, g] W1 ∧
      (∀ x, x ≠ q → W1.heap[x]? = w.heap[x]?) ∧ W1.heap.size = w.heap.size ∧ W1.os = w.os ∧ W1.tape = w.tape ∧ W1.output = w.output := by
  obtain ⟨vs, hvs0⟩ : ∃ vs : List Value, vs = [.int .u32 (a : Int), .int .u32 (b : Int), .int .u32 (c : Int), .int .u32 (d : Int), .int .u32 (e : Int), .int .u32 (f : Int), .int .u32 (g : Int)] := ⟨_, rfl⟩
  have hlen : vs.length = 7 := by rw [hvs0]; rfl
  have hl := run_loadCells_list (P := Tryz.prog) (w := w) ⟨q, 0, none⟩ vs (fun j v hv => by
    have hadd : (⟨q, 0, none⟩ : Addr).add j = ⟨q, j, none⟩ := by unfold Addr.add; split <;> simp_all
    rw [hadd, cell_of_row w q j _ _ _ hU]
    rw [hvs0] at hv
    match j, hv with
    | 0, hv => exact hv
    | 1, hv => exact hv
    | 2, hv => exact hv
    | 3, hv => exact hv
    | 4, hv => exact hv
    | 5, hv => exact hv
    | 6, hv => exact hv)
  have hst := run_storeCells_cells (P := Tryz.prog) q 1 vs 0 w (by
      intro j hj
      have hj' : j < 7 := by omega
      have := hU.cell (1 + j) (by show 1 + j < 8; omega)
      rw [show 1 + 0 + j = 1 + j by omega, this]; rfl) (fun j _ => hU.frozen _) (by
      intro v hv
      rw [hvs0] at hv
      simp only [List.mem_cons, List.not_mem_nil, or_false] at hv
      rcases hv with rfl | rfl | rfl | rfl | rfl | rfl | rfl <;> rfl)
  obtain ⟨p1, p2, p3, p4, p5⟩ := setCells_same q vs 1 w
  refine ⟨w.setCells q 1 vs, ?_, ?_, p5, p4, p1, p2, p3⟩
  · obtain ⟨i, hi, hz, hsz, _⟩ := info_parts (show (Tryz.prog.info? 175).map (fun i => (i.zero, i.size, i.bytes)) = some (some (.int .u32 0), 1, 4) by kernel_rfl)
    have hmin : Nat.min 8 7 = 7 := rfl
    have hl' : (Builtin.firstCells 1 7 (.slice (some ⟨q, 0, none⟩) 8 8)).run Tryz.prog w = .ok vs.toArray w := by
      rw [hlen] at hl
      have e : Builtin.firstCells 1 7 (.slice (some ⟨q, 0, none⟩) 8 8) = loadCells ⟨q, 0, none⟩ 7 := by unfold Builtin.firstCells; rw [Nat.mul_one]
      rw [e]; exact hl
    generalize hvs : vs.toArray = va at hl'
    have hva : va.toList = vs := by rw [← hvs]
    simp [Builtin.copy_, run_underlying Tryz.underlying196, Builtin.lenOf, sizeOf, typeInfo, hi, hsz, hl', hva, hst, hmin]
    rfl
  · rw [hvs0]
    exact ((((((hU.put 1 a).put 2 b).put 3 c).put 4 d).put 5 e).put 6 f).put 7 g
end Go.Proofs.YtpcmmejlmhbcdaaGreat.Dg
