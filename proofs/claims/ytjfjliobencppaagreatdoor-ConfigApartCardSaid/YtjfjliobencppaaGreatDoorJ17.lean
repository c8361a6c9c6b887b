/- word.Long of any text.; codec.Get, out of what codec.read answers.; What codec.read does, plainly: a stack of lists under way.; A stack of lists under way, as it lies in memory. -/
import Derived.Test.YtjfjliobencppaaGreatDoorJ01
import Derived.Test.YtjfjliobencppaaGreatDoorJ09
set_option linter.unusedVariables false
set_option linter.unusedSimpArgs false
namespace Go.Proofs.YtjfjliobencppaaGreatDoor
open Go.RowKit

/-- The number by sevens that a text begins with: it, of how many bytes, the error. -/
def lngA (acc j : Nat) : List UInt8 → Nat × Nat × Nat
  | [] => if j = 10 then (0, 0, 4) else (0, 0, 3)
  | c :: cs => if j = 10 then (0, 0, 4) else if 128 ≤ c.toNat then lngA (acc + 128 ^ j * (c.toNat % 128)) (j + 1) cs else if 0 < j ∧ c.toNat = 0 then (0, 0, 4) else if j = 9 ∧ 1 < c.toNat then (0, 0, 4) else (acc + 128 ^ j * c.toNat, j + 1, 0)

theorem lngA_sh (rest : List UInt8) : ∀ (m n j acc : Nat), n ≤ 18446744073709551615 → 1 ≤ m ∨ j = 0 → n = acc + 128 ^ j * m → acc < 128 ^ j → j + (sh m).length = (sh n).length → lngA acc j (sh m ++ rest) = (n, (sh n).length, 0) := by
  intro m
  induction m using Nat.strongRecOn with
  | _ m ih =>
    intro n j acc hn hm1 hnm hacc hlen
    have h10 := sh_ten n hn
    have hp := sh_pos m
    have hj : j ≠ 10 := by omega
    by_cases hm : 127 < m
    · rw [sh_more m hm] at hlen ⊢
      rw [List.cons_append, lngA, if_neg hj]
      have hc : (UInt8.ofNat (m % 128 + 128)).toNat = m % 128 + 128 := by rw [UInt8.toNat_ofNat']; omega
      rw [hc, if_pos (by omega), show (m % 128 + 128) % 128 = m % 128 by omega]
      refine ih (m / 128) (by omega) n (j + 1) _ hn (Or.inl (by omega)) ?_ ?_ ?_
      · have h2 : m = 128 * (m / 128) + m % 128 := by omega
        rw [Nat.pow_succ, Nat.mul_assoc, Nat.add_assoc, ← Nat.mul_add, Nat.add_comm (m % 128), ← h2]
        exact hnm
      · have h1 : 128 ^ j * (m % 128) ≤ 128 ^ j * 127 := Nat.mul_le_mul_left _ (by omega)
        rw [Nat.pow_succ]; omega
      · simp only [List.length_cons] at hlen; omega
    · rw [sh_last m hm] at hlen ⊢
      rw [List.cons_append, lngA, if_neg hj]
      have hc : (UInt8.ofNat m).toNat = m := by rw [UInt8.toNat_ofNat']; omega
      rw [hc, if_neg (by omega), if_neg (by omega)]
      have h9 : ¬ (j = 9 ∧ 1 < m) := by
        rintro ⟨h, hm2⟩
        subst h
        have h3 : (128 : Nat) ^ 9 = 9223372036854775808 := by rfl
        rw [h3] at hnm; omega
      rw [if_neg h9, ← hnm]
      simp only [List.length_cons, List.length_nil] at hlen
      rw [← hlen]
theorem lngA_ok (n : Nat) (rest : List UInt8) (hn : n ≤ 18446744073709551615) : lngA 0 0 (sh n ++ rest) = (n, (sh n).length, 0) :=
  lngA_sh rest n n 0 0 hn (Or.inr rfl) (by simp) (by simp) (by simp)

theorem lngA_at (s : ByteArray) (j acc : Nat) (h : j < s.size) : lngA acc j (s.data.toList.drop j) = if j = 10 then (0, 0, 4) else if 128 ≤ s[j].toNat then lngA (acc + 128 ^ j * (s[j].toNat % 128)) (j + 1) (s.data.toList.drop (j + 1)) else if 0 < j ∧ s[j].toNat = 0 then (0, 0, 4) else if j = 9 ∧ 1 < s[j].toNat then (0, 0, 4) else (acc + 128 ^ j * s[j].toNat, j + 1, 0) := by
  have hl : j < s.data.toList.length := by simpa using h
  rw [List.drop_eq_getElem_cons hl, lngA]
  rfl
theorem lngA_ten (l : List UInt8) (acc : Nat) : lngA acc 10 l = (0, 0, 4) := by
  cases l <;> (rw [lngA]; simp)
theorem lngA_nil (j acc : Nat) (h : j ≠ 10) : lngA acc j [] = (0, 0, 3) := by rw [lngA, if_neg h]

/-- At 'next', j bytes read. -/
def LongK (s : ByteArray) (R : Nat × Nat × Nat) (w : World) (a' : Act) (w' : World) : Prop :=
  w' = w ∧ ∃ (j acc : Nat) (z : Int) (u1 u2 u3 u4 u7 u8 u9 u10 u11 u12 u13 u14 u15 u16 u17 u18 u19 u20 u21 u22 u23 u24 u25 u26 u27 u28 u29 u30 u31 u32 u33 u34 u35 u36 u37 u38 u39 u40 u41 u42 : Value),
    a' = { tmps := #[.string s, u1, u2, u3, u4, .int .u64 z, .int .i64 j, u7, u8, u9, u10, u11, u12, u13, u14, u15, u16, u17, u18, u19, u20, u21, u22, u23, u24, u25, u26, u27, u28, u29, u30, u31, u32, u33, u34, u35, u36, u37, u38, u39, u40, u41, u42], defers := [] } ∧
    1 ≤ j ∧ j ≤ 10 ∧ j ≤ s.size ∧ (j ≤ 9 → z = (acc : Int) ∧ acc < 128 ^ j) ∧ lngA acc j (s.data.toList.drop j) = R

def lonV (R : Nat × Nat × Nat) : Value := .tuple #[.int .u64 (R.1 : Int), .int .i64 (R.2.1 : Int), .int .i64 (R.2.2 : Int)]
theorem long_next (j acc c : Nat) (hj : j ≤ 8) (hacc : acc < 128 ^ j) (hc : c < 256) :
    bits BinOp.or IntKind.u64 (acc : Int) (IntKind.u64.wrap (((c % 128 : Nat) : Int) * 2 ^ (7 * j))) = ((acc + 128 ^ j * (c % 128) : Nat) : Int) ∧ acc + 128 ^ j * (c % 128) < 128 ^ (j + 1) := by
  have h1 : 128 ^ j * (c % 128) ≤ 128 ^ j * 127 := Nat.mul_le_mul_left _ (by omega)
  have h2 : (128 : Nat) ^ j ≤ 128 ^ 8 := Nat.pow_le_pow_right (by omega) hj
  have h3 : (128 : Nat) ^ 8 = 72057594037927936 := by rfl
  have hs := long_step (acc + 128 ^ j * (c % 128)) j (c % 128) acc (c % 128) (by omega) rfl hacc (by omega)
  rw [hs.1, hs.2]
  exact ⟨rfl, by rw [Nat.pow_succ]; omega⟩

set_option maxRecDepth 1000000 in
set_option maxHeartbeats 1000000 in
theorem long_any (s : ByteArray) (hmax : s.size ≤ 1000000000) (w : World) : Calls Tryz.prog 106 #[.string s] w fun e w' => e = .returned (lonV (lngA 0 0 s.data.toList)) ∧ w = w' := by
  obtain ⟨R, hR⟩ : ∃ R, lngA 0 0 s.data.toList = R := ⟨_, rfl⟩
  rw [hR]
  have HR := Lib.hid hR
  have HM := Lib.hid hmax
  clear hR
  go_enter Tryz.func106, Tryz.ntmps106
  go_wp2
  refine wp_scope_jumps 0 (LongK s R w) (fun a' _ => 20 - (intOf (a'.tmps.getD 6 undef)).toNat) rfl ?_ ?_
  · by_cases h0 : s.size = 0
    · have hz : ((0 : Int) == (s.size : Int)) = true := by rw [beq_iff_eq]; omega
      have hz2 : ((s.size : Int) == 0) = true := by rw [beq_iff_eq]; omega
      have hl : s.data.toList = [] := List.eq_nil_of_length_eq_zero (by simpa using h0)
      have hr : R = (0, 0, 3) := by rw [← HR.out, hl]; rfl
      have HRR := Lib.hid hr
      clear hl hr h0
      go_wp2
      go_step3
      go_wp2
      simp only [Exit.jump]
      refine bodyPost_ret (v := .tuple #[.int .u64 0, .int .i64 0, .int .i64 3]) (by simp [results, Tryz.results106, go_sem]) rfl ⟨?_, rfl⟩
      rw [HRR.out]; rfl
    · have hz : ((s.size : Int) == 0) = false := by rw [beq_eq_false_iff_ne]; omega
      have hz2 : ((0 : Int) == (s.size : Int)) = false := by rw [beq_eq_false_iff_ne]; omega
      have hat := lngA_at s 0 0 (by omega)
      rw [List.drop_zero, HR.out, if_neg (by omega)] at hat
      have f1 : bits BinOp.and IntKind.u8 (s[0].toNat : Int) 127 = ((s[0].toNat % 128 : Nat) : Int) := mask_byte _ s[0].toNat_lt
      have f2 : IntKind.u64.wrap ((s[0].toNat % 128 : Nat) : Int) = ((s[0].toNat % 128 : Nat) : Int) := IntWalk.u64_in _ (by omega)
      have f5 : bits BinOp.or IntKind.u64 0 ((s[0].toNat % 128 : Nat) : Int) = ((s[0].toNat % 128 : Nat) : Int) := by
        have := u64_or_nat 0 (s[0].toNat % 128) (by omega) (by omega)
        rw [Nat.zero_or] at this
        exact this
      have h0' : 0 < s.size := by omega
      obtain ⟨c, hc⟩ : ∃ c, s[0].toNat = c := ⟨_, rfl⟩
      have hc256 : c < 256 := by rw [← hc]; exact s[0].toNat_lt
      obtain ⟨r, hr⟩ : ∃ r, r = c % 128 := ⟨_, rfl⟩
      rw [hc, ← hr] at f1 f2 f5
      rw [hc] at hat
      have HRC := Lib.hid hr
      by_cases h128 : 128 ≤ c
      · have g1 : (128 : Int) ≤ (c : Int) := by omega
        rw [if_pos h128] at hat
        have HAT := Lib.hid hat
        have HS := Lib.hid (show 1 ≤ s.size by omega)
        clear hat hr
        go_wp2
        go_step3
        go_wp2
        go_step3
        refine ⟨rfl, rfl, 1, r, (r : Int), _, _, _, _, _, _, _, _, _, _, _, _, _, _, _, _, _, _, _, _, _, _, _, _, _, _, _, _, _, _, _, _, _, _, _, _, _, _, _, _, rfl, Nat.le_refl _, by omega, HS.out, fun _ => ⟨rfl, ?_⟩, ?_⟩
        · rw [Nat.pow_one, HRC.out]; omega
        · rw [HAT.out, HRC.out]; simp
      · have g1 : ¬ (128 : Int) ≤ (c : Int) := by omega
        rw [if_neg h128, if_neg (by omega), if_neg (by omega)] at hat
        have hrc : r = c := by omega
        rw [hrc] at f1 f2 f5
        have HRR : Hid (R = (c, 1, 0)) := Lib.hid (by rw [hat]; simp)
        clear hat hr hrc
        go_wp2
        go_step3
        go_wp2
        simp only [Exit.jump]
        refine bodyPost_ret (v := .tuple #[.int .u64 c, .int .i64 1, .int .i64 0]) (by simp [results, Tryz.results106, go_sem]) rfl ⟨?_, rfl⟩
        rw [HRR.out]; rfl
  · rintro a' w' ⟨rfl, j, acc, z, u1, u2, u3, u4, u7, u8, u9, u10, u11, u12, u13, u14, u15, u16, u17, u18, u19, u20, u21, u22, u23, u24, u25, u26, u27, u28, u29, u30, u31, u32, u33, u34, u35, u36, u37, u38, u39, u40, u41, u42, rfl, hj1, hj10, hjs, hz, hl⟩
    by_cases h10 : j = 10
    · subst h10
      have hr : R = (0, 0, 4) := by rw [← hl, lngA_ten]
      have HRR := Lib.hid hr
      clear hr hl hz
      go_wp2
      simp only [Exit.jump]
      refine bodyPost_ret (v := .tuple #[.int .u64 0, .int .i64 0, .int .i64 4]) (by simp [results, Tryz.results106, go_sem]) rfl ⟨?_, rfl⟩
      rw [HRR.out]; rfl
    · have hj10' : ((j : Int) == 10) = false := by rw [beq_eq_false_iff_ne]; omega
      obtain ⟨rfl, hacc⟩ := hz (by omega)
      by_cases hend : j = s.size
      · have he : ((j : Int) == (s.size : Int)) = true := by rw [beq_iff_eq]; omega
        have hr : R = (0, 0, 3) := by
          rw [← hl, List.drop_of_length_le (by simp; omega), lngA_nil _ _ h10]
        have HRR := Lib.hid hr
        clear hr hl hz hend
        go_wp2
        simp only [Exit.jump]
        refine bodyPost_ret (v := .tuple #[.int .u64 0, .int .i64 0, .int .i64 3]) (by simp [results, Tryz.results106, go_sem]) rfl ⟨?_, rfl⟩
        rw [HRR.out]; rfl
      · have hlt : j < s.size := by omega
        have he : ((j : Int) == (s.size : Int)) = false := by rw [beq_eq_false_iff_ne]; omega
        have ij : (j : Int) < (s.size : Int) := by omega
        have ij9 : (j : Int) ≤ 9 := by omega
        have hat := lngA_at s j acc hlt
        rw [hl, if_neg h10] at hat
        have f1 : bits BinOp.and IntKind.u8 (s[j].toNat : Int) 127 = ((s[j].toNat % 128 : Nat) : Int) := mask_byte _ s[j].toNat_lt
        have f2 : IntKind.u64.wrap ((s[j].toNat % 128 : Nat) : Int) = ((s[j].toNat % 128 : Nat) : Int) := IntWalk.u64_in _ (by omega)
        have hc256 : s[j].toNat < 256 := s[j].toNat_lt
        obtain ⟨c, hc⟩ : ∃ c, s[j].toNat = c := ⟨_, rfl⟩
        rw [hc] at f1 f2 hc256 hat
        obtain ⟨r, hr⟩ : ∃ r, r = c % 128 := ⟨_, rfl⟩
        rw [← hr] at f1 f2
        obtain ⟨Z1, q3⟩ : ∃ z, IntKind.u64.wrap ((r : Int) * 2 ^ (7 * j)) = z := ⟨_, rfl⟩
        obtain ⟨Z2, q4⟩ : ∃ z, bits BinOp.or IntKind.u64 (acc : Int) Z1 = z := ⟨_, rfl⟩
        have HQ : Hid (j ≤ 8 → Z2 = ((acc + 128 ^ j * r : Nat) : Int) ∧ acc + 128 ^ j * r < 128 ^ (j + 1)) := Lib.hid (fun h8 => by
          have := long_next j acc c h8 hacc hc256
          rw [← hr, q3, q4] at this
          exact this)
        have HZ9 : Hid (j = 9 → c ≤ 1 → Z2 = ((acc + 128 ^ j * c : Nat) : Int)) := Lib.hid (fun h9 h1 => by
          have h3 : (128 : Nat) ^ 9 = 9223372036854775808 := by rfl
          have h4 : 128 ^ 9 * c ≤ 128 ^ 9 * 1 := Nat.mul_le_mul_left _ h1
          have := long_step (acc + 128 ^ j * c) j c acc r (by rw [h9] at hacc ⊢; omega) rfl hacc hr
          rw [q3, show r = c by omega] at this
          rw [← q4, this.1, this.2])
        have HRC := Lib.hid hr
        have HLT := Lib.hid hlt
        clear hl hz hacc
        by_cases h128 : 128 ≤ c
        · have g1 : (128 : Int) ≤ (c : Int) := by omega
          rw [if_pos h128] at hat
          have HAT := Lib.hid hat
          clear hat hr
          go_wp2
          go_step3
          refine ⟨rfl, ⟨rfl, j + 1, acc + 128 ^ j * r, Z2, _, _, _, _, _, _, _, _, _, _, _, _, _, _, _, _, _, _, _, _, _, _, _, _, _, _, _, _, _, _, _, _, _, _, _, _, _, _, _, _, rfl, by omega, by omega, HLT.out, fun h => HQ.out (by omega), ?_⟩, ?_⟩
          · rw [HAT.out, HRC.out]
          · simp [intOf]; omega
        · have g1 : ¬ (128 : Int) ≤ (c : Int) := by omega
          rw [if_neg h128] at hat
          by_cases h0 : c = 0
          · have g2 : ((c : Int) == 0) = true := by rw [beq_iff_eq]; omega
            rw [if_pos ⟨hj1, h0⟩] at hat
            have HRR := Lib.hid hat
            clear hat hr h0
            go_wp2
            simp only [Exit.jump]
            refine bodyPost_ret (v := .tuple #[.int .u64 0, .int .i64 0, .int .i64 4]) (by simp [results, Tryz.results106, go_sem]) rfl ⟨?_, rfl⟩
            rw [HRR.out]; rfl
          · have g2 : ((c : Int) == 0) = false := by rw [beq_eq_false_iff_ne]; omega
            rw [if_neg (fun h => h0 h.2)] at hat
            by_cases h9 : j = 9
            · have hj1' : ((j : Int) + 1 == 10) = true := by rw [beq_iff_eq]; omega
              by_cases h1 : 1 < c
              · have g3 : (1 : Int) < (c : Int) := by omega
                rw [if_pos ⟨h9, h1⟩] at hat
                have HRR := Lib.hid hat
                clear hat hr h9
                go_wp2
                simp only [Exit.jump]
                refine bodyPost_ret (v := .tuple #[.int .u64 0, .int .i64 0, .int .i64 4]) (by simp [results, Tryz.results106, go_sem]) rfl ⟨?_, rfl⟩
                rw [HRR.out]; rfl
              · have g3 : ¬ (1 : Int) < (c : Int) := by omega
                rw [if_neg (fun h => h1 h.2)] at hat
                have HRR := Lib.hid hat
                have hzz := HZ9.out h9 (by omega)
                have HZZ := Lib.hid hzz
                clear hat hr h9 hzz
                go_wp2
                simp only [Exit.jump]
                refine bodyPost_ret (v := .tuple #[.int .u64 Z2, .int .i64 ((j : Int) + 1), .int .i64 0]) (by simp [results, Tryz.results106, go_sem]) rfl ⟨?_, rfl⟩
                rw [HRR.out, HZZ.out]; rfl
            · have hj1' : ((j : Int) + 1 == 10) = false := by rw [beq_eq_false_iff_ne]; omega
              rw [if_neg (fun h => h9 h.1)] at hat
              have HRR := Lib.hid hat
              have hrc : r = c := by omega
              have hzz := (HQ.out (by omega)).1
              rw [hrc] at hzz
              have HZZ := Lib.hid hzz
              clear hat hr h9 hzz hrc
              go_wp2
              simp only [Exit.jump]
              refine bodyPost_ret (v := .tuple #[.int .u64 Z2, .int .i64 ((j : Int) + 1), .int .i64 0]) (by simp [results, Tryz.results106, go_sem]) rfl ⟨?_, rfl⟩
              rw [HRR.out, HZZ.out]; rfl
end Go.Proofs.YtjfjliobencppaaGreatDoor

namespace Go.Proofs.YtjfjliobencppaaGreatDoor
open Go.RowKit

/-- A value, a rest, an error. -/
def crV (a b c d : Value) (r : ByteArray) (e : Nat) : Value := .tuple #[.agg #[a, b, c, d], .string r, .int .i64 (e : Int)]
def cgV (a b c d : Value) (e : Nat) : Value := .tuple #[.agg #[a, b, c, d], .int .i64 (e : Int)]
/-- The zero value's box, at the head of what is new. -/
def Zx (w wz : World) : Prop := wz.heap[w.heap.size]? = some (.cells #[.int .i64 0, .int .u64 0, .string ⟨#[]⟩, .slice none 0 0] 69 (0, 0)) ∧ Below w.heap.size w wz
theorem Zx.new (w : World) : Zx w (w.alloc (.cells #[.int .i64 0, .int .u64 0, .string ⟨#[]⟩, .slice none 0 0] 69)) := ⟨heap_alloc_new w _, alloc_below _ _⟩
theorem Zx.later {w wz w1 : World} (h : Zx w wz) (hb : Below wz.heap.size wz w1) : Zx w w1 := ⟨(hb.block _ (lt_of_heap h.1)).trans h.1, h.2.trans (hb.mono h.2.size)⟩
theorem Zx.cells {w wz : World} (h : Zx w wz) : wz.cell? ⟨w.heap.size, 0, none⟩ = some (.int .i64 0) ∧ wz.cell? ⟨w.heap.size, 1, none⟩ = some (.int .u64 0) ∧ wz.cell? ⟨w.heap.size, 2, none⟩ = some (.string ⟨#[]⟩) ∧ wz.cell? ⟨w.heap.size, 3, none⟩ = some (.slice none 0 0) ∧ wz.frozen? ⟨w.heap.size, 0, none⟩ = false ∧ wz.frozen? ⟨w.heap.size, 1, none⟩ = false ∧ wz.frozen? ⟨w.heap.size, 2, none⟩ = false ∧ wz.frozen? ⟨w.heap.size, 3, none⟩ = false := by
  refine ⟨?_, ?_, ?_, ?_, frozen_of_row wz _ 0 _ _ h.1, frozen_of_row wz _ 1 _ _ h.1, frozen_of_row wz _ 2 _ _ h.1, frozen_of_row wz _ 3 _ _ h.1⟩
  all_goals (rw [cell_of_row wz w.heap.size _ _ _ _ h.1]; rfl)
theorem Zx.put {w wz : World} (h : Below w.heap.size w wz) (a b c d : Value) : Below w.heap.size w ((((wz.setCell ⟨w.heap.size, 0, none⟩ a).setCell ⟨w.heap.size, 1, none⟩ b).setCell ⟨w.heap.size, 2, none⟩ c).setCell ⟨w.heap.size, 3, none⟩ d) :=
  have hle : w.heap.size ≤ w.heap.size := Nat.le_refl _
  (((h.setCell (p := ⟨w.heap.size, 0, none⟩) hle _).setCell (p := ⟨w.heap.size, 1, none⟩) hle _).setCell (p := ⟨w.heap.size, 2, none⟩) hle _).setCell (p := ⟨w.heap.size, 3, none⟩) hle _

set_option maxRecDepth 100000 in
set_option maxHeartbeats 1000000 in
theorem get_bad (s : ByteArray) (c : Nat) (hc0 : c ≠ 0)
    (h : ∀ w, Calls Tryz.prog 71 #[.string s] w fun x w' => x = .returned (crV (.int .i64 0) (.int .u64 0) (.string ⟨#[]⟩) (.slice none 0 0) ⟨#[]⟩ c) ∧ Below w.heap.size w w') (w : World) :
    Calls Tryz.prog 29 #[.string s] w fun x w' => x = .returned (cgV (.int .i64 0) (.int .u64 0) (.string ⟨#[]⟩) (.slice none 0 0) c) ∧ Below w.heap.size w w' := by
  have hq : ((c : Int) != 0) = true := by rw [bne_iff_ne]; omega
  have K1 := Lib.hid h
  have Z0 := Lib.hid (Zx.new w)
  clear h hc0
  go_enter Tryz.func29, Tryz.ntmps29
  go_wp2_with fail
  refine (K1.out _).mono ?_
  rintro x w2 ⟨rfl, hb2⟩
  have Z2 := Lib.hid ((Z0.out.later hb2).later (alloc_below w2 (.cells #[.int .i64 0, .int .u64 0, .string ⟨#[]⟩, .slice none 0 0] 69)))
  obtain ⟨c0, c1, c2, c3, f0, f1, f2, f3⟩ := Z2.out.cells
  have hst := store27 w2 0 0 ⟨#[]⟩ none 0 0
  clear hb2
  unfold crV
  go_wp2
  refine bodyPost_ret (v := cgV (.int .i64 0) (.int .u64 0) (.string ⟨#[]⟩) (.slice none 0 0) c) (by simp [results, Tryz.results29, go_sem, cgV, *]) rfl ⟨rfl, ?_⟩
  exact Zx.put Z2.out.2 _ _ _ _

set_option maxRecDepth 100000 in
set_option maxHeartbeats 1000000 in
theorem get_fine (s : ByteArray) (t : Tr)
    (h : ∀ w, Calls Tryz.prog 71 #[.string s] w fun x w' => ∃ d0 d1 d2 d3, x = .returned (crV d0 d1 d2 d3 ⟨#[]⟩ 0) ∧ VInP w' (fun b => w.heap.size ≤ b) t d0 d1 d2 d3 ∧ Below w.heap.size w w') (w : World) :
    Calls Tryz.prog 29 #[.string s] w fun x w' => ∃ d0 d1 d2 d3, x = .returned (cgV d0 d1 d2 d3 0) ∧ VInP w' (fun b => w.heap.size ≤ b) t d0 d1 d2 d3 ∧ Below w.heap.size w w' := by
  have K1 := Lib.hid h
  have Z0 := Lib.hid (Zx.new w)
  have HLT := Lib.hid (alloc_lt w (.cells #[.int .i64 0, .int .u64 0, .string ⟨#[]⟩, .slice none 0 0] 69))
  clear h
  go_enter Tryz.func29, Tryz.ntmps29
  go_wp2_with fail
  refine (K1.out _).mono ?_
  rintro x w2 ⟨d0, d1, d2, d3, rfl, hv, hb2⟩
  obtain ⟨k, n, v, o, len, cap, rfl, rfl, rfl, rfl⟩ := hv.cells
  have Z2 := Lib.hid ((Z0.out.later hb2).later (alloc_below w2 (.cells #[.int .i64 k, .int .u64 (n : Int), .string v, .slice o len cap] 69)))
  obtain ⟨c0, c1, c2, c3, f0, f1, f2, f3⟩ := Z2.out.cells
  obtain ⟨e0, e1, e2, e3⟩ := four_new w2 (.int .i64 k) (.int .u64 (n : Int)) (.string v) (.slice o len cap) 69
  have hst := store27 w2 k n v o len cap
  have HV := Lib.hid hv
  have HB2 := Lib.hid hb2
  clear hb2 hv
  unfold crV
  go_wp2
  refine bodyPost_ret (v := cgV (.int .i64 k) (.int .u64 (n : Int)) (.string v) (.slice o len cap) 0) (by simp [results, Tryz.results29, go_sem, cgV, *]) rfl ⟨_, _, _, _, rfl, ?_, ?_⟩
  · refine VInP.keep (by simp) (fun b' hb' hP => ⟨?_, ?_⟩) _ HV.out
    · have hne : b' ≠ w.heap.size := by have := HLT.out; omega
      rw [setfour b' hne]
      exact (alloc_below w2 _).block b' hb'
    · have := HLT.out; omega
  · exact Zx.put Z2.out.2 _ _ _ _

set_option maxRecDepth 100000 in
set_option maxHeartbeats 1000000 in
theorem get_form (s r : ByteArray) (hr : 1 ≤ r.size)
    (h : ∀ w, Calls Tryz.prog 71 #[.string s] w fun x w' => ∃ (k : Int) (n : Nat) (v : ByteArray) (o : Option Addr) (len cap : Nat), x = .returned (crV (.int .i64 k) (.int .u64 (n : Int)) (.string v) (.slice o len cap) r 0) ∧ Below w.heap.size w w') (w : World) :
    Calls Tryz.prog 29 #[.string s] w fun x w' => x = .returned (cgV (.int .i64 0) (.int .u64 0) (.string ⟨#[]⟩) (.slice none 0 0) 4) ∧ Below w.heap.size w w' := by
  have hq := empty_no r hr
  have hq2 : (!r.toList.isEmpty) = true := by rw [hq]; rfl
  have K1 := Lib.hid h
  have Z0 := Lib.hid (Zx.new w)
  clear h hr
  go_enter Tryz.func29, Tryz.ntmps29
  go_wp2_with fail
  refine (K1.out _).mono ?_
  rintro x w2 ⟨k, n, v, o, len, cap, rfl, hb2⟩
  have Z2 := Lib.hid ((Z0.out.later hb2).later (alloc_below w2 (.cells #[.int .i64 k, .int .u64 (n : Int), .string v, .slice o len cap] 69)))
  obtain ⟨c0, c1, c2, c3, f0, f1, f2, f3⟩ := Z2.out.cells
  have hst := store27 w2 k n v o len cap
  clear hb2
  unfold crV
  go_wp2
  refine bodyPost_ret (v := cgV (.int .i64 0) (.int .u64 0) (.string ⟨#[]⟩) (.slice none 0 0) 4) (by simp [results, Tryz.results29, go_sem, cgV, *]) rfl ⟨rfl, ?_⟩
  exact Zx.put Z2.out.2 _ _ _ _

end Go.Proofs.YtjfjliobencppaaGreatDoor

namespace Go.Proofs.YtjfjliobencppaaGreatDoor
open Go.RowKit

def t0 : Tr := .mk 0 0 ⟨#[]⟩ []
/-- Where it stands: at a value's beginning, behind a value, with a value in hand. -/
inductive Md where
  | v : Md
  | n : Md
  | w : Tr → Md
def Md.rk : Md → Nat
  | .v => 0
  | .n => 1
  | .w _ => 2
def rd (m : Md) (st : List (Nat × List Tr)) (s : List UInt8) : Nat × Tr × List UInt8 :=
  match m, st, s with
  | .v, _, [] => (3, t0, [])
  | .v, st, k :: s1 =>
    if k.toNat < 1 ∨ 3 < k.toNat then (10, t0, [])
    else if (lngA 0 0 s1).2.2 ≠ 0 then ((lngA 0 0 s1).2.2, t0, [])
    else if k.toNat = 1 then rd (.w (.mk 1 (lngA 0 0 s1).1 ⟨#[]⟩ [])) st (s1.drop (lngA 0 0 s1).2.1)
    else if k.toNat = 2 then
      if (s1.drop (lngA 0 0 s1).2.1).length < (lngA 0 0 s1).1 then (3, t0, [])
      else rd (.w (.mk 2 0 (str ((s1.drop (lngA 0 0 s1).2.1).take (lngA 0 0 s1).1)) [])) st ((s1.drop (lngA 0 0 s1).2.1).drop (lngA 0 0 s1).1)
    else if st.length = 6 then (8, t0, [])
    else rd .n (((lngA 0 0 s1).1, []) :: st) (s1.drop (lngA 0 0 s1).2.1)
  | .n, [], _ => (0, t0, [])
  | .n, (0, h) :: st, s => rd (.w (.mk 3 0 ⟨#[]⟩ h)) st s
  | .n, (k + 1, h) :: st, s => rd .v ((k + 1, h) :: st) s
  | .w t, [], s => (0, t, s)
  | .w t, (k, h) :: st, s => rd .n ((k - 1, h ++ [t]) :: st) s
termination_by (s.length, st.length, m.rk)
decreasing_by
  all_goals simp_wf
  all_goals first
    | (apply Prod.Lex.left; (try simp only [List.length_drop]); omega)
    | (apply Prod.Lex.right; apply Prod.Lex.left; simp; done)
    | (apply Prod.Lex.right; apply Prod.Lex.right; simp [Md.rk]; done)

mutual
/-- Numbers, texts and lists that a machine holds. -/
def okT : Tr → Prop
  | .mk _ n s l => n ≤ 18446744073709551615 ∧ s.size ≤ 1000000000 ∧ l.length ≤ 1000000 ∧ okL l
def okL : List Tr → Prop
  | [] => True
  | t :: ts => okT t ∧ okL ts
end
theorem rd_push (t : Tr) (k : Nat) (h : List Tr) (st : List (Nat × List Tr)) (s : List UInt8) : rd (.w t) ((k, h) :: st) s = rd .n ((k - 1, h ++ [t]) :: st) s := by rw [rd]
theorem rd_more (k : Nat) (h : List Tr) (st : List (Nat × List Tr)) (s : List UInt8) : rd .n ((k + 1, h) :: st) s = rd .v ((k + 1, h) :: st) s := by rw [rd]
theorem rd_none (h : List Tr) (st : List (Nat × List Tr)) (s : List UInt8) : rd .n ((0, h) :: st) s = rd (.w (.mk 3 0 ⟨#[]⟩ h)) st s := by rw [rd]

theorem empty_ba (s : ByteArray) (h : s.size = 0) : s = ⟨#[]⟩ := by
  cases s with | mk d => congr 1; exact Array.eq_empty_of_size_eq_zero h

theorem rd_list (st : List (Nat × List Tr)) (rest : List UInt8) : ∀ (l h : List Tr), (∀ x ∈ l, ∀ st2 rest2, st2.length = st.length + 1 → rd .v st2 (txtT x ++ rest2) = rd (.w x) st2 rest2) →
    rd .n ((l.length, h) :: st) (txtL l ++ rest) = rd (.w (.mk 3 0 ⟨#[]⟩ (h ++ l))) st rest
  | [], h, _ => by
    unfold txtL
    rw [List.length_nil, rd_none, List.nil_append, List.append_nil]
  | x :: xs, h, ih => by
    unfold txtL
    rw [List.length_cons, rd_more, List.append_assoc, ih x (by simp) _ _ (by simp), rd_push, Nat.add_sub_cancel]
    rw [rd_list st rest xs (h ++ [x]) (fun y hy => ih y (by simp [hy]))]
    simp
theorem okL_mem : ∀ (l : List Tr), okL l → ∀ x ∈ l, okT x
  | [], _, _, h => by cases h
  | t :: ts, h, x, hx => by
    unfold okL at h
    rcases List.mem_cons.1 hx with rfl | hx
    · exact h.1
    · exact okL_mem ts h.2 x hx
theorem deepL_mem : ∀ (l : List Tr), ∀ x ∈ l, deepT x ≤ deepL l
  | [], _, h => by cases h
  | t :: ts, x, hx => by
    unfold deepL
    rcases List.mem_cons.1 hx with rfl | hx
    · omega
    · have := deepL_mem ts x hx; omega
/-- What is written is read. -/
theorem rd_txt : ∀ (t : Tr), sndT t = true → okT t → ∀ (st : List (Nat × List Tr)) (rest : List UInt8), deepT t + st.length ≤ 6 → rd .v st (txtT t ++ rest) = rd (.w t) st rest := by
  refine Tr.ind ?_
  intro k n s l ih hs hok st rest hd
  unfold sndT at hs
  simp only [Bool.and_eq_true, Bool.or_eq_true, decide_eq_true_eq] at hs
  obtain ⟨⟨⟨⟨⟨k1, k3⟩, hn⟩, hsz⟩, hl⟩, hsl⟩ := hs
  unfold okT at hok
  obtain ⟨on, os, ol, oll⟩ := hok
  have hk : k = 1 ∨ k = 2 ∨ k = 3 := by omega
  rcases hk with rfl | rfl | rfl
  · obtain rfl : s = ⟨#[]⟩ := empty_ba s (by omega)
    obtain rfl : l = [] := List.eq_nil_of_length_eq_zero (by omega)
    unfold txtT
    rw [if_pos rfl, List.cons_append, rd]
    rw [lngA_ok n rest on]
    rw [if_neg (by decide), if_neg (by simp), if_pos (by decide)]
    simp
  · obtain rfl : n = 0 := by omega
    obtain rfl : l = [] := List.eq_nil_of_length_eq_zero (by omega)
    unfold txtT
    rw [if_neg (by decide), if_pos rfl, List.cons_append, rd, List.append_assoc]
    rw [lngA_ok s.size _ (by omega)]
    rw [if_neg (by decide), if_neg (by simp), if_neg (by decide), if_pos (by decide)]
    have hsl : s.data.toList.length = s.size := by simp
    simp only [List.drop_left']
    rw [if_neg (by rw [List.length_append, hsl]; omega), ← hsl, List.take_left', List.drop_left']
    all_goals simp [str]
  · obtain rfl : n = 0 := by omega
    obtain rfl : s = ⟨#[]⟩ := empty_ba s (by omega)
    unfold deepT at hd
    rw [if_pos rfl] at hd
    unfold txtT
    rw [if_neg (by decide), if_neg (by decide), List.cons_append, rd, List.append_assoc]
    rw [lngA_ok l.length _ (by omega)]
    rw [if_neg (by decide), if_neg (by simp), if_neg (by decide), if_neg (by decide), if_neg (by omega)]
    simp only [List.drop_left']
    rw [rd_list st rest l [] ?_]
    · rfl
    · intro x hx st2 rest2 h2
      refine ih x hx ?_ (okL_mem l oll x hx) st2 rest2 ?_
      · rw [sndL_all, List.all_eq_true] at hsl
        exact hsl x hx
      · have := deepL_mem l x hx
        omega
end Go.Proofs.YtjfjliobencppaaGreatDoor

namespace Go.Proofs.YtjfjliobencppaaGreatDoor
open Go.RowKit

/-- A row of lists under way, of two cells each. -/
def SRow (T : TypeId) (ρ : Option Nat) (o : Option Addr) (cap n : Nat) (xs : List Value) (w : World) : Prop :=
  xs.length = n * 2 ∧ ((o = none ∧ cap = 0 ∧ ρ = none ∧ n = 0) ∨ ∃ (r : Nat) (cur : Array Value), ρ = some r ∧ o = some ⟨r, 0, none⟩ ∧ w.heap[r]? = some (.cells cur T (0, 0)) ∧ n ≤ cap ∧ cap ≤ maxLen ∧ cur.size = cap * 2 ∧ cur.toList.take (n * 2) = xs)
theorem SRow.nil (T : TypeId) (w : World) : SRow T none none 0 0 [] w := ⟨rfl, Or.inl ⟨rfl, rfl, rfl, rfl⟩⟩
theorem SRow.keep {T : TypeId} {ρ : Option Nat} {o : Option Addr} {cap n : Nat} {xs : List Value} {w w' : World} (h : SRow T ρ o cap n xs w) (hk : ∀ r, ρ = some r → w'.heap[r]? = w.heap[r]?) : SRow T ρ o cap n xs w' := by
  refine ⟨h.1, ?_⟩
  rcases h.2 with h | ⟨r, cur, h1, h2, h4, h5⟩
  · exact Or.inl h
  · exact Or.inr ⟨r, cur, h1, h2, (hk r h1).trans h4, h5⟩
theorem SRow.lt {T : TypeId} {ρ : Option Nat} {o : Option Addr} {cap n : Nat} {xs : List Value} {w : World} (h : SRow T ρ o cap n xs w) (r : Nat) (hr : ρ = some r) : r < w.heap.size := by
  rcases h.2 with ⟨_, _, h, _⟩ | ⟨q, cur, h1, _, h4, _⟩
  · rw [h] at hr; cases hr
  · rw [h1] at hr; cases hr; exact lt_of_heap h4
theorem SRow.cell {T : TypeId} {ρ : Option Nat} {o : Option Addr} {cap n : Nat} {xs : List Value} {w : World} (h : SRow T ρ o cap n xs w) (j : Nat) (u : Value) (hj : xs[j]? = some u) : ∃ r, ρ = some r ∧ o = some ⟨r, 0, none⟩ ∧ w.cell? ⟨r, j, none⟩ = some u := by
  have hjl := (List.getElem?_eq_some_iff.1 hj).1
  rcases h.2 with ⟨_, _, _, h0⟩ | ⟨r, cur, h1, h2, h4, _, _, _, htk⟩
  · rw [h.1, h0] at hjl; omega
  · refine ⟨r, h1, h2, ?_⟩
    rw [cell_of_row w r j _ _ _ h4, ← Array.getElem?_toList]
    have := congrArg (fun l => l[j]?) htk
    simp only [List.getElem?_take] at this
    rw [if_pos (by rw [← h.1]; exact hjl)] at this
    rw [this]; exact hj

theorem srow_append (t T ty : TypeId) (hu : Tryz.prog.underlying t = some (.slice T)) (hinfo : (Tryz.prog.info? T).map (fun i => (i.zero, i.size, i.bytes)) = some (some (.agg #[.int .u64 0, .slice none 0 0]), 2, 32))
    (g : Nat) (w : World) (ρ : Option Nat) (o : Option Addr) (cap n : Nat) (xs : List Value) (hR : SRow T ρ o cap n xs w) (hn : n + 1 ≤ 1000000000) (a : Addr) (news : List Value) (hl : news.length = 2) (hnews : ∀ j u, news[j]? = some u → w.cell? (a.add j) = some u) (h1 : ∀ u ∈ news, u.oneCell' = true) :
    ∃ o' cap' w' ρ', (Builtin.append_ #[t, t] ty #[.slice o n cap, .slice (some a) 1 1]).run Tryz.prog w = .ok (.slice o' (n + 1) cap') w' ∧ SRow T ρ' o' cap' (n + 1) (xs ++ news) w' ∧ Nxt ρ ρ' w ∧ Chg g ρ w w' := by

  obtain ⟨i, hi, hz, hsz, hby⟩ := info_parts hinfo
  have hml : (n + 1 : Nat) ≤ maxLen := by unfold maxLen; omega
  have hnl : news.length = 1 * i.size := by rw [hl, hsz]
  have hxl : (xs ++ news).length = (n + 1) * 2 := by rw [List.length_append, hR.1, hl]; omega
  have fresh : ∀ old, SRow T (some w.heap.size) (some ⟨w.heap.size, 0, none⟩) (grownCap w (n + 1) old T) (n + 1) (xs ++ news) (w.drew.alloc (.cells (xs.toArray ++ news.toArray ++ Builtin.zeroCells (Value.agg #[.int .u64 0, .slice none 0 0]).cells (grownCap w (n + 1) old T - (n + 1))) T)) := by
    intro old
    refine ⟨hxl, Or.inr ⟨w.heap.size, _, rfl, rfl, heap_alloc_new w.drew _, grownCap_ge w (n + 1) old T, grownCap_le_maxLen w (n + 1) old T hml, ?_, ?_⟩⟩
    · have hge := grownCap_ge w (n + 1) old T
      have hz4 : (Value.agg #[.int .u64 0, .slice none 0 0]).cells.size = 2 := rfl
      simp only [Array.size_append, List.size_toArray, size_zeroCells, hz4, hR.1, hl]
      omega
    · rw [← hxl]
      simp only [Array.toList_append]
      exact List.take_left
  rcases hR.2 with ⟨rfl, rfl, rfl, rfl⟩ | ⟨r, cur, rfl, rfl, hg, hnc, hcm, hcs, htk⟩
  · have hx : xs = [] := List.eq_nil_of_length_eq_zero (by simpa using hR.1)
    subst hx
    have hr := run_append_nil (P := Tryz.prog) w t ty T i _ hu hi hz a 1 1 news hnl hnews (by omega) (by omega) (by rw [hby]; omega)
    have hf := fresh 0
    simp only [List.nil_append, Array.empty_append] at hf
    exact ⟨_, _, _, _, hr, hf, Or.inr ⟨_, rfl, Nat.le_refl _⟩, grown_chg _ _ _ _⟩
  · by_cases hroom : n + 1 ≤ cap
    · have hr := run_append_room (P := Tryz.prog) w t ty T i hu hi r n cap cur hg a 1 1 news hnl hnews h1 hroom (by rw [hsz, hl, hcs]; omega)
      rw [hsz] at hr
      refine ⟨_, _, _, some r, hr, ⟨hxl, Or.inr ⟨r, _, rfl, rfl, setRow_heap w r cur _ T _ hg, hroom, hcm, ?_, ?_⟩⟩, Or.inl rfl, rfl, rfl, rfl, by simp, fun k _ _ hk => setRow_other w r k _ (fun e => hk (by rw [e]))⟩
      · simp only [List.size_toArray, List.length_append, List.length_take, List.length_drop, Array.length_toList]
        omega
      · rw [htk, ← hxl]
        exact List.take_left
    · have holds : ∀ j u, xs[j]? = some u → w.cell? ((⟨r, 0, none⟩ : Addr).add j) = some u := by
        intro j u hj
        obtain ⟨r2, e1, _, e3⟩ := hR.cell j u hj
        cases e1
        rw [plain_add]; exact e3
      have hr := run_append_grow (P := Tryz.prog) w t ty T i _ hu hi hz ⟨r, 0, none⟩ n cap xs (by rw [hsz]; exact hR.1) holds a 1 1 news hnl hnews (by omega) (by omega) (by rw [hby]; exact growslice_fits (by omega) (by omega))
      exact ⟨_, _, _, _, hr, fresh cap, Or.inr ⟨_, rfl, Nat.le_refl _⟩, grown_chg _ _ _ _⟩
theorem info92 : (Tryz.prog.info? 169).map (fun i => (i.zero, i.size, i.bytes)) = some (some (.agg #[.int .u64 0, .slice none 0 0]), 2, 32) := by kernel_rfl

/-- A list under way: how many values are to come; those that it has, where they lie. -/
structure Ent where
  left : Nat
  hv : List Tr
  ρ : Option Nat
  oo : Option Addr
  cap : Nat
  xs : List Value
def Ent.cells (e : Ent) : List Value := [.int .u64 (e.left : Int), .slice e.oo e.hv.length e.cap]
def entL (L : List Ent) : List Value := L.flatMap Ent.cells
theorem entL_len (L : List Ent) : (entL L).length = L.length * 2 := by
  unfold entL
  induction L with
  | nil => rfl
  | cons e L ih => rw [List.flatMap_cons, List.length_append, ih]; simp [Ent.cells]; omega
theorem entL_app (a b : List Ent) : entL (a ++ b) = entL a ++ entL b := by unfold entL; rw [List.flatMap_append]
theorem entL_one (e : Ent) : entL [e] = e.cells := by unfold entL; simp

/-- The blocks that are nobody's of those. -/
def Own (B : Nat) (sρ : Option Nat) (L : List Ent) (b : Nat) : Prop := B ≤ b ∧ sρ ≠ some b ∧ ∀ e ∈ L, e.ρ ≠ some b
/-- The values that a row's cells hold. -/
def Elts (wz : World) (P : Nat → Prop) (xs : List Value) (l : List Tr) : Prop := ∀ j (h : j < l.length), ∃ d0 d1 d2 d3, xs[j * 4]? = some d0 ∧ xs[j * 4 + 1]? = some d1 ∧ xs[j * 4 + 2]? = some d2 ∧ xs[j * 4 + 3]? = some d3 ∧ VInP wz P l[j] d0 d1 d2 d3
theorem Elts.keep {w w' : World} {P Q : Nat → Prop} {xs : List Value} {l : List Tr} (hs : w.heap.size ≤ w'.heap.size) (hk : ∀ b, b < w.heap.size → P b → w'.heap[b]? = w.heap[b]? ∧ Q b) (h : Elts w P xs l) : Elts w' Q xs l := fun j hj => by
  obtain ⟨d0, d1, d2, d3, x0, x1, x2, x3, hv⟩ := h j hj
  exact ⟨d0, d1, d2, d3, x0, x1, x2, x3, VInP.keep hs hk _ hv⟩
theorem Elts.put {w : World} {P : Nat → Prop} {xs : List Value} {l : List Tr} {t : Tr} {d0 d1 d2 d3 : Value} (h : Elts w P xs l) (hx : xs.length = l.length * 4) (hv : VInP w P t d0 d1 d2 d3) : Elts w P (xs ++ [d0, d1, d2, d3]) (l ++ [t]) := fun j hj => by
  rw [List.length_append, List.length_singleton] at hj
  by_cases hlt : j < l.length
  · obtain ⟨e0, e1, e2, e3, x0, x1, x2, x3, hvi⟩ := h j hlt
    refine ⟨e0, e1, e2, e3, ?_, ?_, ?_, ?_, by rw [List.getElem_append_left hlt]; exact hvi⟩
    all_goals (rw [List.getElem?_append_left (by rw [hx]; omega)]; assumption)
  · obtain rfl : j = l.length := by omega
    refine ⟨d0, d1, d2, d3, ?_, ?_, ?_, ?_, by rw [List.getElem_append_right (Nat.le_refl _)]; simpa using hv⟩
    all_goals (rw [List.getElem?_append_right (by rw [hx]; omega), hx])
    · rw [Nat.sub_self]; rfl
    · rw [show l.length * 4 + 1 - l.length * 4 = 1 by omega]; rfl
    · rw [show l.length * 4 + 2 - l.length * 4 = 2 by omega]; rfl
    · rw [show l.length * 4 + 3 - l.length * 4 = 3 by omega]; rfl

/-- The stack. -/
structure StW (B : Nat) (sρ : Option Nat) (so : Option Addr) (scap : Nat) (L : List Ent) (wz : World) : Prop where
  row : SRow 169 sρ so scap L.length (entL L) wz
  lo : ∀ r, sρ = some r → B ≤ r
  vrow : ∀ e ∈ L, VRow 69 e.ρ e.oo e.cap e.hv.length e.xs wz
  elo : ∀ e ∈ L, ∀ r, e.ρ = some r → B ≤ r ∧ sρ ≠ some r
  elts : ∀ e ∈ L, Elts wz (Own B sρ L) e.xs e.hv
  dis : L.Pairwise (fun e f => ∀ r, e.ρ = some r → f.ρ ≠ some r)
/-- It stays where nothing from B on is turned. -/
theorem StW.keep {B : Nat} {sρ : Option Nat} {so : Option Addr} {scap : Nat} {L : List Ent} {wz w' : World} (h : StW B sρ so scap L wz) (hs : wz.heap.size ≤ w'.heap.size) (hk : ∀ b, b < wz.heap.size → B ≤ b → w'.heap[b]? = wz.heap[b]?) : StW B sρ so scap L w' where
  row := h.row.keep (fun r hr => hk r (h.row.lt r hr) (h.lo r hr))
  lo := h.lo
  vrow := fun e he => (h.vrow e he).keep (fun r hr => hk r ((h.vrow e he).lt r hr) (h.elo e he r hr).1)
  elo := h.elo
  elts := fun e he => (h.elts e he).keep hs (fun b hb hP => ⟨hk b hb hP.1, hP⟩)
  dis := h.dis
theorem StW.later {B : Nat} {sρ : Option Nat} {so : Option Addr} {scap : Nat} {L : List Ent} {wz w' : World} (h : StW B sρ so scap L wz) (hb : Below wz.heap.size wz w') : StW B sρ so scap L w' := h.keep hb.size (fun b hb' _ => hb.block b hb')
theorem StW.new (B : Nat) (w : World) : StW B none none 0 [] w where
  row := ⟨rfl, Or.inl ⟨rfl, rfl, rfl, rfl⟩⟩
  lo := fun r h => by cases h
  vrow := fun e h => by cases h
  elo := fun e h => by cases h
  elts := fun e h => by cases h
  dis := List.Pairwise.nil

/-- A list more is under way. -/
theorem StW.push {B g : Nat} {sρ sρ' : Option Nat} {so so' : Option Addr} {scap scap' : Nat} {L : List Ent} {wz w' : World} {n : Nat} (h : StW B sρ so scap L wz) (hB : B ≤ wz.heap.size)
    (hR : SRow 169 sρ' so' scap' (L.length + 1) (entL L ++ [.int .u64 (n : Int), .slice none 0 0]) w') (hn : Nxt sρ sρ' wz) (hc : Chg g sρ wz w') (hg : wz.heap.size ≤ g) : StW B sρ' so' scap' (L ++ [⟨n, [], none, none, 0, []⟩]) w' := by
  have hstay : ∀ q, q < wz.heap.size → sρ ≠ some q → w'.heap[q]? = wz.heap[q]? := fun q hq hr => hc.2.2.2.2 q hq (by omega) hr
  have hne : ∀ q, q < wz.heap.size → sρ ≠ some q → sρ' ≠ some q := by
    intro q hq h1
    rcases hn with rfl | ⟨k, rfl, hk⟩
    · exact h1
    · intro e; cases e; omega
  refine ⟨?_, ?_, ?_, ?_, ?_, ?_⟩
  · rw [entL_app, entL_one, List.length_append, List.length_singleton]; exact hR
  · intro r hr
    rcases hn with rfl | ⟨k, rfl, hk⟩
    · exact h.lo r hr
    · cases hr; omega
  · intro e he
    rcases List.mem_append.1 he with he | he
    · exact (h.vrow e he).keep (fun r hr => hstay r ((h.vrow e he).lt r hr) (h.elo e he r hr).2)
    · rw [List.mem_singleton] at he; subst he; exact VRow.nil 69 _
  · intro e he r hr
    rcases List.mem_append.1 he with he | he
    · exact ⟨(h.elo e he r hr).1, hne r ((h.vrow e he).lt r hr) (h.elo e he r hr).2⟩
    · rw [List.mem_singleton] at he; subst he; cases hr
  · intro e he
    rcases List.mem_append.1 he with he | he
    · refine (h.elts e he).keep hc.2.2.2.1 (fun b hb hP => ⟨hstay b hb hP.2.1, hP.1, hne b hb hP.2.1, fun f hf => ?_⟩)
      rcases List.mem_append.1 hf with hf | hf
      · exact hP.2.2 f hf
      · rw [List.mem_singleton] at hf; subst hf; intro e; cases e
    · rw [List.mem_singleton] at he; subst he; intro j hj; exact absurd hj (by simp)
  · rw [List.pairwise_append]
    refine ⟨h.dis, List.pairwise_singleton _ _, fun a ha b hb r _ => ?_⟩
    rw [List.mem_singleton] at hb; subst hb; intro e; cases e
/-- A list is whole: it is a value. -/
theorem StW.pop {B : Nat} {sρ : Option Nat} {so : Option Addr} {scap : Nat} {L : List Ent} {e : Ent} {wz : World} (h : StW B sρ so scap (L ++ [e]) wz) (hz : e.hv.length ≤ 1000000) :
    StW B sρ so scap L wz ∧ VInP wz (Own B sρ L) (.mk 3 0 ⟨#[]⟩ e.hv) (.int .i64 3) (.int .u64 0) (.string ⟨#[]⟩) (.slice e.oo e.hv.length e.cap) := by
  have hm : ∀ f ∈ L, f ∈ L ++ [e] := fun f hf => List.mem_append_left _ hf
  have he : e ∈ L ++ [e] := List.mem_append_right _ (by simp)
  have hd := List.pairwise_append.1 h.dis
  have hP : ∀ b, Own B sρ (L ++ [e]) b → Own B sρ L b := fun b hb => ⟨hb.1, hb.2.1, fun f hf => hb.2.2 f (hm f hf)⟩
  refine ⟨⟨?_, h.lo, fun f hf => h.vrow f (hm f hf), fun f hf => h.elo f (hm f hf), fun f hf => (h.elts f (hm f hf)).keep (Nat.le_refl _) (fun b _ hb => ⟨rfl, hP b hb⟩), hd.1⟩, ?_⟩
  · have hr := h.row
    rw [entL_app, List.length_append, List.length_singleton] at hr
    refine ⟨entL_len L, ?_⟩
    rcases hr.2 with ⟨_, _, _, h0⟩ | ⟨r, cur, h1, h2, h4, h5, h6, h7, h8⟩
    · omega
    · refine Or.inr ⟨r, cur, h1, h2, h4, by omega, h6, h7, ?_⟩
      have := congrArg (List.take (L.length * 2)) h8
      rw [List.take_take, Nat.min_eq_left (by omega), List.take_left' (entL_len L)] at this
      exact this
  · unfold VInP
    refine ⟨rfl, rfl, by omega, rfl, ⟨by simp [ByteArray.size], hz⟩, e.oo, e.cap, e.ρ.getD 0, 0, rfl, ?_, ?_⟩
    · intro hp
      obtain ⟨d0, _, _, _, x0, _⟩ := h.elts e he 0 hp
      obtain ⟨r, e1, e2, _⟩ := (h.vrow e he).cell _ _ x0
      rw [e1]
      exact ⟨e2, (h.vrow e he).lt r e1, (h.elo e he r e1).1, (h.elo e he r e1).2, fun f hf hfr => hd.2.2 f hf e (by simp) r hfr e1⟩
    · refine VInPL.of (fun j hj => ?_)
      obtain ⟨d0, d1, d2, d3, x0, x1, x2, x3, hv⟩ := h.elts e he j hj
      obtain ⟨r, e1, _, _⟩ := (h.vrow e he).cell _ _ x0
      have cell : ∀ j u, e.xs[j]? = some u → wz.cell? ⟨r, j, none⟩ = some u := fun j u hj => by
        obtain ⟨r', q1, _, q3⟩ := (h.vrow e he).cell j u hj
        rw [e1] at q1
        cases q1
        exact q3
      rw [e1, Nat.zero_add]
      exact ⟨d0, d1, d2, d3, cell _ _ x0, cell _ _ x1, cell _ _ x2, cell _ _ x3, VInP.keep (Nat.le_refl _) (fun b' _ hb => ⟨rfl, hP b' hb⟩) _ hv⟩
theorem set_two (l : List Value) (a b a' b' : Value) (n : Nat) (hn : l.length = n) : ((l ++ [a, b]).set (n + 1) b').set n a' = l ++ [a', b'] := by
  subst hn
  rw [List.set_append_right _ _ (by omega), List.set_append_right _ _ (by omega)]
  rw [show l.length + 1 - l.length = 1 by omega, Nat.sub_self]
  rfl
/-- A value is put behind the others of the innermost list. -/
theorem StW.take {B : Nat} {sρ ρ' : Option Nat} {so o' : Option Addr} {scap cap' : Nat} {L : List Ent} {e : Ent} {wz w' : World} {t : Tr} {d0 d1 d2 d3 : Value} (h : StW B sρ so scap (L ++ [e]) wz) (hB : B ≤ wz.heap.size)
    (hv : VInP wz (Own B sρ (L ++ [e])) t d0 d1 d2 d3) (hsz : wz.heap.size ≤ w'.heap.size)
    (hrow : ∀ r cur, sρ = some r → wz.heap[r]? = some (.cells cur 169 (0, 0)) → w'.heap[r]? = some (.cells ((cur.setIfInBounds (L.length * 2 + 1) (.slice o' (e.hv.length + 1) cap')).setIfInBounds (L.length * 2) (.int .u64 ((e.left - 1 : Nat) : Int))) 169 (0, 0)))
    (hR : VRow 69 ρ' o' cap' (e.hv.length + 1) (e.xs ++ [d0, d1, d2, d3]) w') (hn : Nxt e.ρ ρ' wz)
    (hst : ∀ q, q < wz.heap.size → sρ ≠ some q → e.ρ ≠ some q → w'.heap[q]? = wz.heap[q]?) :
    StW B sρ so scap (L ++ [⟨e.left - 1, e.hv ++ [t], ρ', o', cap', e.xs ++ [d0, d1, d2, d3]⟩]) w' := by
  have hm : ∀ f ∈ L, f ∈ L ++ [e] := fun f hf => List.mem_append_left _ hf
  have he : e ∈ L ++ [e] := List.mem_append_right _ (by simp)
  have hd := List.pairwise_append.1 h.dis
  have hrne : ∀ r, ρ' = some r → B ≤ r ∧ sρ ≠ some r ∧ (∀ f ∈ L, f.ρ ≠ some r) := by
    intro r hr
    rcases hn with rfl | ⟨k, rfl, hk⟩
    · exact ⟨(h.elo e he r hr).1, (h.elo e he r hr).2, fun f hf hfr => hd.2.2 f hf e (by simp) r hfr hr⟩
    · cases hr
      refine ⟨by omega, fun hs => ?_, fun f hf hfr => ?_⟩
      · have := h.row.lt r hs; omega
      · have := (h.vrow f (hm f hf)).lt r hfr; omega
  have hown : ∀ b, b < wz.heap.size → Own B sρ (L ++ [e]) b → w'.heap[b]? = wz.heap[b]? ∧ Own B sρ (L ++ [⟨e.left - 1, e.hv ++ [t], ρ', o', cap', e.xs ++ [d0, d1, d2, d3]⟩]) b := by
    intro b hb hP
    refine ⟨hst b hb hP.2.1 (hP.2.2 e he), hP.1, hP.2.1, fun f hf => ?_⟩
    rcases List.mem_append.1 hf with hf | hf
    · exact hP.2.2 f (hm f hf)
    · rw [List.mem_singleton] at hf; subst hf
      rcases hn with hn | ⟨k, hn, hk⟩
      · show ρ' ≠ some b
        rw [hn]; exact hP.2.2 e he
      · show ρ' ≠ some b
        rw [hn]; intro e; cases e; omega
  refine ⟨?_, h.lo, ?_, ?_, ?_, ?_⟩
  · have hr := h.row
    rw [entL_app, entL_one, List.length_append, List.length_singleton] at hr
    refine ⟨entL_len _, ?_⟩
    rw [List.length_append, List.length_singleton, entL_app, entL_one]
    rcases hr.2 with ⟨_, _, _, h0⟩ | ⟨r, cur, h1, h2, h4, h5, h6, h7, h8⟩
    · omega
    · refine Or.inr ⟨r, _, h1, h2, hrow r cur h1 h4, h5, h6, by simpa using h7, ?_⟩
      simp only [Array.toList_setIfInBounds, List.take_set]
      rw [h8]
      unfold Ent.cells
      rw [set_two _ _ _ _ _ _ (entL_len L)]
      simp
  · intro f hf
    rcases List.mem_append.1 hf with hf | hf
    · exact (h.vrow f (hm f hf)).keep (fun r hr => hst r ((h.vrow f (hm f hf)).lt r hr) (h.elo f (hm f hf) r hr).2 (fun her => hd.2.2 f hf e (by simp) r hr her))
    · rw [List.mem_singleton] at hf; subst hf
      rw [List.length_append, List.length_singleton]; exact hR
  · intro f hf r hr
    rcases List.mem_append.1 hf with hf | hf
    · exact h.elo f (hm f hf) r hr
    · rw [List.mem_singleton] at hf; subst hf
      exact ⟨(hrne r hr).1, (hrne r hr).2.1⟩
  · intro f hf
    rcases List.mem_append.1 hf with hf | hf
    · exact (h.elts f (hm f hf)).keep hsz hown
    · rw [List.mem_singleton] at hf; subst hf
      exact ((h.elts e he).keep hsz hown).put (h.vrow e he).1 (VInP.keep hsz hown _ hv)
  · rw [List.pairwise_append]
    refine ⟨hd.1, List.pairwise_singleton _ _, fun a ha b hb r har => ?_⟩
    rw [List.mem_singleton] at hb; subst hb
    exact fun hr => (hrne r hr).2.2 a ha har
end Go.Proofs.YtjfjliobencppaaGreatDoor
