/- YtdojepkmjifoeaaB; Delays, plainly: a doubled base that goes round is what the zeros ahead of it tell.; DERIVED: THE SHELF's CONTRACTS AT THIS DUMP, IN PLAIN WORDS (tools/lay-plain.mjs out of 'YtdojepkmjifoeaaShelf.lean', which tools/lay-shelf.mjs wrote): THE SAME DECLARATIONS UNDER THE SAME NAMES: 'import', 'namespace', 'open', 'def', 'theorem' AND NOTHING ELSE: no command of the shelf's: FOR A HAND-IN. Each laying: the table of numbers ('.._ren') and one theorem, a field a fact of the dump's own or the kernel's comparison; each contract: ONE APPLICATION. -/
import Derived.WalkKit
import Derived.WalkLawsBesides
import Derived.Outline
import Derived.Laws.IdiomStrings
import Derived.Lib.Hide
import Derived.WalkSpells
import Derived.Deep.DeepCutAuto
import Derived.Deep.CutBlock
import Derived.Deep.QuietTactic
import Derived.BigQuiet
import Derived.Deep.RegionHeld3
import Derived.Deep.LoopGhost
import Derived.StillTailTactics
import Derived.Deep.RegionWith
import Derived.Deep.DeepFit
import Derived.Deep.Light
import Derived.Deep.RegionLaw
import Derived.Laws.Externs
import Derived.Test.YtdojepkmjifoeaaRows
import Derived.Lib.BitFns
import Derived.Shelf.Small.Bits
import Derived.Shelf.Strconv.Itoa0
import Derived.Test.YtdojepkmjifoeaaProg
set_option linter.unusedVariables false
set_option linter.unusedSimpArgs false
namespace Go.Proofs.Ytdojepkmjifoeaa
open Go.RowKit

/-- The cells of a row of bytes. -/
def bcells (l : List UInt8) : List Value := l.map fun c => .int .u8 (c.toNat : Int)
/-- The string of a list of bytes. -/
def str (l : List UInt8) : ByteArray := ⟨l.toArray⟩

/-- A number by sevens of bits. -/
def sh (n : Nat) : List UInt8 := if h : 127 < n then UInt8.ofNat (n % 128 + 128) :: sh (n / 128) else [UInt8.ofNat n]
termination_by n
decreasing_by omega

theorem Try.info5 : (Try.prog.info? 5).map (fun i => (i.zero, i.size, i.bytes)) = some (some (.int .u8 0), 1, 1) := by kernel_rfl

theorem own_string {w : World} {B n : Nat} {v : Value} {l : List UInt8} (h : w.ownsRow B 5 1 v n (bcells l)) :
    (convert 94 9 v).run Try.prog w = .ok (.string (str l)) w := by
  have hlen : l.length = n := by have := h.1; simpa [bcells] using this
  rcases h.2 with ⟨rfl, hn⟩ | ⟨g, cap, cur, rfl, _⟩
  · have hl : l = [] := List.eq_nil_of_length_eq_zero (by omega)
    subst hl
    rw [run_convert_bytes_string w 94 9 5 none 0 0 Try.underlying94 Try.underlying5 Try.underlying9]; rfl
  · have h2 := run_convert_bytes_back (P := Try.prog) w 94 9 5 ⟨g, 0, none⟩ cap l Try.underlying94 Try.underlying5 Try.underlying9 (fun j hj => by
      have := h.cells (g := g) rfl j (.int .u8 (l[j].toNat : Int)) (by simp [bcells, hj])
      exact this)
    rw [hlen] at h2
    exact h2

theorem bcells_snoc (l : List UInt8) (n : Nat) (h : n < 256) : bcells l ++ [.int .u8 (n : Int)] = bcells (l ++ [UInt8.ofNat n]) := by
  simp [bcells, Nat.mod_eq_of_lt h]

/-- 'b = append(b, c)' of one byte, b nil or the call's own. -/
theorem wpList_append_byte (W : World) {ops : Array Oper} {rest : List Oper} {o : Oper} {a : Act} {Q : Exit → Act → World → Prop} (hgd : o.guard = none) (s x : Operand)
    (ho : o.op = .call { callee := .builtin .append, args := #[s, x], argTypes := #[94, 94] })
    (B : Nat) (v : Value) (k : Nat) (l : List UInt8) (hs : a.eval s = v) (hown : W.ownsRow B 5 1 v k (bcells l))
    (c : Int) (n : Nat) (hc : c = (n : Int)) (hn : n < 256) (hx : a.eval x = .slice (some ⟨W.heap.size, 0, none⟩) 1 1)
    (hk : k + 1 ≤ 140737488355328) (hB : B ≤ W.heap.size)
    (h : ∀ v' w', w'.ownsRow B 5 1 v' (k + 1) (bcells (l ++ [UInt8.ofNat n])) → Below B W w' → wpList Try.prog ops Q rest (a.put o.dst v') w') :
    wpList Try.prog ops Q (o :: rest) a (W.alloc (.cells #[.int .u8 c] 5)) := by
  subst hc
  obtain ⟨i0, hi, hz0, hz1, hz2⟩ := info_parts Try.info5
  refine wpList_append_own _ hgd s x 94 ho B 5 i0 (.int .u8 0) 1 1 Try.underlying94 hi hz0 hz1 hz2 rfl (by decide) v k (bcells l) hs (hown.alloc _) ⟨W.heap.size, 0, none⟩ 1 1 [.int .u8 (n : Int)] hx rfl ?_ ?_ ?_ ?_ ?_ ?_
  · intro j u hj
    match j, hj with
    | 0, hj => simp at hj; subst hj; simp [Addr.add]
  · intro u hu; simp at hu; subst hu; rfl
  · unfold maxLen; omega
  · omega
  · simp; omega
  · intro v' w' h1 h2 _
    rw [bcells_snoc l n hn] at h1
    refine h v' w' h1 ?_
    refine (((Below.refl B W).alloc hB _).grown h2 (by simp; omega) ?_)
    intro g hg
    exact (hown.lt g hg).1

/-- A pass that lowers the measure is a pass. -/
theorem jump_less {l : Nat} {J : Act → World → Prop} {R : Act → World → Prop} {Q : Exit → Act → World → Prop} (e : Exit) (a : Act) (w : World)
    (h : Exit.jump l (fun a' w' => J a' w' ∧ R a' w') Q e a w) : Exit.jump l J Q e a w := by
  cases e <;> first | exact h | exact ⟨h.1, h.2.1⟩
end Go.Proofs.Ytdojepkmjifoeaa

namespace Go.Proofs.Ytdojepkmjifoeaa.Bk
open Go.RowKit

/-- The delay of a base, a cap and a number of tries. -/
def dl (b c t : Nat) : Nat := min (b * 2 ^ t) c

theorem aux_two : ∀ (f x : Nat), x < 2 ^ f → x < 2 ^ Lib.bitLenAux f x ∧ (x ≠ 0 → 2 ^ Lib.bitLenAux f x ≤ 2 * x)
  | 0, x, h => by
    have : x = 0 := by simpa using h
    subst this
    simp [Lib.bitLenAux]
  | f + 1, x, h => by
    simp only [Lib.bitLenAux]
    by_cases hx : x = 0
    · rw [if_pos hx]; subst hx; simp
    · rw [if_neg hx]
      have h2 : x / 2 < 2 ^ f := by rw [Nat.pow_succ] at h; omega
      obtain ⟨i1, i2⟩ := aux_two f (x / 2) h2
      rw [Nat.add_comm 1, Nat.pow_succ]
      refine ⟨by omega, fun _ => ?_⟩
      by_cases h0 : x / 2 = 0
      · have e : Lib.bitLenAux f (x / 2) = 0 := by
          rw [h0]
          cases f with
          | zero => rfl
          | succ f => simp [Lib.bitLenAux]
        rw [e]; omega
      · have := i2 h0
        omega
theorem len_two (x : Nat) (h : x < 18446744073709551616) : x < 2 ^ Lib.bitLen x ∧ (x ≠ 0 → 2 ^ Lib.bitLen x ≤ 2 * x) := aux_two 64 x h
theorem len_le (x : Nat) (h : x < 18446744073709551616) : Lib.bitLen x ≤ 64 := Lib.bitLen_le x 64 (Nat.le_refl _) h
/-- More tries than zeros ahead: the cap. -/
theorem dl_great {b c t : Nat} (hb : b < 18446744073709551616) (h0 : b ≠ 0) (hc : c < 18446744073709551616) (ht : 64 < t + Lib.bitLen b) : dl b c t = c := by
  have h1 := (len_two b hb).2 h0
  have h2 : 2 ^ 65 ≤ 2 ^ (Lib.bitLen b + t) := Nat.pow_le_pow_right (by omega) (by omega)
  rw [Nat.pow_add] at h2
  have h3 : 2 ^ Lib.bitLen b * 2 ^ t ≤ 2 * b * 2 ^ t := Nat.mul_le_mul_right _ h1
  rw [Nat.mul_assoc] at h3
  unfold dl
  omega
/-- No more: it does not go round. -/
theorem dl_small {b t : Nat} (hb : b < 18446744073709551616) (ht : b = 0 ∨ t + Lib.bitLen b ≤ 64) : b * 2 ^ t < 18446744073709551616 := by
  rcases ht with rfl | ht
  · simp
  · have h1 := (len_two b hb).1
    have h2 : 2 ^ (Lib.bitLen b + t) ≤ 2 ^ 64 := Nat.pow_le_pow_right (by omega) (by omega)
    rw [Nat.pow_add] at h2
    have h3 : b * 2 ^ t < 2 ^ Lib.bitLen b * 2 ^ t := Nat.mul_lt_mul_of_pos_right h1 (Nat.two_pow_pos t)
    omega
theorem dl_cap (b c t : Nat) : dl b c t ≤ c := Nat.min_le_right _ _
theorem dl_mono (b c t u : Nat) (h : t ≤ u) : dl b c t ≤ dl b c u := by
  unfold dl
  have := Nat.mul_le_mul_left b (Nat.pow_le_pow_right (show 0 < 2 by omega) h)
  omega
theorem dl_zero (b c : Nat) (h : b ≤ c) : dl b c 0 = b := by unfold dl; omega
end Go.Proofs.Ytdojepkmjifoeaa.Bk

namespace Go.Proofs
open Go.Shelf
def Try.lays134_ren : Go.Shelf.Ren := ⟨fun | 134 => 56 | 129 => 76 | n => n, fun | 53 => 22 | 3 => 3 | 4 => 4 | 46 => 132 | 5 => 5 | 9 => 9 | n => n, fun | n => n⟩
theorem Try.lays134 : Go.Proofs.Lays.n134 Try.prog Try.lays134_ren := {
  mixed := by kernel_rfl
  f129 := Try.func76.trans (congrArg some (by kernel_rfl))
  f134 := Try.func56.trans (congrArg some (by kernel_rfl))
  t3 := Try.underlying3
  a3 := Try.isAgg3
  z3 := Try.sizeOf3
  v3 := Try.zeroValue3
  t4 := Try.underlying4
  a4 := Try.isAgg4
  z4 := Try.sizeOf4
  v4 := Try.zeroValue4
  t5 := Try.underlying5
  a5 := Try.isAgg5
  z5 := Try.sizeOf5
  v5 := Try.zeroValue5
  t9 := Try.underlying9
  a9 := Try.isAgg9
  z9 := Try.sizeOf9
  v9 := Try.zeroValue9
  t46 := Try.underlying132
  a46 := Try.isAgg132
  z46 := Try.sizeOf132
  v46 := Try.zeroValue132
  t53 := Try.underlying22
  a53 := Try.isAgg22
  z53 := Try.sizeOf22
  v53 := Try.zeroValue22 }
/-- bits.LeadingZeros64: "LeadingZeros64 returns the number of leading zero bits in x; the result is 64 for x == 0.": IT RETURNS '64 - Lib.bitLen x'; the world is as it was. ITS CALLEE bits.Len64 IS MET BY ITS OWN CONTRACT OFF THE SHELF (lay that first): entered in place it sends the kernel out of memory. (LAID: no walk: one application.) -/
theorem Try.bits_LeadingZeros64 (x : Int) (w : World) (h0 : 0 ≤ x) (h1 : x ≤ 18446744073709551615) :
    Calls Try.prog 56 #[.int .u64 x] w fun e w' => e = .returned (.int .i64 (64 - (Lib.bitLen x.toNat : Int))) ∧ w' = w := Any.bits_LeadingZeros64 Try.lays134 x w h0 h1
end Go.Proofs
