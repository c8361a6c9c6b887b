/- YtdojepkmjifoeaaB; YtdojepkmjifoeaaC; YtdojepkmjifoeaaD -/
import Derived.WalkKit
import Derived.WalkLawsBesides
import Derived.Outline
import Derived.Laws.IdiomStrings
import Derived.Lib.Hide
import Derived.WalkSpells
import Derived.Deep.DeepCutAuto
import Derived.Deep.CutBlock
import Derived.Deep.QuietTactic
import Derived.BigQuiet
import Derived.Deep.RegionHeld3
import Derived.Deep.LoopGhost
import Derived.StillTailTactics
import Derived.Deep.RegionWith
import Derived.Deep.DeepFit
import Derived.Deep.Light
import Derived.Deep.RegionLaw
import Derived.Laws.Externs
import Derived.Test.YtdojepkmjifoeaaRows
set_option linter.unusedVariables false
set_option linter.unusedSimpArgs false
namespace Go.Proofs.Ytdojepkmjifoeaa
open Go.RowKit

/-- The cells of a row of bytes. -/
def bcells (l : List UInt8) : List Value := l.map fun c => .int .u8 (c.toNat : Int)
/-- The string of a list of bytes. -/
def str (l : List UInt8) : ByteArray := ⟨l.toArray⟩

/-- A number by sevens of bits. -/
def sh (n : Nat) : List UInt8 := if h : 127 < n then UInt8.ofNat (n % 128 + 128) :: sh (n / 128) else [UInt8.ofNat n]
termination_by n
decreasing_by omega

theorem Try.info5 : (Try.prog.info? 5).map (fun i => (i.zero, i.size, i.bytes)) = some (some (.int .u8 0), 1, 1) := by kernel_rfl

theorem own_string {w : World} {B n : Nat} {v : Value} {l : List UInt8} (h : w.ownsRow B 5 1 v n (bcells l)) :
    (convert 94 9 v).run Try.prog w = .ok (.string (str l)) w := by
  have hlen : l.length = n := by have := h.1; simpa [bcells] using this
  rcases h.2 with ⟨rfl, hn⟩ | ⟨g, cap, cur, rfl, _⟩
  · have hl : l = [] := List.eq_nil_of_length_eq_zero (by omega)
    subst hl
    rw [run_convert_bytes_string w 94 9 5 none 0 0 Try.underlying94 Try.underlying5 Try.underlying9]; rfl
  · have h2 := run_convert_bytes_back (P := Try.prog) w 94 9 5 ⟨g, 0, none⟩ cap l Try.underlying94 Try.underlying5 Try.underlying9 (fun j hj => by
      have := h.cells (g := g) rfl j (.int .u8 (l[j].toNat : Int)) (by simp [bcells, hj])
      exact this)
    rw [hlen] at h2
    exact h2

theorem bcells_snoc (l : List UInt8) (n : Nat) (h : n < 256) : bcells l ++ [.int .u8 (n : Int)] = bcells (l ++ [UInt8.ofNat n]) := by
  simp [bcells, Nat.mod_eq_of_lt h]

/-- 'b = append(b, c)' of one byte, b nil or the call's own. -/
theorem wpList_append_byte (W : World) {ops : Array Oper} {rest : List Oper} {o : Oper} {a : Act} {Q : Exit → Act → World → Prop} (hgd : o.guard = none) (s x : Operand)
    (ho : o.op = .call { callee := .builtin .append, args := #[s, x], argTypes := #[94, 94] })
    (B : Nat) (v : Value) (k : Nat) (l : List UInt8) (hs : a.eval s = v) (hown : W.ownsRow B 5 1 v k (bcells l))
    (c : Int) (n : Nat) (hc : c = (n : Int)) (hn : n < 256) (hx : a.eval x = .slice (some ⟨W.heap.size, 0, none⟩) 1 1)
    (hk : k + 1 ≤ 140737488355328) (hB : B ≤ W.heap.size)
    (h : ∀ v' w', w'.ownsRow B 5 1 v' (k + 1) (bcells (l ++ [UInt8.ofNat n])) → Below B W w' → wpList Try.prog ops Q rest (a.put o.dst v') w') :
    wpList Try.prog ops Q (o :: rest) a (W.alloc (.cells #[.int .u8 c] 5)) := by
  subst hc
  obtain ⟨i0, hi, hz0, hz1, hz2⟩ := info_parts Try.info5
  refine wpList_append_own _ hgd s x 94 ho B 5 i0 (.int .u8 0) 1 1 Try.underlying94 hi hz0 hz1 hz2 rfl (by decide) v k (bcells l) hs (hown.alloc _) ⟨W.heap.size, 0, none⟩ 1 1 [.int .u8 (n : Int)] hx rfl ?_ ?_ ?_ ?_ ?_ ?_
  · intro j u hj
    match j, hj with
    | 0, hj => simp at hj; subst hj; simp [Addr.add]
  · intro u hu; simp at hu; subst hu; rfl
  · unfold maxLen; omega
  · omega
  · simp; omega
  · intro v' w' h1 h2 _
    rw [bcells_snoc l n hn] at h1
    refine h v' w' h1 ?_
    refine (((Below.refl B W).alloc hB _).grown h2 (by simp; omega) ?_)
    intro g hg
    exact (hown.lt g hg).1

/-- A pass that lowers the measure is a pass. -/
theorem jump_less {l : Nat} {J : Act → World → Prop} {R : Act → World → Prop} {Q : Exit → Act → World → Prop} (e : Exit) (a : Act) (w : World)
    (h : Exit.jump l (fun a' w' => J a' w' ∧ R a' w') Q e a w) : Exit.jump l J Q e a w := by
  cases e <;> first | exact h | exact ⟨h.1, h.2.1⟩
end Go.Proofs.Ytdojepkmjifoeaa

namespace Go.Proofs.Ytdojepkmjifoeaa
open Go.RowKit

theorem sh_more (m : Nat) (h : 127 < m) : sh m = UInt8.ofNat (m % 128 + 128) :: sh (m / 128) := by rw [sh, dif_pos h]
theorem sh_last (m : Nat) (h : ¬ 127 < m) : sh m = [UInt8.ofNat m] := by rw [sh, dif_neg h]
theorem sh_pos (m : Nat) : 1 ≤ (sh m).length := by rw [sh]; split <;> simp
theorem sh_len (k : Nat) : ∀ m, m < 128 ^ (k + 1) → (sh m).length ≤ k + 1 := by
  induction k with
  | zero => intro m hm; rw [sh_last m (by omega)]; simp
  | succ k ih =>
    intro m hm
    by_cases h : 127 < m
    · rw [sh_more m h]
      have := ih (m / 128) (by rw [Nat.pow_succ] at hm; omega)
      simp; omega
    · rw [sh_last m h]; simp
theorem sh_ten (n : Nat) (hn : n ≤ 18446744073709551615) : (sh n).length ≤ 10 := sh_len 9 n (by omega)

/-- What holds at each jump back. -/
def ShortJ (n : Nat) (w : World) (a' : Act) (w' : World) : Prop :=
  Below w.heap.size w w' ∧ ∃ (m k : Nat) (acc : List UInt8) (v u4 u5 u6 u7 u8 u9 u10 u11 u12 u13 u14 u15 u16 u17 u18 u19 u20 u1 u2 : Value), a' = { tmps := #[.int .u64 m, u1, u2, v, u4, u5, u6, u7, u8, u9, u10, u11, u12, u13, u14, u15, u16, u17, u18, u19, u20], defers := [] } ∧ m ≤ n ∧ acc ++ sh m = sh n ∧ w'.ownsRow w.heap.size 5 1 v k (bcells acc)

theorem bit7 (m : Nat) (h : m ≤ 18446744073709551615) : bits BinOp.and IntKind.u64 (m : Int) 127 = ((m % 128 : Nat) : Int) := by
  have := u64_and_nat m 127 (by omega) (by omega)
  rw [nat_mask7] at this
  exact this

set_option maxRecDepth 1000000 in
theorem short_any (n : Nat) (hn : n ≤ 18446744073709551615) (w : World) :
    Calls Try.prog 80 #[.int .u64 n] w fun e w' => e = .returned (.string (str (sh n))) ∧ Below w.heap.size w w' := by
  have HN := Lib.hid hn
  clear hn
  go_enter Try.func80, Try.ntmps80
  go_wp2
  refine wp_scope_jumps 0 (ShortJ n w) (fun a' _ => (intOf (a'.tmps.getD 0 undef)).toNat) rfl ?_ ?_
  · have hown := World.ownsRow_nil w w.heap.size 5 1
    have hbit := bit7 n HN.out
    obtain ⟨r, hr⟩ : ∃ r, r = n % 128 := ⟨_, rfl⟩
    rw [← hr] at hbit
    have hr2 : r ≤ 127 := by omega
    have HR := Lib.hid hr
    clear hr
    by_cases hm : 127 < n
    · go_wp2
      go_step3
      go_wp2_with (first
        | (at_builtin; go_must (refine wpList_append_byte w rfl (.tmp 6) (.tmp 11) rfl w.heap.size (.slice none 0 0) 0 [] rfl hown _ (r + 128) (by omega) (by omega) rfl (by omega) (by omega) ?_); intro v1 w1 hown1 hb1))
      go_step3
      refine ⟨rfl, hb1, n / 128, 0 + 1, _, v1, _, _, _, _, _, _, _, _, _, _, _, _, _, _, _, _, _, _, _, rfl, ?_, ?_, hown1⟩
      · omega
      · rw [sh_more n hm, HR.out]; rfl
    · go_wp2
      go_step3
      go_wp2_with (first
        | (at_builtin; go_must (refine wpList_append_byte w rfl (.tmp 15) (.tmp 18) rfl w.heap.size (.slice none 0 0) 0 [] rfl hown _ n (by omega) (by omega) rfl (by omega) (by omega) ?_); intro v1 w1 hown1 hb1; have hcv := own_string hown1))
      simp only [Exit.jump]
      go_ret
      refine ⟨?_, hb1⟩
      rw [sh_last n hm]; rfl
  · rintro a' w' ⟨hb, m, k, acc, v, u4, u5, u6, u7, u8, u9, u10, u11, u12, u13, u14, u15, u16, u17, u18, u19, u20, u1, u2, rfl, hmn, hacc, hown⟩
    have hk : k ≤ 9 := by
      have h1 := congrArg List.length hacc
      have h2 := sh_pos m
      have h3 := sh_ten n HN.out
      have h4 := hown.1
      simp [bcells] at h1 h4
      omega
    have hbs := hb.size
    have hbit := bit7 m (by have := HN.out; omega)
    obtain ⟨r, hr⟩ : ∃ r, r = m % 128 := ⟨_, rfl⟩
    rw [← hr] at hbit
    have hr2 : r ≤ 127 := by omega
    have HR := Lib.hid hr
    have HA := Lib.hid hacc
    have HM := Lib.hid hmn
    clear hmn hacc hr
    by_cases hm : 127 < m
    · go_wp2_with (first
        | (at_builtin; go_must (refine wpList_append_byte w' rfl (.tmp 6) (.tmp 11) rfl w.heap.size v k acc rfl hown _ (r + 128) (by omega) (by omega) rfl (by omega) (by omega) ?_); intro v1 w1 hown1 hb1))
      go_step3
      refine ⟨rfl, ⟨hb.trans hb1, m / 128, k + 1, _, v1, _, _, _, _, _, _, _, _, _, _, _, _, _, _, _, _, _, _, _, rfl, ?_, ?_, hown1⟩, ?_⟩
      · have := HM.out; omega
      · rw [← HA.out, sh_more m hm, HR.out]; simp
      · simp [intOf]; omega
    · go_wp2_with (first
        | (at_builtin; go_must (refine wpList_append_byte w' rfl (.tmp 15) (.tmp 18) rfl w.heap.size v k acc rfl hown _ m (by omega) (by omega) rfl (by omega) (by omega) ?_); intro v1 w1 hown1 hb1; have hcv := own_string hown1))
      simp only [Exit.jump]
      go_ret
      refine ⟨?_, hb.trans hb1⟩
      rw [← HA.out, sh_last m hm]; rfl
end Go.Proofs.Ytdojepkmjifoeaa

namespace Go.Proofs.Ytdojepkmjifoeaa
open Go.RowKit

/-- The last k bytes of a number, the highest first. -/
def be (n : Nat) : Nat → List UInt8
  | 0 => []
  | k + 1 => UInt8.ofNat (n / 256 ^ k) :: be n k

theorem be_length (n k : Nat) : (be n k).length = k := by induction k with
  | zero => rfl
  | succ k ih => simp [be, ih]

theorem byte_at (n k : Nat) : (n : Int) / 2 ^ (8 * k) % 256 = ((UInt8.ofNat (n / 256 ^ k)).toNat : Int) := by
  have e : (2 : Int) ^ (8 * k) = ((256 ^ k : Nat) : Int) := by
    rw [Int.pow_mul]; simp
  rw [e]
  simp

theorem put_step {wr : World} {B g s k t n : Nat} (hk : k < s) (ht : t = s - 1 - k)
    (h : wr.ownsRow B 5 1 (.slice (some ⟨g, 0, none⟩) s s) s (bcells (List.replicate (s - k) 0 ++ be n k))) :
    (wr.setCell ⟨g, t, none⟩ (.int .u8 ((n : Int) / 2 ^ (8 * k) % 256))).ownsRow B 5 1 (.slice (some ⟨g, 0, none⟩) s s) s (bcells (List.replicate (s - (k + 1)) 0 ++ be n (k + 1))) := by
  have h1 := (h.stored t (.int .u8 ((n : Int) / 2 ^ (8 * k) % 256))).1
  have e : (bcells (List.replicate (s - k) 0 ++ be n k)).set t (.int .u8 ((n : Int) / 2 ^ (8 * k) % 256)) = bcells (List.replicate (s - (k + 1)) 0 ++ be n (k + 1)) := by
    rw [byte_at]
    have e2 : s - k = (s - (k + 1)) + 1 := by omega
    have e3 : t = (s - (k + 1)) := by omega
    rw [e2, e3, List.replicate_succ', bcells, bcells, be]
    simp [List.map_append]
  rw [e] at h1
  exact h1

/-- What word.Put makes of a size. -/
def clip (size : Int) : Nat := (min (max size 0) 8).toNat

set_option maxRecDepth 1000000 in
theorem put_any (n : Nat) (size : Int) (hn : n ≤ 18446744073709551615) (w : World) :
    Calls Try.prog 42 #[.int .u64 n, .int .i64 size] w fun e w' => e = .returned (.string (str (be n (clip size)))) ∧ Below w.heap.size w w' := by
  have HN := Lib.hid hn
  clear hn
  obtain ⟨s, hs⟩ : ∃ s, s = clip size := ⟨_, rfl⟩
  have hs8 : s ≤ 8 := by rw [hs]; unfold clip; omega
  have hm : min (max size 0) 8 = (s : Int) := by rw [hs]; unfold clip; omega
  have HS := Lib.hid hs
  clear hs
  obtain ⟨i0, hi, hz0, hz1, hz2⟩ := info_parts Try.info5
  go_enter Try.func42, Try.ntmps42
  go_upto_region 1 with (fail)
  go_cut [1] from 7 (fun s1 w1 => s1 = .int .i64 (s : Int) ∧ w = w1)
  case first =>
    go_wp2_with fail
    all_goals (go_meet; case rel => exact ⟨by first | (congr 1; done) | (congr 1; omega), rfl⟩)
  case rest =>
    obtain ⟨rfl, rfl⟩ := hcut
    clear hm
    go_wp2_with (first | (at_make; refine wpList_make_full w rfl (.tmp 10) (.tmp 10) 94 rfl w.heap.size 5 i0 (.int .u8 0) 1 Try.underlying94 hi hz0 hz1 .i64 .i64 s s s rfl rfl rfl rfl (by rw [hz2]; omega) (by unfold maxLen; omega) (Nat.le_refl _) ?_; intro w1 hown hgr))
    have hb0 : Below w.heap.size w w1 := (Below.refl _ _).grown hgr (Nat.le_refl _) (by simp)
    have hown0 : w1.ownsRow w.heap.size 5 1 (Value.slice (some ⟨w.heap.size, 0, none⟩) s s) s (bcells (List.replicate (s - 0) 0 ++ be n 0)) := by
      have e : (madeCells (Value.int IntKind.u8 0).cells (s * 1)).toList = bcells (List.replicate (s - 0) 0 ++ be n 0) := by
        rw [Nat.mul_one]
        simp [bcells, be, Value.cells, toList_madeCells_one]
      rw [e] at hown
      exact hown
    have HB0 := Lib.hid hb0
    have HO0 := Lib.hid hown0
    clear hb0 hown0 hown hgr hi hz0 hz1 hz2
    go_loopw [13] (fun i wr => ∃ k : Nat, k ≤ s ∧ i = .int .i64 k ∧ wr.ownsRow w.heap.size 5 1 (Value.slice (some ⟨w.heap.size, 0, none⟩) s s) s (bcells (List.replicate (s - k) 0 ++ be n k)) ∧ Below w.heap.size w wr) (fun i _ => s - (intOf i).toNat)
    case atStart => exact ⟨0, Nat.zero_le _, rfl, HO0.out, HB0.out⟩
    case round =>
      obtain ⟨k, hk, rfl, hown, hb⟩ := hrel
      by_cases hlt : k < s
      · obtain ⟨t, ht⟩ : ∃ t, t = s - 1 - k := ⟨_, rfl⟩
        have e1 : (s : Int) - 1 - k = (t : Int) := by omega
        have hts : t < s := by omega
        have hz := hown.frozenAt t
        have hc : wr.cell? ⟨w.heap.size, t, none⟩ = some (.int .u8 0) := by
          rw [hown.cellAt t (by omega)]
          rw [bcells, List.getElem?_map, List.getElem?_append_left (by simp; omega), List.getElem?_replicate, if_pos (by omega)]
          rfl
        have hst := put_step hlt ht hown
        have hsb := hb.setCell (p := ⟨w.heap.size, t, none⟩) (Nat.le_refl _) (.int .u8 ((n : Int) / 2 ^ (8 * k) % 256))
        have HST := Lib.hid hst
        have HSB := Lib.hid hsb
        clear hst hsb ht hk hown hb
        go_wp2
        go_roundw
        case rel => exact ⟨k + 1, by omega, by go_num, HST.out, HSB.out⟩
        case measure => simp [intOf]; omega
      · have hcv := own_string hown
        have HO := Lib.hid hown
        clear hown
        go_wp2
        go_ret
        refine ⟨?_, hb⟩
        have e : k = s := by omega
        subst e
        rw [← HS.out]
        simp
end Go.Proofs.Ytdojepkmjifoeaa
