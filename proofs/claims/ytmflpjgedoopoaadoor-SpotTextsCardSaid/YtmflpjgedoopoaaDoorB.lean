/- The small functions of package label: a byte's kind, each byte of a text. -/
import Derived.Test.YtmflpjgedoopoaaDoorRows
import Derived.Test.YtmflpjgedoopoaaDoorA
import Derived.Test.YtmflpjgedoopoaaDoorShelfL
import Derived.WalkKit
import Derived.WalkLawsBesides
import Derived.Outline
import Derived.Laws.IdiomStrings
import Derived.Lib.Hide
import Derived.WalkSpells
import Derived.Deep.DeepCutAuto
import Derived.Deep.CutBlock
import Derived.Deep.QuietTactic
import Derived.BigQuiet
import Derived.Deep.LoopGhost
import Derived.Deep.DeepFit
import Derived.Deep.Light
import Derived.Laws.Externs
namespace Go.Proofs.YtmflpjgedoopoaaDoor
open Go.RowKit

theorem ret_bool {a b : Bool} (h : a = b) : Ending.returned (.bool a) = Ending.returned (.bool b) := by rw [h]
theorem ret_int {k : IntKind} {a b : Int} (h : a = b) : Ending.returned (.int k a) = .returned (.int k b) := by rw [h]

theorem letter_any (c : UInt8) (w : World) : Calls Tryd.prog 41 #[.int .u8 (c.toNat : Int)] w fun e w' => e = .returned (.bool (letterB c)) ∧ w = w' := by
  unfold letterB
  go_enter Tryd.func41, Tryd.ntmps41
  go_wp2
  all_goals
    go_ret
    refine ⟨ret_bool ?_, rfl⟩
    rw [Bool.eq_iff_iff]; simp; omega

theorem seen_any (c : UInt8) (w : World) : Calls Tryd.prog 47 #[.int .u8 (c.toNat : Int)] w fun e w' => e = .returned (.bool (seenB c)) ∧ w = w' := by
  unfold seenB
  go_enter Tryd.func47, Tryd.ntmps47
  go_wp2
  all_goals
    go_ret
    refine ⟨ret_bool ?_, rfl⟩
    rw [Bool.eq_iff_iff]; simp; omega

theorem indexByte_mem (l : List UInt8) (c : UInt8) : 0 ≤ Lib.indexByte l c ↔ c ∈ l := by
  induction l with
  | nil => simp [Lib.indexByte]
  | cons b l ih =>
    unfold Lib.indexByte
    by_cases h : b = c
    · subst h; simp
    · rw [if_neg (by simpa using h)]
      have hge := Lib.indexByte_ge l c
      by_cases hm : Lib.indexByte l c = -1
      · rw [if_pos (by simpa using hm)]
        have : ¬ c ∈ l := fun e => by have := ih.2 e; omega
        simp [this, Ne.symm h]
      · rw [if_neg (by simpa using hm)]
        have : c ∈ l := ih.1 (by omega)
        simp [this]; omega
theorem ix_any (x : ByteArray) (c : UInt8) (w : World) : Calls Tryd.prog 63 #[.string x, .int .u8 (c.toNat : Int)] w fun e w' => e = .returned (.int .i64 (Lib.indexByte x.data.toList c)) ∧ w = w' := by
  refine (Tryd.strings_IndexByte x (c.toNat : Int) w).mono ?_
  rintro e w' ⟨rfl, rfl⟩
  exact ⟨by simp, rfl⟩

theorem plain1_any (x : ByteArray) (c : UInt8) (b : Nat) (w : World) (hp : w.cell? ⟨b, 0, none⟩ = some (.string x)) :
    Calls Tryd.prog 62 #[.int .u8 (c.toNat : Int), .pointer (some ⟨b, 0, none⟩)] w fun e w' => e = .returned (.bool (plainB x.data.toList c)) ∧ w = w' := by
  have K1 := Lib.hid (letter_any c)
  have K2 := Lib.hid (ix_any x c)
  obtain ⟨n, hn⟩ : ∃ n, n = Lib.indexByte x.data.toList c := ⟨_, rfl⟩
  have hm := indexByte_mem x.data.toList c
  rw [← hn] at K2 hm
  have HM := Lib.hid hm
  clear hm hn
  obtain ⟨v, hv⟩ : ∃ v, v = letterB c := ⟨_, rfl⟩
  rw [← hv] at K1
  have HV := Lib.hid hv
  clear hv
  have fin : ∀ q : Bool, (q = true ↔ v = true ∨ (48 ≤ c.toNat ∧ c.toNat ≤ 57) ∨ 0 ≤ n) → q = plainB x.data.toList c := by
    intro q h
    rw [Bool.eq_iff_iff, h, HV.out, HM.out]
    unfold plainB digitB
    simp
    constructor
    · rintro (h | h | h) <;> simp [h]
    · rintro ((h | h) | h) <;> simp [h]
  have F := Lib.hid fin
  clear fin
  cases v
  all_goals
    go_enter Tryd.func62, Tryd.ntmps62
    go_wp2_with (first
      | (go_at_call 41; ((with_reducible refine (K1.out _).mono ?_); rintro e w1 ⟨rfl, rfl⟩))
      | (go_at_call 63; ((with_reducible refine (K2.out _).mono ?_); rintro e w1 ⟨rfl, rfl⟩)))
    all_goals
      go_ret
      refine ⟨ret_bool (F.out _ ?_), rfl⟩
      simp
      try omega

theorem all_stop (l : List UInt8) (p : UInt8 → Bool) (k : Nat) (h : k < l.length) (hp : p l[k] = false) : l.all p = false := by
  rw [List.all_eq_false]; exact ⟨l[k], List.getElem_mem h, by simp [hp]⟩
theorem all_snoc (l : List UInt8) (p : UInt8 → Bool) (k : Nat) (h : k < l.length) (ha : (l.take k).all p = true) (hp : p l[k] = true) : (l.take (k + 1)).all p = true := by
  rw [List.take_succ_eq_append_getElem h, List.all_append, ha]; simp [hp]

theorem each_plain (s x : ByteArray) (b : Nat) (w : World) (hs : s.size ≤ 4294967280) (hp : w.cell? ⟨b, 0, none⟩ = some (.string x)) :
    Calls Tryd.prog 42 #[.string s, .func (.func 62) #[] #[.pointer (some ⟨b, 0, none⟩)]] w fun e w' => e = .returned (.bool (s.data.toList.all (plainB x.data.toList))) ∧ w = w' := by
  have K1 := Lib.hid (fun c => plain1_any x c b w hp)
  clear hp
  have HL := Lib.hid (Lib.size_eq s)
  obtain ⟨p, hp⟩ : ∃ p, p = plainB x.data.toList := ⟨_, rfl⟩
  rw [← hp] at K1 ⊢
  clear hp
  obtain ⟨R, hR⟩ : ∃ R, R = s.data.toList.all p := ⟨_, rfl⟩
  rw [← hR]
  have HR := Lib.hid hR
  clear hR
  go_enter Tryd.func42, Tryd.ntmps42
  go_wp2
  go_loop [8] (fun i => ∃ k : Nat, k ≤ s.size ∧ i = .int .i64 k ∧ Hid ((s.data.toList.take k).all p = true)) (fun i => s.size - (intOf i).toNat)
  case atStart => exact ⟨0, by omega, rfl, Lib.hid (by simp)⟩
  case round =>
    obtain ⟨k, hk, rfl, ha⟩ := hrel
    by_cases hlt : k < s.size
    · obtain ⟨v, hv⟩ : ∃ v, v = p s[k] := ⟨_, rfl⟩
      have KK := Lib.hid (K1.out s[k])
      rw [← hv] at KK
      have HV := Lib.hid hv
      clear hv
      cases v
      · go_wp2_with (go_at_call 62; ((with_reducible refine (KK.out).mono ?_); rintro e w1 ⟨rfl, rfl⟩))
        go_ret
        exact ⟨ret_bool (HR.out.trans (all_stop _ _ k (by simpa [← HL.out] using hlt) HV.out.symm)).symm, rfl⟩
      · go_wp2_with (go_at_call 62; ((with_reducible refine (KK.out).mono ?_); rintro e w1 ⟨rfl, rfl⟩))
        go_round
        case rel => exact ⟨k + 1, by omega, by go_num, Lib.hid (all_snoc _ _ k (by simpa [← HL.out] using hlt) ha.out HV.out.symm)⟩
        case measure => simp [intOf]; omega
    · go_wp2
      go_ret
      refine ⟨ret_bool ?_, rfl⟩
      have h := ha.out
      rw [List.take_of_length_le (by rw [← HL.out]; omega)] at h
      exact h.symm.trans HR.out.symm
theorem each_seen (s : ByteArray) (w : World) (hs : s.size ≤ 4294967280) :
    Calls Tryd.prog 42 #[.string s, .func (.func 47) #[] #[]] w fun e w' => e = .returned (.bool (s.data.toList.all seenB)) ∧ w = w' := by
  have K1 := Lib.hid (fun c => seen_any c w)
  have HL := Lib.hid (Lib.size_eq s)
  obtain ⟨p, hp⟩ : ∃ p, p = seenB := ⟨_, rfl⟩
  rw [← hp] at K1 ⊢
  clear hp
  obtain ⟨R, hR⟩ : ∃ R, R = s.data.toList.all p := ⟨_, rfl⟩
  rw [← hR]
  have HR := Lib.hid hR
  clear hR
  go_enter Tryd.func42, Tryd.ntmps42
  go_wp2
  go_loop [8] (fun i => ∃ k : Nat, k ≤ s.size ∧ i = .int .i64 k ∧ Hid ((s.data.toList.take k).all p = true)) (fun i => s.size - (intOf i).toNat)
  case atStart => exact ⟨0, by omega, rfl, Lib.hid (by simp)⟩
  case round =>
    obtain ⟨k, hk, rfl, ha⟩ := hrel
    by_cases hlt : k < s.size
    · obtain ⟨v, hv⟩ : ∃ v, v = p s[k] := ⟨_, rfl⟩
      have KK := Lib.hid (K1.out s[k])
      rw [← hv] at KK
      have HV := Lib.hid hv
      clear hv
      cases v
      · go_wp2_with (go_at_call 47; ((with_reducible refine (KK.out).mono ?_); rintro e w1 ⟨rfl, rfl⟩))
        go_ret
        exact ⟨ret_bool (HR.out.trans (all_stop _ _ k (by simpa [← HL.out] using hlt) HV.out.symm)).symm, rfl⟩
      · go_wp2_with (go_at_call 47; ((with_reducible refine (KK.out).mono ?_); rintro e w1 ⟨rfl, rfl⟩))
        go_round
        case rel => exact ⟨k + 1, by omega, by go_num, Lib.hid (all_snoc _ _ k (by simpa [← HL.out] using hlt) ha.out HV.out.symm)⟩
        case measure => simp [intOf]; omega
    · go_wp2
      go_ret
      refine ⟨ret_bool ?_, rfl⟩
      have h := ha.out
      rw [List.take_of_length_le (by rw [← HL.out]; omega)] at h
      exact h.symm.trans HR.out.symm
end Go.Proofs.YtmflpjgedoopoaaDoor
