/- A place's text. -/
import Derived.Test.YtmflpjgedoopoaaDoorSB
import Derived.Test.YtmflpjgedoopoaaDoorSF
namespace Go.Proofs.YtmflpjgedoopoaaDoor
open Go.RowKit

def dg (n : Nat) : List UInt8 := Lib.decDigits n
def joinN (a b c d : Nat) : List UInt8 := dg a ++ 46 :: (dg b ++ 46 :: (dg c ++ 46 :: dg d))
def textN (a b c d p : Nat) : List UInt8 := joinN a b c d ++ 58 :: dg p
theorem dg_len (u : Nat) (hu : u ≤ 18446744073709551615) : (dg u).length ≤ 20 := by
  unfold dg
  by_cases h0 : u = 0
  · subst h0; rw [W.dec_small 0 (by omega)]; simp
  · rw [Lib.decDigits_length]
    have := Lib.numDigits_eq u (by omega) (by omega)
    split at this <;> omega
def xv (a b c d k : Nat) : Nat := if k = 0 then a else if k = 1 then b else if k = 2 then c else d
theorem ix_ip (a b c d k : Nat) (hk : k < 4) (w : World) : (Instr.index 33 (.agg #[.int .u8 a, .int .u8 b, .int .u8 c, .int .u8 d]) (.int .i64 (k : Int))).run Tryd.prog w = .ok (.int .u8 (xv a b c d k)) w := by
  rcases (show k = 0 ∨ k = 1 ∨ k = 2 ∨ k = 3 by omega) with rfl | rfl | rfl | rfl <;> kernel_rfl
/-- The array of texts, its first k told. -/
def Arr (g a b c d k : Nat) (w : World) : Prop := ∃ t0 t1 t2 t3 : ByteArray, w.heap[g]? = some (.cells #[.string t0, .string t1, .string t2, .string t3] 61 (0, 0)) ∧
  (0 < k → t0 = str (dg a)) ∧ (1 < k → t1 = str (dg b)) ∧ (2 < k → t2 = str (dg c)) ∧ (3 < k → t3 = str (dg d))
theorem Arr.later {g a b c d k : Nat} {w w' : World} (h : Arr g a b c d k w) (hb : Below w.heap.size w w') : Arr g a b c d k w' := by
  obtain ⟨t0, t1, t2, t3, h, h1⟩ := h
  exact ⟨t0, t1, t2, t3, (hb.block _ (lt_of_some h)).trans h, h1⟩
theorem Arr.put {g a b c d k : Nat} {w : World} (h : Arr g a b c d k w) (hk : k < 4) : Arr g a b c d (k + 1) (w.setCell ⟨g, k, none⟩ (.string (str (dg (xv a b c d k))))) := by
  obtain ⟨t0, t1, t2, t3, h, h0, h1, h2, h3⟩ := h
  have e := heap_setCell_same w g k _ _ (.string (str (dg (xv a b c d k)))) h
  match k, hk with
  | 0, _ => exact ⟨str (dg a), t1, t2, t3, e, fun _ => rfl, fun h => absurd h (by omega), fun h => absurd h (by omega), fun h => absurd h (by omega)⟩
  | 1, _ => exact ⟨t0, str (dg b), t2, t3, e, fun _ => h0 (by omega), fun _ => rfl, fun h => absurd h (by omega), fun h => absurd h (by omega)⟩
  | 2, _ => exact ⟨t0, t1, str (dg c), t3, e, fun _ => h0 (by omega), fun _ => h1 (by omega), fun _ => rfl, fun h => absurd h (by omega)⟩
  | 3, _ => exact ⟨t0, t1, t2, str (dg d), e, fun _ => h0 (by omega), fun _ => h1 (by omega), fun _ => h2 (by omega), fun _ => rfl⟩
theorem Arr.frozen {g a b c d k : Nat} {w : World} (h : Arr g a b c d k w) (j : Nat) : w.frozen? ⟨g, j, none⟩ = false := by
  obtain ⟨t0, t1, t2, t3, h, _⟩ := h
  exact frozen_of_row w g j _ _ h
theorem Arr.cell {g a b c d k : Nat} {w : World} (h : Arr g a b c d k w) (j : Nat) (hj : j < 4) : ∃ t : ByteArray, w.cell? ⟨g, j, none⟩ = some (.string t) := by
  obtain ⟨t0, t1, t2, t3, h, _⟩ := h
  match j, hj with
  | 0, _ => exact ⟨_, cell_of_row w _ 0 _ _ _ h⟩
  | 1, _ => exact ⟨_, cell_of_row w _ 1 _ _ _ h⟩
  | 2, _ => exact ⟨_, cell_of_row w _ 2 _ _ _ h⟩
  | 3, _ => exact ⟨_, cell_of_row w _ 3 _ _ _ h⟩
def TW (a b c d p k : Nat) (w wr : World) : Prop := Below w.heap.size w wr ∧ Blk w.heap.size a b c d p wr ∧ Arr (w.heap.size + 1) a b c d k wr
theorem TW.later {a b c d p k : Nat} {w wr w1 : World} (h : TW a b c d p k w wr) (hb : Below wr.heap.size wr w1) : TW a b c d p k w w1 :=
  ⟨h.1.trans (hb.mono h.1.size), (hb.block _ (lt_of_some h.2.1)).trans h.2.1, h.2.2.later hb⟩
theorem TW.put {a b c d p k : Nat} {w wr : World} (h : TW a b c d p k w wr) (hk : k < 4) : TW a b c d p (k + 1) w (wr.setCell ⟨w.heap.size + 1, k, none⟩ (.string (str (dg (xv a b c d k))))) :=
  ⟨h.1.setCell (by simp) _, (heap_setCell_other wr ⟨w.heap.size + 1, k, none⟩ _ _ (by simp)).trans h.2.1, h.2.2.put hk⟩
theorem tw_start (a b c d p : Nat) (w : World) : TW a b c d p 0 w ((w.alloc (.cells #[.int .u8 a, .int .u8 b, .int .u8 c, .int .u8 d, .int .u16 p] 36)).alloc (.cells #[.string { data := #[] }, .string { data := #[] }, .string { data := #[] }, .string { data := #[] }] 61)) := by
  refine ⟨((Below.refl _ _).alloc (Nat.le_refl _) _).alloc (by simp) _, ?_, ⟨{ data := #[] }, { data := #[] }, { data := #[] }, { data := #[] }, ?_, fun h => absurd h (by omega), fun h => absurd h (by omega), fun h => absurd h (by omega), fun h => absurd h (by omega)⟩⟩
  · unfold Blk
    rw [Below.heap_alloc _ _ _ (by simp), heap_alloc_new]
  · have h := heap_alloc_new (w.alloc (.cells #[.int .u8 a, .int .u8 b, .int .u8 c, .int .u8 d, .int .u16 p] 36)) (.cells #[.string { data := #[] }, .string { data := #[] }, .string { data := #[] }, .string { data := #[] }] 61)
    rw [show (w.alloc (.cells #[.int .u8 a, .int .u8 b, .int .u8 c, .int .u8 d, .int .u16 p] 36)).heap.size = w.heap.size + 1 by simp] at h
    exact h
theorem Lay.tab {w : World} (h : Lay w) : Lib.TabIs Tryd.prog w "internal/strconv.uint64pow10" .u64 Lib.pow10Tab := h.2.1
theorem joins_any (a b c d : Nat) (ha : a < 256) (hb : b < 256) (hc : c < 256) (hd : d < 256) (g : Nat) (w : World) (h : Arr g a b c d 4 w) :
    Calls Tryd.prog 57 #[.slice (some ⟨g, 0, none⟩) 4 4, .string ⟨#[46]⟩] w fun e w' => e = .returned (.string (str (joinN a b c d))) ∧ Below w.heap.size w w' := by
  obtain ⟨t0, t1, t2, t3, h, h0, h1, h2, h3⟩ := h
  obtain rfl := h0 (by omega)
  obtain rfl := h1 (by omega)
  obtain rfl := h2 (by omega)
  obtain rfl := h3 (by omega)
  have e : Lib.join ([str (dg a), str (dg b), str (dg c), str (dg d)].map (·.data.toList)) [46] = joinN a b c d := by
    unfold joinN
    simp [Lib.join, str_data]
  have z0 := dg_len a (by omega)
  have z1 := dg_len b (by omega)
  have z2 := dg_len c (by omega)
  have z3 := dg_len d (by omega)
  have hlen : (joinN a b c d).length ≤ 83 := by unfold joinN; simp; omega
  have k := Tryd.strings_Join g 0 4 [str (dg a), str (dg b), str (dg c), str (dg d)] ⟨#[46]⟩ w (by
    intro j x hj
    match j, hj with
    | 0, hj => simp at hj; subst hj; exact cell_of_row w _ 0 _ _ _ h
    | 1, hj => simp at hj; subst hj; exact cell_of_row w _ 1 _ _ _ h
    | 2, hj => simp at hj; subst hj; exact cell_of_row w _ 2 _ _ _ h
    | 3, hj => simp at hj; subst hj; exact cell_of_row w _ 3 _ _ _ h
    | (n + 4), hj => simp at hj) (lt_of_some h) (by simp) (by simp) (by rw [e]; omega)
  rw [e] at k
  exact k

set_option maxRecDepth 1000000 in
set_option maxHeartbeats 4000000 in
theorem text_any (a b c d p : Nat) (ha : a < 256) (hb : b < 256) (hc : c < 256) (hd : d < 256) (hp : p < 65536) (w : World) (hl : Lay w) :
    Calls Tryd.prog 31 #[plc a b c d p] w fun e w' => e = .returned (.string (str (textN a b c d p))) ∧ Below w.heap.size w w' := by
  have HLAY := Lib.hid hl
  have HTW := Lib.hid (tw_start a b c d p w)
  have HX : Hid (∀ k, xv a b c d k < 256) := Lib.hid (fun k => by unfold xv; (repeat' split) <;> assumption)
  have KJ : Hid (∀ w1, TW a b c d p 4 w w1 → Calls Tryd.prog 57 #[.slice (some ⟨w.heap.size + 1, 0, none⟩) 4 4, .string ⟨#[46]⟩] w1 fun e w' => e = .returned (.string (str (joinN a b c d))) ∧ Below w1.heap.size w1 w') := Lib.hid (fun w1 h => joins_any a b c d ha hb hc hd (w.heap.size + 1) w1 h.2.2)
  have KD : Hid (∀ w1, TW a b c d p 4 w w1 → Calls Tryd.prog 56 #[.int .u64 (IntKind.u64.wrap (p : Int))] w1 fun e w' => e = .returned (.string (str (dg p))) ∧ Below w1.heap.size w1 w') := Lib.hid (fun w1 h => by
    rw [IntWalk.u64_in _ (by omega)]; exact W.digits_any p (by omega) w1 (HLAY.out.later h.1).tab)
  have hlen : (joinN a b c d).length ≤ 83 ∧ (dg p).length ≤ 20 := by
    have z0 := dg_len a (by omega)
    have z1 := dg_len b (by omega)
    have z2 := dg_len c (by omega)
    have z3 := dg_len d (by omega)
    exact ⟨by unfold joinN; simp; omega, dg_len p (by omega)⟩
  obtain ⟨J, hJ⟩ : ∃ x, str (joinN a b c d) = x := ⟨_, rfl⟩
  obtain ⟨D, hD⟩ : ∃ x, str (dg p) = x := ⟨_, rfl⟩
  obtain ⟨M, hM⟩ : ∃ x, str (joinN a b c d ++ [58]) = x := ⟨_, rfl⟩
  have hadd1 : ∀ w, (Op.stringOp .add J ⟨#[58]⟩).run Tryd.prog w = .ok (.string M) w := fun w => by
    rw [← hJ, ← hM]; exact W.run_str_add _ [58] (by simp; omega) w
  have hadd2 : ∀ w, (Op.stringOp .add M D).run Tryd.prog w = .ok (.string (str (textN a b c d p))) w := fun w => by
    have h := W.run_str_add (joinN a b c d ++ [58]) (dg p) (by simp; omega) w
    rw [← hM, ← hD]
    rw [show textN a b c d p = joinN a b c d ++ [58] ++ dg p by unfold textN; simp]
    exact h
  rw [hD] at KD
  rw [hJ] at KJ
  clear hl hlen hJ hD hM ha hb hc hd hp
  generalize str (textN a b c d p) = Z at *
  unfold plc
  go_enter Tryd.func31, Tryd.ntmps31
  go_wp2
  go_loopw [8] (fun i wr => ∃ (k : Nat), k ≤ 4 ∧ i = .int .i64 k ∧ TW a b c d p k w wr) (fun i _ => 4 - (intOf i).toNat)
  case atStart => exact ⟨0, by omega, rfl, HTW.out⟩
  case round =>
    obtain ⟨k, hk, rfl, htw⟩ := hrel
    by_cases hlt : k < 4
    · have hix := ix_ip a b c d k hlt
      have hu : (IntKind.u64.wrap ((xv a b c d k : Nat) : Int)) = ((xv a b c d k : Nat) : Int) := IntWalk.u64_in _ (by have := HX.out k; omega)
      have K1 := Lib.hid (W.digits_any (xv a b c d k) (by have := HX.out k; omega) wr (HLAY.out.later htw.1).tab)
      have HT := Lib.hid htw
      clear htw
      go_wp2_with fail
      refine (K1.out).mono ?_
      rintro e w1 ⟨rfl, hb1⟩
      have ht1 := HT.out.later hb1
      have hfz := ht1.2.2.frozen k
      obtain ⟨t, hct⟩ := ht1.2.2.cell k hlt
      have HT1 := Lib.hid ht1
      clear ht1 hb1 K1
      go_wp2
      go_roundw
      case rel => exact ⟨k + 1, by omega, by go_num, HT1.out.put hlt⟩
      case measure => simp [intOf] <;> omega
    · obtain rfl : k = 4 := by omega
      have hc4 := htw.2.1.cells.1.2.2.2.2
      clear HTW
      go_wp2
      go_region_held3 (fun w' => w'.cell? ⟨w.heap.size, 4, none⟩ = some (.int .u16 p) ∧ w.heap.size < w'.heap.size ∧ TW a b c d p 4 w w')
        (first
          | exact ⟨hc4, (show w.heap.size < wr.heap.size from lt_of_some htw.2.1), htw.1.drew, htw.2.1, htw.2.2⟩
          | (go_split_ands
             refine ⟨?_, ?_, ?_⟩
             · (rw [hb1.cell (p := ⟨w.heap.size, 4, none⟩) (by assumption)]; assumption)
             · exact Nat.lt_of_lt_of_le (by assumption) hb1.size
             · exact TW.later (by assumption) hb1)
          | go_keep)
        (first
          | (go_at_call 57; ((with_reducible refine (KJ.out _ ?_).mono ?_); (go_split_ands; assumption); rintro e w1 ⟨rfl, hb1⟩))
          | (go_at_call 56; ((with_reducible refine (KD.out _ ?_).mono ?_); (go_split_ands; assumption); rintro e w1 ⟨rfl, hb1⟩)))
      all_goals go_wp2
      all_goals go_ret
      all_goals
        refine ⟨rfl, ?_⟩
        rename_i hS
        exact hS.2.2.1
end Go.Proofs.YtmflpjgedoopoaaDoor
