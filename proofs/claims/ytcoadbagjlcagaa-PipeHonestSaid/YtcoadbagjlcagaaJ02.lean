/- Index, Contains, Clone, the closure, IndexFunc.; DeleteFunc on an own row; Clear.; DeleteFunc, Clear. -/
import Derived.Test.YtcoadbagjlcagaaJ01
import Derived.Lib.SliceRun
set_option linter.unusedVariables false
set_option linter.unusedSimpArgs false
namespace Go.Proofs.Ytcoadbagjlcagaa
open Go.RowKit

theorem run_eq_it (x y : It) (w : World) : (binOp .eql 33 (.agg #[.int .u64 (x.t : Int), .string x.s]) (.agg #[.int .u64 (y.t : Int), .string y.s])).run Try.prog w = .ok (.bool (decide (x.t = y.t) && x.s.toList == y.s.toList)) w := by
  obtain ⟨t, s⟩ := x
  obtain ⟨t', s'⟩ := y
  go_simp
  by_cases h1 : t = t' <;> by_cases h2 : s.toList = s'.toList <;> simp [h1, h2] <;> omega

set_option maxRecDepth 100000 in
/-- Where one is in a row. -/
theorem index_in (l : List It) (x : It) (v : Value) (hcap : l.length ≤ 1000000) (w : World) (hs : Sl w v l) (hx : x ∈ l) :
    Calls Try.prog 26 #[v, iv x] w fun e w' => (∃ k : Nat, e = .returned (.int .i64 (k : Int))) ∧ Below w.heap.size w w' := by
  have HV : Hid (∀ wz, Below w.heap.size w wz → Sl wz v l) := Lib.hid (fun wz hb => hs.later hb)
  have HX0 := Lib.hid (Bx.new 33 w (.int .u64 (x.t : Int)) (.string x.s))
  have HB0 := Lib.hid (alloc_below w (.cells #[.int .u64 (x.t : Int), .string x.s] 33))
  obtain ⟨m, hm, he⟩ := List.getElem_of_mem hx
  have HM : Hid (∀ (k : Nat) (hk : k < l.length), (decide (x.t = l[k].t) && x.s.toList == l[k].s.toList) = false → k ≠ m) := Lib.hid (fun k hk h e => by
    subst e
    rw [he] at h
    simp at h)
  obtain ⟨at0, cap, rfl⟩ := hs.form
  have HML := Lib.hid hm
  clear hs hx he hm
  unfold iv
  go_enter Try.func26, Try.ntmps26
  go_wp2
  go_loopw [5, 8] (fun _ i wz => ∃ k : Nat, k ≤ l.length ∧ i = .int .i64 k ∧ Hid (k ≤ m) ∧ Hid (Bx 33 wz w.heap.size (.int .u64 (x.t : Int)) (.string x.s)) ∧ Hid (Below w.heap.size w wz)) (fun _ i _ => l.length - (intOf i).toNat)
  case atStart => exact ⟨0, by omega, rfl, Lib.hid (Nat.zero_le _), HX0, HB0⟩
  case round =>
    obtain ⟨k, hk, rfl, HN, HX, HB⟩ := hrel
    by_cases hlt : k < l.length
    · obtain ⟨o1, c1, b, off, he, ho, hc⟩ := (HV.out wr HB.out).cells
      cases he
      obtain rfl := ho (by omega)
      obtain ⟨h0, h1⟩ := hc k hlt
      obtain ⟨x0, x1, x2, x3⟩ := HX.out.cells
      have q1 : (k : Int) < (l.length : Int) := by omega
      have HMk := Lib.hid (HM.out k hlt)
      have hrun := run_eq_it x l[k]
      have HBd : Hid (∀ q, Hid (Below w.heap.size w (wr.drewN q)) ∧ Hid (Bx 33 (wr.drewN q) w.heap.size (.int .u64 (x.t : Int)) (.string x.s))) := Lib.hid (fun q => ⟨Lib.hid ⟨HB.out.os, HB.out.tape, HB.out.output, HB.out.size, HB.out.block⟩, Lib.hid HX.out⟩)
      clear hc ho x2 x3
      generalize l[k] = y at *
      by_cases e : (decide (x.t = y.t) && x.s.toList == y.s.toList) = true
      · rw [e] at hrun
        clear e HMk
        go_wp2_with (fail)
        go_quiet (fail)
        go_wp2
        go_ret
        exact ⟨⟨k, rfl⟩, (HBd.out _).1.out⟩
      · have e' := Bool.eq_false_iff.2 e
        rw [e'] at hrun
        have hne := HMk.out e'
        have HNE := Lib.hid hne
        clear e e' HMk hne
        go_wp2_with (fail)
        go_quiet (fail)
        go_wp2
        go_roundw
        case rel => exact ⟨k + 1, by omega, by go_num, Lib.hid (by have := HN.out; have := HNE.out; omega), (HBd.out _).2, (HBd.out _).1⟩
        case measure => simp [intOf]; omega
    · exact absurd HML.out (by have := HN.out; omega)
theorem contains_in (l : List It) (x : It) (v : Value) (hcap : l.length ≤ 1000000) (w : World) (hs : Sl w v l) (hx : x ∈ l) :
    Calls Try.prog 16 #[v, iv x] w fun e w' => e = .returned (.bool true) ∧ Below w.heap.size w w' := by
  have HB0 := Lib.hid (alloc_below w (.cells #[.int .u64 (x.t : Int), .string x.s] 33))
  have K := Lib.hid (index_in l x v hcap _ (hs.later HB0.out) hx)
  obtain ⟨o, c, rfl⟩ := hs.form
  unfold iv at *
  clear hs hx
  go_enter Try.func16, Try.ntmps16
  go_wp2_with ((go_at_call 26; ((with_reducible refine (K.out).mono ?_); rintro e w1 ⟨⟨k, rfl⟩, hb⟩; have HB := Lib.hid hb; have hk : decide ((k : Int) ≥ 0) = true := (by simp); clear hb)))
  go_ret
  exact ⟨rfl, bt HB.out⟩

set_option maxRecDepth 100000 in
theorem clone_any (l : List It) (v : Value) (hl : l.length ≤ 1000000) (w : World) (hs : Sl w v l) :
    Calls Try.prog 24 #[v] w fun e w' => (∃ v', e = .returned v' ∧ Ow 33 w' w.heap.size v' l) ∧ Below w.heap.size w w' := by
  rcases hs with ⟨rfl, rfl⟩ | ⟨b, off, cap, rfl, h2, h3, h4, h5⟩
  · have hnil : ∀ W, (binOp .eql 24 (.slice none 0 0) (.slice none 0 0)).run Try.prog W = .ok (.bool true) W := fun W => by
      have := run_equal_slice_nil (P := Try.prog) (w := W) 24 33 none 0 0 Try.underlying24
      simp [binOp, this]
    go_enter Try.func24, Try.ntmps24
    go_wp2
    go_ret
    exact ⟨⟨_, rfl, Ow.nil _ _ _⟩, Below.refl _ _⟩
  · have hs : Sl w (.slice (some ⟨b, off, none⟩) l.length cap) l := Or.inr ⟨b, off, cap, rfl, h2, h3, h4, h5⟩
    have hnil : ∀ W, (binOp .eql 24 (.slice (some ⟨b, off, none⟩) l.length cap) (.slice none 0 0)).run Try.prog W = .ok (.bool false) W := fun W => by
      have := run_equal_slice_nil (P := Try.prog) (w := W) 24 33 (some ⟨b, off, none⟩) l.length cap Try.underlying24
      simp [binOp, this]
    have HO := Lib.hid (show Ow 33 (w.alloc (.cells #[] 33)) w.heap.size (.slice (some ⟨w.heap.size, 0, none⟩) 0 0) [] from World.ownsRow_made w #[] 0 (Nat.le_refl _) (Nat.zero_le _) rfl)
    have HS := Lib.hid (hs.later (alloc_below w (.cells #[] 33)))
    have HB := Lib.hid (alloc_below w (.cells #[] 33))
    obtain ⟨nl, hnl⟩ : ∃ nl, nl = l.length := ⟨_, rfl⟩
    rw [← hnl] at hnil HS ⊢
    have HL := Lib.hid hl
    clear hs h2 h3 h4 h5 hl hnl
    go_enter Try.func24, Try.ntmps24
    go_wp2_with (first
      | (at_builtin; go_must (refine wpList_append_its (w.alloc (.cells #[] 33)) rfl (.tmp 5) (.tmp 6) (Or.inl ⟨rfl, rfl⟩) rfl w.heap.size _ _ [] l rfl HO.out rfl HS.out HB.out.size (Nat.le_trans (by simp) (Nat.le_trans HL.out (by omega))) ?_); intro v6 w6 ho6 hb6; have HO6 := Lib.hid ho6; have HB6 := Lib.hid (HB.out.trans hb6); clear ho6 hb6))
    go_ret
    exact ⟨⟨_, rfl, HO6.out⟩, HB6.out⟩

/-- Is it for that one? -/
theorem clo_any (x : It) (tt gx : Nat) (w : World) (hx : w.cell? ⟨gx, 0, none⟩ = some (.int .u64 (tt : Int))) :
    Calls Try.prog 25 #[iv x, .pointer (some ⟨gx, 0, none⟩)] w fun e w' => e = .returned (.bool (decide (x.t = tt))) ∧ Below w.heap.size w w' := by
  obtain ⟨t, s⟩ := x
  have HB0 := Lib.hid (alloc_below w (.cells #[.int .u64 (t : Int), .string s] 33))
  have hx' := (HB0.out.cell (p := ⟨gx, 0, none⟩) (World.block_lt_of_cell? _ _ hx)).trans hx
  have hne : w.heap.size ≠ gx := by have : gx < w.heap.size := World.block_lt_of_cell? _ _ hx; omega
  have e : ((t : Int) == (tt : Int)) = decide (t = tt) := by
    by_cases h : t = tt
    · subst h; simp
    · rw [decide_eq_false h, beq_eq_false_iff_ne]; omega
  unfold iv
  go_enter Try.func25, Try.ntmps25
  go_wp2
  go_ret
  exact ⟨rfl, HB0.out⟩

set_option maxRecDepth 100000 in
theorem ifunc_none (l : List It) (tt gx : Nat) (v : Value) (hcap : l.length ≤ 1000000) (w : World) (hs : Sl w v l) (hx : w.cell? ⟨gx, 0, none⟩ = some (.int .u64 (tt : Int))) (hn : ∀ k (h : k < l.length), l[k].t ≠ tt) :
    Calls Try.prog 29 #[v, .func (.func 25) #[] #[.pointer (some ⟨gx, 0, none⟩)]] w fun e w' => e = .returned (.int .i64 (-1)) ∧ Below w.heap.size w w' := by
  have HV : Hid (∀ wz, Below w.heap.size w wz → Sl wz v l) := Lib.hid (fun wz hb => hs.later hb)
  have HK : Hid (∀ k (h : k < l.length) wz, Below w.heap.size w wz → Calls Try.prog 25 #[iv l[k], .pointer (some ⟨gx, 0, none⟩)] wz fun e w' => e = .returned (.bool false) ∧ Below wz.heap.size wz w') := Lib.hid (fun k h wz hb => by
    have := clo_any l[k] tt gx wz ((hb.cell (p := ⟨gx, 0, none⟩) (World.block_lt_of_cell? _ _ hx)).trans hx)
    rw [decide_eq_false (hn k h)] at this
    exact this)
  obtain ⟨at0, cap, rfl⟩ := hs.form
  clear hs hx hn
  go_enter Try.func29, Try.ntmps29
  go_wp2
  go_loopw [5, 8] (fun _ i wz => ∃ k : Nat, k ≤ l.length ∧ i = .int .i64 k ∧ Hid (Below w.heap.size w wz)) (fun _ i _ => l.length - (intOf i).toNat)
  case atStart => exact ⟨0, by omega, rfl, Lib.hid (Below.refl _ _)⟩
  case round =>
    obtain ⟨k, hk, rfl, HB⟩ := hrel
    by_cases hlt : k < l.length
    · obtain ⟨o1, c1, b, off, he, ho, hc⟩ := (HV.out wr HB.out).cells
      cases he
      obtain rfl := ho (by omega)
      obtain ⟨h0, h1⟩ := hc k hlt
      have q1 : (k : Int) < (l.length : Int) := by omega
      have K := Lib.hid (HK.out k hlt wr HB.out)
      clear hc ho
      generalize l[k] = y at *
      obtain ⟨t, s⟩ := y
      unfold iv at K
      dsimp only at *
      go_wp2_with (first
        | (go_at_call 25; ((with_reducible refine (K.out).mono ?_); rintro e w3 ⟨rfl, hb3⟩; have HB3 := Lib.hid (HB.out.trans (hb3.mono HB.out.size)); clear hb3)))
      go_roundw
      case rel => exact ⟨k + 1, by omega, by go_num, HB3⟩
      case measure => simp [intOf]; omega
    · go_wp2
      go_ret
      exact ⟨rfl, HB.out⟩
set_option maxRecDepth 100000 in
theorem ifunc_some (l : List It) (tt gx m : Nat) (v : Value) (hcap : l.length ≤ 1000000) (w : World) (hs : Sl w v l) (hx : w.cell? ⟨gx, 0, none⟩ = some (.int .u64 (tt : Int))) (hm : m < l.length) (hmt : l[m].t = tt) (hn : ∀ k (h : k < l.length), k < m → l[k].t ≠ tt) :
    Calls Try.prog 29 #[v, .func (.func 25) #[] #[.pointer (some ⟨gx, 0, none⟩)]] w fun e w' => e = .returned (.int .i64 (m : Int)) ∧ Below w.heap.size w w' := by
  have HV : Hid (∀ wz, Below w.heap.size w wz → Sl wz v l) := Lib.hid (fun wz hb => hs.later hb)
  have HK : Hid (∀ k (h : k < l.length) wz, k < m → Below w.heap.size w wz → Calls Try.prog 25 #[iv l[k], .pointer (some ⟨gx, 0, none⟩)] wz fun e w' => e = .returned (.bool false) ∧ Below wz.heap.size wz w') := Lib.hid (fun k h wz hkm hb => by
    have := clo_any l[k] tt gx wz ((hb.cell (p := ⟨gx, 0, none⟩) (World.block_lt_of_cell? _ _ hx)).trans hx)
    rw [decide_eq_false (hn k h hkm)] at this
    exact this)
  have HK2 : Hid (∀ wz, Below w.heap.size w wz → Calls Try.prog 25 #[iv l[m], .pointer (some ⟨gx, 0, none⟩)] wz fun e w' => e = .returned (.bool true) ∧ Below wz.heap.size wz w') := Lib.hid (fun wz hb => by
    have := clo_any l[m] tt gx wz ((hb.cell (p := ⟨gx, 0, none⟩) (World.block_lt_of_cell? _ _ hx)).trans hx)
    rw [decide_eq_true hmt] at this
    exact this)
  have HM := Lib.hid hm
  obtain ⟨at0, cap, rfl⟩ := hs.form
  clear hs hx hn hmt
  go_enter Try.func29, Try.ntmps29
  go_wp2
  go_loopw [5, 8] (fun _ i wz => ∃ k : Nat, k ≤ l.length ∧ i = .int .i64 k ∧ Hid (k ≤ m) ∧ Hid (Below w.heap.size w wz)) (fun _ i _ => l.length - (intOf i).toNat)
  case atStart => exact ⟨0, by omega, rfl, Lib.hid (Nat.zero_le _), Lib.hid (Below.refl _ _)⟩
  case round =>
    obtain ⟨k, hk, rfl, HN, HB⟩ := hrel
    have hlt : k < l.length := by have := HN.out; have := HM.out; omega
    obtain ⟨o1, c1, b, off, he, ho, hc⟩ := (HV.out wr HB.out).cells
    cases he
    obtain rfl := ho (by omega)
    obtain ⟨h0, h1⟩ := hc k hlt
    have q1 : (k : Int) < (l.length : Int) := by omega
    by_cases e : k = m
    · subst e
      have K := Lib.hid (HK2.out wr HB.out)
      clear hc ho HK HK2
      generalize l[k] = y at *
      obtain ⟨t, s⟩ := y
      unfold iv at K
      dsimp only at *
      go_wp2_with (first
        | (go_at_call 25; ((with_reducible refine (K.out).mono ?_); rintro e w3 ⟨rfl, hb3⟩; have HB3 := Lib.hid (HB.out.trans (hb3.mono HB.out.size)); clear hb3)))
      go_ret
      exact ⟨rfl, HB3.out⟩
    · have hkm : k < m := by have := HN.out; omega
      have K := Lib.hid (HK.out k hlt wr hkm HB.out)
      have HKM := Lib.hid hkm
      clear hc ho e hkm HK HK2
      generalize l[k] = y at *
      obtain ⟨t, s⟩ := y
      unfold iv at K
      dsimp only at *
      go_wp2_with (first
        | (go_at_call 25; ((with_reducible refine (K.out).mono ?_); rintro e w3 ⟨rfl, hb3⟩; have HB3 := Lib.hid (HB.out.trans (hb3.mono HB.out.size)); clear hb3)))
      go_roundw
      case rel => exact ⟨k + 1, by omega, by go_num, Lib.hid HKM.out, HB3⟩
      case measure => simp [intOf]; omega
end Go.Proofs.Ytcoadbagjlcagaa

namespace Go.Proofs.Ytcoadbagjlcagaa
open Go.RowKit

/-- A row that is written to: the cells of the items C at block g. -/
def RW (w : World) (g : Nat) (C : List It) : Prop := ∃ cur, w.heap[g]? = some (.cells cur 33 (0, 0)) ∧ ∀ k (h : k < C.length), cur[k * 2]? = some (.int .u64 (C[k].t : Int)) ∧ cur[k * 2 + 1]? = some (.string C[k].s)
theorem RW.later {w w' : World} {g : Nat} {C : List It} (h : RW w g C) (hb : Below w.heap.size w w') : RW w' g C := by
  obtain ⟨cur, h1, h2⟩ := h
  exact ⟨cur, (hb.block _ (lt_of_heap h1)).trans h1, h2⟩
theorem RW.lt {w : World} {g : Nat} {C : List It} (h : RW w g C) : g < w.heap.size := by
  obtain ⟨cur, h1, h2⟩ := h
  exact lt_of_heap h1
theorem RW.at {w : World} {g : Nat} {C : List It} (h : RW w g C) (k : Nat) (hk : k < C.length) : w.cell? ⟨g, k * 2, none⟩ = some (.int .u64 (C[k].t : Int)) ∧ w.cell? ⟨g, k * 2 + 1, none⟩ = some (.string C[k].s) ∧ w.frozen? ⟨g, k * 2, none⟩ = false ∧ w.frozen? ⟨g, k * 2 + 1, none⟩ = false := by
  obtain ⟨cur, h1, h2⟩ := h
  exact ⟨(cell_of_row w g _ _ _ _ h1).trans (h2 k hk).1, (cell_of_row w g _ _ _ _ h1).trans (h2 k hk).2, frozen_of_row w g _ _ _ h1, frozen_of_row w g _ _ _ h1⟩
theorem RW.set {w : World} {g : Nat} {C : List It} (h : RW w g C) (i : Nat) (hi : i < C.length) (x : It) : RW ((w.setCell ⟨g, i * 2, none⟩ (.int .u64 (x.t : Int))).setCell ⟨g, i * 2 + 1, none⟩ (.string x.s)) g (C.set i x) := by
  obtain ⟨cur, h1, h2⟩ := h
  have hlt := (Array.getElem?_eq_some_iff.1 (h2 i hi).2).1
  refine ⟨_, heap_setCell_same _ g (i * 2 + 1) _ 33 _ (heap_setCell_same w g (i * 2) _ 33 _ h1), fun k hk => ?_⟩
  rw [List.length_set] at hk
  have hk2 := h2 k hk
  rw [List.getElem_set]
  by_cases e : i = k
  · subst e
    rw [if_pos rfl]
    refine ⟨?_, ?_⟩
    · rw [Array.getElem?_setIfInBounds_ne (by omega), Array.getElem?_setIfInBounds_self_of_lt (by omega)]
    · rw [Array.getElem?_setIfInBounds_self_of_lt (by rw [Array.size_setIfInBounds]; omega)]
  · rw [if_neg e]
    refine ⟨?_, ?_⟩
    · rw [Array.getElem?_setIfInBounds_ne (by omega), Array.getElem?_setIfInBounds_ne (by omega)]; exact hk2.1
    · rw [Array.getElem?_setIfInBounds_ne (by omega), Array.getElem?_setIfInBounds_ne (by omega)]; exact hk2.2
theorem Ow.rw {w : World} {B : Nat} {v : Value} {L : List It} (h : Ow 33 w B v L) (hp : 0 < L.length) : ∃ g cap, v = .slice (some ⟨g, 0, none⟩) L.length cap ∧ B ≤ g ∧ L.length ≤ cap ∧ cap ≤ maxLen ∧ RW w g L := by
  rcases h.2 with ⟨_, hn⟩ | ⟨g, cap, cur, rfl, h0, hg, h1, h2, h3, h4⟩
  · omega
  · refine ⟨g, cap, rfl, h0, h1, h2, cur, hg, fun k hk => ?_⟩
    have hl := ic_len L
    have ha := ic_at (L := L) (i := k) (List.getElem?_eq_getElem hk)
    have key : ∀ j, j < L.length * 2 → cur[j]? = (ic L)[j]? := fun j hj => by
      rw [← h4, List.getElem?_take_of_lt (by first | exact hj | omega), Array.getElem?_toList]
    exact ⟨(key _ (by omega)).trans ha.1, (key _ (by omega)).trans ha.2⟩

theorem below_cells {B g : Nat} (hg : B ≤ g) : ∀ (vs : List Value) (o : Nat) (w0 w : World), Below B w0 w → Below B w0 (w.setCells g o vs)
  | [], _, _, _, h => h
  | v :: r, o, w0, w, h => below_cells hg r (o + 1) w0 _ (h.setCell (p := ⟨g, o, none⟩) hg v)
/-- 'clear(s)' over n > 0 items. -/
theorem run_clear_its (w : World) (ty : TypeId) (g o n c : Nat) (hn : 0 < n) (hc : ∀ j, j < n * 2 → (w.cell? ⟨g, o + j, none⟩).isSome = true) (hf : ∀ j, j < n * 2 → w.frozen? ⟨g, o + j, none⟩ = false) :
    ∃ zs : List Value, zs.length = n * 2 ∧ (Builtin.clear_ #[24] ty #[.slice (some ⟨g, o, none⟩) n c]).run Try.prog w = .ok (.tuple #[]) (w.setCells g o zs) := by
  have hv : (zeroValue 33).run Try.prog w = .ok (.agg #[.int .u64 0, .string ⟨#[]⟩]) w := by go_simp
  have hsz : (Builtin.zeroCells (Value.agg #[.int .u64 0, .string ⟨#[]⟩]).cells n).toList.length = n * 2 := by
    rw [Array.length_toList, size_zeroCells]; rfl
  have h1 : ∀ v ∈ (Builtin.zeroCells (Value.agg #[.int .u64 0, .string ⟨#[]⟩]).cells n).toList, v.oneCell' = true := by
    intro v hv
    rw [Array.mem_toList_iff] at hv
    simp only [Builtin.zeroCells, Value.cells, Array.mem_map] at hv
    obtain ⟨i, _, rfl⟩ := hv
    have h2 : (#[Value.int .u64 0, Value.string ⟨#[]⟩] : Array Value).size = 2 := rfl
    rw [h2]
    have : i % 2 = 0 ∨ i % 2 = 1 := by omega
    rcases this with e | e <;> rw [e] <;> rfl
  have hst := run_storeCells_cells (P := Try.prog) g o (Builtin.zeroCells (Value.agg #[.int .u64 0, .string ⟨#[]⟩]).cells n).toList 0 w (by rw [hsz]; simpa using hc) (by rw [hsz]; simpa using hf) h1
  simp only [Nat.add_zero] at hst
  refine ⟨_, hsz, ?_⟩
  obtain ⟨m, rfl⟩ : ∃ m, n = m + 1 := ⟨n - 1, by omega⟩
  simp [Builtin.clear_, run_underlying Try.underlying24, hv, hst]
theorem wpList_clear (W W' : World) {ops : Array Oper} {rest : List Oper} {o : Oper} {a : Act} {Q : Exit → Act → World → Prop} (hgd : o.guard = none) (s : Operand) {v : Value}
    (ho : o.op = .call { callee := .builtin .clear, args := #[s], argTypes := #[24] }) (hs : a.eval s = v) (hr : ∀ ty, (Builtin.clear_ #[24] ty #[v]).run Try.prog W = .ok (.tuple #[]) W')
    (h : wpList Try.prog ops Q rest (a.put o.dst (.tuple #[])) W') : wpList Try.prog ops Q (o :: rest) a W := by
  refine wpList_plain hgd fun K hK => ?_
  unfold Oper.wp execOp
  simp only [ho, resolve, invoke, builtin, Sem.run_bind, Sem.run_pure, Result.andThen_ok, List.map_toArray, List.map_cons, List.map_nil, hs, hr]
  exact hK _ _ h
/-- Those that are kept. -/
def keep (tt : Nat) (x : It) : Bool := !decide (x.t = tt)
theorem filter_first {l : List It} {tt m : Nat} (hm : m < l.length) (hmt : l[m].t = tt) (hn : ∀ k (h : k < l.length), k < m → l[k].t ≠ tt) : (l.take (m + 1)).filter (keep tt) = l.take m := by
  rw [List.take_succ_eq_append_getElem hm, List.filter_append]
  have h1 : (l.take m).filter (keep tt) = l.take m := by
    rw [List.filter_eq_self]
    intro a ha
    obtain ⟨j, hj, rfl⟩ := List.getElem_of_mem ha
    rw [List.length_take] at hj
    have := hn j (by omega) (by omega)
    simp [keep, this]
  rw [h1]
  simp [keep, hmt]
theorem filter_next {l : List It} {tt j : Nat} (hj : j < l.length) : (l.take (j + 1)).filter (keep tt) = if keep tt l[j] then (l.take j).filter (keep tt) ++ [l[j]] else (l.take j).filter (keep tt) := by
  rw [List.take_succ_eq_append_getElem hj, List.filter_append]
  by_cases h : keep tt l[j] = true
  · simp [h]
  · simp [h]
/-- What holds of the row at each turn: C is it, i of those ahead of j stay. -/
structure DF (l : List It) (tt i j : Nat) (C : List It) : Prop where
  len : C.length = l.length
  ij : i < j
  jn : j ≤ l.length
  head : C.take i = (l.take j).filter (keep tt)
  tail : C.drop j = l.drop j
theorem DF.at {l : List It} {tt i j : Nat} {C : List It} (h : DF l tt i j C) (hj : j < l.length) : ∃ hc : j < C.length, C[j] = l[j] := by
  refine ⟨by rw [h.len]; exact hj, ?_⟩
  have h1 : (C.drop j)[0]? = (l.drop j)[0]? := by rw [h.tail]
  rw [List.getElem?_drop, List.getElem?_drop, Nat.add_zero, List.getElem?_eq_getElem (by rw [h.len]; exact hj), List.getElem?_eq_getElem hj] at h1
  exact Option.some.inj h1
theorem DF.skip {l : List It} {tt i j : Nat} {C : List It} (h : DF l tt i j C) (hj : j < l.length) (hk : keep tt l[j] = false) : DF l tt i (j + 1) C := by
  refine ⟨h.len, by have := h.ij; omega, by omega, ?_, ?_⟩
  · rw [filter_next hj, hk]; exact h.head
  · rw [← List.drop_drop, h.tail, List.drop_drop]
theorem DF.stay {l : List It} {tt i j : Nat} {C : List It} (h : DF l tt i j C) (hj : j < l.length) (hk : keep tt l[j] = true) : DF l tt (i + 1) (j + 1) (C.set i l[j]) := by
  have hl := h.len
  have hij := h.ij
  refine ⟨by rw [List.length_set]; exact hl, by omega, by omega, ?_, ?_⟩
  · rw [filter_next hj, if_pos hk, ← h.head, List.take_succ_eq_append_getElem (by rw [List.length_set]; omega), List.getElem_set_self, List.take_set_of_le (Nat.le_refl i)]
  · rw [List.drop_set_of_lt (by omega), ← List.drop_drop, h.tail, List.drop_drop]
end Go.Proofs.Ytcoadbagjlcagaa

namespace Go.Proofs.Ytcoadbagjlcagaa
open Go.RowKit

theorem del_none (l : List It) (tt gx : Nat) (v : Value) (hcap : l.length ≤ 1000000) (w : World) (hs : Sl w v l) (hx : w.cell? ⟨gx, 0, none⟩ = some (.int .u64 (tt : Int))) (hn : ∀ k (h : k < l.length), l[k].t ≠ tt) :
    Calls Try.prog 23 #[v, .func (.func 25) #[] #[.pointer (some ⟨gx, 0, none⟩)]] w fun e w' => e = .returned v ∧ Below w.heap.size w w' := by
  have K := Lib.hid (ifunc_none l tt gx v hcap w hs hx hn)
  obtain ⟨o, c, rfl⟩ := hs.form
  clear hs hx hn
  go_enter Try.func23, Try.ntmps23
  go_wp2_with ((go_at_call 29; ((with_reducible refine (K.out).mono ?_); rintro e w1 ⟨rfl, hb⟩; have HB := Lib.hid hb; clear hb)))
  go_ret
  exact ⟨rfl, HB.out⟩

set_option maxRecDepth 100000 in
set_option maxHeartbeats 4000000 in
theorem del_some (l : List It) (tt gx g cap m B : Nat) (hcap : l.length ≤ 1000000) (w : World) (hlc : l.length ≤ cap) (hcm : cap ≤ maxLen) (hBg : B ≤ g) (hBw : B ≤ w.heap.size) (hgx : gx < B) (hr : RW w g l) (hx : w.cell? ⟨gx, 0, none⟩ = some (.int .u64 (tt : Int))) (hm : m < l.length) (hmt : l[m].t = tt) (hn : ∀ k (h : k < l.length), k < m → l[k].t ≠ tt) :
    Calls Try.prog 23 #[.slice (some ⟨g, 0, none⟩) l.length cap, .func (.func 25) #[] #[.pointer (some ⟨gx, 0, none⟩)]] w fun e w' => (∃ o n c, e = .returned (.slice o n c) ∧ Sl w' (.slice o n c) (l.filter (keep tt)) ∧ Fr B (.slice o n c)) ∧ Below B w w' := by
  have hsl : Sl w (.slice (some ⟨g, 0, none⟩) l.length cap) l := by
    obtain ⟨cur, h1, h2⟩ := hr
    refine Or.inr ⟨g, 0, cap, rfl, hlc, hcm, lt_of_heap h1, fun j v hj => ?_⟩
    have hjl := (List.getElem?_eq_some_iff.1 hj).1
    rw [ic_len] at hjl
    rw [Nat.zero_add, cell_of_row w g _ _ _ _ h1, ← hj]
    have ha := ic_at (L := l) (i := j / 2) (List.getElem?_eq_getElem (by omega))
    have hc := h2 (j / 2) (by omega)
    rcases (show j = j / 2 * 2 ∨ j = j / 2 * 2 + 1 by omega) with e | e
    · rw [e, hc.1, ha.1]
    · rw [e, hc.2, ha.2]
  have K := Lib.hid (ifunc_some l tt gx m _ hcap w hsl hx hm hmt hn)
  have KC : Hid (∀ (x : It) wz, Below B w wz → Calls Try.prog 25 #[.agg #[.int .u64 (x.t : Int), .string x.s], .pointer (some ⟨gx, 0, none⟩)] wz fun e w' => e = .returned (.bool (decide (x.t = tt))) ∧ Below wz.heap.size wz w') := Lib.hid (fun x wz hb => clo_any x tt gx wz ((hb.cell (p := ⟨gx, 0, none⟩) hgx).trans hx))
  have HD : Hid (DF l tt m (m + 1) l) := Lib.hid ⟨rfl, by omega, hm, (filter_first hm hmt hn).symm, rfl⟩
  have HR := Lib.hid hr
  have HBW := Lib.hid hBw
  have HF : Hid (∀ i C, DF l tt i l.length C → C.take i = l.filter (keep tt) ∧ i < l.length ∧ C.length = l.length) := Lib.hid (fun i C h => ⟨by rw [h.head, List.take_length], h.ij, h.len⟩)
  have HDF : Hid (∀ i j C, DF l tt i j C → j < l.length → ∃ (hc : j < C.length), i < C.length ∧ ((decide (C[j].t = tt) = true ∧ DF l tt i (j + 1) C) ∨ (decide (C[j].t = tt) = false ∧ DF l tt (i + 1) (j + 1) (C.set i C[j])))) := Lib.hid (fun i j C h hj => by
    obtain ⟨hc, he⟩ := h.at hj
    refine ⟨hc, by have := h.ij; omega, ?_⟩
    cases hk : decide (C[j].t = tt) with
    | true => exact Or.inl ⟨rfl, h.skip hj (by rw [← he]; simp only [keep, hk]; rfl)⟩
    | false => exact Or.inr ⟨rfl, by have := h.stay hj (by rw [← he]; simp only [keep, hk]; rfl); rw [← he] at this; exact this⟩)
  have HM := Lib.hid hm
  have HC := Lib.hid (show l.length ≤ cap ∧ cap ≤ maxLen ∧ B ≤ g from ⟨hlc, hcm, hBg⟩)
  have q0 : ((m : Int) == -1) = false := by rw [beq_eq_false_iff_ne]; omega
  have q1 : m < 1000000 := by omega
  clear hsl hr hx hmt hn hlc hcm hBg hBw hgx hm
  go_enter Try.func23, Try.ntmps23
  go_wp2_with ((go_at_call 29; ((with_reducible refine (K.out).mono ?_); rintro e w1 ⟨rfl, hb⟩; have HB := Lib.hid (hb.mono HBW.out); have HR1 := Lib.hid (HR.out.later hb); clear hb)))
  go_loopw [5, 6, 7] (fun x y _ wz => ∃ i j : Nat, ∃ C, x = .int .i64 i ∧ y = .int .i64 j ∧ j ≤ l.length ∧ Hid (DF l tt i j C) ∧ Hid (RW wz g C) ∧ Hid (Below B w wz)) (fun _ y _ _ => l.length - (intOf y).toNat)
  case atStart => exact ⟨m, m + 1, l, rfl, by go_num, HM.out, HD, HR1, HB⟩
  case round =>
    obtain ⟨i, j, C, rfl, rfl, hjl, HDC, HRC, HBr⟩ := hrel
    by_cases hlt : j < l.length
    · obtain ⟨hc, hi, hway⟩ := HDF.out i j C HDC.out hlt
      obtain ⟨c0, c1, _, _⟩ := HRC.out.at j hc
      have HI := Lib.hid hi
      have q3 : (j : Int) < (l.length : Int) := by omega
      have q4 : (i : Int) < (l.length : Int) := by have := (HF.out); have := HDC.out.ij; omega
      have KX := Lib.hid (KC.out C[j])
      have HX := Lib.hid (Bx.new 33 wr (.int .u64 (C[j].t : Int)) (.string C[j].s))
      have HRx := Lib.hid (HRC.out.later (alloc_below wr (.cells #[.int .u64 (C[j].t : Int), .string C[j].s] 33)))
      have hBr : B ≤ wr.heap.size := Nat.le_trans HBW.out HBr.out.size
      have HBx := Lib.hid (HBr.out.trans ((alloc_below wr (.cells #[.int .u64 (C[j].t : Int), .string C[j].s] 33)).mono hBr))
      have HBr2 := Lib.hid hBr
      have HNE : Hid (wr.heap.size ≠ g) := Lib.hid (by have := HRC.out.lt; omega)
      have hlj : C.length = l.length := HDC.out.len
      have HST : Hid (∀ W : World, RW W g C → RW ((W.setCell ⟨g, i * 2, none⟩ (.int .u64 (C[j].t : Int))).setCell ⟨g, i * 2 + 1, none⟩ (.string C[j].s)) g (C.set i C[j])) := Lib.hid (fun W h => h.set i hi C[j])
      have HWAY := Lib.hid hway
      clear hway hi hBr hlj
      generalize C[j] = x at *
      obtain ⟨t, s⟩ := x
      dsimp only at *
      rcases HWAY.out with ⟨hd, hdf⟩ | ⟨hd, hdf⟩
      · have HDN := Lib.hid hdf
        rw [hd] at KX
        clear hd hdf HWAY
        go_wp2_with (first
          | (go_at_call 25; ((with_reducible refine (KX.out _ HBx.out).mono ?_); rintro e w3 ⟨rfl, hb3⟩; have HR3 := Lib.hid (HRx.out.later hb3); have HB3 := Lib.hid (HBx.out.trans (hb3.mono (Nat.le_trans HBr2.out (by simp)))); clear hb3)))
        go_roundw
        case rel => exact ⟨i, j + 1, C, rfl, by go_num, by omega, HDN, HR3, HB3⟩
        case measure => simp [intOf]; omega
      · have HDN := Lib.hid hdf
        rw [hd] at KX
        clear hd hdf HWAY
        go_wp2_with (first
          | (go_at_call 25; ((with_reducible refine (KX.out _ HBx.out).mono ?_); rintro e w3 ⟨rfl, hb3⟩; have HR3 := Lib.hid (HRx.out.later hb3); have HB3 := Lib.hid (HBx.out.trans (hb3.mono (Nat.le_trans HBr2.out (by simp)))); obtain ⟨x0, x1, x2, x3⟩ := (HX.out.later hb3).cells; obtain ⟨d0, d1, d2, d3⟩ := HR3.out.at i HI.out; clear hb3)))
        go_roundw
        case rel => exact ⟨i + 1, j + 1, C.set i ⟨t, s⟩, by go_num, by go_num, by omega, HDN, Lib.hid (HST.out _ HR3.out), Lib.hid ((HB3.out.setCell (p := ⟨g, i * 2, none⟩) HC.out.2.2 _).setCell (p := ⟨g, i * 2 + 1, none⟩) HC.out.2.2 _)⟩
        case measure => simp [intOf]; omega
    · have hj3 : j = l.length := by omega
      subst hj3
      obtain ⟨hT, hi, hlen⟩ := HF.out i C HDC.out
      have hcl : i < cap := Nat.lt_of_lt_of_le hi HC.out.1
      have hsl : ∀ W : World, (Instr.sliceAt 24 (.slice (some ⟨g, 0, none⟩) l.length cap) (some (.int .i64 (i : Int))) none none).run Try.prog W = .ok (.slice (some ⟨g, i * 2, none⟩) (l.length - i) (cap - i)) W := fun W => by
        rw [run_sliceAt_slice (w := W) 24 _ _ _ _ hU24, run_slice_l (w := W) 24 _ _ _ hU24 .i64 _ (by omega) (by omega), hZ24]
        have : cap ≠ i := by omega
        simp [Result.andThen, sliced, Addr.add_mid, this]
      have hsh : ∀ W : World, (Instr.sliceAt 24 (.slice (some ⟨g, 0, none⟩) l.length cap) none (some (.int .i64 (i : Int))) none).run Try.prog W = .ok (.slice (some ⟨g, 0, none⟩) i cap) W := fun W => by
        rw [run_sliceAt_slice (w := W) 24 _ _ _ _ hU24, run_slice_h (w := W) 24 _ _ _ hU24 .i64 _ (by omega) (by omega), hZ24]
        simp [Result.andThen, sliced, Addr.add]
      have hcell : ∀ j, j < (l.length - i) * 2 → (wr.cell? ⟨g, i * 2 + j, none⟩).isSome = true ∧ wr.frozen? ⟨g, i * 2 + j, none⟩ = false := fun j hj => by
        have ha := HRC.out.at ((i * 2 + j) / 2) (by omega)
        rcases (show i * 2 + j = (i * 2 + j) / 2 * 2 ∨ i * 2 + j = (i * 2 + j) / 2 * 2 + 1 by omega) with e | e
        · rw [e, ha.1]; exact ⟨rfl, ha.2.2.1⟩
        · rw [e, ha.2.1]; exact ⟨rfl, ha.2.2.2⟩
      have hclr : ∀ ty, ∃ zs : List Value, zs.length = (l.length - i) * 2 ∧ (Builtin.clear_ #[24] ty #[.slice (some ⟨g, i * 2, none⟩) (l.length - i) (cap - i)]).run Try.prog wr = .ok (.tuple #[]) (wr.setCells g (i * 2) zs) := fun ty => run_clear_its wr ty g (i * 2) (l.length - i) (cap - i) (by omega) (fun j hj => (hcell j hj).1) (fun j hj => (hcell j hj).2)
      obtain ⟨zs, hz, hrun⟩ := hclr 0
      have HRN : Hid (∀ ty, (Builtin.clear_ #[24] ty #[.slice (some ⟨g, i * 2, none⟩) (l.length - i) (cap - i)]).run Try.prog wr = .ok (.tuple #[]) (wr.setCells g (i * 2) zs)) := Lib.hid (fun ty => hrun)
      have HEND : Hid (Sl (wr.setCells g (i * 2) zs) (.slice (some ⟨g, 0, none⟩) i cap) (l.filter (keep tt)) ∧ Below B w (wr.setCells g (i * 2) zs)) := Lib.hid ⟨by
        rw [← hT]
        have htl : (C.take i).length = i := by rw [List.length_take]; omega
        have hgl := HRC.out.lt
        have hbs := (below_cells (B := g) (Nat.le_refl _) zs (i * 2) wr wr (Below.refl _ _)).size
        refine Or.inr ⟨g, 0, cap, by rw [htl], by omega, HC.out.2.1, by omega, fun k u hk => ?_⟩
        have hkl := (List.getElem?_eq_some_iff.1 hk).1
        rw [ic_len, htl] at hkl
        rw [Nat.zero_add, World.cell?_setCells_out g zs (i * 2) wr ⟨g, k, none⟩ (fun _ _ => Or.inl hkl), ← hk]
        have hk2 : k / 2 < i := by omega
        have ha := ic_at (L := C.take i) (i := k / 2) (List.getElem?_eq_getElem (by omega))
        have hr := HRC.out.at (k / 2) (by omega)
        rw [List.getElem_take] at ha
        rcases (show k = k / 2 * 2 ∨ k = k / 2 * 2 + 1 by omega) with e | e
        · rw [e, hr.1, ha.1]
        · rw [e, hr.2.1, ha.2], below_cells HC.out.2.2 zs (i * 2) w wr HBr.out⟩
      have q3 : ¬ ((l.length : Int) < (l.length : Int)) := by omega
      clear hclr hcell hT hi hlen hcl hz
      generalize wr.setCells g (i * 2) zs = wE at *
      go_wp2
      go_ret
      refine ⟨⟨_, _, _, rfl, HEND.out.1, fun b o n c e => ?_⟩, HEND.out.2⟩
      cases e
      exact HC.out.2.2
end Go.Proofs.Ytcoadbagjlcagaa
