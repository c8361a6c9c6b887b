/- Clone, All, DeleteFunc, Equal. -/
import Derived.Test.YtifacilidoaeoaaJ02
import Derived.Test.YtifacilidoaeoaaJ04
import Derived.Lib.OwnBridge
set_option linter.unusedVariables false
set_option linter.unusedSimpArgs false
namespace Go.Proofs.Ytifacilidoaeoaa
open Go.RowKit

theorem run_eql_slice_nil' (t e : TypeId) (a : Addr) (l c : Nat) (h : Try.prog.underlying t = some (.slice e)) (w : World) : (binOp .eql t (.slice (some a) l c) (.slice none 0 0)).run Try.prog w = .ok (.bool false) w := by
  have := run_equal_slice_nil (P := Try.prog) (w := w) t e (some a) l c h
  simp [binOp, this]
theorem clone_any (l : List Nat) (v : Value) (B : Nat) (hl : l.length ≤ 1000000) (w : World) (hs : Sl B w v l) :
    Calls Try.prog 14 #[v] w fun e w' => (∃ v', e = .returned v' ∧ Ow w' w.heap.size v' l) ∧ Below w.heap.size w w' := by
  rcases hs with ⟨rfl, rfl⟩ | ⟨b, off, cap, rfl, h2, h3, h4, h5⟩
  · have hnil : ∀ W, (binOp .eql 22 (.slice none 0 0) (.slice none 0 0)).run Try.prog W = .ok (.bool true) W := fun W => by
      have := run_equal_slice_nil (P := Try.prog) (w := W) 22 29 none 0 0 Try.underlying22
      simp [binOp, this]
    go_enter Try.func14, Try.ntmps14
    go_wp2
    go_ret
    exact ⟨⟨_, rfl, Ow.nil _ _⟩, Below.refl _ _⟩
  · have hs : Sl B w (.slice (some ⟨b, off, none⟩) l.length cap) l := Or.inr ⟨b, off, cap, rfl, h2, h3, h4, h5⟩
    have hnil : ∀ W, (binOp .eql 22 (.slice (some ⟨b, off, none⟩) l.length cap) (.slice none 0 0)).run Try.prog W = .ok (.bool false) W := fun W => run_eql_slice_nil' 22 29 _ _ _ Try.underlying22 W
    have HO := Lib.hid (show Ow (w.alloc (.cells #[] 29)) w.heap.size (.slice (some ⟨w.heap.size, 0, none⟩) 0 0) [] from World.ownsRow_made w #[] 0 (Nat.le_refl _) (Nat.zero_le _) rfl)
    have HS := Lib.hid (hs.later (alloc_below w (.cells #[] 29)))
    have HB := Lib.hid (alloc_below w (.cells #[] 29))
    obtain ⟨nl, hnl⟩ : ∃ nl, nl = l.length := ⟨_, rfl⟩
    rw [← hnl] at hnil HS ⊢
    have HL := Lib.hid hl
    clear hs h2 h3 h4 h5 hl hnl
    go_enter Try.func14, Try.ntmps14
    go_wp2_with (first
      | (at_builtin; go_must (refine wpList_append_nums (w.alloc (.cells #[] 29)) rfl (.tmp 5) (.tmp 6) rfl w.heap.size B _ _ [] l rfl HO.out rfl HS.out HB.out.size (Nat.le_trans (by simp) (Nat.le_trans HL.out (by omega))) ?_); intro v6 w6 ho6 hb6; have HO6 := Lib.hid ho6; have HB6 := Lib.hid (HB.out.trans hb6); clear ho6 hb6))
    go_ret
    exact ⟨⟨_, rfl, HO6.out⟩, HB6.out⟩
theorem all_any (l : List Nat) (m : Nat) (v : Value) (B : Nat) (hl : l.length ≤ 1000000) (w : World) (hs : Sl B w v l) :
    Calls Try.prog 11 #[qV v m] w fun e w' => (∃ v', e = .returned v' ∧ Ow w' w.heap.size v' l) ∧ Below w.heap.size w w' := by
  have HB := Lib.hid (alloc_below w (.cells #[v, .int .i64 (m : Int)] 25))
  have K := Lib.hid (clone_any l v B hl _ (hs.later HB.out))
  obtain ⟨o, c, rfl⟩ := hs.form
  unfold qV at *
  clear hs hl
  go_enter Try.func11, Try.ntmps11
  go_wp2_with (first
    | (go_at_call 14; ((with_reducible refine (K.out).mono ?_); rintro e w1 ⟨⟨v', rfl, ho⟩, hb⟩; have HO := Lib.hid ho; have HB1 := Lib.hid hb; clear ho hb)))
  go_ret
  refine ⟨⟨_, rfl, ?_⟩, bt HB1.out⟩
  have h := HO.out
  refine ⟨h.1, ?_⟩
  rcases h.2 with hn | ⟨q, cap, cur, h1, h2, h3⟩
  · exact Or.inl hn
  · exact Or.inr ⟨q, cap, cur, h1, Nat.le_trans HB.out.size h2, h3⟩

theorem clo_any (x y g : Nat) (w : World) (hc : w.cell? ⟨g, 0, none⟩ = some (.int .u64 (x : Int))) :
    FnGives Try.prog 15 #[.pointer (some ⟨g, 0, none⟩)] #[.int .u64 (y : Int)] (.bool (decide (y = x))) w := by
  show Calls Try.prog 15 #[.int .u64 (y : Int), .pointer (some ⟨g, 0, none⟩)] w _
  have e : ((y : Int) == (x : Int)) = decide (y = x) := by
    rw [Bool.eq_iff_iff]; simp; omega
  generalize decide (y = x) = d at *
  go_enter Try.func15, Try.ntmps15
  go_wp2
  all_goals (go_ret; exact ⟨by simp_all, 0, rfl⟩)
set_option maxRecDepth 100000 in
/-- Those that aren't x, in the own row. -/
theorem del_any (l : List Nat) (x gx : Nat) (v : Value) (B : Nat) (hl : l.length ≤ 1000000) (w : World) (ho : Ow w B v l) (hv : v ≠ .slice none 0 0) (hgx : w.cell? ⟨gx, 0, none⟩ = some (.int .u64 (x : Int))) (hne : ∀ g, v.ownBlock = some g → gx ≠ g) :
    Calls Try.prog 13 #[v, .func (.func 15) #[] #[.pointer (some ⟨gx, 0, none⟩)]] w fun e w' => (∃ o n c, e = .returned (.slice o n c) ∧ Ow w' B (.slice o n c) (l.filter fun y => !decide (y = x)) ∧ (Value.slice o n c).ownBlock = v.ownBlock) ∧ w.grownBy w' v.ownBlock := by
  have ho' : w.ownsRow B 29 1 v l.length (l.map nv) := ho
  obtain ⟨g, cap, rfl, hBg, hlt, hcap, hcm, hlen, hH⟩ := Lib.holds_of_ownsRow ho' hv
  have hne' : gx ≠ g := hne g rfl
  have hB := World.block_lt_of_cell? _ _ hgx
  have eg : ∀ args w, (callFunc 15 args).run Try.prog w = .ok (.enter 15 args) w := enters_of Try.func15 (by kernel_rfl) rfl
  have hcon := AnyE.slices_DeleteFunc (α := Nat) Try.lays10 nv (fun _ => rfl) (fun y => decide (y = x)) 15 #[.pointer (some ⟨gx, 0, none⟩)] eg 0 Try.zeroValue29 g 0 cap l.toArray w
    (fun W y hb => clo_any x y gx W ((hb.cell (p := ⟨gx, 0, none⟩) hB).trans hgx))
    (fun n os dk y _ => clo_any x y gx _ (by
      unfold sortWorld
      rw [Sort.cell?_grow _ _ _ (by show gx < (Sort.putRow _ _ _ _ _).heap.size; rw [Sort.size_putRow]; exact hB), Sort.cell?_putRow_other _ _ g 0 _ _ (Or.inl hne')]
      exact hgx)) hH (by simp; omega) (by simpa using hcap)
  rw [show Try.lays10_ren.f 10 = 13 from rfl] at hcon
  rw [show l.toArray.size = l.length by simp] at hcon
  refine hcon.mono ?_
  rintro e w' ⟨rfl, q, rfl⟩
  have hfl : (l.filter fun y => !decide (y = x)).length ≤ l.length := List.length_filter_le _ _
  refine ⟨⟨_, _, _, rfl, ?_, rfl⟩, ?_⟩
  · have h := Lib.ownsRow_putRow (enc := nv) (q := q) (k := (l.filter fun y => !decide (y = x)).length) (ys := (l.filter fun y => !decide (y = x)) ++ List.replicate (l.length - (l.filter fun y => !decide (y = x)).length) 0) ho' (by simp; omega) hfl
    rw [List.take_left] at h
    exact h
  · have hb : Below g w (Sort.putRow nv (Sort.ahead w q) g 0 ((l.filter fun y => !decide (y = x)) ++ List.replicate (l.length - (l.filter fun y => !decide (y = x)).length) 0).toArray) := Lib.below_putRow (Below.refl _ _) (Nat.le_refl _)
    refine ⟨hb.os, hb.tape, hb.output, hb.size, fun k hk hkn => ?_⟩
    have hkg : k ≠ g := fun e => hkn (by rw [e]; rfl)
    simp [Sort.putRow, Sort.mapBlock, Sort.ahead, Array.getElem?_modify, Ne.symm hkg]

set_option maxRecDepth 100000 in
set_option maxHeartbeats 4000000 in
theorem equal_any (l : List Nat) (v u : Value) (B C : Nat) (hl : l.length ≤ 1000000) (w : World) (hv : Sl B w v l) (hu : Sl C w u l) :
    Calls Try.prog 16 #[v, u] w fun e w' => e = .returned (.bool true) ∧ Below w.heap.size w w' := by
  have HV := Lib.hid (fun wz (h : Below w.heap.size w wz) => hv.later h)
  have HU := Lib.hid (fun wz (h : Below w.heap.size w wz) => hu.later h)
  obtain ⟨o1, c1, rfl⟩ := hv.form
  obtain ⟨o2, c2, rfl⟩ := hu.form
  have HL := Lib.hid hl
  clear hv hu hl
  obtain ⟨nl, hnl⟩ : ∃ nl, nl = l.length := ⟨_, rfl⟩
  rw [← hnl] at HV HU HL ⊢
  have hle := HL.out
  have HNL := Lib.hid hnl
  clear hnl
  go_enter Try.func16, Try.ntmps16
  go_wp2
  go_loopw [5, 13] (fun _ i wr => ∃ k : Nat, k ≤ nl ∧ i = .int .i64 k ∧ Hid (Below w.heap.size w wr)) (fun _ i _ => nl - (intOf i).toNat)
  case atStart => exact ⟨0, by omega, rfl, Lib.hid (Below.refl _ _)⟩
  case round =>
    obtain ⟨k, hk, rfl, HB⟩ := hrel
    by_cases hlt : k < nl
    · have hkl : k < l.length := by rw [← HNL.out]; exact hlt
      have hcs : ∃ (b1 f1 b2 f2 y : Nat), o1 = some ⟨b1, f1, none⟩ ∧ o2 = some ⟨b2, f2, none⟩ ∧ wr.cell? ⟨b1, f1 + k, none⟩ = some (.int .u64 (y : Int)) ∧ wr.cell? ⟨b2, f2 + k, none⟩ = some (.int .u64 (y : Int)) := by
        obtain ⟨q1, d1, b1, f1, e1, h1, g1⟩ := (HV.out wr HB.out).cells
        obtain ⟨q2, d2, b2, f2, e2, h2, g2⟩ := (HU.out wr HB.out).cells
        cases e1
        cases e2
        exact ⟨b1, f1, b2, f2, l[k], h1 (by omega), h2 (by omega), g1 k hkl, g2 k hkl⟩
      obtain ⟨b1, f1, b2, f2, y, rfl, rfl, k1, k2⟩ := hcs
      have HBd : Hid (∀ q, Hid (Below w.heap.size w (wr.drewN q))) := Lib.hid (fun q => Lib.hid ⟨HB.out.os, HB.out.tape, HB.out.output, HB.out.size, HB.out.block⟩)
      clear hkl
      go_wp2_with (fail)
      go_quiet (fail)
      go_wp2
      go_roundw
      case rel => exact ⟨k + 1, by omega, by go_num, HBd.out _⟩
      case measure => simp [intOf]; omega
    · go_wp2
      go_ret
      exact ⟨rfl, HB.out⟩
end Go.Proofs.Ytifacilidoaeoaa
