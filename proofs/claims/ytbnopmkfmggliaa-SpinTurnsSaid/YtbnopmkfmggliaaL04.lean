/- Walk of Next: a turn of any spin, with anybody down. -/
import Derived.Test.YtbnopmkfmggliaaL02
import Derived.Test.YtbnopmkfmggliaaL03
set_option linter.unusedVariables false
set_option linter.unusedSimpArgs false
namespace Go.Proofs.Ytbnopmkfmggliaa
open Go.RowKit
open Fl

/-- What the memory of a turn holds. -/
structure NxE (w0 wr : World) (g2 g3 g4 : Nat) (H u : Nat → Int) (n : Nat) (sl : Value) : Prop where
  S : NS wr g2 H u n
  D : wr.heap[g3]? = some (.cells #[sl] 22 (0, 0))
  Z : NS wr g4 (fun _ => 0) (fun _ => 0) 0
  B : Below w0.heap.size w0 wr
def NJ (w0 : World) (g2 g3 g4 : Nat) (v0 v1 : Value) (h u : Nat → Int) (n : Nat) (up : Nat → Bool) (a' : Act) (w' : World) : Prop := ∃ (t : Nat → Value) (k : Nat), a' = fr g2 g3 g4 v0 v1 (.complex .f64 (fb (tS up u k)) 0) (.int .i64 (k : Int)) (.int .i64 (cI (tC up h u k))) t ∧ k ≤ n ∧ Hid (NxE w0 w' g2 g3 g4 (tH up h u k) u n v1)
/-- The spin and the slice of a call: what is asked of them. -/
structure NxP (w : World) (h u : Nat → Int) (n : Nat) (l : List Int) (at0 : Option Addr) (b off : Nat) : Prop where
  hn : n ≤ 8
  hu : ∀ i, 0 ≤ u i ∧ u i ≤ 100
  hh : ∀ i, -1000000000 ≤ h i ∧ h i ≤ 1000000000
  hl : l.length ≤ 1000000000
  ha : 0 < l.length → at0 = some ⟨b, off, none⟩ ∧ b < w.heap.size
  hc : DIn w b off l
def NxR (w0 : World) (h u : Nat → Int) (n : Nat) (up : Nat → Bool) (e : Ending) (w' : World) : Prop := e = .returned (.tuple #[spV (nH up h u n) u n, .int .i64 (cN (tC up h u n)), .bool (tC up h u n).isSome]) ∧ Below w0.heap.size w0 w'
theorem small (a : Int) (h : -2000000000 ≤ a ∧ a ≤ 2000000000) : In a := by unfold In; omega
theorem mu9 (g2 g3 g4 : Nat) (v0 v1 s8 s10 : Value) (t : Nat → Value) (n k : Nat) (hk : k < n) : n - (intOf ((fr g2 g3 g4 v0 v1 s8 (.int .i64 ((k : Int) + 1)) s10 t).tmps.getD 9 undef)).toNat < n - k := by
  show n - (intOf (.int .i64 ((k : Int) + 1))).toNat < n - k
  simp [intOf]; omega
theorem NxE.drewN {w0 wr : World} {g2 g3 g4 : Nat} {H u : Nat → Int} {n : Nat} {sl : Value} (h : NxE w0 wr g2 g3 g4 H u n sl) (m : Nat) : NxE w0 (wr.drewN m) g2 g3 g4 H u n sl :=
  ⟨h.S, h.D, h.Z, ⟨h.B.os, h.B.tape, h.B.output, h.B.size, h.B.block⟩⟩

theorem pass_n {w0 wr : World} {g2 g3 g4 : Nat} {v0 : Value} {h u : Nat → Int} {n : Nat} {l : List Int} {at0 : Option Addr} {cap b off : Nat} (HP : NxP w0 h u n l at0 b off) (hg2 : w0.heap.size ≤ g2) (hg4 : w0.heap.size ≤ g4) (h23 : g2 ≠ g3) (h24 : g2 ≠ g4)
    (k : Nat) (hk : k ≤ n) (t : Nat → Value) (E : NxE w0 wr g2 g3 g4 (tH (upL l) h u k) u n (.slice at0 l.length cap)) :
    Code.wp Try.prog labT (Exit.jump 0 (fun a' w' => NJ w0 g2 g3 g4 v0 (.slice at0 l.length cap) h u n (upL l) a' w' ∧ n - (intOf (a'.tmps.getD 9 undef)).toNat < n - k) (bodyPost Try.prog Try.f12 (NxR w0 h u n (upL l))))
      (fr g2 g3 g4 v0 (.slice at0 l.length cap) (.complex .f64 (fb (tS (upL l) u k)) 0) (.int .i64 (k : Int)) (.int .i64 (cI (tC (upL l) h u k))) t) wr := by
  obtain ⟨_, c8⟩ := E.S.cells
  have K20 := clo_any l k at0 cap b off g3 HP.hl wr (fun hp => (HP.ha hp).1) (HP.hc.later E.B (fun hp => (HP.ha hp).2)) (cell_one E.D)
  obtain ⟨up, hup⟩ : ∃ up, up = upL l := ⟨_, rfl⟩
  rw [← hup] at K20 E ⊢
  have hSk := tS_bound (up := up) (u := u) (n := n) (fun i _ => HP.hu i) k hk
  have hn := HP.hn
  by_cases hlt : k < n
  · have hu := HP.hu k
    have hh := HP.hh k
    have ck := E.S.at k (by omega)
    rw [tH_at] at ck
    cases hd : up k with
    | false =>
      rw [hd] at K20
      refine way_down hlt hn c8 (Lib.hid K20) (fun a' ha => ⟨⟨fun i => a'.tmps.getD i undef, k + 1, ?_, by omega, Lib.hid (by rw [tH_down hd]; exact E)⟩, ?_⟩)
      · rw [show tS up u (k + 1) = tS up u k by rw [tS, if_neg (by rw [hd]; decide)], show tC up h u (k + 1) = tC up h u k by rw [tC, if_neg (by rw [hd]; decide)], Int.natCast_add]
        exact ha
      · rw [ha]; exact mu9 _ _ _ _ _ _ _ _ _ _ hlt
    | true =>
      rw [hd] at K20
      have KA : Hid (∀ w, Calls Try.prog 22 #[.complex .f64 (fb (tS up u k)) 0, .complex .f64 (fb (u k)) 0] w fun e w' => e = .returned (.complex .f64 (fb (tS up u k + u k)) 0) ∧ w = w') := Lib.hid (fun w => add_in (tS up u k) 0 (u k) 0 (small _ (by omega)) (small _ (by omega)) (small _ (by omega)) (small _ (by omega)) (small _ (by omega)) (small _ (by omega)) w)
      have KB : Hid (∀ w, Calls Try.prog 22 #[.complex .f64 (fb (h k)) (fb (u k)), .complex .f64 (fb (u k)) 0] w fun e w' => e = .returned (.complex .f64 (fb (h k + u k)) (fb (u k))) ∧ w = w') := Lib.hid (fun w => by
        have := add_in (h k) (u k) (u k) 0 (small _ (by omega)) (small _ (by omega)) (small _ (by omega)) (small _ (by omega)) (small _ (by omega)) (small _ (by omega)) w
        rw [Int.add_zero (u k)] at this
        exact this)
      have E2 : NxE w0 (wr.setCell ⟨g2, k, none⟩ (.complex .f64 (fb (h k + u k)) (fb (u k)))) g2 g3 g4 (tH up h u (k + 1)) u n (.slice at0 l.length cap) := by
        have hs := E.S.set k (by omega) (h k + u k) (u k)
        rw [upd_self, tH_up hd] at hs
        exact ⟨hs, (heap_setCell_other _ _ g3 _ h23.symm).trans E.D, E.Z.other h24.symm _ _, E.B.setCell hg2 _⟩
      have eS : tS up u (k + 1) = tS up u k + u k := by rw [tS, if_pos hd]
      have fk := E.S.free k
      cases hc : tC up h u k with
      | none =>
        have eC : tC up h u (k + 1) = some k := by rw [tC, if_pos hd, hc]
        refine way_none hlt hn c8 ck fk (Lib.hid K20) KA KB (fun a' ha m => ⟨⟨fun i => a'.tmps.getD i undef, k + 1, ?_, by omega, Lib.hid (E2.drewN m)⟩, ?_⟩)
        · rw [eS, eC, Int.natCast_add]; exact ha
        · rw [ha]; exact mu9 _ _ _ _ _ _ _ _ _ _ hlt
      | some j =>
        have hj := tC_lt hc
        have huj := HP.hu j
        have hhj := HP.hh j
        have ck2 := E2.S.at k (by omega)
        have e1 : tH up h u (k + 1) k = h k + u k := by unfold tH; rw [if_pos ⟨by omega, hd⟩]
        rw [e1] at ck2
        have cj2 := E2.S.at j (by omega)
        rw [tH_chosen hc (k + 1) (by omega)] at cj2
        have hor := order_lits (h k + u k) (h j + u j) (small _ (by omega)).small3 (small _ (by omega)).small3
        by_cases hl : h j + u j < h k + u k
        · have eC : tC up h u (k + 1) = some k := by rw [tC, if_pos hd, hc]; simp only; rw [if_pos hl]
          rw [cmp_gt hl] at hor
          refine way_gt hlt hn c8 ck fk (Lib.hid K20) KA KB (by omega) ck2 cj2 hor (fun a' ha m => ⟨⟨fun i => a'.tmps.getD i undef, k + 1, ?_, by omega, Lib.hid (E2.drewN m)⟩, ?_⟩)
          · rw [eS, eC, Int.natCast_add]; exact ha
          · rw [ha]; exact mu9 _ _ _ _ _ _ _ _ _ _ hlt
        · have eC : tC up h u (k + 1) = some j := by rw [tC, if_pos hd, hc]; simp only; rw [if_neg hl]
          by_cases he : h k + u k < h j + u j
          · rw [cmp_lt he] at hor
            refine way_lt hlt hn c8 ck fk (Lib.hid K20) KA KB (by omega) ck2 cj2 hor (fun a' ha m => ⟨⟨fun i => a'.tmps.getD i undef, k + 1, ?_, by omega, Lib.hid (E2.drewN m)⟩, ?_⟩)
            · rw [eS, eC, Int.natCast_add]; exact ha
            · rw [ha]; exact mu9 _ _ _ _ _ _ _ _ _ _ hlt
          · rw [show h k + u k = h j + u j by omega, cmp_eq, ← show h k + u k = h j + u j by omega] at hor
            refine way_eq hlt hn c8 ck fk (Lib.hid K20) KA KB (by omega) ck2 cj2 ?_ (fun a' ha m => ⟨⟨fun i => a'.tmps.getD i undef, k + 1, ?_, by omega, Lib.hid (E2.drewN m)⟩, ?_⟩)
            · rw [show h k + u k = h j + u j by omega, order_lits _ _ (small _ (by omega)).small3 (small _ (by omega)).small3, cmp_eq]
            · rw [eS, eC, Int.natCast_add]; exact ha
            · rw [ha]; exact mu9 _ _ _ _ _ _ _ _ _ _ hlt
  · obtain rfl : k = n := by omega
    cases hc : tC up h u k with
    | none =>
      have hR : NxR w0 h u k up = fun e w' => e = .returned (.tuple #[spV (tH up h u k) u k, .int .i64 0, .bool false]) ∧ Below w0.heap.size w0 w' := by
        unfold NxR nH cN
        rw [hc, tH_none hc]
        rfl
      rw [hR]
      exact end_none hn (Lib.hid E.S) (Lib.hid E.Z) (Lib.hid E.B) (Lib.hid hg4)
    | some j =>
      have hj := tC_lt hc
      have huj := HP.hu j
      have hhj := HP.hh j
      have eH := tH_chosen hc k (Nat.le_refl _)
      have hR : NxR w0 h u k up = fun e w' => e = .returned (.tuple #[spV (upd (tH up h u k) j (h j + u j - tS up u k)) u k, .int .i64 (j : Int), .bool true]) ∧ Below w0.heap.size w0 w' := by
        unfold NxR nH cN
        rw [hc]
        rfl
      rw [hR]
      refine end_some hn (by omega) (Lib.hid E.S) (Lib.hid E.Z) (Lib.hid E.B) (Lib.hid ⟨hg4, h24⟩) (Lib.hid hg2) (Lib.hid (fun w => half_any _ (small _ (by omega)) w)) (Lib.hid (fun w => ?_))
      have := add_in (h j + u j) (u j) (-tS up u k) 0 (small _ (by omega)) (small _ (by omega)) (small _ (by omega)) (small _ (by omega)) (small _ (by omega)) (small _ (by omega)) w
      rw [Int.add_zero, ← Int.sub_eq_add_neg] at this
      rw [eH]
      exact this

theorem jump_mono {l : Nat} {J J' : Act → World → Prop} {Q : Exit → Act → World → Prop} (hj : ∀ a w, J a w → J' a w) : ∀ e a w, Exit.jump l J Q e a w → Exit.jump l J' Q e a w := by
  intro e a w h
  cases e with
  | goto l' => exact ⟨h.1, hj _ _ h.2⟩
  | normal => exact h
  | exit id => exact h
  | ret => exact h
  | panic c => exact h
  | outgrown => exact h
set_option maxRecDepth 1000000 in
set_option maxHeartbeats 4000000 in
theorem next_any (h u : Nat → Int) (n : Nat) (l : List Int) (at0 : Option Addr) (cap b off : Nat) (w : World) (HP : NxP w h u n l at0 b off) :
    Calls Try.prog 12 #[spV h u n, .slice at0 l.length cap] w (NxR w h u n (upL l)) := by
  have HPASS := Lib.hid (fun (g2 g3 g4 : Nat) (v0 : Value) (wr : World) (hg2 : w.heap.size ≤ g2) (hg4 : w.heap.size ≤ g4) (h23 : g2 ≠ g3) (h24 : g2 ≠ g4) => pass_n (v0 := v0) (wr := wr) (cap := cap) HP hg2 hg4 h23 h24)
  have hmf : ∀ (fn : Fn) (first cap : Array Value) (w : World), (Instr.makeFunc fn first cap).run Try.prog w = .ok (.func fn first cap) w := fun _ _ _ _ => rfl
  generalize NxR w h u n (upL l) = R at *
  have HE : Hid (NxE w (((w.alloc (.cells #[.complex .f64 (fb (h 0)) (fb (u 0)), .complex .f64 (fb (h 1)) (fb (u 1)), .complex .f64 (fb (h 2)) (fb (u 2)), .complex .f64 (fb (h 3)) (fb (u 3)), .complex .f64 (fb (h 4)) (fb (u 4)), .complex .f64 (fb (h 5)) (fb (u 5)), .complex .f64 (fb (h 6)) (fb (u 6)), .complex .f64 (fb (h 7)) (fb (u 7)), .int .i64 (n : Int)] 28)).alloc (.cells #[.slice at0 l.length cap] 22)).alloc (.cells #[.complex .f64 0 0, .complex .f64 0 0, .complex .f64 0 0, .complex .f64 0 0, .complex .f64 0 0, .complex .f64 0 0, .complex .f64 0 0, .complex .f64 0 0, .int .i64 0] 28)) w.heap.size (w.heap.size + 1) (w.heap.size + 2) (tH (upL l) h u 0) u n (.slice at0 l.length cap)) := Lib.hid (by
    rw [tH_zero]
    have a1 := alloc_below w (.cells (spc h u n) 28)
    have a2 := alloc_below (w.alloc (.cells (spc h u n) 28)) (.cells #[.slice at0 l.length cap] 22)
    have a3 := alloc_below ((w.alloc (.cells (spc h u n) 28)).alloc (.cells #[.slice at0 l.length cap] 22)) (.cells (spc (fun _ => 0) (fun _ => 0) 0) 28)
    have s1 : (w.alloc (.cells (spc h u n) 28)).heap.size = w.heap.size + 1 := by simp
    have s2 : ((w.alloc (.cells (spc h u n) 28)).alloc (.cells #[.slice at0 l.length cap] 22)).heap.size = w.heap.size + 2 := by simp
    have n1 := ((NS.new w h u n).later a2).later a3
    have n2 := heap_alloc_new (w.alloc (.cells (spc h u n) 28)) (.cells #[.slice at0 l.length cap] 22)
    have n3 := NS.new ((w.alloc (.cells (spc h u n) 28)).alloc (.cells #[.slice at0 l.length cap] 22)) (fun _ => 0) (fun _ => 0) 0
    have n2' := (a3.block _ (lt_of_heap n2)).trans n2
    rw [s1] at n2'
    rw [s2] at n3
    exact ⟨n1, n2', n3, a1.trans ((a2.mono a1.size).trans (a3.mono (a2.mono a1.size).size |>.mono (by simp)))⟩)
  clear HP
  unfold spV spc cplx
  go_enter Try.func12, Try.ntmps12
  go_wp2
  refine wp_scope_jumps 0 (NJ w w.heap.size (w.heap.size + 1) (w.heap.size + 2) (.agg #[.complex .f64 (fb (h 0)) (fb (u 0)), .complex .f64 (fb (h 1)) (fb (u 1)), .complex .f64 (fb (h 2)) (fb (u 2)), .complex .f64 (fb (h 3)) (fb (u 3)), .complex .f64 (fb (h 4)) (fb (u 4)), .complex .f64 (fb (h 5)) (fb (u 5)), .complex .f64 (fb (h 6)) (fb (u 6)), .complex .f64 (fb (h 7)) (fb (u 7)), .int .i64 (n : Int)]) (.slice at0 l.length cap) h u n (upL l)) (fun a' _ => n - (intOf (a'.tmps.getD 9 undef)).toNat) rfl ?_ ?_
  · have HN : Hid (∀ (a' : Act), a' = fr w.heap.size (w.heap.size + 1) (w.heap.size + 2) (.agg #[.complex .f64 (fb (h 0)) (fb (u 0)), .complex .f64 (fb (h 1)) (fb (u 1)), .complex .f64 (fb (h 2)) (fb (u 2)), .complex .f64 (fb (h 3)) (fb (u 3)), .complex .f64 (fb (h 4)) (fb (u 4)), .complex .f64 (fb (h 5)) (fb (u 5)), .complex .f64 (fb (h 6)) (fb (u 6)), .complex .f64 (fb (h 7)) (fb (u 7)), .int .i64 (n : Int)]) (.slice at0 l.length cap) (.complex .f64 0 0) (.int .i64 0) (.int .i64 (-1)) (fun i => a'.tmps.getD i undef) → Code.wp Try.prog labT (Exit.jump 0 (NJ w w.heap.size (w.heap.size + 1) (w.heap.size + 2) (.agg #[.complex .f64 (fb (h 0)) (fb (u 0)), .complex .f64 (fb (h 1)) (fb (u 1)), .complex .f64 (fb (h 2)) (fb (u 2)), .complex .f64 (fb (h 3)) (fb (u 3)), .complex .f64 (fb (h 4)) (fb (u 4)), .complex .f64 (fb (h 5)) (fb (u 5)), .complex .f64 (fb (h 6)) (fb (u 6)), .complex .f64 (fb (h 7)) (fb (u 7)), .int .i64 (n : Int)]) (.slice at0 l.length cap) h u n (upL l)) (bodyPost Try.prog Try.f12 R)) a' (((w.alloc (.cells #[.complex .f64 (fb (h 0)) (fb (u 0)), .complex .f64 (fb (h 1)) (fb (u 1)), .complex .f64 (fb (h 2)) (fb (u 2)), .complex .f64 (fb (h 3)) (fb (u 3)), .complex .f64 (fb (h 4)) (fb (u 4)), .complex .f64 (fb (h 5)) (fb (u 5)), .complex .f64 (fb (h 6)) (fb (u 6)), .complex .f64 (fb (h 7)) (fb (u 7)), .int .i64 (n : Int)] 28)).alloc (.cells #[.slice at0 l.length cap] 22)).alloc (.cells #[.complex .f64 0 0, .complex .f64 0 0, .complex .f64 0 0, .complex .f64 0 0, .complex .f64 0 0, .complex .f64 0 0, .complex .f64 0 0, .complex .f64 0 0, .int .i64 0] 28))) := Lib.hid (by
      intro a' ha
      rw [ha]
      exact Code.wp_mono (jump_mono (fun _ _ h => h.1)) (HPASS.out w.heap.size (w.heap.size + 1) (w.heap.size + 2) _ _ (by omega) (by omega) (by omega) (by omega) 0 (by omega) _ HE.out))
    clear HPASS HE
    go_wp2
    go_step3
    simp only [Exit.then]
    apply_assumption
    refine HN.out _ ?_
    rfl
  · rintro a' w' ⟨t, k, rfl, hk, hE⟩
    refine wp_seq (wp_skip ?_)
    refine Code.wp_mono (jump_mono (fun a w h => ⟨h.1, ?_⟩)) (HPASS.out w.heap.size (w.heap.size + 1) (w.heap.size + 2) _ _ (by omega) (by omega) (by omega) (by omega) k hk t hE.out)
    refine Nat.lt_of_lt_of_eq h.2 ?_
    show n - k = n - (intOf (.int .i64 (k : Int))).toNat
    simp [intOf]
end Go.Proofs.Ytbnopmkfmggliaa
