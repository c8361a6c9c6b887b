/- Slicing; with, without.; without, Send, Double, Lose, Deliver.; Double, Lose, Deliver where there is one; All. -/
import Derived.Test.YtcoadbagjlcagaaJ00
set_option linter.unusedVariables false
set_option linter.unusedSimpArgs false
namespace Go.Proofs.Ytcoadbagjlcagaa
open Go.RowKit

theorem hU24 : Try.prog.underlying 24 = some (.slice (Try.prog.elem 24)) := by kernel_rfl
theorem hZ24 : ∀ W, (sizeOf (Try.prog.elem 24)).run Try.prog W = .ok 2 W := fun W => by rw [show Try.prog.elem 24 = 33 by kernel_rfl]; go_simp
theorem sl_head {w : World} {v : Value} {l : List It} (hs : Sl w v l) (i : Nat) (hi : i ≤ l.length) :
    ∃ o c, (∀ W, (Instr.sliceAt 24 v none (some (.int .i64 (i : Int))) none).run Try.prog W = .ok (.slice o i c) W) ∧ ∀ wz, Below w.heap.size w wz → Sl wz (.slice o i c) (l.take i) := by
  have hu := hU24
  have hz := hZ24
  rcases hs with ⟨rfl, rfl⟩ | ⟨b, off, cap, rfl, h2, h3, h4, h5⟩
  · have h0 : i = 0 := by simpa using hi
    subst h0
    refine ⟨none, 0, fun W => ?_, fun wz _ => Or.inl ⟨rfl, rfl⟩⟩
    rw [run_sliceAt_slice (w := W) 24 _ _ _ _ hu, run_slice_h (w := W) 24 _ _ _ hu .i64 _ (by omega) (by omega), hz]
    simp [Result.andThen, sliced]
  · have ht : (l.take i).length = i := by rw [List.length_take]; omega
    refine ⟨some ⟨b, off, none⟩, cap, fun W => ?_, fun wz hb => Or.inr ⟨b, off, cap, by rw [ht], by omega, h3, Nat.lt_of_lt_of_le h4 hb.size, fun j u hj => ?_⟩⟩
    · rw [run_sliceAt_slice (w := W) 24 _ _ _ _ hu, run_slice_h (w := W) 24 _ _ _ hu .i64 _ (by omega) (by omega), hz]
      simp [Result.andThen, sliced, Addr.add]
    · refine rng_later h5 hb j u ?_
      have := (List.getElem?_eq_some_iff.1 hj).1
      rw [ic_len, ht] at this
      rw [ic_take] at hj
      rwa [List.getElem?_take_of_lt this] at hj
theorem sl_tail {w : World} {v : Value} {l : List It} (hs : Sl w v l) (i : Nat) (hi : i ≤ l.length) :
    ∃ o n c, (∀ W, (Instr.sliceAt 24 v (some (.int .i64 (i : Int))) none none).run Try.prog W = .ok (.slice o n c) W) ∧ ∀ wz, Below w.heap.size w wz → Sl wz (.slice o n c) (l.drop i) := by
  have hu := hU24
  have hz := hZ24
  rcases hs with ⟨rfl, rfl⟩ | ⟨b, off, cap, rfl, h2, h3, h4, h5⟩
  · have h0 : i = 0 := by simpa using hi
    subst h0
    refine ⟨none, 0, 0, fun W => ?_, fun wz _ => Or.inl ⟨rfl, rfl⟩⟩
    rw [run_sliceAt_slice (w := W) 24 _ _ _ _ hu, run_slice_l (w := W) 24 _ _ _ hu .i64 _ (by omega) (by omega), hz]
    simp [Result.andThen, sliced]
  · have ht : (l.drop i).length = l.length - i := by rw [List.length_drop]
    refine ⟨if cap = i then some ⟨b, off, none⟩ else some ⟨b, off + i * 2, none⟩, l.length - i, cap - i, fun W => ?_, fun wz hb => ?_⟩
    · rw [run_sliceAt_slice (w := W) 24 _ _ _ _ hu, run_slice_l (w := W) 24 _ _ _ hu .i64 _ (by omega) (by omega), hz]
      simp [Result.andThen, sliced, Addr.add_mid]
    · by_cases hc : cap = i
      · rw [if_pos hc]
        have h0 : l.drop i = [] := List.eq_nil_of_length_eq_zero (by omega)
        exact Or.inr ⟨b, off, cap - i, by rw [ht], by omega, by omega, Nat.lt_of_lt_of_le h4 hb.size, by rw [h0]; intro j u hj; cases hj⟩
      · rw [if_neg hc]
        refine Or.inr ⟨b, off + i * 2, cap - i, by rw [ht], by omega, by omega, Nat.lt_of_lt_of_le h4 hb.size, fun j u hj => ?_⟩
        rw [Nat.add_assoc]
        refine rng_later h5 hb (i * 2 + j) u ?_
        rw [ic_drop, List.getElem?_drop] at hj
        exact hj
/-- l[:len:len]. -/
theorem sl_cut {w : World} {o : Option Addr} {n c : Nat} {l : List It} (hs : Sl w (.slice o n c) l) :
    (∀ W, (Instr.sliceAt 24 (.slice o n c) none (some (.int .i64 (n : Int))) (some (.int .i64 (n : Int)))).run Try.prog W = .ok (.slice o n n) W) ∧ Sl w (.slice o n n) l := by
  have hu := hU24
  have hz := hZ24
  rcases hs with ⟨h, rfl⟩ | ⟨b, off, cap, h, h2, h3, h4, h5⟩
  · cases h
    refine ⟨fun W => ?_, Or.inl ⟨rfl, rfl⟩⟩
    rw [run_sliceAt_slice (w := W) 24 _ _ _ _ hu, run_slice_hm (w := W) 24 _ _ _ hu .i64 .i64 _ _ (by omega) (by omega) (by omega), hz]
    simp [Result.andThen, sliced]
  · cases h
    refine ⟨fun W => ?_, Or.inr ⟨b, off, l.length, rfl, Nat.le_refl _, by omega, h4, h5⟩⟩
    rw [run_sliceAt_slice (w := W) 24 _ _ _ _ hu, run_slice_hm (w := W) 24 _ _ _ hu .i64 .i64 _ _ (by omega) (by omega) (by omega), hz]
    simp [Result.andThen, sliced, Addr.add]

theorem wp_append_at {o : Oper} {a : Act} {W W' : World} {K : Act → World → Prop} {Q : Exit → Act → World → Prop} (s x : Operand) {v u v' : Value} {t : TypeId} (ho : o.op = .call { callee := .builtin .append, args := #[s, x], argTypes := #[t, t] }) (hs : a.eval s = v) (hx : a.eval x = u)
    (hr : (Builtin.append_ #[t, t] o.type #[v, u]).run Try.prog W = .ok v' W') (h : K (a.put o.dst v') W') : o.wp Try.prog a W K Q := by
  unfold Oper.wp execOp
  simp only [ho, resolve, invoke, builtin, Sem.run_bind, Sem.run_pure, Result.andThen_ok, List.map_toArray, List.map_cons, List.map_nil, hs, hx, hr]
  exact h
/-- append where there is no room. -/
theorem run_append_full (W : World) (oo : Option Addr) (n : Nat) (u : Value) (L : List It) (y : It) (hown : Sl W (.slice oo n n) L) (hu : Sl W u [y]) (hk : L.length ≤ 3000000) :
    ∃ o' n' c' w', (Builtin.append_ #[24, 24] 24 #[.slice oo n n, u]).run Try.prog W = .ok (.slice o' n' c') w' ∧ Sl w' (.slice o' n' c') (L ++ [y]) ∧ Fr W.heap.size (.slice o' n' c') ∧ Below W.heap.size W w' := by
  obtain ⟨i0, hi, hz0, hz1, hz2⟩ := info_parts info33
  rcases hu with ⟨_, h0⟩ | ⟨b, off, cap, rfl, _, _, _, hr⟩
  · cases h0
  · have hlen : n = L.length := by
      rcases hown with ⟨hz, rfl⟩ | ⟨_, _, _, hz, _⟩
      · cases hz; rfl
      · cases hz; rfl
    subst hlen
    have fin : ∀ v' w', w'.ownsRow W.heap.size 33 2 v' (L.length + 1) (ic L ++ ic [y]) → W.grownBy w' none → ∃ o' n' c', v' = .slice o' n' c' ∧ Sl w' (.slice o' n' c') (L ++ [y]) ∧ Fr W.heap.size (.slice o' n' c') ∧ Below W.heap.size W w' := by
      intro v' w' h1 h2
      have h1' : Ow 33 w' W.heap.size v' (L ++ [y]) := by
        unfold Ow
        rw [List.length_append, ic_append]
        exact h1
      have hs' := h1'.sl
      have hf' := h1'.fr
      obtain ⟨o', c', rfl⟩ := hs'.form
      exact ⟨_, _, _, rfl, hs', hf', (Below.refl _ W).grown h2 (Nat.le_refl _) (fun g hg => by cases hg)⟩
    have hnews : ∀ j u, (ic [y])[j]? = some u → W.cell? ((⟨b, off, none⟩ : Addr).add j) = some u := fun j u hj => by
      rw [Addr.add_mid]; exact hr j u hj
    rcases hown with ⟨hz, rfl⟩ | ⟨b', off', cap', hz, _, _, _, h5⟩
    · cases hz
      obtain ⟨v', w', hrun, r1, r2, _⟩ := run_append_own (P := Try.prog) W W.heap.size 24 24 33 i0 (.agg #[.int .u64 0, .string ⟨#[]⟩]) 2 24 Try.underlying24 hi hz0 hz1 hz2 rfl (by decide) (.slice none 0 0) 0 [] (World.ownsRow_nil W _ 33 2) ⟨b, off, none⟩ 1 cap (ic [y]) (ic_len [y]) hnews (ic_one [y]) (by unfold maxLen; omega) (by omega) (Nat.le_refl _)
      obtain ⟨o', n', c', rfl, h⟩ := fin v' w' r1 r2
      exact ⟨o', n', c', w', hrun, h⟩
    · cases hz
      obtain ⟨v', w', hrun, r1, r2⟩ := run_append_arg_grows (P := Try.prog) W 24 24 33 i0 (.agg #[.int .u64 0, .string ⟨#[]⟩]) 2 24 Try.underlying24 hi hz0 hz1 hz2 rfl (by decide) ⟨b', off', none⟩ L.length L.length (ic L) (ic_len L) (fun j u hj => by rw [Addr.add_mid]; exact h5 j u hj) ⟨b, off, none⟩ 1 cap (ic [y]) (ic_len [y]) hnews (by omega) (by unfold maxLen; omega) (by omega)
      obtain ⟨o', n', c', rfl, h⟩ := fin v' w' r1 r2
      exact ⟨o', n', c', w', hrun, h⟩

/-- With one more. -/
def sendL (L : List It) (x : It) : List It := L.drop (L.length - 63) ++ [x]

set_option maxRecDepth 100000 in
set_option maxHeartbeats 4000000 in
theorem with_any (l : List It) (x : It) (v : Value) (hl : l.length ≤ 1000000) (w : World) (hs : Sl w v l) :
    Calls Try.prog 22 #[.agg #[v], iv x] w fun e w' => (∃ o n c, e = .returned (.agg #[.slice o n c]) ∧ Sl w' (.slice o n c) (sendL l x) ∧ Fr w.heap.size (.slice o n c)) ∧ Below w.heap.size w w' := by
  have HB0 := Lib.hid (show Below w.heap.size w (((w.alloc (.cells #[v] 26)).alloc (.cells #[.int .u64 (x.t : Int), .string x.s] 33)).alloc (.cells #[.slice none 0 0] 26)) from bt (bt (alloc_below _ _)))
  have HP0 := Lib.hid (((B1.new 26 w v).later (alloc_below _ (.cells #[.int .u64 (x.t : Int), .string x.s] 33))).later (alloc_below _ (.cells #[.slice none 0 0] 26)))
  have HX0 := Lib.hid ((Bx.new 33 (w.alloc (.cells #[v] 26)) (.int .u64 (x.t : Int)) (.string x.s)).later (alloc_below _ (.cells #[.slice none 0 0] 26)))
  have HY0 := Lib.hid (B1.new 26 ((w.alloc (.cells #[v] 26)).alloc (.cells #[.int .u64 (x.t : Int), .string x.s] 33)) (.slice none 0 0))
  rw [show (w.alloc (.cells #[v] 26)).heap.size = w.heap.size + 1 by simp] at HX0
  rw [show ((w.alloc (.cells #[v] 26)).alloc (.cells #[.int .u64 (x.t : Int), .string x.s] 33)).heap.size = w.heap.size + 1 + 1 by simp] at HY0
  obtain ⟨o2, n2, c2, hrun, hT⟩ := sl_tail hs (l.length - 63) (by omega)
  have HT := Lib.hid (hT _ HB0.out)
  obtain ⟨k, hk⟩ : ∃ k, k = l.length - 63 := ⟨_, rfl⟩
  rw [← hk] at hrun HT
  obtain ⟨hcut, hC⟩ := sl_cut HT.out
  have HC := Lib.hid hC
  have hkk : max (0 : Int) ((l.length : Int) - 64 + 1) = (k : Int) := by omega
  have hlen : ((l.drop k).length : Nat) ≤ 3000000 := by simp; omega
  have HL := Lib.hid hlen
  have HS : Hid (l.drop k ++ [x] = sendL l x) := Lib.hid (by rw [hk]; rfl)
  obtain ⟨o, c, rfl⟩ := hs.form
  have HLE := Lib.hid hl
  generalize hn : l.length = n at *
  have e1 : IntKind.i64.wrap ((n : Int) - 64) = (n : Int) - 64 := IntWalk.i64_in _ ⟨by omega, by omega⟩
  have e2 : IntKind.i64.wrap ((n : Int) - 64 + 1) = (n : Int) - 64 + 1 := IntWalk.i64_in _ ⟨by omega, by omega⟩
  generalize l.drop k = M at *
  clear hs hT hC hlen hk hl hn
  unfold iv
  obtain ⟨w2, hw2⟩ : ∃ w2, w2 = (((w.alloc (.cells #[.slice o n c] 26)).alloc (.cells #[.int .u64 (x.t : Int), .string x.s] 33)).alloc (.cells #[.slice none 0 0] 26)) := ⟨_, rfl⟩
  rw [← hw2] at HB0 HP0 HX0 HY0 HT HC
  go_enter Try.func22, Try.ntmps22
  go_upto_region 2 with (fail)
  rw [← hw2]
  clear hw2
  have HB0' := Lib.hid (show Below w.heap.size w w2.drew from HB0.out.drew)
  have HX0' := Lib.hid (HX0.out.drewn)
  have HY0' := Lib.hid (HY0.out.drewn)
  have HC0' := Lib.hid (show Sl w2.drew (.slice o2 n2 n2) M from HC.out)
  clear HB0 HX0 HY0 HC
  have HB0 := HB0'
  have HX0 := HX0'
  have HY0 := HY0'
  have HC0 := HC0'
  clear HB0' HX0' HY0' HC0'
  have mkS : Hid (∀ wz, Bx 33 wz (w.heap.size + 1) (.int .u64 (x.t : Int)) (.string x.s) → wz.cell? ⟨w.heap.size + 1, 0, none⟩ = some (.int .u64 (x.t : Int)) ∧ wz.cell? ⟨w.heap.size + 1, 1, none⟩ = some (.string x.s) ∧ Hid True) := Lib.hid (fun wz h => ⟨h.cells.1, h.cells.2.1, Lib.hid True.intro⟩)
  refine wp_region_held_drew (S := fun wz => wz.cell? ⟨w.heap.size + 1, 0, none⟩ = some (.int .u64 (x.t : Int)) ∧ wz.cell? ⟨w.heap.size + 1, 1, none⟩ = some (.string x.s) ∧ Hid True) (by kernel_rfl) (mkS.out _ HX0.out) (fun hHeld => ?_)
  generalize w2.drew = wc0 at *
  refine wpAnyH_take (i := 0) (oi := ⟨some 15, _, _, _, _, _⟩) (v := ?_) rfl (by kernel_rfl) (by kernel_rfl) (by kernel_rfl) (fun _ _ _ h => h) (Or.inl ⟨by rfl, by (intro w hSw; (try dsimp only at hSw); go_simp; try with_reducible rfl)⟩) hHeld ?_
  try simp only [Act.put, List.setIfInBounds_toArray, List.set_cons_zero, List.set_cons_succ]
  refine wpAnyH_take (i := 1) (oi := ⟨some 16, _, _, _, _, _⟩) (v := ?_) rfl (by kernel_rfl) (by kernel_rfl) (by kernel_rfl) (fun _ _ _ h => h) (Or.inl ⟨by rfl, by (intro w hSw; (try dsimp only at hSw); go_simp; try with_reducible rfl)⟩) hHeld ?_
  try simp only [Act.put, List.setIfInBounds_toArray, List.set_cons_zero, List.set_cons_succ]
  refine wpAnyH_take (i := 2) (oi := ⟨some 17, _, _, _, _, _⟩) (v := ?_) rfl (by kernel_rfl) (by kernel_rfl) (by kernel_rfl) (fun _ _ _ h => h) (Or.inl ⟨by rfl, by (intro w hSw; (try dsimp only at hSw); go_simp; try with_reducible rfl)⟩) hHeld ?_
  try simp only [Act.put, List.setIfInBounds_toArray, List.set_cons_zero, List.set_cons_succ]
  refine wpAnyH_take (i := 3) (oi := ⟨some 18, _, _, _, _, _⟩) (v := ?_) rfl (by kernel_rfl) (by kernel_rfl) (by kernel_rfl) (fun _ _ _ h => h) (Or.inl ⟨by rfl, by (intro w hSw; (try dsimp only at hSw); go_simp; try with_reducible rfl)⟩) hHeld ?_
  try simp only [Act.put, List.setIfInBounds_toArray, List.set_cons_zero, List.set_cons_succ]
  refine wpAnyH_take (i := 4) (oi := ⟨some 19, _, _, _, _, _⟩) (v := ?_) rfl (by kernel_rfl) (by kernel_rfl) (by kernel_rfl) (fun _ _ _ h => h) (Or.inl ⟨by rfl, by (intro w hSw; (try dsimp only at hSw); go_simp; try with_reducible rfl)⟩) hHeld ?_
  try simp only [Act.put, List.setIfInBounds_toArray, List.set_cons_zero, List.set_cons_succ]
  refine wpAnyH_take (i := 5) (oi := ⟨some 20, _, _, _, _, _⟩) (v := ?_) rfl (by kernel_rfl) (by kernel_rfl) (by kernel_rfl) (fun _ _ _ h => h) (Or.inl ⟨by rfl, by (intro w hSw; (try dsimp only at hSw); go_simp; try with_reducible rfl)⟩) hHeld ?_
  try simp only [Act.put, List.setIfInBounds_toArray, List.set_cons_zero, List.set_cons_succ]
  refine wpAnyH_take (i := 6) (oi := ⟨some 21, _, _, _, _, _⟩) (v := ?_) rfl (by kernel_rfl) (by kernel_rfl) (by kernel_rfl) (fun _ _ _ h => h) (Or.inl ⟨by rfl, by (intro w hSw; (try dsimp only at hSw); go_simp; try with_reducible rfl)⟩) hHeld ?_
  try simp only [Act.put, List.setIfInBounds_toArray, List.set_cons_zero, List.set_cons_succ]
  refine wpAnyH_ready (rs := [7]) (by kernel_rfl) (by simp) ?_
  refine AllReadyH.cons (o := ⟨some 22, _, _, _, _, _⟩) rfl (fun K hK => ?_) ?_
  · go_simp
    have hbn := alloc_below wc0 (.cells #[.int .u64 (x.t : Int), .string x.s] 33)
    have HX1 := Lib.hid (Bx.later HX0.out hbn)
    have HY1 := Lib.hid (B1.later HY0.out hbn)
    have HC1 := Lib.hid (Sl.later HC0.out hbn)
    have HS1 := Lib.hid (sl_one wc0 x 33)
    have HB1 := Lib.hid (HB0.out.trans (hbn.mono HB0.out.size))
    refine hK.out _ _ (mkS.out _ HX1.out) (fun hHeld2 => ?_)
    clear hK K hHeld
    have hHeld := hHeld2
    clear hHeld2
    clear hbn
    try simp only [Act.put, List.setIfInBounds_toArray, List.set_cons_zero, List.set_cons_succ]
    generalize wc0.alloc (.cells #[.int .u64 (x.t : Int), .string x.s] 33) = wc1 at *
    generalize wc0.heap.size = gS at *
    refine wpAnyH_ready (rs := [8]) (by kernel_rfl) (by simp) ?_
    refine AllReadyH.cons (o := ⟨some 23, _, _, _, _, _⟩) rfl (fun K hK => ?_) ?_
    · obtain ⟨o5, n5, c5, wc2, hrn, hs5, hf5, hbn⟩ := run_append_full _ _ _ _ M x HC1.out HS1.out HL.out
      refine wp_append_at (.tmp 20) (.tmp 22) rfl rfl rfl hrn ?_
      clear hrn
      have HX2 := Lib.hid (Bx.later HX1.out hbn)
      have HY2 := Lib.hid (B1.later HY1.out hbn)
      have HC2 := Lib.hid (Sl.later HC1.out hbn)
      have HS2 := Lib.hid (Sl.later HS1.out hbn)
      have HR2 := Lib.hid hs5
      have HFR2 := Lib.hid hf5
      have HGT := Lib.hid (lt_of_heap HY1.out)
      clear hs5 hf5
      have HB2 := Lib.hid (HB1.out.trans (hbn.mono HB1.out.size))
      refine hK.out _ _ (mkS.out _ HX2.out) (fun hHeld2 => ?_)
      clear hK K hHeld
      have hHeld := hHeld2
      clear hHeld2
      clear hbn
      try simp only [Act.put, List.setIfInBounds_toArray, List.set_cons_zero, List.set_cons_succ]
      refine wpAnyH_take (i := 9) (oi := ⟨some 24, _, _, _, _, _⟩) (v := ?_) rfl (by kernel_rfl) (by kernel_rfl) (by kernel_rfl) (fun _ _ _ h => h) (Or.inl ⟨by rfl, by (intro w hSw; (try dsimp only at hSw); go_simp; try with_reducible rfl)⟩) hHeld ?_
      try simp only [Act.put, List.setIfInBounds_toArray, List.set_cons_zero, List.set_cons_succ]
      refine wpAnyH_ready (rs := [10]) (by kernel_rfl) (by simp) ?_
      refine AllReadyH.cons (o := ⟨none, _, _, _, _, _⟩) rfl (fun K hK => ?_) ?_
      · obtain ⟨y0, y1⟩ := HY2.out.cells
        go_simp
        have HY3 := Lib.hid (HY2.out.put (.slice o5 n5 c5))
        have HX3 := Lib.hid (HX2.out.away ⟨w.heap.size + 1 + 1, 0, none⟩ (by show w.heap.size + 1 ≠ w.heap.size + 1 + 1; omega) (.slice o5 n5 c5))
        have HR3 := Lib.hid (HR2.out.awayF HFR2.out ⟨w.heap.size + 1 + 1, 0, none⟩ HGT.out (.slice o5 n5 c5))
        have HB3 := Lib.hid (HB2.out.setCell (p := ⟨w.heap.size + 1 + 1, 0, none⟩) (by show w.heap.size ≤ w.heap.size + 1 + 1; omega) (.slice o5 n5 c5))
        refine hK.out _ _ (mkS.out _ HX3.out) (fun hHeld2 => ?_)
        clear hK K hHeld
        have hHeld := hHeld2
        clear hHeld2
        clear y0 y1
        try simp only [Act.put, List.setIfInBounds_toArray, List.set_cons_zero, List.set_cons_succ]
        generalize (wc2.setCell ⟨w.heap.size + 1 + 1, 0, none⟩ (.slice o5 n5 c5)) = wc3 at *
        refine wpAnyH_done (by kernel_rfl) ?_ _
        simp only [Exit.then]
        apply_assumption
        obtain ⟨z0, z1⟩ := HY3.out.cells
        have HF := Lib.hid (by rw [← HS.out]; exact HR3.out : Sl wc3 (.slice o5 n5 c5) (sendL l x))
        try go_wp2
        refine bodyPost_ret (v := .agg #[.slice o5 n5 c5]) (by simp [results, Try.results22, go_sem, *]) rfl ⟨⟨o5, n5, c5, rfl, HF.out, HFR2.out.mono HB1.out.size⟩, HB3.out⟩
      · exact AllReadyH.nil
    · exact AllReadyH.nil
  · exact AllReadyH.nil
end Go.Proofs.Ytcoadbagjlcagaa

namespace Go.Proofs.Ytcoadbagjlcagaa
open Go.RowKit

theorem two_new (w : World) (a b : Value) (t : TypeId) : (w.alloc (.cells #[a, b] t)).cell? ⟨w.heap.size, 0, none⟩ = some a ∧ (w.alloc (.cells #[a, b] t)).cell? ⟨w.heap.size, 1, none⟩ = some b := ⟨by simp, by simp⟩
/-- What a pipe's method answers: a pipe. -/
def PiP (w : World) (L : List It) (e : Value → Ending) (z : Ending) (w' : World) : Prop := (∃ o n c, z = e (.agg #[.slice o n c]) ∧ Sl w' (.slice o n c) L ∧ Fr w.heap.size (.slice o n c)) ∧ Below w.heap.size w w'

set_option maxRecDepth 100000 in
set_option maxHeartbeats 4000000 in
theorem without_any (l : List It) (i : Nat) (v : Value) (hl : l.length ≤ 1000000) (w : World) (hs : Sl w v l) (hi : i < l.length) :
    Calls Try.prog 20 #[.agg #[v], .int .i64 (i : Int)] w (PiP w (l.take i ++ l.drop (i + 1)) .returned) := by
  have HB0 := Lib.hid (show Below w.heap.size w ((w.alloc (.cells #[v] 26)).alloc (.cells #[.slice none 0 0] 26)) from bt (alloc_below _ _))
  have HP0 := Lib.hid ((B1.new 26 w v).later (alloc_below _ (.cells #[.slice none 0 0] 26)))
  have HY0 := Lib.hid (B1.new 26 (w.alloc (.cells #[v] 26)) (.slice none 0 0))
  rw [show (w.alloc (.cells #[v] 26)).heap.size = w.heap.size + 1 by simp] at HY0
  obtain ⟨oA, cA, hsA, hA⟩ := sl_head hs i (by omega)
  obtain ⟨oB, nB, cB, hsB, hB⟩ := sl_tail hs (i + 1) (by omega)
  have HSA := Lib.hid hA
  have HSB := Lib.hid hB
  obtain ⟨o, c, rfl⟩ := hs.form
  have KC : Hid (∀ (W : World) (gT : Nat), Sl W (.slice oA i cA) (l.take i) → Sl W (.slice oB nB cB) (l.drop (i + 1)) → W.cell? ⟨gT, 0, none⟩ = some (.slice oA i cA) → W.cell? ⟨gT, 1, none⟩ = some (.slice oB nB cB) →
      Calls Try.prog 27 #[.slice (some ⟨gT, 0, none⟩) 2 2] W fun e w' => (∃ o n c, e = .returned (.slice o n c) ∧ Sl w' (.slice o n c) (l.take i ++ l.drop (i + 1)) ∧ Fr W.heap.size (.slice o n c)) ∧ Below W.heap.size W w') :=
    Lib.hid (fun W gT h1 h2 h3 h4 => concat_any _ _ _ _ gT W (by rw [List.length_take]; omega) (by rw [List.length_drop]; omega) h1 h2 h3 h4)
  obtain ⟨i1, hi1⟩ : ∃ i1, i1 = i + 1 := ⟨_, rfl⟩
  rw [← hi1] at hsB HSB KC
  have e1 : (i : Int) + 1 = (i1 : Int) := by omega
  have e2 : IntKind.i64.wrap (i1 : Int) = (i1 : Int) := IntWalk.i64_in _ ⟨by omega, by omega⟩
  rw [← hi1]
  clear hs hA hB hi1 hi hl
  generalize l.take i ++ l.drop i1 = M at *
  generalize l.length = n0 at *
  obtain ⟨w2, hw2⟩ : ∃ w2, w2 = ((w.alloc (.cells #[.slice o n0 c] 26)).alloc (.cells #[.slice none 0 0] 26)) := ⟨_, rfl⟩
  rw [← hw2] at HB0 HP0 HY0
  go_enter Try.func20, Try.ntmps20
  go_upto_region 1 with (fail)
  rw [← hw2]
  clear hw2
  obtain ⟨p0, p1⟩ := HP0.out.cells
  have HBd := Lib.hid (show Below w.heap.size w w2.drew from HB0.out.drew)
  have HYd := Lib.hid (HY0.out.drewn)
  go_still_tail 9, (by kernel_rfl)
  change wpList _ _ _ _ _ w2.drew
  generalize w2.drew = wd at *
  have HT := Lib.hid (two_new wd (.slice oA i cA) (.slice oB nB cB) 24)
  have HB1 := Lib.hid (HBd.out.trans ((alloc_below wd (.cells #[.slice oA i cA, .slice oB nB cB] 24)).mono HBd.out.size))
  have K := Lib.hid (KC.out _ wd.heap.size (HSA.out _ HB1.out) (HSB.out _ HB1.out) HT.out.1 HT.out.2)
  have HY1 := Lib.hid (HYd.out.later (alloc_below wd (.cells #[.slice oA i cA, .slice oB nB cB] 24)))
  have HGT := Lib.hid (lt_of_heap HY1.out)
  clear HB0 HP0 HY0 HYd KC HSA HSB HT p0 p1
  go_wp2_with (first
    | (go_at_call 27; ((with_reducible refine (K.out).mono ?_); rintro e w5 ⟨⟨o5, n5, c5, rfl, hs5, hf5⟩, hb5⟩; have HS5 := Lib.hid hs5; have HF5 := Lib.hid hf5; have HB5 := Lib.hid hb5; have HY5 := Lib.hid (HY1.out.later hb5); obtain ⟨y0, y1⟩ := HY5.out.cells; clear hs5 hb5 hf5)))
  obtain ⟨z0, z1⟩ := (HY5.out.put (.slice o5 n5 c5)).cells
  have HF := Lib.hid (HS5.out.awayF HF5.out ⟨w.heap.size + 1, 0, none⟩ HGT.out (.slice o5 n5 c5))
  have HFR := Lib.hid (HF5.out.mono HB1.out.size)
  refine bodyPost_ret (v := .agg #[.slice o5 n5 c5]) (by simp [results, Try.results20, go_sem, *]) rfl ⟨⟨o5, n5, c5, rfl, HF.out, HFR.out⟩, ?_⟩
  exact (HB1.out.trans (HB5.out.mono HB1.out.size)).setCell (p := ⟨w.heap.size + 1, 0, none⟩) (by show w.heap.size ≤ w.heap.size + 1; omega) _

set_option maxRecDepth 100000 in
set_option maxHeartbeats 4000000 in
theorem send_any (l : List It) (t : Nat) (s : ByteArray) (v : Value) (hl : l.length ≤ 1000000) (hz : s.size ≤ 140737488355328) (w : World) (hs : Sl w v l) :
    Calls Try.prog 14 #[.agg #[v], .int .u64 (t : Int), .string s] w (PiP w (sendL l ⟨t, s⟩) .returned) := by
  have HB0 := Lib.hid (show Below w.heap.size w (((w.alloc (.cells #[v] 26)).alloc (.cells #[.slice none 0 0] 26)).drew) from (bt (alloc_below _ _)).drew)
  have HP0 := Lib.hid (((B1.new 26 w v).later (alloc_below _ (.cells #[.slice none 0 0] 26))).drewn)
  have HY0 := Lib.hid ((B1.new 26 (w.alloc (.cells #[v] 26)) (.slice none 0 0)).drewn)
  rw [show (w.alloc (.cells #[v] 26)).heap.size = w.heap.size + 1 by simp] at HY0
  have HV0 := Lib.hid (hs.later HB0.out)
  obtain ⟨o, c, rfl⟩ := hs.form
  have K21 := Lib.hid (own_any ⟨t, s⟩ hz)
  have K22 : Hid (∀ w, Sl w (.slice o l.length c) l → _) := Lib.hid (fun w => with_any l ⟨t, s⟩ (.slice o l.length c) hl w)
  unfold iv at K21 K22
  generalize sendL l ⟨t, s⟩ = M at *
  dsimp only at K21 K22
  clear hs hz hl
  obtain ⟨w2, hw2⟩ : ∃ w2, w2 = ((w.alloc (.cells #[.slice o l.length c] 26)).alloc (.cells #[.slice none 0 0] 26)) := ⟨_, rfl⟩
  rw [← hw2] at HB0 HP0 HY0 HV0
  go_enter Try.func14, Try.ntmps14
  go_upto_region 1 with (fail)
  rw [← hw2]
  clear hw2
  have mkS : Hid (∀ wz, B1 26 wz w.heap.size (.slice o l.length c) → wz.cell? ⟨w.heap.size, 0, none⟩ = some (.slice o l.length c) ∧ Hid True) := Lib.hid (fun wz h => ⟨h.cells.1, Lib.hid True.intro⟩)
  refine wp_region_held_drew (S := fun wz => wz.cell? ⟨w.heap.size, 0, none⟩ = some (.slice o l.length c) ∧ Hid True) (by kernel_rfl) (mkS.out _ HP0.out) (fun hHeld => ?_)
  generalize w2.drew = wc0 at *
  refine wpAnyH_take (i := 0) (oi := ⟨some 7, _, _, _, _, _⟩) (v := ?_) rfl (by kernel_rfl) (by kernel_rfl) (by kernel_rfl) (fun _ _ _ h => h) (Or.inl ⟨by rfl, by (intro w hSw; (try dsimp only at hSw); go_simp; try with_reducible rfl)⟩) hHeld ?_
  try simp only [Act.put, List.setIfInBounds_toArray, List.set_cons_zero, List.set_cons_succ]
  refine wpAnyH_take (i := 1) (oi := ⟨some 8, _, _, _, _, _⟩) (v := ?_) rfl (by kernel_rfl) (by kernel_rfl) (by kernel_rfl) (fun _ _ _ h => h) (Or.inl ⟨by rfl, by (intro w hSw; (try dsimp only at hSw); go_simp; try with_reducible rfl)⟩) hHeld ?_
  try simp only [Act.put, List.setIfInBounds_toArray, List.set_cons_zero, List.set_cons_succ]
  refine wpAnyH_take (i := 2) (oi := ⟨some 9, _, _, _, _, _⟩) (v := ?_) rfl (by kernel_rfl) (by kernel_rfl) (by kernel_rfl) (fun _ _ _ h => h) (Or.inl ⟨by rfl, by (intro w hSw; (try dsimp only at hSw); go_simp; try with_reducible rfl)⟩) hHeld ?_
  try simp only [Act.put, List.setIfInBounds_toArray, List.set_cons_zero, List.set_cons_succ]
  refine wpAnyH_take (i := 3) (oi := ⟨some 10, _, _, _, _, _⟩) (v := ?_) rfl (by kernel_rfl) (by kernel_rfl) (by kernel_rfl) (fun _ _ _ h => h) (Or.inl ⟨by rfl, by (intro w hSw; (try dsimp only at hSw); go_simp; try with_reducible rfl)⟩) hHeld ?_
  try simp only [Act.put, List.setIfInBounds_toArray, List.set_cons_zero, List.set_cons_succ]
  refine wpAnyH_ready (rs := [4]) (by kernel_rfl) (by simp) ?_
  refine AllReadyH.cons (o := ⟨some 11, _, _, _, _, _⟩) rfl (fun K hK => ?_) ?_
  · go_simp
    refine (K21.out _).mono ?_
    rintro ze wc1 ⟨rfl, hbn⟩
    try go_simp
    have HP1 := Lib.hid (B1.later HP0.out hbn)
    have HY1 := Lib.hid (B1.later HY0.out hbn)
    have HV1 := Lib.hid (Sl.later HV0.out hbn)
    have HB1 := Lib.hid (HB0.out.trans (hbn.mono HB0.out.size))
    refine hK.out _ _ (mkS.out _ HP1.out) (fun hHeld2 => ?_)
    clear hK K hHeld
    have hHeld := hHeld2
    clear hHeld2
    clear hbn
    try simp only [Act.put, List.setIfInBounds_toArray, List.set_cons_zero, List.set_cons_succ]
    refine wpAnyH_ready (rs := [5]) (by kernel_rfl) (by simp) ?_
    refine AllReadyH.cons (o := ⟨some 12, _, _, _, _, _⟩) rfl (fun K hK => ?_) ?_
    · go_simp
      refine (K22.out _ HV1.out).mono ?_
      rintro ze wc2 ⟨⟨o5, n5, c5, rfl, hs5, hf5⟩, hbn⟩
      try go_simp
      have HP2 := Lib.hid (B1.later HP1.out hbn)
      have HY2 := Lib.hid (B1.later HY1.out hbn)
      have HV2 := Lib.hid (Sl.later HV1.out hbn)
      have HR2 := Lib.hid hs5
      have HFR2 := Lib.hid hf5
      have HGT := Lib.hid (lt_of_heap HY1.out)
      clear hs5 hf5
      have HB2 := Lib.hid (HB1.out.trans (hbn.mono HB1.out.size))
      refine hK.out _ _ (mkS.out _ HP2.out) (fun hHeld2 => ?_)
      clear hK K hHeld
      have hHeld := hHeld2
      clear hHeld2
      clear hbn
      try simp only [Act.put, List.setIfInBounds_toArray, List.set_cons_zero, List.set_cons_succ]
      refine wpAnyH_ready (rs := [6]) (by kernel_rfl) (by simp) ?_
      refine AllReadyH.cons (o := ⟨none, _, _, _, _, _⟩) rfl (fun K hK => ?_) ?_
      · obtain ⟨y0, y1⟩ := HY2.out.cells
        go_simp
        have HY3 := Lib.hid (HY2.out.put (.slice o5 n5 c5))
        have HP3 := Lib.hid (HP2.out.away ⟨w.heap.size + 1, 0, none⟩ (by show w.heap.size ≠ w.heap.size + 1; omega) (.slice o5 n5 c5))
        have HR3 := Lib.hid (HR2.out.awayF HFR2.out ⟨w.heap.size + 1, 0, none⟩ HGT.out (.slice o5 n5 c5))
        have HB3 := Lib.hid (HB2.out.setCell (p := ⟨w.heap.size + 1, 0, none⟩) (by show w.heap.size ≤ w.heap.size + 1; omega) (.slice o5 n5 c5))
        refine hK.out _ _ (mkS.out _ HP3.out) (fun hHeld2 => ?_)
        clear hK K hHeld
        have hHeld := hHeld2
        clear hHeld2
        clear y0 y1
        try simp only [Act.put, List.setIfInBounds_toArray, List.set_cons_zero, List.set_cons_succ]
        generalize (wc2.setCell ⟨w.heap.size + 1, 0, none⟩ (.slice o5 n5 c5)) = wc3 at *
        refine wpAnyH_done (by kernel_rfl) ?_ _
        simp only [Exit.then]
        apply_assumption
        obtain ⟨z0, z1⟩ := HY3.out.cells
        try go_wp2
        refine bodyPost_ret (v := .agg #[.slice o5 n5 c5]) (by simp [results, Try.results14, go_sem, *]) rfl ⟨⟨o5, n5, c5, rfl, HR3.out, HFR2.out.mono HB1.out.size⟩, HB3.out⟩
      · exact AllReadyH.nil
    · exact AllReadyH.nil
  · exact AllReadyH.nil

/-- A pipe and an error. -/
def two (k : Int) (v : Value) : Ending := .returned (.tuple #[v, .int .i64 k])
theorem no_there {i : Int} {n : Nat} (h : ¬ (0 ≤ i ∧ i < (n : Int))) : True := True.intro

theorem double_no (l : List It) (i : Int) (v : Value) (B : Nat) (w : World) (hs : Sl w v l) (hf : Fr B v) (hi : ¬ (0 ≤ i ∧ i < (l.length : Int))) :
    Calls Try.prog 9 #[.agg #[v], .int .i64 i] w fun z w' => z = .returned (.tuple #[.agg #[v], .int .i64 12]) ∧ Below w.heap.size w w' := by
  obtain ⟨o, c, rfl⟩ := hs.form
  have K := Lib.hid (has_no o l.length c i hi)
  clear hs hf hi
  generalize l.length = n at *
  have HB0 := Lib.hid (show Below w.heap.size w ((w.alloc (.cells #[.slice o n c] 26)).alloc (.cells #[.slice none 0 0] 26)) from bt (alloc_below _ _))
  have HP := Lib.hid ((B1.new 26 w (.slice o n c)).later (alloc_below _ (.cells #[.slice none 0 0] 26)))
  have HY := Lib.hid (B1.new 26 (w.alloc (.cells #[.slice o n c] 26)) (.slice none 0 0))
  rw [show (w.alloc (.cells #[.slice o n c] 26)).heap.size = w.heap.size + 1 by simp] at HY
  go_enter Try.func9, Try.ntmps9
  go_wp2_with ((go_at_call 19; ((with_reducible refine (K.out _).mono ?_); rintro e w1 ⟨rfl, hb⟩; have HB := Lib.hid hb; obtain ⟨x0, x1⟩ := (HP.out.later hb).cells; obtain ⟨y0, y1⟩ := (HY.out.later hb).cells; clear hb)))
  obtain ⟨z0, z1⟩ := ((HY.out.later HB.out).put (.slice o n c)).cells
  refine bodyPost_ret (v := .tuple #[.agg #[.slice o n c], .int .i64 12]) (by simp [results, Try.results9, go_sem, *]) rfl ⟨rfl, ?_⟩
  exact (HB0.out.trans (HB.out.mono HB0.out.size)).setCell (p := ⟨w.heap.size + 1, 0, none⟩) (by show w.heap.size ≤ w.heap.size + 1; omega) _

theorem lose_no (l : List It) (i : Int) (v : Value) (B : Nat) (w : World) (hs : Sl w v l) (hf : Fr B v) (hi : ¬ (0 ≤ i ∧ i < (l.length : Int))) :
    Calls Try.prog 11 #[.agg #[v], .int .i64 i] w fun z w' => z = .returned (.tuple #[.agg #[v], .int .i64 12]) ∧ Below w.heap.size w w' := by
  obtain ⟨o, c, rfl⟩ := hs.form
  have K := Lib.hid (has_no o l.length c i hi)
  clear hs hf hi
  generalize l.length = n at *
  have HB0 := Lib.hid (show Below w.heap.size w ((w.alloc (.cells #[.slice o n c] 26)).alloc (.cells #[.slice none 0 0] 26)) from bt (alloc_below _ _))
  have HP := Lib.hid ((B1.new 26 w (.slice o n c)).later (alloc_below _ (.cells #[.slice none 0 0] 26)))
  have HY := Lib.hid (B1.new 26 (w.alloc (.cells #[.slice o n c] 26)) (.slice none 0 0))
  rw [show (w.alloc (.cells #[.slice o n c] 26)).heap.size = w.heap.size + 1 by simp] at HY
  go_enter Try.func11, Try.ntmps11
  go_wp2_with ((go_at_call 19; ((with_reducible refine (K.out _).mono ?_); rintro e w1 ⟨rfl, hb⟩; have HB := Lib.hid hb; obtain ⟨x0, x1⟩ := (HP.out.later hb).cells; obtain ⟨y0, y1⟩ := (HY.out.later hb).cells; clear hb)))
  obtain ⟨z0, z1⟩ := ((HY.out.later HB.out).put (.slice o n c)).cells
  refine bodyPost_ret (v := .tuple #[.agg #[.slice o n c], .int .i64 12]) (by simp [results, Try.results11, go_sem, *]) rfl ⟨rfl, ?_⟩
  exact (HB0.out.trans (HB.out.mono HB0.out.size)).setCell (p := ⟨w.heap.size + 1, 0, none⟩) (by show w.heap.size ≤ w.heap.size + 1; omega) _

theorem deliver_no (l : List It) (i : Int) (v : Value) (B : Nat) (w : World) (hs : Sl w v l) (hf : Fr B v) (hi : ¬ (0 ≤ i ∧ i < (l.length : Int))) :
    Calls Try.prog 7 #[.agg #[v], .int .i64 i] w fun z w' => z = .returned (.tuple #[.agg #[v], .agg #[.int .u64 0, .string ⟨#[]⟩], .int .i64 12]) ∧ Below w.heap.size w w' := by
  obtain ⟨o, c, rfl⟩ := hs.form
  have K := Lib.hid (has_no o l.length c i hi)
  clear hs hf hi
  generalize l.length = n at *
  have HB0 := Lib.hid (show Below w.heap.size w (((w.alloc (.cells #[.slice o n c] 26)).alloc (.cells #[.slice none 0 0] 26)).alloc (.cells #[.int .u64 0, .string ⟨#[]⟩] 33)) from bt (bt (alloc_below _ _)))
  have HP := Lib.hid (((B1.new 26 w (.slice o n c)).later (alloc_below _ (.cells #[.slice none 0 0] 26))).later (alloc_below _ (.cells #[.int .u64 0, .string ⟨#[]⟩] 33)))
  have HY := Lib.hid ((B1.new 26 (w.alloc (.cells #[.slice o n c] 26)) (.slice none 0 0)).later (alloc_below _ (.cells #[.int .u64 0, .string ⟨#[]⟩] 33)))
  rw [show (w.alloc (.cells #[.slice o n c] 26)).heap.size = w.heap.size + 1 by simp] at HY
  have HX := Lib.hid (Bx.new 33 ((w.alloc (.cells #[.slice o n c] 26)).alloc (.cells #[.slice none 0 0] 26)) (.int .u64 0) (.string ⟨#[]⟩))
  rw [show ((w.alloc (.cells #[.slice o n c] 26)).alloc (.cells #[.slice none 0 0] 26)).heap.size = w.heap.size + 1 + 1 by simp] at HX
  go_enter Try.func7, Try.ntmps7
  go_wp2_with ((go_at_call 19; ((with_reducible refine (K.out _).mono ?_); rintro e w1 ⟨rfl, hb⟩; have HB := Lib.hid hb; obtain ⟨x0, x1⟩ := (HP.out.later hb).cells; obtain ⟨y0, y1⟩ := (HY.out.later hb).cells; obtain ⟨v0, v1, v2, v3⟩ := (HX.out.later hb).cells; clear hb)))
  obtain ⟨z0, z1⟩ := ((((HY.out.later HB.out).put (.slice o n c)).away ⟨w.heap.size + 1 + 1, 0, none⟩ (by show w.heap.size + 1 ≠ w.heap.size + 1 + 1; omega) (.int .u64 0)).away ⟨w.heap.size + 1 + 1, 1, none⟩ (by show w.heap.size + 1 ≠ w.heap.size + 1 + 1; omega) (.string ⟨#[]⟩)).cells
  obtain ⟨u0, u1, u2, u3⟩ := (((HX.out.later HB.out).away ⟨w.heap.size + 1, 0, none⟩ (by show w.heap.size + 1 + 1 ≠ w.heap.size + 1; omega) (.slice o n c)).put (.int .u64 0) (.string ⟨#[]⟩)).cells
  refine bodyPost_ret (v := .tuple #[.agg #[.slice o n c], .agg #[.int .u64 0, .string ⟨#[]⟩], .int .i64 12]) (by simp [results, Try.results7, go_sem, *]) rfl ⟨rfl, ?_⟩
  exact (((HB0.out.trans (HB.out.mono HB0.out.size)).setCell (p := ⟨w.heap.size + 1, 0, none⟩) (by show w.heap.size ≤ w.heap.size + 1; omega) _).setCell (p := ⟨w.heap.size + 1 + 1, 0, none⟩) (by show w.heap.size ≤ w.heap.size + 1 + 1; omega) _).setCell (p := ⟨w.heap.size + 1 + 1, 1, none⟩) (by show w.heap.size ≤ w.heap.size + 1 + 1; omega) _

end Go.Proofs.Ytcoadbagjlcagaa

namespace Go.Proofs.Ytcoadbagjlcagaa
open Go.RowKit

set_option maxRecDepth 100000 in
set_option maxHeartbeats 4000000 in
theorem lose_yes (l : List It) (i : Nat) (v : Value) (hl : l.length ≤ 1000000) (w : World) (hs : Sl w v l) (hi : i < l.length) :
    Calls Try.prog 11 #[.agg #[v], .int .i64 (i : Int)] w (PiP w (l.take i ++ l.drop (i + 1)) (two 0)) := by
  have KW : Hid (∀ w, Sl w v l → _) := Lib.hid (fun w h => without_any l i v hl w h hi)
  have HB0 := Lib.hid (show Below w.heap.size w ((w.alloc (.cells #[v] 26)).alloc (.cells #[.slice none 0 0] 26)) from bt (alloc_below _ _))
  have HP := Lib.hid ((B1.new 26 w v).later (alloc_below _ (.cells #[.slice none 0 0] 26)))
  have HY := Lib.hid (B1.new 26 (w.alloc (.cells #[v] 26)) (.slice none 0 0))
  rw [show (w.alloc (.cells #[v] 26)).heap.size = w.heap.size + 1 by simp] at HY
  have HV := Lib.hid (hs.later HB0.out)
  obtain ⟨o, c, rfl⟩ := hs.form
  have K := Lib.hid (has_yes o l.length c i hi)
  generalize l.take i ++ l.drop (i + 1) = M at *
  clear hs hl hi
  go_enter Try.func11, Try.ntmps11
  go_wp2_with (first
    | (go_at_call 19; ((with_reducible refine (K.out _).mono ?_); rintro e w1 ⟨rfl, hb⟩; have HB := Lib.hid hb; obtain ⟨x0, x1⟩ := (HP.out.later hb).cells; clear hb))
    | (go_at_call 20; ((with_reducible refine (KW.out _ (HV.out.later HB.out)).mono ?_); rintro e w5 ⟨⟨o5, n5, c5, rfl, hs5, hf5⟩, hb5⟩; have HS5 := Lib.hid hs5; have HF5 := Lib.hid hf5; have HB5 := Lib.hid (HB.out.trans (hb5.mono HB.out.size)); obtain ⟨y0, y1⟩ := (HY.out.later HB5.out).cells; clear hs5 hb5 hf5)))
  have HGT := Lib.hid (lt_of_heap (HY.out.later HB.out))
  have HYe := Lib.hid ((HY.out.later HB5.out).put (.slice o5 n5 c5))
  obtain ⟨z0, z1⟩ := HYe.out.cells
  refine bodyPost_ret (v := .tuple #[.agg #[.slice o5 n5 c5], .int .i64 0]) (by simp [results, Try.results11, go_sem, *]) rfl ⟨⟨o5, n5, c5, rfl, HS5.out.awayF HF5.out ⟨w.heap.size + 1, 0, none⟩ HGT.out (.slice o5 n5 c5), HF5.out.mono (Nat.le_trans HB0.out.size HB.out.size)⟩, ?_⟩
  exact (HB0.out.trans (HB5.out.mono HB0.out.size)).setCell (p := ⟨w.heap.size + 1, 0, none⟩) (by show w.heap.size ≤ w.heap.size + 1; omega) _

set_option maxRecDepth 100000 in
set_option maxHeartbeats 4000000 in
theorem double_yes (l : List It) (i : Nat) (v : Value) (hl : l.length ≤ 1000000) (w : World) (hs : Sl w v l) (hi : i < l.length) :
    Calls Try.prog 9 #[.agg #[v], .int .i64 (i : Int)] w (PiP w (sendL l l[i]) (two 0)) := by
  have KW : Hid (∀ w, Sl w v l → _) := Lib.hid (fun w h => with_any l l[i] v hl w h)
  have HB0 := Lib.hid (show Below w.heap.size w ((w.alloc (.cells #[v] 26)).alloc (.cells #[.slice none 0 0] 26)) from bt (alloc_below _ _))
  have HP := Lib.hid ((B1.new 26 w v).later (alloc_below _ (.cells #[.slice none 0 0] 26)))
  have HY := Lib.hid (B1.new 26 (w.alloc (.cells #[v] 26)) (.slice none 0 0))
  rw [show (w.alloc (.cells #[v] 26)).heap.size = w.heap.size + 1 by simp] at HY
  have HV := Lib.hid (hs.later HB0.out)
  obtain ⟨o, c, b, off, rfl, ho, hc⟩ := hs.cells
  obtain rfl := ho (by omega)
  have K := Lib.hid (has_yes (some ⟨b, off, none⟩) l.length c i hi)
  have HC : Hid (∀ wz, Below w.heap.size w wz → ItAt wz b (off + i * 2) l[i]) := Lib.hid (fun wz hb => by
    have h := hc i hi
    have hlt := World.block_lt_of_cell? _ _ h.1
    exact ⟨(hb.cell (p := ⟨b, off + i * 2, none⟩) hlt).trans h.1, (hb.cell (p := ⟨b, off + i * 2 + 1, none⟩) hlt).trans h.2⟩)
  have q1 : (i : Int) < (l.length : Int) := by omega
  generalize sendL l l[i] = M at *
  generalize l[i] = x at *
  obtain ⟨t, s⟩ := x
  unfold iv at KW
  unfold ItAt at HC
  dsimp only at KW HC
  clear hs hl hc ho
  obtain ⟨w2, hw2⟩ : ∃ w2, w2 = ((w.alloc (.cells #[.slice (some ⟨b, off, none⟩) l.length c] 26)).alloc (.cells #[.slice none 0 0] 26)) := ⟨_, rfl⟩
  rw [← hw2] at HB0 HP HY HV
  go_enter Try.func9, Try.ntmps9
  go_wp2_with (first
    | (go_at_call 19; ((with_reducible refine (K.out _).mono ?_); rintro e w1 ⟨rfl, hb⟩; rw [← hw2] at hb; have HB := Lib.hid hb; obtain ⟨x0, x1⟩ := (HP.out.later hb).cells; have HBT := Lib.hid (HB0.out.trans (hb.mono HB0.out.size)); obtain ⟨h0, h1⟩ := HC.out _ HBT.out; clear hb)))
  have HBd := Lib.hid (show Below w.heap.size w w1.drew from HBT.out.drew)
  have HYd := Lib.hid (HY.out.later HB.out).drewn
  have HVd := Lib.hid (HV.out.later HB.out).drewn
  go_still_tail 6, (by kernel_rfl)
  change wpList _ _ _ _ _ w1.drew
  generalize w1.drew = wd at *
  clear HP HY HV HB HB0 HC x0 x1 h0 h1
  have HGT := Lib.hid (lt_of_heap HYd.out)
  go_wp2_with (first
    | (go_at_call 22; ((with_reducible refine (KW.out _ HVd.out).mono ?_); rintro e w5 ⟨⟨o5, n5, c5, rfl, hs5, hf5⟩, hb5⟩; have HS5 := Lib.hid hs5; have HF5 := Lib.hid hf5; have HB5 := Lib.hid hb5; obtain ⟨y0, y1⟩ := (HYd.out.later HB5.out).cells; clear hs5 hb5 hf5)))
  have HYe := Lib.hid ((HYd.out.later HB5.out).put (.slice o5 n5 c5))
  obtain ⟨z0, z1⟩ := HYe.out.cells
  refine bodyPost_ret (v := .tuple #[.agg #[.slice o5 n5 c5], .int .i64 0]) (by simp [results, Try.results9, go_sem, *]) rfl ⟨⟨o5, n5, c5, rfl, HS5.out.awayF HF5.out ⟨w.heap.size + 1, 0, none⟩ HGT.out (.slice o5 n5 c5), HF5.out.mono HBd.out.size⟩, ?_⟩
  exact (HBd.out.trans (HB5.out.mono HBd.out.size)).setCell (p := ⟨w.heap.size + 1, 0, none⟩) (by show w.heap.size ≤ w.heap.size + 1; omega) _

/-- A pipe, an item. -/
def three (x : It) (v : Value) : Ending := .returned (.tuple #[v, iv x, .int .i64 0])
set_option maxRecDepth 100000 in
set_option maxHeartbeats 4000000 in
theorem deliver_yes (l : List It) (i : Nat) (v : Value) (hl : l.length ≤ 1000000) (hz : ∀ x ∈ l, x.s.size ≤ 140737488355328) (w : World) (hs : Sl w v l) (hi : i < l.length) :
    Calls Try.prog 7 #[.agg #[v], .int .i64 (i : Int)] w (PiP w (l.take i ++ l.drop (i + 1)) (three l[i])) := by
  have KW : Hid (∀ w, Sl w v l → _) := Lib.hid (fun w h => without_any l i v hl w h hi)
  have K21 := Lib.hid (own_any l[i] (hz _ (List.getElem_mem hi)))
  have HB0 := Lib.hid (show Below w.heap.size w (((w.alloc (.cells #[v] 26)).alloc (.cells #[.slice none 0 0] 26)).alloc (.cells #[.int .u64 0, .string ⟨#[]⟩] 33)) from bt (bt (alloc_below _ _)))
  have HP := Lib.hid (((B1.new 26 w v).later (alloc_below _ (.cells #[.slice none 0 0] 26))).later (alloc_below _ (.cells #[.int .u64 0, .string ⟨#[]⟩] 33)))
  have HY := Lib.hid ((B1.new 26 (w.alloc (.cells #[v] 26)) (.slice none 0 0)).later (alloc_below _ (.cells #[.int .u64 0, .string ⟨#[]⟩] 33)))
  rw [show (w.alloc (.cells #[v] 26)).heap.size = w.heap.size + 1 by simp] at HY
  have HX := Lib.hid (Bx.new 33 ((w.alloc (.cells #[v] 26)).alloc (.cells #[.slice none 0 0] 26)) (.int .u64 0) (.string ⟨#[]⟩))
  rw [show ((w.alloc (.cells #[v] 26)).alloc (.cells #[.slice none 0 0] 26)).heap.size = w.heap.size + 1 + 1 by simp] at HX
  have HV := Lib.hid (hs.later HB0.out)
  obtain ⟨o, c, b, off, rfl, ho, hc⟩ := hs.cells
  obtain rfl := ho (by omega)
  have K := Lib.hid (has_yes (some ⟨b, off, none⟩) l.length c i hi)
  have hbl := World.block_lt_of_cell? _ _ (hc i hi).1
  have HBL := Lib.hid hbl
  have HC : Hid (∀ wz, Below w.heap.size w wz → ItAt wz b (off + i * 2) l[i]) := Lib.hid (fun wz hb => by
    have h := hc i hi
    exact ⟨(hb.cell (p := ⟨b, off + i * 2, none⟩) hbl).trans h.1, (hb.cell (p := ⟨b, off + i * 2 + 1, none⟩) hbl).trans h.2⟩)
  have q1 : (i : Int) < (l.length : Int) := by omega
  generalize l.take i ++ l.drop (i + 1) = M at *
  generalize l[i] = x at *
  obtain ⟨t, s⟩ := x
  unfold three
  unfold iv at *
  unfold ItAt at HC
  dsimp only at K21 HC ⊢
  clear hs hl hc ho hz hbl
  generalize l.length = n at *
  obtain ⟨w2, hw2⟩ : ∃ w2, w2 = (((w.alloc (.cells #[.slice (some ⟨b, off, none⟩) n c] 26)).alloc (.cells #[.slice none 0 0] 26)).alloc (.cells #[.int .u64 0, .string ⟨#[]⟩] 33)) := ⟨_, rfl⟩
  rw [← hw2] at HB0 HP HY HX HV
  go_enter Try.func7, Try.ntmps7
  go_wp2_with (first
    | (go_at_call 19; ((with_reducible refine (K.out _).mono ?_); rintro e w1 ⟨rfl, hb⟩; rw [← hw2] at hb; have HBa := Lib.hid hb; obtain ⟨x0, x1⟩ := (HP.out.later hb).cells; clear hb)))
  have HB0' := Lib.hid (show Below w.heap.size w w1.drew from (HB0.out.trans (HBa.out.mono HB0.out.size)).drew)
  have HP0 := Lib.hid (HP.out.later HBa.out).drewn
  have HY0 := Lib.hid (HY.out.later HBa.out).drewn
  have HX0 := Lib.hid (HX.out.later HBa.out).drewn
  have HV0 := Lib.hid (HV.out.later HBa.out).drewn
  clear HB0 HP HY HX HV HBa x0 x1
  have HB0 := HB0'
  clear HB0' hw2
  have mkS : Hid (∀ wz, B1 26 wz w.heap.size (.slice (some ⟨b, off, none⟩) n c) → wz.cell? ⟨b, off + i * 2, none⟩ = some (.int .u64 (t : Int)) ∧ wz.cell? ⟨b, off + i * 2 + 1, none⟩ = some (.string s) → wz.cell? ⟨w.heap.size, 0, none⟩ = some (.slice (some ⟨b, off, none⟩) n c) ∧ wz.cell? ⟨b, off + i * 2, none⟩ = some (.int .u64 (t : Int)) ∧ wz.cell? ⟨b, off + i * 2 + 1, none⟩ = some (.string s)) := Lib.hid (fun wz h h2 => ⟨h.cells.1, h2⟩)
  have HW0 := Lib.hid (HC.out _ HB0.out)
  refine wp_region_held_drew (S := fun wz => wz.cell? ⟨w.heap.size, 0, none⟩ = some (.slice (some ⟨b, off, none⟩) n c) ∧ wz.cell? ⟨b, off + i * 2, none⟩ = some (.int .u64 (t : Int)) ∧ wz.cell? ⟨b, off + i * 2 + 1, none⟩ = some (.string s)) (by kernel_rfl) (mkS.out _ HP0.out HW0.out) (fun hHeld => ?_)
  generalize w1.drew = wc0 at *
  refine wpAnyH_take (i := 0) (oi := ⟨some 13, _, _, _, _, _⟩) (v := ?_) rfl (by kernel_rfl) (by kernel_rfl) (by kernel_rfl) (fun _ _ _ h => h) (Or.inl ⟨by rfl, by (intro w hSw; (try dsimp only at hSw); go_simp; try with_reducible rfl)⟩) hHeld ?_
  try simp only [Act.put, List.setIfInBounds_toArray, List.set_cons_zero, List.set_cons_succ]
  refine wpAnyH_take (i := 1) (oi := ⟨some 14, _, _, _, _, _⟩) (v := ?_) rfl (by kernel_rfl) (by kernel_rfl) (by kernel_rfl) (fun _ _ _ h => h) (Or.inl ⟨by rfl, by (intro w hSw; (try dsimp only at hSw); go_simp; try with_reducible rfl)⟩) hHeld ?_
  try simp only [Act.put, List.setIfInBounds_toArray, List.set_cons_zero, List.set_cons_succ]
  refine wpAnyH_take (i := 3) (oi := ⟨some 16, _, _, _, _, _⟩) (v := ?_) rfl (by kernel_rfl) (by kernel_rfl) (by kernel_rfl) (fun _ _ _ h => h) (Or.inl ⟨by rfl, by (intro w hSw; (try dsimp only at hSw); go_simp; try with_reducible rfl)⟩) hHeld ?_
  try simp only [Act.put, List.setIfInBounds_toArray, List.set_cons_zero, List.set_cons_succ]
  refine wpAnyH_take (i := 4) (oi := ⟨some 17, _, _, _, _, _⟩) (v := ?_) rfl (by kernel_rfl) (by kernel_rfl) (by kernel_rfl) (fun _ _ _ h => h) (Or.inl ⟨by rfl, by (intro w hSw; (try dsimp only at hSw); go_simp; try with_reducible rfl)⟩) hHeld ?_
  try simp only [Act.put, List.setIfInBounds_toArray, List.set_cons_zero, List.set_cons_succ]
  refine wpAnyH_take (i := 5) (oi := ⟨some 18, _, _, _, _, _⟩) (v := ?_) rfl (by kernel_rfl) (by kernel_rfl) (by kernel_rfl) (fun _ _ _ h => h) (Or.inl ⟨by rfl, by (intro w hSw; (try dsimp only at hSw); go_simp; try with_reducible rfl)⟩) hHeld ?_
  try simp only [Act.put, List.setIfInBounds_toArray, List.set_cons_zero, List.set_cons_succ]
  refine wpAnyH_take (i := 6) (oi := ⟨some 19, _, _, _, _, _⟩) (v := ?_) rfl (by kernel_rfl) (by kernel_rfl) (by kernel_rfl) (fun _ _ _ h => h) (Or.inl ⟨by rfl, by (intro w hSw; (try dsimp only at hSw); go_simp; try with_reducible rfl)⟩) hHeld ?_
  try simp only [Act.put, List.setIfInBounds_toArray, List.set_cons_zero, List.set_cons_succ]
  refine wpAnyH_take (i := 7) (oi := ⟨some 20, _, _, _, _, _⟩) (v := ?_) rfl (by kernel_rfl) (by kernel_rfl) (by kernel_rfl) (fun _ _ _ h => h) (Or.inl ⟨by rfl, by (intro w hSw; (try dsimp only at hSw); go_simp; try with_reducible rfl)⟩) hHeld ?_
  try simp only [Act.put, List.setIfInBounds_toArray, List.set_cons_zero, List.set_cons_succ]
  refine wpAnyH_ready (rs := [2]) (by kernel_rfl) (by simp) ?_
  refine AllReadyH.cons (o := ⟨some 15, _, _, _, _, _⟩) rfl (fun K hK => ?_) ?_
  · go_simp
    refine (KW.out _ HV0.out).mono ?_
    rintro ze wc1 ⟨⟨o5, n5, c5, rfl, hs5, hf5⟩, hbn⟩
    try go_simp
    have HP1 := Lib.hid (B1.later HP0.out hbn)
    have HY1 := Lib.hid (B1.later HY0.out hbn)
    have HX1 := Lib.hid (Bx.later HX0.out hbn)
    have HV1 := Lib.hid (Sl.later HV0.out hbn)
    have HR1 := Lib.hid hs5
    have HFR := Lib.hid hf5
    have HGX := Lib.hid (lt_of_heap HX0.out)
    have HGY := Lib.hid (lt_of_heap HY0.out)
    clear hs5 hf5
    have HB1 := Lib.hid (HB0.out.trans (hbn.mono HB0.out.size))
    refine hK.out _ _ (mkS.out _ HP1.out (HC.out _ HB1.out)) (fun hHeld2 => ?_)
    clear hK K hHeld
    have hHeld := hHeld2
    clear hHeld2
    clear hbn
    try simp only [Act.put, List.setIfInBounds_toArray, List.set_cons_zero, List.set_cons_succ]
    refine wpAnyH_ready (rs := [8]) (by kernel_rfl) (by simp) ?_
    refine AllReadyH.cons (o := ⟨some 21, _, _, _, _, _⟩) rfl (fun K hK => ?_) ?_
    · go_simp
      refine (K21.out _).mono ?_
      rintro ze wc2 ⟨rfl, hbn⟩
      try go_simp
      have HP2 := Lib.hid (B1.later HP1.out hbn)
      have HY2 := Lib.hid (B1.later HY1.out hbn)
      have HX2 := Lib.hid (Bx.later HX1.out hbn)
      have HV2 := Lib.hid (Sl.later HV1.out hbn)
      have HR2 := Lib.hid (Sl.later HR1.out hbn)
      have HB2 := Lib.hid (HB1.out.trans (hbn.mono HB1.out.size))
      refine hK.out _ _ (mkS.out _ HP2.out (HC.out _ HB2.out)) (fun hHeld2 => ?_)
      clear hK K hHeld
      have hHeld := hHeld2
      clear hHeld2
      clear hbn
      try simp only [Act.put, List.setIfInBounds_toArray, List.set_cons_zero, List.set_cons_succ]
      refine wpAnyH_ready (rs := [9]) (by kernel_rfl) (by simp) ?_
      refine AllReadyH.cons (o := ⟨none, _, _, _, _, _⟩) rfl (fun K hK => ?_) ?_
      · obtain ⟨y0, y1⟩ := HY2.out.cells
        go_simp
        have HY3 := Lib.hid (HY2.out.put (.slice o5 n5 c5))
        have HP3 := Lib.hid (HP2.out.away ⟨w.heap.size + 1, 0, none⟩ (by show w.heap.size ≠ w.heap.size + 1; omega) (.slice o5 n5 c5))
        have HX3 := Lib.hid (HX2.out.away ⟨w.heap.size + 1, 0, none⟩ (by show w.heap.size + 1 + 1 ≠ w.heap.size + 1; omega) (.slice o5 n5 c5))
        have HR3 := Lib.hid (HR2.out.awayF HFR.out ⟨w.heap.size + 1, 0, none⟩ HGY.out (.slice o5 n5 c5))
        have HB3 := Lib.hid (HB2.out.setCell (p := ⟨w.heap.size + 1, 0, none⟩) (by show w.heap.size ≤ w.heap.size + 1; omega) (.slice o5 n5 c5))
        refine hK.out _ _ (mkS.out _ HP3.out (HC.out _ HB3.out)) (fun hHeld2 => ?_)
        clear hK K hHeld
        have hHeld := hHeld2
        clear hHeld2
        clear y0 y1
        try simp only [Act.put, List.setIfInBounds_toArray, List.set_cons_zero, List.set_cons_succ]
        generalize (wc2.setCell ⟨w.heap.size + 1, 0, none⟩ (.slice o5 n5 c5)) = wc3 at *
        refine wpAnyH_ready (rs := [10]) (by kernel_rfl) (by simp) ?_
        refine AllReadyH.cons (o := ⟨none, _, _, _, _, _⟩) rfl (fun K hK => ?_) ?_
        · obtain ⟨y0, y1, y2, y3⟩ := HX3.out.cells
          go_simp
          have HX4 := Lib.hid (HX3.out.put (.int .u64 (t : Int)) (.string s))
          have HY4 := Lib.hid ((HY3.out.away ⟨w.heap.size + 1 + 1, 0, none⟩ (by show w.heap.size + 1 ≠ w.heap.size + 1 + 1; omega) (.int .u64 (t : Int))).away ⟨w.heap.size + 1 + 1, 1, none⟩ (by show w.heap.size + 1 ≠ w.heap.size + 1 + 1; omega) (.string s))
          have HP4 := Lib.hid ((HP3.out.away ⟨w.heap.size + 1 + 1, 0, none⟩ (by show w.heap.size ≠ w.heap.size + 1 + 1; omega) (.int .u64 (t : Int))).away ⟨w.heap.size + 1 + 1, 1, none⟩ (by show w.heap.size ≠ w.heap.size + 1 + 1; omega) (.string s))
          have HR4 := Lib.hid ((HR3.out.awayF HFR.out ⟨w.heap.size + 1 + 1, 0, none⟩ HGX.out (.int .u64 (t : Int))).awayF HFR.out ⟨w.heap.size + 1 + 1, 1, none⟩ HGX.out (.string s))
          have HB4 := Lib.hid ((HB3.out.setCell (p := ⟨w.heap.size + 1 + 1, 0, none⟩) (by show w.heap.size ≤ w.heap.size + 1 + 1; omega) (.int .u64 (t : Int))).setCell (p := ⟨w.heap.size + 1 + 1, 1, none⟩) (by show w.heap.size ≤ w.heap.size + 1 + 1; omega) (.string s))
          refine hK.out _ _ (mkS.out _ HP4.out (HC.out _ HB4.out)) (fun hHeld2 => ?_)
          clear hK K hHeld
          have hHeld := hHeld2
          clear hHeld2
          clear y0 y1 y2 y3
          try simp only [Act.put, List.setIfInBounds_toArray, List.set_cons_zero, List.set_cons_succ]
          generalize ((wc3.setCell ⟨w.heap.size + 1 + 1, 0, none⟩ (.int .u64 (t : Int))).setCell ⟨w.heap.size + 1 + 1, 1, none⟩ (.string s)) = wc4 at *
          refine wpAnyH_take (i := 11) (oi := ⟨some 6, _, _, _, _, _⟩) (v := ?_) rfl (by kernel_rfl) (by kernel_rfl) (by kernel_rfl) (fun _ _ _ h => h) (Or.inl ⟨by rfl, by (intro w hSw; (try dsimp only at hSw); go_simp; try with_reducible rfl)⟩) hHeld ?_
          try simp only [Act.put, List.setIfInBounds_toArray, List.set_cons_zero, List.set_cons_succ]
          refine wpAnyH_done (by kernel_rfl) ?_ _
          simp only [Exit.then]
          apply_assumption
          obtain ⟨z0, z1⟩ := HY4.out.cells
          obtain ⟨u0, u1, u2, u3⟩ := HX4.out.cells
          try go_wp2
          refine bodyPost_ret (v := .tuple #[.agg #[.slice o5 n5 c5], .agg #[.int .u64 (t : Int), .string s], .int .i64 0]) (by simp [results, Try.results7, go_sem, *]) rfl ⟨⟨o5, n5, c5, rfl, HR4.out, HFR.out.mono HB0.out.size⟩, HB4.out⟩
        · exact AllReadyH.nil
      · exact AllReadyH.nil
    · exact AllReadyH.nil
  · exact AllReadyH.nil

set_option maxRecDepth 100000 in
set_option maxHeartbeats 4000000 in
/-- All: in order, in new memory. -/
theorem all_any (l : List It) (v : Value) (hl : l.length ≤ 1000000) (hz : ∀ x ∈ l, x.s.size ≤ 140737488355328) (w : World) (hs : Sl w v l) :
    Calls Try.prog 18 #[.agg #[v]] w fun z w' => (∃ o n c, z = .returned (.slice o n c) ∧ Sl w' (.slice o n c) l ∧ Fr w.heap.size (.slice o n c)) ∧ Below w.heap.size w w' := by
  have HC : Hid (∀ wz, Below w.heap.size w wz → Sl wz v l) := Lib.hid (fun wz hb => hs.later hb)
  have HB0 := Lib.hid (alloc_below w (.cells #[v] 26))
  have K21 : Hid (∀ k (h : k < l.length) w, Calls Try.prog 21 #[iv l[k]] w fun e w' => e = .returned (iv l[k]) ∧ Below w.heap.size w w') := Lib.hid (fun k h => own_any l[k] (hz _ (List.getElem_mem h)))
  obtain ⟨o, c, rfl⟩ := hs.form
  have HNL : Hid (Ow 33 (w.alloc (.cells #[.slice o l.length c] 26)) w.heap.size (.slice none 0 0) (l.take 0)) := Lib.hid (Ow.nil _ _ _)
  clear hs hz
  go_enter Try.func18, Try.ntmps18
  go_wp2
  go_loopw [3, 5, 9] (fun x _ y wz => ∃ k : Nat, k ≤ l.length ∧ y = .int .i64 k ∧ Hid (Ow 33 wz w.heap.size x (l.take k)) ∧ Hid (Below w.heap.size w wz)) (fun _ _ y _ => l.length - (intOf y).toNat)
  case atStart => exact ⟨0, by omega, rfl, HNL, HB0⟩
  case round =>
    obtain ⟨k, hk, rfl, HO, HB⟩ := hrel
    by_cases hlt : k < l.length
    · obtain ⟨o1, c1, b, off, he, ho, hc⟩ := (HC.out wr HB.out).cells
      cases he
      obtain rfl := ho (by omega)
      obtain ⟨h0, h1⟩ := hc k hlt
      have K := Lib.hid (K21.out k hlt)
      have HT : Hid (l.take k ++ [l[k]] = l.take (k + 1)) := Lib.hid (by rw [List.take_append_getElem])
      have HLE : Hid ((l.take k).length + 1 ≤ 3000000) := Lib.hid (by rw [List.length_take]; omega)
      have HX := Lib.hid (Bx.new 33 wr (.int .u64 (l[k].t : Int)) (.string l[k].s))
      have HBx := Lib.hid (HB.out.trans ((alloc_below wr (.cells #[.int .u64 (l[k].t : Int), .string l[k].s] 33)).mono HB.out.size))
      have HOx := Lib.hid (HO.out.later (alloc_below wr (.cells #[.int .u64 (l[k].t : Int), .string l[k].s] 33)))
      have q1 : (k : Int) < (l.length : Int) := by omega
      have HS1 : Hid (∀ W : World, Sl (W.alloc (.cells #[.int .u64 (l[k].t : Int), .string l[k].s] 33)) (.slice (some ⟨W.heap.size, 0, none⟩) 1 1) [l[k]]) := Lib.hid (fun W => sl_one W l[k] 33)
      clear hc ho
      generalize l[k] = x at *
      obtain ⟨t, s⟩ := x
      unfold iv at K
      dsimp only at *
      go_wp2_with (first
        | (go_at_call 21; ((with_reducible refine (K.out _).mono ?_); rintro e w3 ⟨rfl, hb3⟩; have HB3 := Lib.hid (HBx.out.trans (hb3.mono HBx.out.size)); have HO3 := Lib.hid (HOx.out.later hb3); have HB4 := Lib.hid (HB3.out.trans ((alloc_below w3 (.cells #[.int .u64 (t : Int), .string s] 33)).mono HB3.out.size)); have HO4 := Lib.hid (HO3.out.later (alloc_below w3 (.cells #[.int .u64 (t : Int), .string s] 33))); clear hb3))
        | (at_builtin; go_must (refine wpList_append_its _ rfl (.tmp 13) (.tmp 16) (Or.inl ⟨rfl, rfl⟩) rfl w.heap.size _ _ (l.take k) [⟨t, s⟩] rfl HO4.out rfl (HS1.out _) HB4.out.size HLE.out ?_); intro v6 w6 ho6 hb6; have HO6 := Lib.hid ho6; have HB6 := Lib.hid (HB4.out.trans hb6); clear ho6 hb6))
      go_roundw
      case rel => exact ⟨k + 1, by omega, by go_num, by rw [← HT.out]; exact HO6, HB6⟩
      case measure => simp [intOf]; omega
    · have hk3 : k = l.length := by omega
      subst hk3
      go_wp2
      go_ret
      have h1 := HO.out.sl
      have h2 := HO.out.fr
      rw [List.take_length] at h1
      obtain ⟨o, c, h⟩ := h1.form
      subst h
      exact ⟨⟨_, _, _, rfl, h1, h2⟩, HB.out⟩

end Go.Proofs.Ytcoadbagjlcagaa
