/- SpinTurns: the document's own Next. -/
import Derived.Test.YtbnopmkfmggliaaL10
set_option linter.unusedVariables false
set_option linter.unusedSimpArgs false
namespace Go.Proofs.Ytbnopmkfmggliaa
open Go.RowKit
open Fl

theorem wp_irow {w : World} {o : Oper} {a : Act} {K : Act → World → Prop} {Q : Exit → Act → World → Prop} (s x : Operand)
    (ho : o.op = .call { callee := .builtin .append, args := #[s, x], argTypes := #[22, 22] })
    (g : Nat) (ρ : Option Nat) (oo : Option Addr) (cap : Nat) (xs : List Int) (hR : IRow ρ oo cap xs w) (q : Nat) (hq : q = xs.length) (hn : q + 1 ≤ 1000000000) (ad : Addr) (n : Int) (hnew : w.cell? (ad.add 0) = some (.int .i64 n))
    (hs : a.eval s = .slice oo q cap) (hx : a.eval x = .slice (some ad) 1 1)
    (h : ∀ o' cap' w' ρ', IRow ρ' o' cap' (xs ++ [n]) w' → Nxt ρ ρ' w → Chg g ρ w w' → K (a.put o.dst (.slice o' (q + 1) cap')) w') : o.wp Try.prog a w K Q := by
  subst hq
  obtain ⟨o', cap', w', ρ', hr, h2, h3, h4⟩ := irow_append g o.type w ρ oo cap xs hR hn ad n hnew
  unfold Oper.wp execOp
  simp only [ho, resolve, invoke, builtin, Sem.run_bind, Sem.run_pure, Result.andThen_ok, List.map_toArray, List.map_cons, List.map_nil, hs, hx, hr]
  exact h o' cap' w' ρ' h2 h3 h4
theorem IRow.set {ρ : Option Nat} {o : Option Addr} {cap : Nat} {xs : List Int} {w : World} (h : IRow ρ o cap xs w) (r : Nat) (hr : ρ = some r) (j : Nat) (a : Int) : IRow ρ o cap (xs.set j a) (w.setCell ⟨r, j, none⟩ (.int .i64 a)) := by
  rcases h with ⟨_, _, h0, _⟩ | ⟨q, cur, h1, h2, h4, h5, h6, h7, h8⟩
  · rw [h0] at hr; cases hr
  · rw [h1] at hr; cases hr
    refine Or.inr ⟨r, _, h1, h2, heap_setCell_same w r j cur 3 (.int .i64 a) h4, by simpa using h5, h6, by simpa using h7, ?_⟩
    rw [List.length_set, Array.toList_setIfInBounds, List.take_set, h8, List.map_set]
    rfl
theorem hls_set (f : Nat → Int) (n j : Nat) (a : Int) : (hls f n).set j a = hls (upd f j a) n := by
  apply List.ext_getElem
  · simp [hls_len]
  · intro i h1 h2
    rw [hls_get, List.getElem_set]
    unfold upd
    by_cases e : j = i
    · rw [if_pos e, if_pos e.symm]
    · rw [if_neg e, if_neg (fun h => e h.symm), hls_get]
theorem IRow.at {ρ : Option Nat} {o : Option Addr} {cap n : Nat} {f : Nat → Int} {w : World} (h : IRow ρ o cap (hls f n) w) (j : Nat) (hj : j < n) : ∃ r, ρ = some r ∧ o = some ⟨r, 0, none⟩ ∧ w.cell? ⟨r, j, none⟩ = some (.int .i64 (f j)) := by
  obtain ⟨r, h1, h2, h3⟩ := h.cell j (by rw [hls_len]; exact hj)
  rw [hls_get] at h3
  exact ⟨r, h1, h2, h3⟩

set_option maxRecDepth 1000000 in
set_option maxHeartbeats 8000000 in
theorem rnext_any (h u : Nat → Int) (n : Nat) (l : List Int) (at0 : Option Addr) (cap b off : Nat) (w : World) (HP : NxP w h u n l at0 b off) (ρ1 ρ2 : Option Nat) (o1 o2 : Option Addr) (c1 c2 : Nat) (h1 : IRow ρ1 o1 c1 (hls h n) w) (h2 : IRow ρ2 o2 c2 (hls u n) w) :
    Calls Try.prog 13 #[.agg #[.slice o1 n c1, .slice o2 n c2], .slice at0 l.length cap] w fun e w' => RfR w w' (nH (upL l) h u n) u n (cI (tC (upL l) h u n)) e := by
  obtain ⟨dn, hdn⟩ : ∃ dn, dn = l.length := ⟨_, rfl⟩
  have KH : Hid (∀ wz x, Below w.heap.size w wz → Calls Try.prog 24 #[.slice at0 dn cap, .int .i64 (x : Nat)] wz fun e w' => e = .returned (.bool (!upL l x)) ∧ wz = w') := Lib.hid (fun wz x hb => by
    have := has_any l (x : Int) at0 cap b off HP.hl wz (fun hp => (HP.ha hp).1) (HP.hc.later hb (fun hp => (HP.ha hp).2))
    rw [hdn]
    unfold upL
    rw [Bool.not_not]
    exact this)
  have HROW := Lib.hid (And.intro h1 h2)
  have HUB := Lib.hid HP.hu
  have HHB := Lib.hid HP.hh
  have hn8 := HP.hn
  have HR : Hid (∀ e w', RfR w w' (nH (upL l) h u n) u n (cI (tC (upL l) h u n)) e → RfR w w' (nH (upL l) h u n) u n (cI (tC (upL l) h u n)) e) := Lib.hid (fun _ _ h => h)
  rw [← hdn]
  obtain ⟨up, hup⟩ : ∃ up, upL l = up := ⟨_, rfl⟩
  rw [hup] at KH HR ⊢
  generalize hRR : RfR w = R at *
  have HRR := Lib.hid hRR
  clear HP h1 h2 hdn hup HR hRR
  go_enter Try.func13, Try.ntmps13
  go_upto_region 2 with fail
  have HBX : Hid (BxR (((w.alloc (.cells #[.slice o1 n c1, .slice o2 n c2] 33)).alloc (.cells #[.slice none 0 0, .slice none 0 0] 33)).alloc (.cells #[.slice none 0 0, .slice none 0 0] 33)) (w.heap.size + 2) none none none none 0 0 [] []) := Lib.hid (by
    have := box33 ((w.alloc (.cells #[.slice o1 n c1, .slice o2 n c2] 33)).alloc (.cells #[.slice none 0 0, .slice none 0 0] 33))
    rw [show ((w.alloc (.cells #[.slice o1 n c1, .slice o2 n c2] 33)).alloc (.cells #[.slice none 0 0, .slice none 0 0] 33)).heap.size = w.heap.size + 2 by simp] at this
    exact this)
  have HS : Hid ((((w.alloc (.cells #[.slice o1 n c1, .slice o2 n c2] 33)).alloc (.cells #[.slice none 0 0, .slice none 0 0] 33)).alloc (.cells #[.slice none 0 0, .slice none 0 0] 33)).heap[w.heap.size]? = some (.cells #[.slice o1 n c1, .slice o2 n c2] 33 (0, 0)) ∧ (((w.alloc (.cells #[.slice o1 n c1, .slice o2 n c2] 33)).alloc (.cells #[.slice none 0 0, .slice none 0 0] 33)).alloc (.cells #[.slice none 0 0, .slice none 0 0] 33)).heap[w.heap.size + 1]? = some (.cells #[.slice none 0 0, .slice none 0 0] 33 (0, 0)) ∧ Below w.heap.size w (((w.alloc (.cells #[.slice o1 n c1, .slice o2 n c2] 33)).alloc (.cells #[.slice none 0 0, .slice none 0 0] 33)).alloc (.cells #[.slice none 0 0, .slice none 0 0] 33))) := Lib.hid (by
    have a1 := heap_alloc_new w (.cells #[.slice o1 n c1, .slice o2 n c2] 33)
    have b1 := alloc_below w (.cells #[.slice o1 n c1, .slice o2 n c2] 33)
    have a2 := heap_alloc_new (w.alloc (.cells #[.slice o1 n c1, .slice o2 n c2] 33)) (.cells #[.slice none 0 0, .slice none 0 0] 33)
    have b2 := alloc_below (w.alloc (.cells #[.slice o1 n c1, .slice o2 n c2] 33)) (.cells #[.slice none 0 0, .slice none 0 0] 33)
    have b3 := alloc_below ((w.alloc (.cells #[.slice o1 n c1, .slice o2 n c2] 33)).alloc (.cells #[.slice none 0 0, .slice none 0 0] 33)) (.cells #[.slice none 0 0, .slice none 0 0] 33)
    have e1 : (w.alloc (.cells #[.slice o1 n c1, .slice o2 n c2] 33)).heap.size = w.heap.size + 1 := by simp
    have a2' := (b3.block _ (lt_of_heap a2)).trans a2
    rw [e1] at a2'
    have a1' := (b2.block _ (lt_of_heap a1)).trans a1
    exact ⟨(b3.block _ (lt_of_heap a1')).trans a1', a2', b1.trans ((b2.mono b1.size).trans (b3.mono (by simp; omega)))⟩)
  generalize ((w.alloc (.cells #[.slice o1 n c1, .slice o2 n c2] 33)).alloc (.cells #[.slice none 0 0, .slice none 0 0] 33)).alloc (.cells #[.slice none 0 0, .slice none 0 0] 33) = w4 at *
  have HG : Hid (∃ g6, g6 = w.heap.size + 2) := Lib.hid ⟨_, rfl⟩
  obtain ⟨g6, hg6⟩ := HG.out
  rw [← hg6] at HBX ⊢
  have HG6 := Lib.hid hg6
  clear HG hg6
  go_upto_region 3 with fail
  obtain ⟨⟨s0, s1⟩, _⟩ := two_cells HS.out.1
  go_wp2
  clear s0 s1
  go_loopw [8, 9, 10, 15] (fun sm _ _ i wr => ∃ (k : Nat) (ρa ρb : Option Nat) (oa ob : Option Addr) (ca cb : Nat), k ≤ n ∧ i = .int .i64 (k : Int) ∧ sm = .int .i64 (tS up u k) ∧ Hid (NyE w4 wr g6 ρa ρb oa ob ca cb (hls (tH up h u n) k) (hls u k))) (fun _ _ _ i _ => n - (intOf i).toNat)
  case atStart => exact ⟨0, none, none, none, none, 0, 0, by omega, rfl, rfl, Lib.hid ⟨HBX.out, Below.refl _ _, fun r h => (by cases h), fun r h => (by cases h)⟩⟩
  case round =>
    obtain ⟨k, ρa, ρb, oa, ob, ca, cb, hk, rfl, rfl, HM⟩ := hrel
    clear HBX
    have HZR : Hid (wr.heap[w.heap.size]? = some (.cells #[.slice o1 n c1, .slice o2 n c2] 33 (0, 0)) ∧ wr.heap[w.heap.size + 1]? = some (.cells #[.slice none 0 0, .slice none 0 0] 33 (0, 0)) ∧ Below w.heap.size w wr) := Lib.hid ⟨(HM.out.B.block _ (by have := HG6.out; omega)).trans HS.out.1, (HM.out.B.block _ (by have := HG6.out; omega)).trans HS.out.2.1, HS.out.2.2.trans (HM.out.B.mono (by have := HG6.out; omega))⟩
    by_cases hlt : k < n
    · have hkn : (k : Int) < (n : Int) := by omega
      have hx := HHB.out k
      have hy := HUB.out k
      have hsb := tS_bound (up := up) (u := u) (n := n) (fun i _ => HUB.out i) k hk
      obtain ⟨r1, hr1, rfl, q1⟩ := (HROW.out.1.later HZR.out.2.2).at k hlt
      obtain ⟨r2, hr2, rfl, q2⟩ := (HROW.out.2.later HZR.out.2.2).at k hlt
      obtain ⟨⟨s0, s1⟩, _⟩ := two_cells HZR.out.1
      have K24 := Lib.hid (KH.out wr k HZR.out.2.2)
      have eH : tH up h u n k = if up k = true then h k + u k else h k := by
        unfold tH
        by_cases e : up k = true
        · rw [if_pos ⟨hlt, e⟩, if_pos e]
        · rw [if_neg (fun h => e h.2), if_neg e]
      have eS : tS up u (k + 1) = if up k = true then tS up u k + u k else tS up u k := rfl
      obtain ⟨t, ht⟩ : ∃ t, tH up h u n k = t := ⟨_, rfl⟩
      have HT := Lib.hid ht
      rw [ht] at eH
      clear ht
      obtain ⟨sm2, hsm2⟩ : ∃ sm2, tS up u (k + 1) = sm2 := ⟨_, rfl⟩
      have HS2 := Lib.hid hsm2
      rw [hsm2] at eS
      clear hsm2
      obtain ⟨x, hxe⟩ : ∃ x, h k = x := ⟨_, rfl⟩
      obtain ⟨y, hye⟩ : ∃ y, u k = y := ⟨_, rfl⟩
      have HYE := Lib.hid hye
      rw [hxe] at eH hx q1
      rw [hye] at eH eS hy q2
      generalize tS up u k = sm at *
      clear hxe hye hr1 hr2
      cases hu : up k with
      | true =>
        rw [hu] at K24 eH eS
        rw [if_pos rfl] at eH eS
        clear hu
        have HEH := Lib.hid eH
        have HES := Lib.hid eS
        clear eH eS
        go_upto_region 10 with (first
          | (go_at_call 24; ((with_reducible refine (K24.out).mono ?_); rintro z w5 ⟨rfl, rfl⟩)))
        rw [← HEH.out, ← HES.out]
        obtain ⟨⟨a0, a1⟩, f0, f1⟩ := two_cells (HM.out.box (hls_len _ _) (hls_len _ _))
        have HB1 := Lib.hid (HM.out.later (alloc_below wr (.cells #[.int .i64 t] 3)))
        clear s0 s1 q1 q2 K24
        go_upto_region 11 with (first
          | (at_builtin; refine wpList_irow (w := wr.alloc (.cells #[.int .i64 t] 3)) (.tmp 42) (.tmp 44) rfl rfl (wr.alloc (.cells #[.int .i64 t] 3)).heap.size ρa oa ca (hls (tH up h u n) k) HB1.out.X.r1 k (by rw [hls_len]) (by omega) ⟨wr.heap.size, 0, none⟩ t (int_new wr t) rfl rfl ?_; intro o3 c3 w5 ρ3 hI hN hC; have HI := Lib.hid hI; have HNX := Lib.hid hN; have HCH := Lib.hid hC; clear hI hN hC a0 a1 f0 f1; obtain ⟨⟨a0, a1⟩, f0, f1⟩ := two_cells (HB1.out.boxC1 (hls_len _ _) (hls_len _ _) HCH.out)))
        have HB4 : Hid (NyE w4 (w5.setCell ⟨g6, 0, none⟩ (.slice o3 (k + 1) c3)) g6 ρ3 ρb o3 ob c3 cb (hls (tH up h u n) k ++ [t]) (hls u k)) := Lib.hid (by
          have := HB1.out.put1 HI.out HNX.out HCH.out
          rw [hls_len] at this
          exact this)
        clear a0 a1 f0 f1 HB1 HI HNX HCH HM HZR
        generalize w5.setCell ⟨g6, 0, none⟩ (.slice o3 (k + 1) c3) = w6 at *
        clear w5
        have HLZ : Hid ((hls (tH up h u n) k ++ [t]).length = k + 1) := Lib.hid (by rw [List.length_append, hls_len]; rfl)
        have HB5 : Hid (NyE w4 w6.drew g6 ρ3 ρb o3 ob c3 cb (hls (tH up h u n) k ++ [t]) (hls u k)) := Lib.hid (HB4.out.later (Below.refl _ _).drew)
        clear HB4
        obtain ⟨⟨a0, a1⟩, f0, f1⟩ := two_cells (HB5.out.box HLZ.out (hls_len _ _))
        have hzs : w6.drew.heap[w.heap.size]? = some (.cells #[.slice (some ⟨r1, 0, none⟩) n c1, .slice (some ⟨r2, 0, none⟩) n c2] 33 (0, 0)) := (HB5.out.B.block _ (by have := HG6.out; omega)).trans HS.out.1
        obtain ⟨⟨s0, s1⟩, _⟩ := two_cells hzs
        have hbz : Below w.heap.size w w6.drew := HS.out.2.2.trans (HB5.out.B.mono (by have := HG6.out; omega))
        obtain ⟨r3, _, hr3, q2⟩ := (HROW.out.2.later hbz).at k hlt
        rw [HYE.out] at q2
        injection hr3 with hr3
        injection hr3 with hr4
        subst hr4
        clear hzs hbz
        clear HROW
        refine wp_region_held_drew (S := fun _ => True) (by kernel_rfl) trivial (fun hHeld => ?_)
        generalize w6.drew = wc0 at *
        refine wpAnyH_take (i := 0) (oi := ⟨some 47, _, _, _, _, _⟩) (v := ?_) rfl (by kernel_rfl) (by kernel_rfl) (by kernel_rfl) (fun _ _ _ h => h) (Or.inl ⟨by rfl, by (intro w hSw; (try dsimp only at hSw); go_simp; try with_reducible rfl)⟩) hHeld ?_
        try simp only [Act.put, List.setIfInBounds_toArray, List.set_cons_zero, List.set_cons_succ]
        refine wpAnyH_take (i := 2) (oi := ⟨some 49, _, _, _, _, _⟩) (v := ?_) rfl (by kernel_rfl) (by kernel_rfl) (by kernel_rfl) (fun _ _ _ h => h) (Or.inl ⟨by rfl, by (intro w hSw; (try dsimp only at hSw); go_simp; try with_reducible rfl)⟩) hHeld ?_
        try simp only [Act.put, List.setIfInBounds_toArray, List.set_cons_zero, List.set_cons_succ]
        refine wpAnyH_take (i := 4) (oi := ⟨some 51, _, _, _, _, _⟩) (v := ?_) rfl (by kernel_rfl) (by kernel_rfl) (by kernel_rfl) (fun _ _ _ h => h) (Or.inl ⟨by rfl, by (intro w hSw; (try dsimp only at hSw); go_simp; try with_reducible rfl)⟩) hHeld ?_
        try simp only [Act.put, List.setIfInBounds_toArray, List.set_cons_zero, List.set_cons_succ]
        refine wpAnyH_ready (rs := [1, 3]) (by kernel_rfl) (by simp) ?_
        refine AllReadyH.cons (o := ⟨some 48, _, _, _, _, _⟩) rfl (fun K hK => ?_) ?_
        · go_simp
          refine hK.out _ _ trivial (fun hHeld2 => ?_)
          clear hK K hHeld
          have hHeld := hHeld2
          clear hHeld2
          try simp only [Act.put, List.setIfInBounds_toArray, List.set_cons_zero, List.set_cons_succ]
          refine wpAnyH_ready (rs := [3]) (by kernel_rfl) (by simp) ?_
          refine AllReadyH.cons (o := ⟨some 50, _, _, _, _, _⟩) rfl (fun K hK => ?_) ?_
          · go_simp
            refine hK.out _ _ trivial (fun hHeld2 => ?_)
            clear hK K hHeld
            have hHeld := hHeld2
            clear hHeld2
            try simp only [Act.put, List.setIfInBounds_toArray, List.set_cons_zero, List.set_cons_succ]
            refine wpAnyH_take (i := 5) (oi := ⟨some 52, _, _, _, _, _⟩) (v := ?_) rfl (by kernel_rfl) (by kernel_rfl) (by kernel_rfl) (fun _ _ _ h => h) (Or.inl ⟨by rfl, by (intro w hSw; (try dsimp only at hSw); go_simp; try with_reducible rfl)⟩) hHeld ?_
            try simp only [Act.put, List.setIfInBounds_toArray, List.set_cons_zero, List.set_cons_succ]
            refine wpAnyH_ready (rs := [6]) (by kernel_rfl) (by simp) ?_
            refine AllReadyH.cons (o := ⟨some 53, _, _, _, _, _⟩) rfl (fun K hK => ?_) ?_
            · go_simp
              refine hK.out _ _ trivial (fun hHeld2 => ?_)
              clear hK K hHeld
              have hHeld := hHeld2
              clear hHeld2
              try simp only [Act.put, List.setIfInBounds_toArray, List.set_cons_zero, List.set_cons_succ]
              refine wpAnyH_ready (rs := [7]) (by kernel_rfl) (by simp) ?_
              refine AllReadyH.cons (o := ⟨some 54, _, _, _, _, _⟩) rfl (fun K hK => ?_) ?_
              · go_simp
                have HB6 := Lib.hid (HB5.out.later (alloc_below wc0 (.cells #[.int .i64 y] 3)))
                clear a0 a1 f0 f1
                obtain ⟨⟨a0, a1⟩, f0, f1⟩ := two_cells (HB6.out.box HLZ.out (hls_len _ _))
                refine hK.out _ _ trivial (fun hHeld2 => ?_)
                clear hK K hHeld
                have hHeld := hHeld2
                clear hHeld2
                try simp only [Act.put, List.setIfInBounds_toArray, List.set_cons_zero, List.set_cons_succ]
                refine wpAnyH_ready (rs := [8]) (by kernel_rfl) (by simp) ?_
                refine AllReadyH.cons (o := ⟨some 55, _, _, _, _, _⟩) rfl (fun K hK => ?_) ?_
                · refine wp_irow (w := wc0.alloc (.cells #[.int .i64 y] 3)) (.tmp 48) (.tmp 54) rfl (wc0.alloc (.cells #[.int .i64 y] 3)).heap.size ρb ob cb (hls u k) HB6.out.X.r2 k (by rw [hls_len]) (by omega) ⟨wc0.heap.size, 0, none⟩ y (int_new wc0 y) rfl rfl ?_
                  intro o4 c4 w7 ρ4 hI hN hC
                  have HI := Lib.hid hI
                  have HNX := Lib.hid hN
                  have HCH := Lib.hid hC
                  clear hI hN hC a0 a1 f0 f1
                  obtain ⟨⟨a0, a1⟩, f0, f1⟩ := two_cells (HB6.out.boxC2 HLZ.out (hls_len _ _) HCH.out)
                  refine hK.out _ _ trivial (fun hHeld2 => ?_)
                  clear hK K hHeld
                  have hHeld := hHeld2
                  clear hHeld2
                  try simp only [Act.put, List.setIfInBounds_toArray, List.set_cons_zero, List.set_cons_succ]
                  refine wpAnyH_take (i := 9) (oi := ⟨some 56, _, _, _, _, _⟩) (v := ?_) rfl (by kernel_rfl) (by kernel_rfl) (by kernel_rfl) (fun _ _ _ h => h) (Or.inl ⟨by rfl, by (intro w hSw; (try dsimp only at hSw); go_simp; try with_reducible rfl)⟩) hHeld ?_
                  try simp only [Act.put, List.setIfInBounds_toArray, List.set_cons_zero, List.set_cons_succ]
                  refine wpAnyH_ready (rs := [10]) (by kernel_rfl) (by simp) ?_
                  refine AllReadyH.cons (o := ⟨none, _, _, _, _, _⟩) rfl (fun K hK => ?_) ?_
                  · go_simp
                    refine hK.out _ _ trivial (fun hHeld2 => ?_)
                    clear hK K hHeld
                    have hHeld := hHeld2
                    clear hHeld2
                    try simp only [Act.put, List.setIfInBounds_toArray, List.set_cons_zero, List.set_cons_succ]
                    refine wpAnyH_done (by kernel_rfl) ?_ _
                    simp only [Exit.inBlock, Exit.then]
                    apply_assumption
                    have HB7 : Hid (NyE w4 (w7.setCell ⟨g6, 1, none⟩ (.slice o4 (k + 1) c4)) g6 ρ3 ρ4 o3 o4 c3 c4 (hls (tH up h u n) (k + 1)) (hls u (k + 1))) := Lib.hid (by
                      have := HB6.out.put2 HI.out HNX.out HCH.out
                      rw [hls_len] at this
                      rw [hls_step, hls_step, HT.out, HYE.out]
                      exact this)
                    clear a0 a1 f0 f1 HB6 HB5 HI HNX HCH
                    generalize w7.setCell ⟨g6, 1, none⟩ (.slice o4 (k + 1) c4) = w8 at *
                    go_wp2
                    exact ⟨⟨k + 1, ρ3, ρ4, o3, o4, c3, c4, by omega, by go_num, by rw [HS2.out], HB7⟩, by simp [intOf]; omega⟩
                  · exact AllReadyH.nil
                · exact AllReadyH.nil
              · exact AllReadyH.nil
            · exact AllReadyH.nil
          · exact AllReadyH.nil
        · refine AllReadyH.cons (o := ⟨some 50, _, _, _, _, _⟩) rfl (fun K hK => ?_) ?_
          · go_simp
            refine hK.out _ _ trivial (fun hHeld2 => ?_)
            clear hK K hHeld
            have hHeld := hHeld2
            clear hHeld2
            try simp only [Act.put, List.setIfInBounds_toArray, List.set_cons_zero, List.set_cons_succ]
            refine wpAnyH_take (i := 5) (oi := ⟨some 52, _, _, _, _, _⟩) (v := ?_) rfl (by kernel_rfl) (by kernel_rfl) (by kernel_rfl) (fun _ _ _ h => h) (Or.inl ⟨by rfl, by (intro w hSw; (try dsimp only at hSw); go_simp; try with_reducible rfl)⟩) hHeld ?_
            try simp only [Act.put, List.setIfInBounds_toArray, List.set_cons_zero, List.set_cons_succ]
            refine wpAnyH_ready (rs := [1, 6]) (by kernel_rfl) (by simp) ?_
            refine AllReadyH.cons (o := ⟨some 48, _, _, _, _, _⟩) rfl (fun K hK => ?_) ?_
            · go_simp
              refine hK.out _ _ trivial (fun hHeld2 => ?_)
              clear hK K hHeld
              have hHeld := hHeld2
              clear hHeld2
              try simp only [Act.put, List.setIfInBounds_toArray, List.set_cons_zero, List.set_cons_succ]
              refine wpAnyH_ready (rs := [6]) (by kernel_rfl) (by simp) ?_
              refine AllReadyH.cons (o := ⟨some 53, _, _, _, _, _⟩) rfl (fun K hK => ?_) ?_
              · go_simp
                refine hK.out _ _ trivial (fun hHeld2 => ?_)
                clear hK K hHeld
                have hHeld := hHeld2
                clear hHeld2
                try simp only [Act.put, List.setIfInBounds_toArray, List.set_cons_zero, List.set_cons_succ]
                refine wpAnyH_ready (rs := [7]) (by kernel_rfl) (by simp) ?_
                refine AllReadyH.cons (o := ⟨some 54, _, _, _, _, _⟩) rfl (fun K hK => ?_) ?_
                · go_simp
                  have HB6 := Lib.hid (HB5.out.later (alloc_below wc0 (.cells #[.int .i64 y] 3)))
                  clear a0 a1 f0 f1
                  obtain ⟨⟨a0, a1⟩, f0, f1⟩ := two_cells (HB6.out.box HLZ.out (hls_len _ _))
                  refine hK.out _ _ trivial (fun hHeld2 => ?_)
                  clear hK K hHeld
                  have hHeld := hHeld2
                  clear hHeld2
                  try simp only [Act.put, List.setIfInBounds_toArray, List.set_cons_zero, List.set_cons_succ]
                  refine wpAnyH_ready (rs := [8]) (by kernel_rfl) (by simp) ?_
                  refine AllReadyH.cons (o := ⟨some 55, _, _, _, _, _⟩) rfl (fun K hK => ?_) ?_
                  · refine wp_irow (w := wc0.alloc (.cells #[.int .i64 y] 3)) (.tmp 48) (.tmp 54) rfl (wc0.alloc (.cells #[.int .i64 y] 3)).heap.size ρb ob cb (hls u k) HB6.out.X.r2 k (by rw [hls_len]) (by omega) ⟨wc0.heap.size, 0, none⟩ y (int_new wc0 y) rfl rfl ?_
                    intro o4 c4 w7 ρ4 hI hN hC
                    have HI := Lib.hid hI
                    have HNX := Lib.hid hN
                    have HCH := Lib.hid hC
                    clear hI hN hC a0 a1 f0 f1
                    obtain ⟨⟨a0, a1⟩, f0, f1⟩ := two_cells (HB6.out.boxC2 HLZ.out (hls_len _ _) HCH.out)
                    refine hK.out _ _ trivial (fun hHeld2 => ?_)
                    clear hK K hHeld
                    have hHeld := hHeld2
                    clear hHeld2
                    try simp only [Act.put, List.setIfInBounds_toArray, List.set_cons_zero, List.set_cons_succ]
                    refine wpAnyH_take (i := 9) (oi := ⟨some 56, _, _, _, _, _⟩) (v := ?_) rfl (by kernel_rfl) (by kernel_rfl) (by kernel_rfl) (fun _ _ _ h => h) (Or.inl ⟨by rfl, by (intro w hSw; (try dsimp only at hSw); go_simp; try with_reducible rfl)⟩) hHeld ?_
                    try simp only [Act.put, List.setIfInBounds_toArray, List.set_cons_zero, List.set_cons_succ]
                    refine wpAnyH_ready (rs := [10]) (by kernel_rfl) (by simp) ?_
                    refine AllReadyH.cons (o := ⟨none, _, _, _, _, _⟩) rfl (fun K hK => ?_) ?_
                    · go_simp
                      refine hK.out _ _ trivial (fun hHeld2 => ?_)
                      clear hK K hHeld
                      have hHeld := hHeld2
                      clear hHeld2
                      try simp only [Act.put, List.setIfInBounds_toArray, List.set_cons_zero, List.set_cons_succ]
                      refine wpAnyH_done (by kernel_rfl) ?_ _
                      simp only [Exit.inBlock, Exit.then]
                      apply_assumption
                      have HB7 : Hid (NyE w4 (w7.setCell ⟨g6, 1, none⟩ (.slice o4 (k + 1) c4)) g6 ρ3 ρ4 o3 o4 c3 c4 (hls (tH up h u n) (k + 1)) (hls u (k + 1))) := Lib.hid (by
                        have := HB6.out.put2 HI.out HNX.out HCH.out
                        rw [hls_len] at this
                        rw [hls_step, hls_step, HT.out, HYE.out]
                        exact this)
                      clear a0 a1 f0 f1 HB6 HB5 HI HNX HCH
                      generalize w7.setCell ⟨g6, 1, none⟩ (.slice o4 (k + 1) c4) = w8 at *
                      go_wp2
                      exact ⟨⟨k + 1, ρ3, ρ4, o3, o4, c3, c4, by omega, by go_num, by rw [HS2.out], HB7⟩, by simp [intOf]; omega⟩
                    · exact AllReadyH.nil
                  · exact AllReadyH.nil
                · exact AllReadyH.nil
              · exact AllReadyH.nil
            · refine AllReadyH.cons (o := ⟨some 53, _, _, _, _, _⟩) rfl (fun K hK => ?_) ?_
              · go_simp
                refine hK.out _ _ trivial (fun hHeld2 => ?_)
                clear hK K hHeld
                have hHeld := hHeld2
                clear hHeld2
                try simp only [Act.put, List.setIfInBounds_toArray, List.set_cons_zero, List.set_cons_succ]
                refine wpAnyH_ready (rs := [1, 7]) (by kernel_rfl) (by simp) ?_
                refine AllReadyH.cons (o := ⟨some 48, _, _, _, _, _⟩) rfl (fun K hK => ?_) ?_
                · go_simp
                  refine hK.out _ _ trivial (fun hHeld2 => ?_)
                  clear hK K hHeld
                  have hHeld := hHeld2
                  clear hHeld2
                  try simp only [Act.put, List.setIfInBounds_toArray, List.set_cons_zero, List.set_cons_succ]
                  refine wpAnyH_ready (rs := [7]) (by kernel_rfl) (by simp) ?_
                  refine AllReadyH.cons (o := ⟨some 54, _, _, _, _, _⟩) rfl (fun K hK => ?_) ?_
                  · go_simp
                    have HB6 := Lib.hid (HB5.out.later (alloc_below wc0 (.cells #[.int .i64 y] 3)))
                    clear a0 a1 f0 f1
                    obtain ⟨⟨a0, a1⟩, f0, f1⟩ := two_cells (HB6.out.box HLZ.out (hls_len _ _))
                    refine hK.out _ _ trivial (fun hHeld2 => ?_)
                    clear hK K hHeld
                    have hHeld := hHeld2
                    clear hHeld2
                    try simp only [Act.put, List.setIfInBounds_toArray, List.set_cons_zero, List.set_cons_succ]
                    refine wpAnyH_ready (rs := [8]) (by kernel_rfl) (by simp) ?_
                    refine AllReadyH.cons (o := ⟨some 55, _, _, _, _, _⟩) rfl (fun K hK => ?_) ?_
                    · refine wp_irow (w := wc0.alloc (.cells #[.int .i64 y] 3)) (.tmp 48) (.tmp 54) rfl (wc0.alloc (.cells #[.int .i64 y] 3)).heap.size ρb ob cb (hls u k) HB6.out.X.r2 k (by rw [hls_len]) (by omega) ⟨wc0.heap.size, 0, none⟩ y (int_new wc0 y) rfl rfl ?_
                      intro o4 c4 w7 ρ4 hI hN hC
                      have HI := Lib.hid hI
                      have HNX := Lib.hid hN
                      have HCH := Lib.hid hC
                      clear hI hN hC a0 a1 f0 f1
                      obtain ⟨⟨a0, a1⟩, f0, f1⟩ := two_cells (HB6.out.boxC2 HLZ.out (hls_len _ _) HCH.out)
                      refine hK.out _ _ trivial (fun hHeld2 => ?_)
                      clear hK K hHeld
                      have hHeld := hHeld2
                      clear hHeld2
                      try simp only [Act.put, List.setIfInBounds_toArray, List.set_cons_zero, List.set_cons_succ]
                      refine wpAnyH_take (i := 9) (oi := ⟨some 56, _, _, _, _, _⟩) (v := ?_) rfl (by kernel_rfl) (by kernel_rfl) (by kernel_rfl) (fun _ _ _ h => h) (Or.inl ⟨by rfl, by (intro w hSw; (try dsimp only at hSw); go_simp; try with_reducible rfl)⟩) hHeld ?_
                      try simp only [Act.put, List.setIfInBounds_toArray, List.set_cons_zero, List.set_cons_succ]
                      refine wpAnyH_ready (rs := [10]) (by kernel_rfl) (by simp) ?_
                      refine AllReadyH.cons (o := ⟨none, _, _, _, _, _⟩) rfl (fun K hK => ?_) ?_
                      · go_simp
                        refine hK.out _ _ trivial (fun hHeld2 => ?_)
                        clear hK K hHeld
                        have hHeld := hHeld2
                        clear hHeld2
                        try simp only [Act.put, List.setIfInBounds_toArray, List.set_cons_zero, List.set_cons_succ]
                        refine wpAnyH_done (by kernel_rfl) ?_ _
                        simp only [Exit.inBlock, Exit.then]
                        apply_assumption
                        have HB7 : Hid (NyE w4 (w7.setCell ⟨g6, 1, none⟩ (.slice o4 (k + 1) c4)) g6 ρ3 ρ4 o3 o4 c3 c4 (hls (tH up h u n) (k + 1)) (hls u (k + 1))) := Lib.hid (by
                          have := HB6.out.put2 HI.out HNX.out HCH.out
                          rw [hls_len] at this
                          rw [hls_step, hls_step, HT.out, HYE.out]
                          exact this)
                        clear a0 a1 f0 f1 HB6 HB5 HI HNX HCH
                        generalize w7.setCell ⟨g6, 1, none⟩ (.slice o4 (k + 1) c4) = w8 at *
                        go_wp2
                        exact ⟨⟨k + 1, ρ3, ρ4, o3, o4, c3, c4, by omega, by go_num, by rw [HS2.out], HB7⟩, by simp [intOf]; omega⟩
                      · exact AllReadyH.nil
                    · exact AllReadyH.nil
                  · exact AllReadyH.nil
                · refine AllReadyH.cons (o := ⟨some 54, _, _, _, _, _⟩) rfl (fun K hK => ?_) ?_
                  · go_simp
                    have HB6 := Lib.hid (HB5.out.later (alloc_below wc0 (.cells #[.int .i64 y] 3)))
                    clear a0 a1 f0 f1
                    obtain ⟨⟨a0, a1⟩, f0, f1⟩ := two_cells (HB6.out.box HLZ.out (hls_len _ _))
                    refine hK.out _ _ trivial (fun hHeld2 => ?_)
                    clear hK K hHeld
                    have hHeld := hHeld2
                    clear hHeld2
                    try simp only [Act.put, List.setIfInBounds_toArray, List.set_cons_zero, List.set_cons_succ]
                    refine wpAnyH_ready (rs := [1]) (by kernel_rfl) (by simp) ?_
                    refine AllReadyH.cons (o := ⟨some 48, _, _, _, _, _⟩) rfl (fun K hK => ?_) ?_
                    · go_simp
                      refine hK.out _ _ trivial (fun hHeld2 => ?_)
                      clear hK K hHeld
                      have hHeld := hHeld2
                      clear hHeld2
                      try simp only [Act.put, List.setIfInBounds_toArray, List.set_cons_zero, List.set_cons_succ]
                      refine wpAnyH_ready (rs := [8]) (by kernel_rfl) (by simp) ?_
                      refine AllReadyH.cons (o := ⟨some 55, _, _, _, _, _⟩) rfl (fun K hK => ?_) ?_
                      · refine wp_irow (w := wc0.alloc (.cells #[.int .i64 y] 3)) (.tmp 48) (.tmp 54) rfl (wc0.alloc (.cells #[.int .i64 y] 3)).heap.size ρb ob cb (hls u k) HB6.out.X.r2 k (by rw [hls_len]) (by omega) ⟨wc0.heap.size, 0, none⟩ y (int_new wc0 y) rfl rfl ?_
                        intro o4 c4 w7 ρ4 hI hN hC
                        have HI := Lib.hid hI
                        have HNX := Lib.hid hN
                        have HCH := Lib.hid hC
                        clear hI hN hC a0 a1 f0 f1
                        obtain ⟨⟨a0, a1⟩, f0, f1⟩ := two_cells (HB6.out.boxC2 HLZ.out (hls_len _ _) HCH.out)
                        refine hK.out _ _ trivial (fun hHeld2 => ?_)
                        clear hK K hHeld
                        have hHeld := hHeld2
                        clear hHeld2
                        try simp only [Act.put, List.setIfInBounds_toArray, List.set_cons_zero, List.set_cons_succ]
                        refine wpAnyH_take (i := 9) (oi := ⟨some 56, _, _, _, _, _⟩) (v := ?_) rfl (by kernel_rfl) (by kernel_rfl) (by kernel_rfl) (fun _ _ _ h => h) (Or.inl ⟨by rfl, by (intro w hSw; (try dsimp only at hSw); go_simp; try with_reducible rfl)⟩) hHeld ?_
                        try simp only [Act.put, List.setIfInBounds_toArray, List.set_cons_zero, List.set_cons_succ]
                        refine wpAnyH_ready (rs := [10]) (by kernel_rfl) (by simp) ?_
                        refine AllReadyH.cons (o := ⟨none, _, _, _, _, _⟩) rfl (fun K hK => ?_) ?_
                        · go_simp
                          refine hK.out _ _ trivial (fun hHeld2 => ?_)
                          clear hK K hHeld
                          have hHeld := hHeld2
                          clear hHeld2
                          try simp only [Act.put, List.setIfInBounds_toArray, List.set_cons_zero, List.set_cons_succ]
                          refine wpAnyH_done (by kernel_rfl) ?_ _
                          simp only [Exit.inBlock, Exit.then]
                          apply_assumption
                          have HB7 : Hid (NyE w4 (w7.setCell ⟨g6, 1, none⟩ (.slice o4 (k + 1) c4)) g6 ρ3 ρ4 o3 o4 c3 c4 (hls (tH up h u n) (k + 1)) (hls u (k + 1))) := Lib.hid (by
                            have := HB6.out.put2 HI.out HNX.out HCH.out
                            rw [hls_len] at this
                            rw [hls_step, hls_step, HT.out, HYE.out]
                            exact this)
                          clear a0 a1 f0 f1 HB6 HB5 HI HNX HCH
                          generalize w7.setCell ⟨g6, 1, none⟩ (.slice o4 (k + 1) c4) = w8 at *
                          go_wp2
                          exact ⟨⟨k + 1, ρ3, ρ4, o3, o4, c3, c4, by omega, by go_num, by rw [HS2.out], HB7⟩, by simp [intOf]; omega⟩
                        · exact AllReadyH.nil
                      · exact AllReadyH.nil
                    · exact AllReadyH.nil
                  · exact AllReadyH.nil
              · exact AllReadyH.nil
          · exact AllReadyH.nil
      | false =>
        rw [hu] at K24 eH eS
        rw [if_neg (by decide)] at eH eS
        clear hu
        have HEH := Lib.hid eH
        have HES := Lib.hid eS
        clear eH eS
        go_upto_region 10 with (first
          | (go_at_call 24; ((with_reducible refine (K24.out).mono ?_); rintro z w5 ⟨rfl, rfl⟩)))
        rw [← HEH.out, ← HES.out]
        obtain ⟨⟨a0, a1⟩, f0, f1⟩ := two_cells (HM.out.box (hls_len _ _) (hls_len _ _))
        have HB1 := Lib.hid (HM.out.later (alloc_below wr (.cells #[.int .i64 t] 3)))
        clear s0 s1 q1 q2 K24
        go_upto_region 11 with (first
          | (at_builtin; refine wpList_irow (w := wr.alloc (.cells #[.int .i64 t] 3)) (.tmp 42) (.tmp 44) rfl rfl (wr.alloc (.cells #[.int .i64 t] 3)).heap.size ρa oa ca (hls (tH up h u n) k) HB1.out.X.r1 k (by rw [hls_len]) (by omega) ⟨wr.heap.size, 0, none⟩ t (int_new wr t) rfl rfl ?_; intro o3 c3 w5 ρ3 hI hN hC; have HI := Lib.hid hI; have HNX := Lib.hid hN; have HCH := Lib.hid hC; clear hI hN hC a0 a1 f0 f1; obtain ⟨⟨a0, a1⟩, f0, f1⟩ := two_cells (HB1.out.boxC1 (hls_len _ _) (hls_len _ _) HCH.out)))
        have HB4 : Hid (NyE w4 (w5.setCell ⟨g6, 0, none⟩ (.slice o3 (k + 1) c3)) g6 ρ3 ρb o3 ob c3 cb (hls (tH up h u n) k ++ [t]) (hls u k)) := Lib.hid (by
          have := HB1.out.put1 HI.out HNX.out HCH.out
          rw [hls_len] at this
          exact this)
        clear a0 a1 f0 f1 HB1 HI HNX HCH HM HZR
        generalize w5.setCell ⟨g6, 0, none⟩ (.slice o3 (k + 1) c3) = w6 at *
        clear w5
        have HLZ : Hid ((hls (tH up h u n) k ++ [t]).length = k + 1) := Lib.hid (by rw [List.length_append, hls_len]; rfl)
        have HB5 : Hid (NyE w4 w6.drew g6 ρ3 ρb o3 ob c3 cb (hls (tH up h u n) k ++ [t]) (hls u k)) := Lib.hid (HB4.out.later (Below.refl _ _).drew)
        clear HB4
        obtain ⟨⟨a0, a1⟩, f0, f1⟩ := two_cells (HB5.out.box HLZ.out (hls_len _ _))
        have hzs : w6.drew.heap[w.heap.size]? = some (.cells #[.slice (some ⟨r1, 0, none⟩) n c1, .slice (some ⟨r2, 0, none⟩) n c2] 33 (0, 0)) := (HB5.out.B.block _ (by have := HG6.out; omega)).trans HS.out.1
        obtain ⟨⟨s0, s1⟩, _⟩ := two_cells hzs
        have hbz : Below w.heap.size w w6.drew := HS.out.2.2.trans (HB5.out.B.mono (by have := HG6.out; omega))
        obtain ⟨r3, _, hr3, q2⟩ := (HROW.out.2.later hbz).at k hlt
        rw [HYE.out] at q2
        injection hr3 with hr3
        injection hr3 with hr4
        subst hr4
        clear hzs hbz
        clear HROW
        refine wp_region_held_drew (S := fun _ => True) (by kernel_rfl) trivial (fun hHeld => ?_)
        generalize w6.drew = wc0 at *
        refine wpAnyH_take (i := 0) (oi := ⟨some 47, _, _, _, _, _⟩) (v := ?_) rfl (by kernel_rfl) (by kernel_rfl) (by kernel_rfl) (fun _ _ _ h => h) (Or.inl ⟨by rfl, by (intro w hSw; (try dsimp only at hSw); go_simp; try with_reducible rfl)⟩) hHeld ?_
        try simp only [Act.put, List.setIfInBounds_toArray, List.set_cons_zero, List.set_cons_succ]
        refine wpAnyH_take (i := 2) (oi := ⟨some 49, _, _, _, _, _⟩) (v := ?_) rfl (by kernel_rfl) (by kernel_rfl) (by kernel_rfl) (fun _ _ _ h => h) (Or.inl ⟨by rfl, by (intro w hSw; (try dsimp only at hSw); go_simp; try with_reducible rfl)⟩) hHeld ?_
        try simp only [Act.put, List.setIfInBounds_toArray, List.set_cons_zero, List.set_cons_succ]
        refine wpAnyH_take (i := 4) (oi := ⟨some 51, _, _, _, _, _⟩) (v := ?_) rfl (by kernel_rfl) (by kernel_rfl) (by kernel_rfl) (fun _ _ _ h => h) (Or.inl ⟨by rfl, by (intro w hSw; (try dsimp only at hSw); go_simp; try with_reducible rfl)⟩) hHeld ?_
        try simp only [Act.put, List.setIfInBounds_toArray, List.set_cons_zero, List.set_cons_succ]
        refine wpAnyH_ready (rs := [1, 3]) (by kernel_rfl) (by simp) ?_
        refine AllReadyH.cons (o := ⟨some 48, _, _, _, _, _⟩) rfl (fun K hK => ?_) ?_
        · go_simp
          refine hK.out _ _ trivial (fun hHeld2 => ?_)
          clear hK K hHeld
          have hHeld := hHeld2
          clear hHeld2
          try simp only [Act.put, List.setIfInBounds_toArray, List.set_cons_zero, List.set_cons_succ]
          refine wpAnyH_ready (rs := [3]) (by kernel_rfl) (by simp) ?_
          refine AllReadyH.cons (o := ⟨some 50, _, _, _, _, _⟩) rfl (fun K hK => ?_) ?_
          · go_simp
            refine hK.out _ _ trivial (fun hHeld2 => ?_)
            clear hK K hHeld
            have hHeld := hHeld2
            clear hHeld2
            try simp only [Act.put, List.setIfInBounds_toArray, List.set_cons_zero, List.set_cons_succ]
            refine wpAnyH_take (i := 5) (oi := ⟨some 52, _, _, _, _, _⟩) (v := ?_) rfl (by kernel_rfl) (by kernel_rfl) (by kernel_rfl) (fun _ _ _ h => h) (Or.inl ⟨by rfl, by (intro w hSw; (try dsimp only at hSw); go_simp; try with_reducible rfl)⟩) hHeld ?_
            try simp only [Act.put, List.setIfInBounds_toArray, List.set_cons_zero, List.set_cons_succ]
            refine wpAnyH_ready (rs := [6]) (by kernel_rfl) (by simp) ?_
            refine AllReadyH.cons (o := ⟨some 53, _, _, _, _, _⟩) rfl (fun K hK => ?_) ?_
            · go_simp
              refine hK.out _ _ trivial (fun hHeld2 => ?_)
              clear hK K hHeld
              have hHeld := hHeld2
              clear hHeld2
              try simp only [Act.put, List.setIfInBounds_toArray, List.set_cons_zero, List.set_cons_succ]
              refine wpAnyH_ready (rs := [7]) (by kernel_rfl) (by simp) ?_
              refine AllReadyH.cons (o := ⟨some 54, _, _, _, _, _⟩) rfl (fun K hK => ?_) ?_
              · go_simp
                have HB6 := Lib.hid (HB5.out.later (alloc_below wc0 (.cells #[.int .i64 y] 3)))
                clear a0 a1 f0 f1
                obtain ⟨⟨a0, a1⟩, f0, f1⟩ := two_cells (HB6.out.box HLZ.out (hls_len _ _))
                refine hK.out _ _ trivial (fun hHeld2 => ?_)
                clear hK K hHeld
                have hHeld := hHeld2
                clear hHeld2
                try simp only [Act.put, List.setIfInBounds_toArray, List.set_cons_zero, List.set_cons_succ]
                refine wpAnyH_ready (rs := [8]) (by kernel_rfl) (by simp) ?_
                refine AllReadyH.cons (o := ⟨some 55, _, _, _, _, _⟩) rfl (fun K hK => ?_) ?_
                · refine wp_irow (w := wc0.alloc (.cells #[.int .i64 y] 3)) (.tmp 48) (.tmp 54) rfl (wc0.alloc (.cells #[.int .i64 y] 3)).heap.size ρb ob cb (hls u k) HB6.out.X.r2 k (by rw [hls_len]) (by omega) ⟨wc0.heap.size, 0, none⟩ y (int_new wc0 y) rfl rfl ?_
                  intro o4 c4 w7 ρ4 hI hN hC
                  have HI := Lib.hid hI
                  have HNX := Lib.hid hN
                  have HCH := Lib.hid hC
                  clear hI hN hC a0 a1 f0 f1
                  obtain ⟨⟨a0, a1⟩, f0, f1⟩ := two_cells (HB6.out.boxC2 HLZ.out (hls_len _ _) HCH.out)
                  refine hK.out _ _ trivial (fun hHeld2 => ?_)
                  clear hK K hHeld
                  have hHeld := hHeld2
                  clear hHeld2
                  try simp only [Act.put, List.setIfInBounds_toArray, List.set_cons_zero, List.set_cons_succ]
                  refine wpAnyH_take (i := 9) (oi := ⟨some 56, _, _, _, _, _⟩) (v := ?_) rfl (by kernel_rfl) (by kernel_rfl) (by kernel_rfl) (fun _ _ _ h => h) (Or.inl ⟨by rfl, by (intro w hSw; (try dsimp only at hSw); go_simp; try with_reducible rfl)⟩) hHeld ?_
                  try simp only [Act.put, List.setIfInBounds_toArray, List.set_cons_zero, List.set_cons_succ]
                  refine wpAnyH_ready (rs := [10]) (by kernel_rfl) (by simp) ?_
                  refine AllReadyH.cons (o := ⟨none, _, _, _, _, _⟩) rfl (fun K hK => ?_) ?_
                  · go_simp
                    refine hK.out _ _ trivial (fun hHeld2 => ?_)
                    clear hK K hHeld
                    have hHeld := hHeld2
                    clear hHeld2
                    try simp only [Act.put, List.setIfInBounds_toArray, List.set_cons_zero, List.set_cons_succ]
                    refine wpAnyH_done (by kernel_rfl) ?_ _
                    simp only [Exit.inBlock, Exit.then]
                    apply_assumption
                    have HB7 : Hid (NyE w4 (w7.setCell ⟨g6, 1, none⟩ (.slice o4 (k + 1) c4)) g6 ρ3 ρ4 o3 o4 c3 c4 (hls (tH up h u n) (k + 1)) (hls u (k + 1))) := Lib.hid (by
                      have := HB6.out.put2 HI.out HNX.out HCH.out
                      rw [hls_len] at this
                      rw [hls_step, hls_step, HT.out, HYE.out]
                      exact this)
                    clear a0 a1 f0 f1 HB6 HB5 HI HNX HCH
                    generalize w7.setCell ⟨g6, 1, none⟩ (.slice o4 (k + 1) c4) = w8 at *
                    go_wp2
                    exact ⟨⟨k + 1, ρ3, ρ4, o3, o4, c3, c4, by omega, by go_num, by rw [HS2.out], HB7⟩, by simp [intOf]; omega⟩
                  · exact AllReadyH.nil
                · exact AllReadyH.nil
              · exact AllReadyH.nil
            · exact AllReadyH.nil
          · exact AllReadyH.nil
        · refine AllReadyH.cons (o := ⟨some 50, _, _, _, _, _⟩) rfl (fun K hK => ?_) ?_
          · go_simp
            refine hK.out _ _ trivial (fun hHeld2 => ?_)
            clear hK K hHeld
            have hHeld := hHeld2
            clear hHeld2
            try simp only [Act.put, List.setIfInBounds_toArray, List.set_cons_zero, List.set_cons_succ]
            refine wpAnyH_take (i := 5) (oi := ⟨some 52, _, _, _, _, _⟩) (v := ?_) rfl (by kernel_rfl) (by kernel_rfl) (by kernel_rfl) (fun _ _ _ h => h) (Or.inl ⟨by rfl, by (intro w hSw; (try dsimp only at hSw); go_simp; try with_reducible rfl)⟩) hHeld ?_
            try simp only [Act.put, List.setIfInBounds_toArray, List.set_cons_zero, List.set_cons_succ]
            refine wpAnyH_ready (rs := [1, 6]) (by kernel_rfl) (by simp) ?_
            refine AllReadyH.cons (o := ⟨some 48, _, _, _, _, _⟩) rfl (fun K hK => ?_) ?_
            · go_simp
              refine hK.out _ _ trivial (fun hHeld2 => ?_)
              clear hK K hHeld
              have hHeld := hHeld2
              clear hHeld2
              try simp only [Act.put, List.setIfInBounds_toArray, List.set_cons_zero, List.set_cons_succ]
              refine wpAnyH_ready (rs := [6]) (by kernel_rfl) (by simp) ?_
              refine AllReadyH.cons (o := ⟨some 53, _, _, _, _, _⟩) rfl (fun K hK => ?_) ?_
              · go_simp
                refine hK.out _ _ trivial (fun hHeld2 => ?_)
                clear hK K hHeld
                have hHeld := hHeld2
                clear hHeld2
                try simp only [Act.put, List.setIfInBounds_toArray, List.set_cons_zero, List.set_cons_succ]
                refine wpAnyH_ready (rs := [7]) (by kernel_rfl) (by simp) ?_
                refine AllReadyH.cons (o := ⟨some 54, _, _, _, _, _⟩) rfl (fun K hK => ?_) ?_
                · go_simp
                  have HB6 := Lib.hid (HB5.out.later (alloc_below wc0 (.cells #[.int .i64 y] 3)))
                  clear a0 a1 f0 f1
                  obtain ⟨⟨a0, a1⟩, f0, f1⟩ := two_cells (HB6.out.box HLZ.out (hls_len _ _))
                  refine hK.out _ _ trivial (fun hHeld2 => ?_)
                  clear hK K hHeld
                  have hHeld := hHeld2
                  clear hHeld2
                  try simp only [Act.put, List.setIfInBounds_toArray, List.set_cons_zero, List.set_cons_succ]
                  refine wpAnyH_ready (rs := [8]) (by kernel_rfl) (by simp) ?_
                  refine AllReadyH.cons (o := ⟨some 55, _, _, _, _, _⟩) rfl (fun K hK => ?_) ?_
                  · refine wp_irow (w := wc0.alloc (.cells #[.int .i64 y] 3)) (.tmp 48) (.tmp 54) rfl (wc0.alloc (.cells #[.int .i64 y] 3)).heap.size ρb ob cb (hls u k) HB6.out.X.r2 k (by rw [hls_len]) (by omega) ⟨wc0.heap.size, 0, none⟩ y (int_new wc0 y) rfl rfl ?_
                    intro o4 c4 w7 ρ4 hI hN hC
                    have HI := Lib.hid hI
                    have HNX := Lib.hid hN
                    have HCH := Lib.hid hC
                    clear hI hN hC a0 a1 f0 f1
                    obtain ⟨⟨a0, a1⟩, f0, f1⟩ := two_cells (HB6.out.boxC2 HLZ.out (hls_len _ _) HCH.out)
                    refine hK.out _ _ trivial (fun hHeld2 => ?_)
                    clear hK K hHeld
                    have hHeld := hHeld2
                    clear hHeld2
                    try simp only [Act.put, List.setIfInBounds_toArray, List.set_cons_zero, List.set_cons_succ]
                    refine wpAnyH_take (i := 9) (oi := ⟨some 56, _, _, _, _, _⟩) (v := ?_) rfl (by kernel_rfl) (by kernel_rfl) (by kernel_rfl) (fun _ _ _ h => h) (Or.inl ⟨by rfl, by (intro w hSw; (try dsimp only at hSw); go_simp; try with_reducible rfl)⟩) hHeld ?_
                    try simp only [Act.put, List.setIfInBounds_toArray, List.set_cons_zero, List.set_cons_succ]
                    refine wpAnyH_ready (rs := [10]) (by kernel_rfl) (by simp) ?_
                    refine AllReadyH.cons (o := ⟨none, _, _, _, _, _⟩) rfl (fun K hK => ?_) ?_
                    · go_simp
                      refine hK.out _ _ trivial (fun hHeld2 => ?_)
                      clear hK K hHeld
                      have hHeld := hHeld2
                      clear hHeld2
                      try simp only [Act.put, List.setIfInBounds_toArray, List.set_cons_zero, List.set_cons_succ]
                      refine wpAnyH_done (by kernel_rfl) ?_ _
                      simp only [Exit.inBlock, Exit.then]
                      apply_assumption
                      have HB7 : Hid (NyE w4 (w7.setCell ⟨g6, 1, none⟩ (.slice o4 (k + 1) c4)) g6 ρ3 ρ4 o3 o4 c3 c4 (hls (tH up h u n) (k + 1)) (hls u (k + 1))) := Lib.hid (by
                        have := HB6.out.put2 HI.out HNX.out HCH.out
                        rw [hls_len] at this
                        rw [hls_step, hls_step, HT.out, HYE.out]
                        exact this)
                      clear a0 a1 f0 f1 HB6 HB5 HI HNX HCH
                      generalize w7.setCell ⟨g6, 1, none⟩ (.slice o4 (k + 1) c4) = w8 at *
                      go_wp2
                      exact ⟨⟨k + 1, ρ3, ρ4, o3, o4, c3, c4, by omega, by go_num, by rw [HS2.out], HB7⟩, by simp [intOf]; omega⟩
                    · exact AllReadyH.nil
                  · exact AllReadyH.nil
                · exact AllReadyH.nil
              · exact AllReadyH.nil
            · refine AllReadyH.cons (o := ⟨some 53, _, _, _, _, _⟩) rfl (fun K hK => ?_) ?_
              · go_simp
                refine hK.out _ _ trivial (fun hHeld2 => ?_)
                clear hK K hHeld
                have hHeld := hHeld2
                clear hHeld2
                try simp only [Act.put, List.setIfInBounds_toArray, List.set_cons_zero, List.set_cons_succ]
                refine wpAnyH_ready (rs := [1, 7]) (by kernel_rfl) (by simp) ?_
                refine AllReadyH.cons (o := ⟨some 48, _, _, _, _, _⟩) rfl (fun K hK => ?_) ?_
                · go_simp
                  refine hK.out _ _ trivial (fun hHeld2 => ?_)
                  clear hK K hHeld
                  have hHeld := hHeld2
                  clear hHeld2
                  try simp only [Act.put, List.setIfInBounds_toArray, List.set_cons_zero, List.set_cons_succ]
                  refine wpAnyH_ready (rs := [7]) (by kernel_rfl) (by simp) ?_
                  refine AllReadyH.cons (o := ⟨some 54, _, _, _, _, _⟩) rfl (fun K hK => ?_) ?_
                  · go_simp
                    have HB6 := Lib.hid (HB5.out.later (alloc_below wc0 (.cells #[.int .i64 y] 3)))
                    clear a0 a1 f0 f1
                    obtain ⟨⟨a0, a1⟩, f0, f1⟩ := two_cells (HB6.out.box HLZ.out (hls_len _ _))
                    refine hK.out _ _ trivial (fun hHeld2 => ?_)
                    clear hK K hHeld
                    have hHeld := hHeld2
                    clear hHeld2
                    try simp only [Act.put, List.setIfInBounds_toArray, List.set_cons_zero, List.set_cons_succ]
                    refine wpAnyH_ready (rs := [8]) (by kernel_rfl) (by simp) ?_
                    refine AllReadyH.cons (o := ⟨some 55, _, _, _, _, _⟩) rfl (fun K hK => ?_) ?_
                    · refine wp_irow (w := wc0.alloc (.cells #[.int .i64 y] 3)) (.tmp 48) (.tmp 54) rfl (wc0.alloc (.cells #[.int .i64 y] 3)).heap.size ρb ob cb (hls u k) HB6.out.X.r2 k (by rw [hls_len]) (by omega) ⟨wc0.heap.size, 0, none⟩ y (int_new wc0 y) rfl rfl ?_
                      intro o4 c4 w7 ρ4 hI hN hC
                      have HI := Lib.hid hI
                      have HNX := Lib.hid hN
                      have HCH := Lib.hid hC
                      clear hI hN hC a0 a1 f0 f1
                      obtain ⟨⟨a0, a1⟩, f0, f1⟩ := two_cells (HB6.out.boxC2 HLZ.out (hls_len _ _) HCH.out)
                      refine hK.out _ _ trivial (fun hHeld2 => ?_)
                      clear hK K hHeld
                      have hHeld := hHeld2
                      clear hHeld2
                      try simp only [Act.put, List.setIfInBounds_toArray, List.set_cons_zero, List.set_cons_succ]
                      refine wpAnyH_take (i := 9) (oi := ⟨some 56, _, _, _, _, _⟩) (v := ?_) rfl (by kernel_rfl) (by kernel_rfl) (by kernel_rfl) (fun _ _ _ h => h) (Or.inl ⟨by rfl, by (intro w hSw; (try dsimp only at hSw); go_simp; try with_reducible rfl)⟩) hHeld ?_
                      try simp only [Act.put, List.setIfInBounds_toArray, List.set_cons_zero, List.set_cons_succ]
                      refine wpAnyH_ready (rs := [10]) (by kernel_rfl) (by simp) ?_
                      refine AllReadyH.cons (o := ⟨none, _, _, _, _, _⟩) rfl (fun K hK => ?_) ?_
                      · go_simp
                        refine hK.out _ _ trivial (fun hHeld2 => ?_)
                        clear hK K hHeld
                        have hHeld := hHeld2
                        clear hHeld2
                        try simp only [Act.put, List.setIfInBounds_toArray, List.set_cons_zero, List.set_cons_succ]
                        refine wpAnyH_done (by kernel_rfl) ?_ _
                        simp only [Exit.inBlock, Exit.then]
                        apply_assumption
                        have HB7 : Hid (NyE w4 (w7.setCell ⟨g6, 1, none⟩ (.slice o4 (k + 1) c4)) g6 ρ3 ρ4 o3 o4 c3 c4 (hls (tH up h u n) (k + 1)) (hls u (k + 1))) := Lib.hid (by
                          have := HB6.out.put2 HI.out HNX.out HCH.out
                          rw [hls_len] at this
                          rw [hls_step, hls_step, HT.out, HYE.out]
                          exact this)
                        clear a0 a1 f0 f1 HB6 HB5 HI HNX HCH
                        generalize w7.setCell ⟨g6, 1, none⟩ (.slice o4 (k + 1) c4) = w8 at *
                        go_wp2
                        exact ⟨⟨k + 1, ρ3, ρ4, o3, o4, c3, c4, by omega, by go_num, by rw [HS2.out], HB7⟩, by simp [intOf]; omega⟩
                      · exact AllReadyH.nil
                    · exact AllReadyH.nil
                  · exact AllReadyH.nil
                · refine AllReadyH.cons (o := ⟨some 54, _, _, _, _, _⟩) rfl (fun K hK => ?_) ?_
                  · go_simp
                    have HB6 := Lib.hid (HB5.out.later (alloc_below wc0 (.cells #[.int .i64 y] 3)))
                    clear a0 a1 f0 f1
                    obtain ⟨⟨a0, a1⟩, f0, f1⟩ := two_cells (HB6.out.box HLZ.out (hls_len _ _))
                    refine hK.out _ _ trivial (fun hHeld2 => ?_)
                    clear hK K hHeld
                    have hHeld := hHeld2
                    clear hHeld2
                    try simp only [Act.put, List.setIfInBounds_toArray, List.set_cons_zero, List.set_cons_succ]
                    refine wpAnyH_ready (rs := [1]) (by kernel_rfl) (by simp) ?_
                    refine AllReadyH.cons (o := ⟨some 48, _, _, _, _, _⟩) rfl (fun K hK => ?_) ?_
                    · go_simp
                      refine hK.out _ _ trivial (fun hHeld2 => ?_)
                      clear hK K hHeld
                      have hHeld := hHeld2
                      clear hHeld2
                      try simp only [Act.put, List.setIfInBounds_toArray, List.set_cons_zero, List.set_cons_succ]
                      refine wpAnyH_ready (rs := [8]) (by kernel_rfl) (by simp) ?_
                      refine AllReadyH.cons (o := ⟨some 55, _, _, _, _, _⟩) rfl (fun K hK => ?_) ?_
                      · refine wp_irow (w := wc0.alloc (.cells #[.int .i64 y] 3)) (.tmp 48) (.tmp 54) rfl (wc0.alloc (.cells #[.int .i64 y] 3)).heap.size ρb ob cb (hls u k) HB6.out.X.r2 k (by rw [hls_len]) (by omega) ⟨wc0.heap.size, 0, none⟩ y (int_new wc0 y) rfl rfl ?_
                        intro o4 c4 w7 ρ4 hI hN hC
                        have HI := Lib.hid hI
                        have HNX := Lib.hid hN
                        have HCH := Lib.hid hC
                        clear hI hN hC a0 a1 f0 f1
                        obtain ⟨⟨a0, a1⟩, f0, f1⟩ := two_cells (HB6.out.boxC2 HLZ.out (hls_len _ _) HCH.out)
                        refine hK.out _ _ trivial (fun hHeld2 => ?_)
                        clear hK K hHeld
                        have hHeld := hHeld2
                        clear hHeld2
                        try simp only [Act.put, List.setIfInBounds_toArray, List.set_cons_zero, List.set_cons_succ]
                        refine wpAnyH_take (i := 9) (oi := ⟨some 56, _, _, _, _, _⟩) (v := ?_) rfl (by kernel_rfl) (by kernel_rfl) (by kernel_rfl) (fun _ _ _ h => h) (Or.inl ⟨by rfl, by (intro w hSw; (try dsimp only at hSw); go_simp; try with_reducible rfl)⟩) hHeld ?_
                        try simp only [Act.put, List.setIfInBounds_toArray, List.set_cons_zero, List.set_cons_succ]
                        refine wpAnyH_ready (rs := [10]) (by kernel_rfl) (by simp) ?_
                        refine AllReadyH.cons (o := ⟨none, _, _, _, _, _⟩) rfl (fun K hK => ?_) ?_
                        · go_simp
                          refine hK.out _ _ trivial (fun hHeld2 => ?_)
                          clear hK K hHeld
                          have hHeld := hHeld2
                          clear hHeld2
                          try simp only [Act.put, List.setIfInBounds_toArray, List.set_cons_zero, List.set_cons_succ]
                          refine wpAnyH_done (by kernel_rfl) ?_ _
                          simp only [Exit.inBlock, Exit.then]
                          apply_assumption
                          have HB7 : Hid (NyE w4 (w7.setCell ⟨g6, 1, none⟩ (.slice o4 (k + 1) c4)) g6 ρ3 ρ4 o3 o4 c3 c4 (hls (tH up h u n) (k + 1)) (hls u (k + 1))) := Lib.hid (by
                            have := HB6.out.put2 HI.out HNX.out HCH.out
                            rw [hls_len] at this
                            rw [hls_step, hls_step, HT.out, HYE.out]
                            exact this)
                          clear a0 a1 f0 f1 HB6 HB5 HI HNX HCH
                          generalize w7.setCell ⟨g6, 1, none⟩ (.slice o4 (k + 1) c4) = w8 at *
                          go_wp2
                          exact ⟨⟨k + 1, ρ3, ρ4, o3, o4, c3, c4, by omega, by go_num, by rw [HS2.out], HB7⟩, by simp [intOf]; omega⟩
                        · exact AllReadyH.nil
                      · exact AllReadyH.nil
                    · exact AllReadyH.nil
                  · exact AllReadyH.nil
              · exact AllReadyH.nil
          · exact AllReadyH.nil
    · obtain rfl : n = k := by omega
      have hsb := tS_bound (up := up) (u := u) (n := n) (fun i _ => HUB.out i) n (Nat.le_refl _)
      obtain ⟨⟨a0, a1⟩, _⟩ := two_cells (HM.out.box (hls_len _ _) (hls_len _ _))
      have HTB : Hid (∀ i, -1000000200 ≤ tH up h u n i ∧ tH up h u n i ≤ 1000000200) := Lib.hid (fun i => by
        have := HHB.out i
        have := HUB.out i
        unfold tH
        split <;> omega)
      go_wp2
      clear a0 a1
      go_loopw [7, 11, 61] (fun bst _ i wz => ∃ q : Nat, q ≤ n ∧ i = .int .i64 (q : Int) ∧ bst = .int .i64 (cI (tC up h u q)) ∧ Hid (NyE w4 wz g6 ρa ρb oa ob ca cb (hls (tH up h u n) n) (hls u n))) (fun _ _ i _ => n - (intOf i).toNat)
      case atStart => exact ⟨0, by omega, rfl, rfl, HM⟩
      case round =>
        obtain ⟨q, hq, rfl, rfl, HN⟩ := hrel
        clear HM HZR
        by_cases hqn : q < n
        · have hqi : (q : Int) < (n : Int) := by omega
          have hbz : Below w.heap.size w wr := HS.out.2.2.trans (HN.out.B.mono (by have := HG6.out; omega))
          have HBZ : Hid (∀ m, Below w.heap.size w (wr.drewN m)) := Lib.hid (fun m => ⟨hbz.os, hbz.tape, hbz.output, hbz.size, hbz.block⟩)
          clear hbz
          have KHq : Hid (∀ wz, Below w.heap.size w wz → Calls Try.prog 24 #[.slice at0 dn cap, .int .i64 (q : Int)] wz fun e w' => e = .returned (.bool (!up q)) ∧ w' = wz) := Lib.hid (fun wz hb => (KH.out wz q hb).mono fun e w' ⟨h1, h2⟩ => ⟨h1, h2.symm⟩)
          obtain ⟨ra, _, hoa, cq⟩ := HN.out.X.r1.at q hqn
          obtain ⟨⟨a0, a1⟩, _⟩ := two_cells (HN.out.box (hls_len _ _) (hls_len _ _))
          have hbq := HTB.out q
          have HNQ : Hid (∀ m, NyE w4 (wr.drewN m) g6 ρa ρb oa ob ca cb (hls (tH up h u n) n) (hls u n)) := Lib.hid (fun m => HN.out.later ⟨rfl, rfl, rfl, Nat.le_refl _, fun _ _ => rfl⟩)
          cases hu : up q with
          | false =>
            rw [hu] at KHq
            have HTC : Hid (tC up h u (q + 1) = tC up h u q) := Lib.hid (by rw [tC, if_neg (by rw [hu]; decide)])
            clear hu cq
            go_upto_region 16 with fail
            go_quiet ((go_at_call 24; exact Calls.quiet_of_same (KHq.out _ (HBZ.out _))))
            simp only [Exit.inBlock, Exit.then]
            apply_assumption
            go_wp2
            exact ⟨⟨q + 1, by omega, by go_num, (by first | (rw [HTC.out]; done) | (rw [HTC.out]; rfl)), Lib.hid (HNQ.out _)⟩, by simp [intOf]; omega⟩
          | true =>
            rw [hu] at KHq
            have e1 : tH up h u n q = h q + u q := by unfold tH; rw [if_pos ⟨hqn, hu⟩]
            cases hc : tC up h u q with
            | none =>
              have HTC : Hid (tC up h u (q + 1) = some q) := Lib.hid (by rw [tC, if_pos hu, hc])
              clear hu hc e1 cq
              have hm1 : cI none = -1 := rfl
              rw [hm1]
              go_upto_region 16 with fail
              go_quiet ((go_at_call 24; exact Calls.quiet_of_same (KHq.out _ (HBZ.out _))))
              simp only [Exit.inBlock, Exit.then]
              apply_assumption
              go_wp2
              exact ⟨⟨q + 1, by omega, by go_num, (by first | (rw [HTC.out]; done) | (rw [HTC.out]; rfl)), Lib.hid (HNQ.out _)⟩, by simp [intOf]; omega⟩
            | some j =>
              have hj := tC_lt hc
              have e2 := tH_chosen hc n (by omega)
              obtain ⟨rb, hrb, hob, cj⟩ := HN.out.X.r1.at j (by omega)
              rw [hoa] at hob
              injection hob with hob
              injection hob with hob1
              subst hob1
              have hji : (j : Int) < (n : Int) := by omega
              have hj0 : decide ((j : Int) < 0) = false := by rw [decide_eq_false_iff_not]; omega
              have hmj : cI (some j) = (j : Int) := rfl
              rw [hmj]
              by_cases hl : h j + u j < h q + u q
              · have HTC : Hid (tC up h u (q + 1) = some q) := Lib.hid (by rw [tC, if_pos hu, hc]; simp only; rw [if_pos hl])
                have hcmp : decide (tH up h u n j < tH up h u n q) = true := by rw [decide_eq_true_eq, e1, e2]; exact hl
                subst hoa
                clear hu hc e1 e2 hl
                generalize tH up h u n q = y1 at *
                generalize tH up h u n j = y2 at *
                go_upto_region 16 with fail
                go_quiet ((go_at_call 24; exact Calls.quiet_of_same (KHq.out _ (HBZ.out _))))
                simp only [Exit.inBlock, Exit.then]
                apply_assumption
                go_wp2
                exact ⟨⟨q + 1, by omega, by go_num, (by first | (rw [HTC.out]; done) | (rw [HTC.out]; rfl)), Lib.hid (HNQ.out _)⟩, by simp [intOf]; omega⟩
              · have HTC : Hid (tC up h u (q + 1) = some j) := Lib.hid (by rw [tC, if_pos hu, hc]; simp only; rw [if_neg hl])
                have hcmp : decide (tH up h u n j < tH up h u n q) = false := by rw [decide_eq_false_iff_not, e1, e2]; exact hl
                subst hoa
                clear hu hc e1 e2 hl
                generalize tH up h u n q = y1 at *
                generalize tH up h u n j = y2 at *
                go_upto_region 16 with fail
                go_quiet ((go_at_call 24; exact Calls.quiet_of_same (KHq.out _ (HBZ.out _))))
                simp only [Exit.inBlock, Exit.then]
                apply_assumption
                go_wp2
                exact ⟨⟨q + 1, by omega, by go_num, (by first | (rw [HTC.out]; done) | (rw [HTC.out]; rfl)), Lib.hid (HNQ.out _)⟩, by simp [intOf]; omega⟩
        · obtain rfl : n = q := by omega
          have HZ2 : Hid (wr.heap[w.heap.size]? = some (.cells #[.slice o1 n c1, .slice o2 n c2] 33 (0, 0)) ∧ wr.heap[w.heap.size + 1]? = some (.cells #[.slice none 0 0, .slice none 0 0] 33 (0, 0)) ∧ Below w.heap.size w wr) := Lib.hid ⟨(HN.out.B.block _ (by have := HG6.out; omega)).trans HS.out.1, (HN.out.B.block _ (by have := HG6.out; omega)).trans HS.out.2.1, HS.out.2.2.trans (HN.out.B.mono (by have := HG6.out; omega))⟩
          cases hc : tC up h u n with
          | none =>
            have hm1 : cI none = -1 := rfl
            obtain ⟨⟨s0, s1⟩, _⟩ := two_cells HZ2.out.1
            obtain ⟨⟨y0, y1⟩, y2, y3⟩ := two_cells HZ2.out.2.1
            have HW9 : Hid (((wr.setCell ⟨w.heap.size + 1, 0, none⟩ (.slice o1 n c1)).setCell ⟨w.heap.size + 1, 1, none⟩ (.slice o2 n c2)).heap[w.heap.size + 1]? = some (.cells #[.slice o1 n c1, .slice o2 n c2] 33 (0, 0))) := Lib.hid (put_two HZ2.out.2.1 _ _)
            have HR9 : Hid (R ((wr.setCell ⟨w.heap.size + 1, 0, none⟩ (.slice o1 n c1)).setCell ⟨w.heap.size + 1, 1, none⟩ (.slice o2 n c2)) (nH up h u n) u n (cI (tC up h u n)) (.returned (.tuple #[.agg #[.slice o1 n c1, .slice o2 n c2], .int .i64 (-1)]))) := Lib.hid (by
              have hb : Below w.heap.size w ((wr.setCell ⟨w.heap.size + 1, 0, none⟩ (.slice o1 n c1)).setCell ⟨w.heap.size + 1, 1, none⟩ (.slice o2 n c2)) := (HZ2.out.2.2.setCell (p := ⟨w.heap.size + 1, 0, none⟩) (by simp) _).setCell (p := ⟨w.heap.size + 1, 1, none⟩) (by simp) _
              rw [← HRR.out, hc]
              refine ⟨ρ1, ρ2, o1, o2, c1, c2, rfl, ?_, HROW.out.2.later hb, hb⟩
              rw [show nH up h u n = h by unfold nH; rw [hc]]
              exact HROW.out.1.later hb)
            rw [hc] at HR9
            rw [hm1] at HR9 ⊢
            clear hm1 HN HZ2 HRR
            go_wp2
            generalize (wr.setCell ⟨w.heap.size + 1, 0, none⟩ (.slice o1 n c1)).setCell ⟨w.heap.size + 1, 1, none⟩ (.slice o2 n c2) = w9 at *
            obtain ⟨⟨z0, z1⟩, _⟩ := two_cells HW9.out
            refine bodyPost_ret (v := .tuple #[.agg #[.slice o1 n c1, .slice o2 n c2], .int .i64 (-1)]) (by simp [results, Try.results13, go_sem, z0, z1]) rfl ?_
            rw [hc]
            exact HR9.out
          | some j =>
            have hj := tC_lt hc
            have hji : (j : Int) < (n : Int) := by omega
            have hj0 : decide ((j : Int) < 0) = false := by rw [decide_eq_false_iff_not]; omega
            have e2 := tH_chosen hc n (Nat.le_refl _)
            have hbq := HTB.out j
            obtain ⟨ra, hra, hoa, cj⟩ := HN.out.X.r1.at j (by omega)
            subst hoa
            have hfr : wr.frozen? ⟨ra, j, none⟩ = false := by
              rcases HN.out.X.r1 with ⟨_, _, h0, _⟩ | ⟨q', cur, h1, _, h4, _⟩
              · rw [h0] at hra; cases hra
              · rw [h1] at hra; cases hra; exact frozen_of_row wr ra j _ _ h4
            obtain ⟨x, hx⟩ : ∃ x, tH up h u n j = x := ⟨_, rfl⟩
            have HXE := Lib.hid hx
            rw [hx] at cj hbq
            obtain ⟨sm, hsm⟩ : ∃ sm, tS up u n = sm := ⟨_, rfl⟩
            have HSM := Lib.hid hsm
            rw [hsm] at hsb ⊢
            have HE2 := Lib.hid e2
            have HC := Lib.hid hc
            have HRA := Lib.hid hra
            clear hx hsm e2 hra
            have hmj : cI (some j) = (j : Int) := rfl
            have HPOST : Hid (∀ e w', R w' (nH up h u n) u n (j : Int) e → R w' (nH up h u n) u n (cI (tC up h u n)) e) := Lib.hid (fun e w' hr => by rw [HC.out]; exact hr)
            rw [hmj]
            clear hc hmj
            go_upto_region 21 with fail
            have HN5 : Hid (NyE w4 wr.drew g6 ρa ρb (some ⟨ra, 0, none⟩) ob ca cb (hls (tH up h u n) n) (hls u n)) := Lib.hid (HN.out.later (Below.refl _ _).drew)
            have HZ5 : Hid (wr.drew.heap[w.heap.size + 1]? = some (.cells #[.slice none 0 0, .slice none 0 0] 33 (0, 0)) ∧ Below w.heap.size w wr.drew) := Lib.hid ⟨HZ2.out.2.1, HZ2.out.2.2.drew⟩
            have cj2 : wr.drew.cell? ⟨ra, j, none⟩ = some (.int .i64 x) := cj
            have fj2 : wr.drew.frozen? ⟨ra, j, none⟩ = false := hfr
            clear cj hfr HN HZ2
            obtain ⟨⟨a0, a1⟩, _⟩ := two_cells (HN5.out.box (hls_len _ _) (hls_len _ _))
            have hw : wrap64 (x - sm) = x - sm := IntWalk.wrap64_in _ (by omega)
            refine wp_region_held_drew (S := fun _ => True) (by kernel_rfl) trivial (fun hHeld => ?_)
            generalize wr.drew = wc0 at *
            refine wpAnyH_take (i := 0) (oi := ⟨some 90, _, _, _, _, _⟩) (v := ?_) rfl (by kernel_rfl) (by kernel_rfl) (by kernel_rfl) (fun _ _ _ h => h) (Or.inl ⟨by rfl, by (intro w hSw; (try dsimp only at hSw); go_simp; try with_reducible rfl)⟩) hHeld ?_
            try simp only [Act.put, List.setIfInBounds_toArray, List.set_cons_zero, List.set_cons_succ]
            refine wpAnyH_take (i := 2) (oi := ⟨some 92, _, _, _, _, _⟩) (v := ?_) rfl (by kernel_rfl) (by kernel_rfl) (by kernel_rfl) (fun _ _ _ h => h) (Or.inl ⟨by rfl, by (intro w hSw; (try dsimp only at hSw); go_simp; try with_reducible rfl)⟩) hHeld ?_
            try simp only [Act.put, List.setIfInBounds_toArray, List.set_cons_zero, List.set_cons_succ]
            refine wpAnyH_take (i := 3) (oi := ⟨some 93, _, _, _, _, _⟩) (v := ?_) rfl (by kernel_rfl) (by kernel_rfl) (by kernel_rfl) (fun _ _ _ h => h) (Or.inl ⟨by rfl, by (intro w hSw; (try dsimp only at hSw); go_simp; try with_reducible rfl)⟩) hHeld ?_
            try simp only [Act.put, List.setIfInBounds_toArray, List.set_cons_zero, List.set_cons_succ]
            refine wpAnyH_take (i := 5) (oi := ⟨some 95, _, _, _, _, _⟩) (v := ?_) rfl (by kernel_rfl) (by kernel_rfl) (by kernel_rfl) (fun _ _ _ h => h) (Or.inl ⟨by rfl, by (intro w hSw; (try dsimp only at hSw); go_simp; try with_reducible rfl)⟩) hHeld ?_
            try simp only [Act.put, List.setIfInBounds_toArray, List.set_cons_zero, List.set_cons_succ]
            refine wpAnyH_take (i := 8) (oi := ⟨some 98, _, _, _, _, _⟩) (v := ?_) rfl (by kernel_rfl) (by kernel_rfl) (by kernel_rfl) (fun _ _ _ h => h) (Or.inl ⟨by rfl, by (intro w hSw; (try dsimp only at hSw); go_simp; try with_reducible rfl)⟩) hHeld ?_
            try simp only [Act.put, List.setIfInBounds_toArray, List.set_cons_zero, List.set_cons_succ]
            refine wpAnyH_ready (rs := [1, 4]) (by kernel_rfl) (by simp) ?_
            refine AllReadyH.cons (o := ⟨some 91, _, _, _, _, _⟩) rfl (fun K hK => ?_) ?_
            · go_simp
              refine hK.out _ _ trivial (fun hHeld2 => ?_)
              clear hK K hHeld
              have hHeld := hHeld2
              clear hHeld2
              try simp only [Act.put, List.setIfInBounds_toArray, List.set_cons_zero, List.set_cons_succ]
              refine wpAnyH_ready (rs := [4]) (by kernel_rfl) (by simp) ?_
              refine AllReadyH.cons (o := ⟨some 94, _, _, _, _, _⟩) rfl (fun K hK => ?_) ?_
              · go_simp
                refine hK.out _ _ trivial (fun hHeld2 => ?_)
                clear hK K hHeld
                have hHeld := hHeld2
                clear hHeld2
                try simp only [Act.put, List.setIfInBounds_toArray, List.set_cons_zero, List.set_cons_succ]
                refine wpAnyH_take (i := 6) (oi := ⟨some 96, _, _, _, _, _⟩) (v := ?_) rfl (by kernel_rfl) (by kernel_rfl) (by kernel_rfl) (fun _ _ _ h => h) (Or.inl ⟨by rfl, by (intro w hSw; (try dsimp only at hSw); go_simp; try with_reducible rfl)⟩) hHeld ?_
                try simp only [Act.put, List.setIfInBounds_toArray, List.set_cons_zero, List.set_cons_succ]
                refine wpAnyH_ready (rs := [7]) (by kernel_rfl) (by simp) ?_
                refine AllReadyH.cons (o := ⟨some 97, _, _, _, _, _⟩) rfl (fun K hK => ?_) ?_
                · go_simp
                  refine hK.out _ _ trivial (fun hHeld2 => ?_)
                  clear hK K hHeld
                  have hHeld := hHeld2
                  clear hHeld2
                  try simp only [Act.put, List.setIfInBounds_toArray, List.set_cons_zero, List.set_cons_succ]
                  refine wpAnyH_take (i := 9) (oi := ⟨some 99, _, _, _, _, _⟩) (v := ?_) rfl (by kernel_rfl) (by kernel_rfl) (by kernel_rfl) (fun _ _ _ h => h) (Or.inl ⟨by rfl, by (intro w hSw; (try dsimp only at hSw); go_simp; try with_reducible rfl)⟩) hHeld ?_
                  try simp only [Act.put, List.setIfInBounds_toArray, List.set_cons_zero, List.set_cons_succ]
                  refine wpAnyH_take (i := 10) (oi := ⟨some 100, _, _, _, _, _⟩) (v := ?_) rfl (by kernel_rfl) (by kernel_rfl) (by kernel_rfl) (fun _ _ _ h => h) (Or.inl ⟨by rfl, by (intro w hSw; (try dsimp only at hSw); go_simp; try with_reducible rfl)⟩) hHeld ?_
                  try simp only [Act.put, List.setIfInBounds_toArray, List.set_cons_zero, List.set_cons_succ]
                  refine wpAnyH_ready (rs := [11]) (by kernel_rfl) (by simp) ?_
                  refine AllReadyH.cons (o := ⟨none, _, _, _, _, _⟩) rfl (fun K hK => ?_) ?_
                  · go_simp
                    refine hK.out _ _ trivial (fun hHeld2 => ?_)
                    clear hK K hHeld
                    have hHeld := hHeld2
                    clear hHeld2
                    try simp only [Act.put, List.setIfInBounds_toArray, List.set_cons_zero, List.set_cons_succ]
                    refine wpAnyH_done (by kernel_rfl) ?_ _
                    simp only [Exit.then]
                    apply_assumption
                    have HB8 : Hid (Below g6 w4 (wc0.setCell ⟨ra, j, none⟩ (.int .i64 (x - sm)))) := Lib.hid (HN5.out.B.setCell (HN5.out.g1 ra HRA.out) _)
                    have HX8 : Hid ((wc0.setCell ⟨ra, j, none⟩ (.int .i64 (x - sm))).heap[g6]? = some (.cells #[.slice (some ⟨ra, 0, none⟩) n ca, .slice ob n cb] 33 (0, 0))) := Lib.hid ((heap_setCell_other _ _ g6 _ (fun e => HN5.out.X.n1 (by rw [HRA.out, e]))).trans (HN5.out.box (hls_len _ _) (hls_len _ _)))
                    have HR8 : Hid (IRow ρa (some ⟨ra, 0, none⟩) ca (hls (nH up h u n) n) (wc0.setCell ⟨ra, j, none⟩ (.int .i64 (x - sm)))) := Lib.hid (by
                      have := HN5.out.X.r1.set ra HRA.out j (x - sm)
                      rw [hls_set] at this
                      rw [show nH up h u n = upd (tH up h u n) j (x - sm) by unfold nH; rw [HC.out]; simp only; rw [HSM.out, ← HE2.out, HXE.out]]
                      exact this)
                    have HR8b : Hid (IRow ρb ob cb (hls u n) (wc0.setCell ⟨ra, j, none⟩ (.int .i64 (x - sm)))) := Lib.hid (HN5.out.X.r2.keep (fun r hr => heap_setCell_other _ _ r _ (fun e => HN5.out.X.ne r (by rw [HRA.out, e]) hr)))
                    have HZ8 : Hid ((wc0.setCell ⟨ra, j, none⟩ (.int .i64 (x - sm))).heap[w.heap.size + 1]? = some (.cells #[.slice none 0 0, .slice none 0 0] 33 (0, 0)) ∧ Below w.heap.size w (wc0.setCell ⟨ra, j, none⟩ (.int .i64 (x - sm)))) := Lib.hid (by
                      have hge := HN5.out.g1 ra HRA.out
                      exact ⟨(heap_setCell_other _ _ _ _ (by have := HG6.out; show w.heap.size + 1 ≠ ra; omega)).trans HZ5.out.1, HZ5.out.2.setCell (by have := HG6.out; show w.heap.size ≤ ra; omega) _⟩)
                    have HGB : Hid ((∀ r, ρa = some r → g6 ≤ r) ∧ (∀ r, ρb = some r → g6 ≤ r)) := Lib.hid ⟨HN5.out.g1, HN5.out.g2⟩
                    rw [show IntKind.i64.wrap (x - sm) = x - sm from IntWalk.i64_in _ (by omega)]
                    clear HN5 HZ5 cj2 fj2 a0 a1 hw
                    generalize wc0.setCell ⟨ra, j, none⟩ (.int .i64 (x - sm)) = w8 at *
                    obtain ⟨⟨a0, a1⟩, _⟩ := two_cells HX8.out
                    obtain ⟨⟨y0, y1⟩, y2, y3⟩ := two_cells HZ8.out.1
                    have HW9 : Hid (((w8.setCell ⟨w.heap.size + 1, 0, none⟩ (.slice (some ⟨ra, 0, none⟩) n ca)).setCell ⟨w.heap.size + 1, 1, none⟩ (.slice ob n cb)).heap[w.heap.size + 1]? = some (.cells #[.slice (some ⟨ra, 0, none⟩) n ca, .slice ob n cb] 33 (0, 0))) := Lib.hid (put_two HZ8.out.1 _ _)
                    have HR9 : Hid (R ((w8.setCell ⟨w.heap.size + 1, 0, none⟩ (.slice (some ⟨ra, 0, none⟩) n ca)).setCell ⟨w.heap.size + 1, 1, none⟩ (.slice ob n cb)) (nH up h u n) u n (j : Int) (.returned (.tuple #[.agg #[.slice (some ⟨ra, 0, none⟩) n ca, .slice ob n cb], .int .i64 (j : Int)]))) := Lib.hid (by
                      rw [← HRR.out]
                      refine ⟨ρa, ρb, some ⟨ra, 0, none⟩, ob, ca, cb, rfl, HR8.out.keep (fun r hr => put_two_other (by have := HGB.out.1 r hr; have := HG6.out; omega)), HR8b.out.keep (fun r hr => put_two_other (by have := HGB.out.2 r hr; have := HG6.out; omega)), (HZ8.out.2.setCell (p := ⟨w.heap.size + 1, 0, none⟩) (by simp) _).setCell (p := ⟨w.heap.size + 1, 1, none⟩) (by simp) _⟩)
                    clear HR8 HR8b HZ8 HGB HX8 HB8 HRR
                    go_wp2
                    generalize (w8.setCell ⟨w.heap.size + 1, 0, none⟩ (.slice (some ⟨ra, 0, none⟩) n ca)).setCell ⟨w.heap.size + 1, 1, none⟩ (.slice ob n cb) = w9 at *
                    obtain ⟨⟨z0, z1⟩, _⟩ := two_cells HW9.out
                    first
                      | exact HPOST.out _ _ HR9.out
                      | (refine bodyPost_ret (v := .tuple #[.agg #[.slice (some ⟨ra, 0, none⟩) n ca, .slice ob n cb], .int .i64 (j : Int)]) (by simp [results, Try.results13, go_sem, z0, z1]) rfl ?_; exact HPOST.out _ _ HR9.out)
                  · exact AllReadyH.nil
                · exact AllReadyH.nil
              · exact AllReadyH.nil
            · refine AllReadyH.cons (o := ⟨some 94, _, _, _, _, _⟩) rfl (fun K hK => ?_) ?_
              · go_simp
                refine hK.out _ _ trivial (fun hHeld2 => ?_)
                clear hK K hHeld
                have hHeld := hHeld2
                clear hHeld2
                try simp only [Act.put, List.setIfInBounds_toArray, List.set_cons_zero, List.set_cons_succ]
                refine wpAnyH_take (i := 6) (oi := ⟨some 96, _, _, _, _, _⟩) (v := ?_) rfl (by kernel_rfl) (by kernel_rfl) (by kernel_rfl) (fun _ _ _ h => h) (Or.inl ⟨by rfl, by (intro w hSw; (try dsimp only at hSw); go_simp; try with_reducible rfl)⟩) hHeld ?_
                try simp only [Act.put, List.setIfInBounds_toArray, List.set_cons_zero, List.set_cons_succ]
                refine wpAnyH_ready (rs := [1, 7]) (by kernel_rfl) (by simp) ?_
                refine AllReadyH.cons (o := ⟨some 91, _, _, _, _, _⟩) rfl (fun K hK => ?_) ?_
                · go_simp
                  refine hK.out _ _ trivial (fun hHeld2 => ?_)
                  clear hK K hHeld
                  have hHeld := hHeld2
                  clear hHeld2
                  try simp only [Act.put, List.setIfInBounds_toArray, List.set_cons_zero, List.set_cons_succ]
                  refine wpAnyH_ready (rs := [7]) (by kernel_rfl) (by simp) ?_
                  refine AllReadyH.cons (o := ⟨some 97, _, _, _, _, _⟩) rfl (fun K hK => ?_) ?_
                  · go_simp
                    refine hK.out _ _ trivial (fun hHeld2 => ?_)
                    clear hK K hHeld
                    have hHeld := hHeld2
                    clear hHeld2
                    try simp only [Act.put, List.setIfInBounds_toArray, List.set_cons_zero, List.set_cons_succ]
                    refine wpAnyH_take (i := 9) (oi := ⟨some 99, _, _, _, _, _⟩) (v := ?_) rfl (by kernel_rfl) (by kernel_rfl) (by kernel_rfl) (fun _ _ _ h => h) (Or.inl ⟨by rfl, by (intro w hSw; (try dsimp only at hSw); go_simp; try with_reducible rfl)⟩) hHeld ?_
                    try simp only [Act.put, List.setIfInBounds_toArray, List.set_cons_zero, List.set_cons_succ]
                    refine wpAnyH_take (i := 10) (oi := ⟨some 100, _, _, _, _, _⟩) (v := ?_) rfl (by kernel_rfl) (by kernel_rfl) (by kernel_rfl) (fun _ _ _ h => h) (Or.inl ⟨by rfl, by (intro w hSw; (try dsimp only at hSw); go_simp; try with_reducible rfl)⟩) hHeld ?_
                    try simp only [Act.put, List.setIfInBounds_toArray, List.set_cons_zero, List.set_cons_succ]
                    refine wpAnyH_ready (rs := [11]) (by kernel_rfl) (by simp) ?_
                    refine AllReadyH.cons (o := ⟨none, _, _, _, _, _⟩) rfl (fun K hK => ?_) ?_
                    · go_simp
                      refine hK.out _ _ trivial (fun hHeld2 => ?_)
                      clear hK K hHeld
                      have hHeld := hHeld2
                      clear hHeld2
                      try simp only [Act.put, List.setIfInBounds_toArray, List.set_cons_zero, List.set_cons_succ]
                      refine wpAnyH_done (by kernel_rfl) ?_ _
                      simp only [Exit.then]
                      apply_assumption
                      have HB8 : Hid (Below g6 w4 (wc0.setCell ⟨ra, j, none⟩ (.int .i64 (x - sm)))) := Lib.hid (HN5.out.B.setCell (HN5.out.g1 ra HRA.out) _)
                      have HX8 : Hid ((wc0.setCell ⟨ra, j, none⟩ (.int .i64 (x - sm))).heap[g6]? = some (.cells #[.slice (some ⟨ra, 0, none⟩) n ca, .slice ob n cb] 33 (0, 0))) := Lib.hid ((heap_setCell_other _ _ g6 _ (fun e => HN5.out.X.n1 (by rw [HRA.out, e]))).trans (HN5.out.box (hls_len _ _) (hls_len _ _)))
                      have HR8 : Hid (IRow ρa (some ⟨ra, 0, none⟩) ca (hls (nH up h u n) n) (wc0.setCell ⟨ra, j, none⟩ (.int .i64 (x - sm)))) := Lib.hid (by
                        have := HN5.out.X.r1.set ra HRA.out j (x - sm)
                        rw [hls_set] at this
                        rw [show nH up h u n = upd (tH up h u n) j (x - sm) by unfold nH; rw [HC.out]; simp only; rw [HSM.out, ← HE2.out, HXE.out]]
                        exact this)
                      have HR8b : Hid (IRow ρb ob cb (hls u n) (wc0.setCell ⟨ra, j, none⟩ (.int .i64 (x - sm)))) := Lib.hid (HN5.out.X.r2.keep (fun r hr => heap_setCell_other _ _ r _ (fun e => HN5.out.X.ne r (by rw [HRA.out, e]) hr)))
                      have HZ8 : Hid ((wc0.setCell ⟨ra, j, none⟩ (.int .i64 (x - sm))).heap[w.heap.size + 1]? = some (.cells #[.slice none 0 0, .slice none 0 0] 33 (0, 0)) ∧ Below w.heap.size w (wc0.setCell ⟨ra, j, none⟩ (.int .i64 (x - sm)))) := Lib.hid (by
                        have hge := HN5.out.g1 ra HRA.out
                        exact ⟨(heap_setCell_other _ _ _ _ (by have := HG6.out; show w.heap.size + 1 ≠ ra; omega)).trans HZ5.out.1, HZ5.out.2.setCell (by have := HG6.out; show w.heap.size ≤ ra; omega) _⟩)
                      have HGB : Hid ((∀ r, ρa = some r → g6 ≤ r) ∧ (∀ r, ρb = some r → g6 ≤ r)) := Lib.hid ⟨HN5.out.g1, HN5.out.g2⟩
                      rw [show IntKind.i64.wrap (x - sm) = x - sm from IntWalk.i64_in _ (by omega)]
                      clear HN5 HZ5 cj2 fj2 a0 a1 hw
                      generalize wc0.setCell ⟨ra, j, none⟩ (.int .i64 (x - sm)) = w8 at *
                      obtain ⟨⟨a0, a1⟩, _⟩ := two_cells HX8.out
                      obtain ⟨⟨y0, y1⟩, y2, y3⟩ := two_cells HZ8.out.1
                      have HW9 : Hid (((w8.setCell ⟨w.heap.size + 1, 0, none⟩ (.slice (some ⟨ra, 0, none⟩) n ca)).setCell ⟨w.heap.size + 1, 1, none⟩ (.slice ob n cb)).heap[w.heap.size + 1]? = some (.cells #[.slice (some ⟨ra, 0, none⟩) n ca, .slice ob n cb] 33 (0, 0))) := Lib.hid (put_two HZ8.out.1 _ _)
                      have HR9 : Hid (R ((w8.setCell ⟨w.heap.size + 1, 0, none⟩ (.slice (some ⟨ra, 0, none⟩) n ca)).setCell ⟨w.heap.size + 1, 1, none⟩ (.slice ob n cb)) (nH up h u n) u n (j : Int) (.returned (.tuple #[.agg #[.slice (some ⟨ra, 0, none⟩) n ca, .slice ob n cb], .int .i64 (j : Int)]))) := Lib.hid (by
                        rw [← HRR.out]
                        refine ⟨ρa, ρb, some ⟨ra, 0, none⟩, ob, ca, cb, rfl, HR8.out.keep (fun r hr => put_two_other (by have := HGB.out.1 r hr; have := HG6.out; omega)), HR8b.out.keep (fun r hr => put_two_other (by have := HGB.out.2 r hr; have := HG6.out; omega)), (HZ8.out.2.setCell (p := ⟨w.heap.size + 1, 0, none⟩) (by simp) _).setCell (p := ⟨w.heap.size + 1, 1, none⟩) (by simp) _⟩)
                      clear HR8 HR8b HZ8 HGB HX8 HB8 HRR
                      go_wp2
                      generalize (w8.setCell ⟨w.heap.size + 1, 0, none⟩ (.slice (some ⟨ra, 0, none⟩) n ca)).setCell ⟨w.heap.size + 1, 1, none⟩ (.slice ob n cb) = w9 at *
                      obtain ⟨⟨z0, z1⟩, _⟩ := two_cells HW9.out
                      first
                        | exact HPOST.out _ _ HR9.out
                        | (refine bodyPost_ret (v := .tuple #[.agg #[.slice (some ⟨ra, 0, none⟩) n ca, .slice ob n cb], .int .i64 (j : Int)]) (by simp [results, Try.results13, go_sem, z0, z1]) rfl ?_; exact HPOST.out _ _ HR9.out)
                    · exact AllReadyH.nil
                  · exact AllReadyH.nil
                · refine AllReadyH.cons (o := ⟨some 97, _, _, _, _, _⟩) rfl (fun K hK => ?_) ?_
                  · go_simp
                    refine hK.out _ _ trivial (fun hHeld2 => ?_)
                    clear hK K hHeld
                    have hHeld := hHeld2
                    clear hHeld2
                    try simp only [Act.put, List.setIfInBounds_toArray, List.set_cons_zero, List.set_cons_succ]
                    refine wpAnyH_take (i := 9) (oi := ⟨some 99, _, _, _, _, _⟩) (v := ?_) rfl (by kernel_rfl) (by kernel_rfl) (by kernel_rfl) (fun _ _ _ h => h) (Or.inl ⟨by rfl, by (intro w hSw; (try dsimp only at hSw); go_simp; try with_reducible rfl)⟩) hHeld ?_
                    try simp only [Act.put, List.setIfInBounds_toArray, List.set_cons_zero, List.set_cons_succ]
                    refine wpAnyH_ready (rs := [1]) (by kernel_rfl) (by simp) ?_
                    refine AllReadyH.cons (o := ⟨some 91, _, _, _, _, _⟩) rfl (fun K hK => ?_) ?_
                    · go_simp
                      refine hK.out _ _ trivial (fun hHeld2 => ?_)
                      clear hK K hHeld
                      have hHeld := hHeld2
                      clear hHeld2
                      try simp only [Act.put, List.setIfInBounds_toArray, List.set_cons_zero, List.set_cons_succ]
                      refine wpAnyH_take (i := 10) (oi := ⟨some 100, _, _, _, _, _⟩) (v := ?_) rfl (by kernel_rfl) (by kernel_rfl) (by kernel_rfl) (fun _ _ _ h => h) (Or.inl ⟨by rfl, by (intro w hSw; (try dsimp only at hSw); go_simp; try with_reducible rfl)⟩) hHeld ?_
                      try simp only [Act.put, List.setIfInBounds_toArray, List.set_cons_zero, List.set_cons_succ]
                      refine wpAnyH_ready (rs := [11]) (by kernel_rfl) (by simp) ?_
                      refine AllReadyH.cons (o := ⟨none, _, _, _, _, _⟩) rfl (fun K hK => ?_) ?_
                      · go_simp
                        refine hK.out _ _ trivial (fun hHeld2 => ?_)
                        clear hK K hHeld
                        have hHeld := hHeld2
                        clear hHeld2
                        try simp only [Act.put, List.setIfInBounds_toArray, List.set_cons_zero, List.set_cons_succ]
                        refine wpAnyH_done (by kernel_rfl) ?_ _
                        simp only [Exit.then]
                        apply_assumption
                        have HB8 : Hid (Below g6 w4 (wc0.setCell ⟨ra, j, none⟩ (.int .i64 (x - sm)))) := Lib.hid (HN5.out.B.setCell (HN5.out.g1 ra HRA.out) _)
                        have HX8 : Hid ((wc0.setCell ⟨ra, j, none⟩ (.int .i64 (x - sm))).heap[g6]? = some (.cells #[.slice (some ⟨ra, 0, none⟩) n ca, .slice ob n cb] 33 (0, 0))) := Lib.hid ((heap_setCell_other _ _ g6 _ (fun e => HN5.out.X.n1 (by rw [HRA.out, e]))).trans (HN5.out.box (hls_len _ _) (hls_len _ _)))
                        have HR8 : Hid (IRow ρa (some ⟨ra, 0, none⟩) ca (hls (nH up h u n) n) (wc0.setCell ⟨ra, j, none⟩ (.int .i64 (x - sm)))) := Lib.hid (by
                          have := HN5.out.X.r1.set ra HRA.out j (x - sm)
                          rw [hls_set] at this
                          rw [show nH up h u n = upd (tH up h u n) j (x - sm) by unfold nH; rw [HC.out]; simp only; rw [HSM.out, ← HE2.out, HXE.out]]
                          exact this)
                        have HR8b : Hid (IRow ρb ob cb (hls u n) (wc0.setCell ⟨ra, j, none⟩ (.int .i64 (x - sm)))) := Lib.hid (HN5.out.X.r2.keep (fun r hr => heap_setCell_other _ _ r _ (fun e => HN5.out.X.ne r (by rw [HRA.out, e]) hr)))
                        have HZ8 : Hid ((wc0.setCell ⟨ra, j, none⟩ (.int .i64 (x - sm))).heap[w.heap.size + 1]? = some (.cells #[.slice none 0 0, .slice none 0 0] 33 (0, 0)) ∧ Below w.heap.size w (wc0.setCell ⟨ra, j, none⟩ (.int .i64 (x - sm)))) := Lib.hid (by
                          have hge := HN5.out.g1 ra HRA.out
                          exact ⟨(heap_setCell_other _ _ _ _ (by have := HG6.out; show w.heap.size + 1 ≠ ra; omega)).trans HZ5.out.1, HZ5.out.2.setCell (by have := HG6.out; show w.heap.size ≤ ra; omega) _⟩)
                        have HGB : Hid ((∀ r, ρa = some r → g6 ≤ r) ∧ (∀ r, ρb = some r → g6 ≤ r)) := Lib.hid ⟨HN5.out.g1, HN5.out.g2⟩
                        rw [show IntKind.i64.wrap (x - sm) = x - sm from IntWalk.i64_in _ (by omega)]
                        clear HN5 HZ5 cj2 fj2 a0 a1 hw
                        generalize wc0.setCell ⟨ra, j, none⟩ (.int .i64 (x - sm)) = w8 at *
                        obtain ⟨⟨a0, a1⟩, _⟩ := two_cells HX8.out
                        obtain ⟨⟨y0, y1⟩, y2, y3⟩ := two_cells HZ8.out.1
                        have HW9 : Hid (((w8.setCell ⟨w.heap.size + 1, 0, none⟩ (.slice (some ⟨ra, 0, none⟩) n ca)).setCell ⟨w.heap.size + 1, 1, none⟩ (.slice ob n cb)).heap[w.heap.size + 1]? = some (.cells #[.slice (some ⟨ra, 0, none⟩) n ca, .slice ob n cb] 33 (0, 0))) := Lib.hid (put_two HZ8.out.1 _ _)
                        have HR9 : Hid (R ((w8.setCell ⟨w.heap.size + 1, 0, none⟩ (.slice (some ⟨ra, 0, none⟩) n ca)).setCell ⟨w.heap.size + 1, 1, none⟩ (.slice ob n cb)) (nH up h u n) u n (j : Int) (.returned (.tuple #[.agg #[.slice (some ⟨ra, 0, none⟩) n ca, .slice ob n cb], .int .i64 (j : Int)]))) := Lib.hid (by
                          rw [← HRR.out]
                          refine ⟨ρa, ρb, some ⟨ra, 0, none⟩, ob, ca, cb, rfl, HR8.out.keep (fun r hr => put_two_other (by have := HGB.out.1 r hr; have := HG6.out; omega)), HR8b.out.keep (fun r hr => put_two_other (by have := HGB.out.2 r hr; have := HG6.out; omega)), (HZ8.out.2.setCell (p := ⟨w.heap.size + 1, 0, none⟩) (by simp) _).setCell (p := ⟨w.heap.size + 1, 1, none⟩) (by simp) _⟩)
                        clear HR8 HR8b HZ8 HGB HX8 HB8 HRR
                        go_wp2
                        generalize (w8.setCell ⟨w.heap.size + 1, 0, none⟩ (.slice (some ⟨ra, 0, none⟩) n ca)).setCell ⟨w.heap.size + 1, 1, none⟩ (.slice ob n cb) = w9 at *
                        obtain ⟨⟨z0, z1⟩, _⟩ := two_cells HW9.out
                        first
                          | exact HPOST.out _ _ HR9.out
                          | (refine bodyPost_ret (v := .tuple #[.agg #[.slice (some ⟨ra, 0, none⟩) n ca, .slice ob n cb], .int .i64 (j : Int)]) (by simp [results, Try.results13, go_sem, z0, z1]) rfl ?_; exact HPOST.out _ _ HR9.out)
                      · exact AllReadyH.nil
                    · exact AllReadyH.nil
                  · exact AllReadyH.nil
              · exact AllReadyH.nil
end Go.Proofs.Ytbnopmkfmggliaa
