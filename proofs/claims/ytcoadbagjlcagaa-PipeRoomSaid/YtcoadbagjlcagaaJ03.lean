/- DeleteFunc of any own row, Clear; the awake; the document's own Send, Drop, Clear; Is.; The document's own Send, Drop, Clear; Is.; The document's own, plainly; Is. -/
import Derived.Test.YtcoadbagjlcagaaJ02
set_option linter.unusedVariables false
set_option linter.unusedSimpArgs false
namespace Go.Proofs.Ytcoadbagjlcagaa
open Go.RowKit

theorem del_any (l : List It) (tt gx B : Nat) (v : Value) (hcap : l.length ≤ 1000000) (w : World) (ho : Ow 33 w B v l) (hBw : B ≤ w.heap.size) (hgx : gx < B) (hx : w.cell? ⟨gx, 0, none⟩ = some (.int .u64 (tt : Int))) :
    Calls Try.prog 23 #[v, .func (.func 25) #[] #[.pointer (some ⟨gx, 0, none⟩)]] w fun e w' => (∃ o n c, e = .returned (.slice o n c) ∧ Sl w' (.slice o n c) (l.filter (keep tt)) ∧ Fr B (.slice o n c)) ∧ Below B w w' := by
  by_cases hn : ∀ k (h : k < l.length), l[k].t ≠ tt
  · refine (del_none l tt gx v hcap w ho.sl hx hn).mono ?_
    rintro e w' ⟨rfl, hb⟩
    have he : l.filter (keep tt) = l := by
      rw [List.filter_eq_self]
      intro a ha
      obtain ⟨j, hj, rfl⟩ := List.getElem_of_mem ha
      simp [keep, hn j hj]
    have hs := ho.sl.later hb
    have hf := ho.fr
    obtain ⟨o, c, rfl⟩ := hs.form
    exact ⟨⟨_, _, _, rfl, by rw [he]; exact hs, hf⟩, hb.mono hBw⟩
  · have hex : ∃ k, ∃ h : k < l.length, l[k].t = tt := Classical.byContradiction fun hc => hn fun k h e => hc ⟨k, h, e⟩
    obtain ⟨k0, hk0, he0⟩ := hex
    have hfirst : ∃ m, ∃ h : m < l.length, l[m].t = tt ∧ ∀ k (h : k < l.length), k < m → l[k].t ≠ tt := by
      clear hn
      induction k0 using Nat.strongRecOn with
      | _ k0 ih =>
        by_cases h : ∃ j, ∃ hj : j < l.length, j < k0 ∧ l[j].t = tt
        · obtain ⟨j, hj, hlt, he⟩ := h
          exact ih j hlt hj he
        · exact ⟨k0, hk0, he0, fun k hk hlt e => h ⟨k, hk, hlt, e⟩⟩
    obtain ⟨m, hm, hmt, hmn⟩ := hfirst
    obtain ⟨g, cap, rfl, h1, h2, h3, h4⟩ := ho.rw (by omega)
    exact del_some l tt gx g cap m B hcap w h2 h3 h1 hBw hgx h4 hx hm hmt hmn

set_option maxRecDepth 100000 in
set_option maxHeartbeats 4000000 in
theorem clear_any (l : List It) (tt : Nat) (v : Value) (hl : l.length ≤ 1000000) (w : World) (hs : Sl w v l) :
    Calls Try.prog 12 #[.agg #[v], .int .u64 (tt : Int)] w (PiP w (l.filter (keep tt)) .returned) := by
  have HB0 := Lib.hid (show Below w.heap.size w (((w.alloc (.cells #[v] 26)).alloc (.cells #[.int .u64 (tt : Int)] 28)).alloc (.cells #[.slice none 0 0] 26)) from bt (bt (alloc_below _ _)))
  have HP0 := Lib.hid (((B1.new 26 w v).later (alloc_below _ (.cells #[.int .u64 (tt : Int)] 28))).later (alloc_below _ (.cells #[.slice none 0 0] 26)))
  have HX0 := Lib.hid ((B1.new 28 (w.alloc (.cells #[v] 26)) (.int .u64 (tt : Int))).later (alloc_below _ (.cells #[.slice none 0 0] 26)))
  have HY0 := Lib.hid (B1.new 26 ((w.alloc (.cells #[v] 26)).alloc (.cells #[.int .u64 (tt : Int)] 28)) (.slice none 0 0))
  rw [show (w.alloc (.cells #[v] 26)).heap.size = w.heap.size + 1 by simp] at HX0
  rw [show ((w.alloc (.cells #[v] 26)).alloc (.cells #[.int .u64 (tt : Int)] 28)).heap.size = w.heap.size + 1 + 1 by simp] at HY0
  have HV := Lib.hid (hs.later HB0.out)
  have K24 := Lib.hid (clone_any l v hl _ HV.out)
  obtain ⟨o, c, rfl⟩ := hs.form
  have HSZ := Lib.hid (show (((w.alloc (.cells #[.slice o l.length c] 26)).alloc (.cells #[.int .u64 (tt : Int)] 28)).alloc (.cells #[.slice none 0 0] 26)).heap.size = w.heap.size + 3 by simp)
  have HL := Lib.hid hl
  obtain ⟨w2, hw2⟩ : ∃ w2, w2 = (((w.alloc (.cells #[.slice o l.length c] 26)).alloc (.cells #[.int .u64 (tt : Int)] 28)).alloc (.cells #[.slice none 0 0] 26)) := ⟨_, rfl⟩
  rw [← hw2] at HB0 HP0 HX0 HY0 HSZ K24
  clear hs hl HV
  have KD : Hid (∀ v' w3, Ow 33 w3 w2.heap.size v' l → Below w2.heap.size w2 w3 → Calls Try.prog 23 #[v', .func (.func 25) #[] #[.pointer (some ⟨w.heap.size + 1, 0, none⟩)]] w3 fun e w' => (∃ o n c, e = .returned (.slice o n c) ∧ Sl w' (.slice o n c) (l.filter (keep tt)) ∧ Fr w2.heap.size (.slice o n c)) ∧ Below w2.heap.size w3 w') :=
    Lib.hid (fun v' w3 h1 h2 => del_any l tt (w.heap.size + 1) w2.heap.size v' HL.out w3 h1 h2.size (by rw [HSZ.out]; omega) (HX0.out.later h2).cells.1)
  generalize l.filter (keep tt) = M at *
  obtain ⟨p0, p1⟩ := HP0.out.cells
  go_enter Try.func12, Try.ntmps12
  go_wp2_with (first
    | (rw [← hw2]; go_at_call 24; ((with_reducible refine (K24.out).mono ?_); rintro e w3 ⟨⟨v', rfl, ho⟩, hb⟩; have HO := Lib.hid ho; have HB := Lib.hid hb; clear ho hb))
    | (go_at_call 23; ((with_reducible refine (KD.out _ _ HO.out HB.out).mono ?_); rintro e w5 ⟨⟨o5, n5, c5, rfl, hs5, hf5⟩, hb5⟩; have HS5 := Lib.hid hs5; have HF5 := Lib.hid hf5; have HB5 := Lib.hid (HB.out.trans hb5); have HY5 := Lib.hid (HY0.out.later HB5.out); obtain ⟨y0, y1⟩ := HY5.out.cells; clear hs5 hb5 hf5)))
  have HYe := Lib.hid (HY5.out.put (.slice o5 n5 c5))
  obtain ⟨z0, z1⟩ := HYe.out.cells
  refine bodyPost_ret (v := .agg #[.slice o5 n5 c5]) (by simp [results, Try.results12, go_sem, *]) rfl ⟨⟨o5, n5, c5, rfl, HS5.out.awayF HF5.out ⟨w.heap.size + 1 + 1, 0, none⟩ (by rw [HSZ.out]; show w.heap.size + 1 + 1 < w.heap.size + 3; omega) (.slice o5 n5 c5), HF5.out.mono (by rw [HSZ.out]; omega)⟩, ?_⟩
  exact (HB0.out.trans (HB5.out.mono (by rw [HSZ.out]; omega))).setCell (p := ⟨w.heap.size + 1 + 1, 0, none⟩) (by show w.heap.size ≤ w.heap.size + 1 + 1; omega) _

theorem awake_any (w : World) : Calls Try.prog 6 #[] w fun e w' => e = .returned (.bool true) ∧ Below w.heap.size w w' := by
  have K11 : Hid (∀ w, Calls Try.prog 11 #[.agg #[.slice none 0 0], .int .i64 0] w fun e w' => e = .returned (.tuple #[.agg #[.slice none 0 0], .int .i64 12]) ∧ Below w.heap.size w w') := Lib.hid (fun w => lose_no [] 0 (.slice none 0 0) 0 w (Sl.nil w) (Fr.nil 0) (by simp))
  have K14 : Hid (∀ w, Calls Try.prog 14 #[.agg #[.slice none 0 0], .int .u64 1, .string ⟨#[120]⟩] w fun e w' => (∃ o c, e = .returned (.agg #[.slice o 1 c])) ∧ Below w.heap.size w w') := Lib.hid (fun w => by
    refine (send_any [] 1 ⟨#[120]⟩ (.slice none 0 0) (by simp) (by decide) w (Sl.nil w)).mono ?_
    rintro e w' ⟨⟨o, n, c, rfl, hs, _⟩, hb⟩
    obtain ⟨o', c', h⟩ := hs.form
    cases h
    exact ⟨⟨_, _, rfl⟩, hb⟩)
  have K17 : Hid (∀ o c w, Calls Try.prog 17 #[.agg #[.slice o 1 c]] w fun e w' => e = .returned (.int .i64 1) ∧ Below w.heap.size w w') := Lib.hid (fun o c w => len_any o 1 c w)
  go_enter Try.func6, Try.ntmps6
  go_wp2_with (first
    | (go_at_call 11; ((with_reducible refine (K11.out _).mono ?_); rintro e w1 ⟨rfl, hb⟩; have HB1 := Lib.hid hb; clear hb))
    | (go_at_call 14; ((with_reducible refine (K14.out _).mono ?_); rintro e w2 ⟨⟨o, c, rfl⟩, hb⟩; have HB2 := Lib.hid hb; clear hb))
    | (go_at_call 17; ((with_reducible refine (K17.out _ _ _).mono ?_); rintro e w3 ⟨rfl, hb⟩; have HB3 := Lib.hid hb; clear hb)))
  go_ret
  have h2 := bt HB2.out
  exact ⟨rfl, HB1.out.trans ((h2.trans (HB3.out.mono h2.size)).mono HB1.out.size)⟩
end Go.Proofs.Ytcoadbagjlcagaa

namespace Go.Proofs.Ytcoadbagjlcagaa
open Go.RowKit

theorem sl_one' (W : World) (x : It) (e : TypeId) (g : Nat) (hg : g = W.heap.size) : Sl (W.alloc (.cells #[.int .u64 (x.t : Int), .string x.s] e)) (.slice (some ⟨g, 0, none⟩) 1 1) [x] := by
  subst hg
  exact sl_one W x e
/-- What a call answers: a slice. -/
def SlP (w : World) (L : List It) (z : Ending) (w' : World) : Prop := (∃ o n c, z = .returned (.slice o n c) ∧ Sl w' (.slice o n c) L ∧ Fr w.heap.size (.slice o n c)) ∧ Below w.heap.size w w'

set_option maxRecDepth 100000 in
set_option maxHeartbeats 4000000 in
theorem rdrop_gen (l M : List It) (v : Value) (i : Int) (hl : l.length ≤ 1000000) (w : World) (hs : Sl w v l) (pf : Nat → List It) (h0 : pf 0 = []) (hM : pf l.length = M) (hle : ∀ k, k ≤ l.length → (pf k).length ≤ k)
    (hstep : ∀ k (h : k < l.length), (((k : Int) == i) = false ∧ pf (k + 1) = pf k ++ [l[k]]) ∨ (((k : Int) == i) = true ∧ pf (k + 1) = pf k)) :
    Calls Try.prog 8 #[v, .int .i64 i] w (SlP w M) := by
  have HC : Hid (∀ wz, Below w.heap.size w wz → Sl wz v l) := Lib.hid (fun wz hb => hs.later hb)
  have HP0 := Lib.hid h0
  have HPM := Lib.hid hM
  have HPL := Lib.hid hle
  have HST := Lib.hid hstep

  obtain ⟨o, c, rfl⟩ := hs.form
  have HNL : Hid (Ow 36 w w.heap.size (.slice none 0 0) (pf 0)) := Lib.hid (by rw [h0]; exact Ow.nil _ _ _)
  clear hs h0 hM hle hstep
  go_enter Try.func8, Try.ntmps8
  go_wp2
  go_loopw [5, 6, 7, 10] (fun x _ _ y wz => ∃ k : Nat, k ≤ l.length ∧ y = .int .i64 k ∧ Hid (Ow 36 wz w.heap.size x (pf k)) ∧ Hid (Below w.heap.size w wz)) (fun _ _ _ y _ => l.length - (intOf y).toNat)
  case atStart => exact ⟨0, by omega, rfl, HNL, Lib.hid (Below.refl _ _)⟩
  case round =>
    obtain ⟨k, hk, rfl, HO, HB⟩ := hrel
    by_cases hlt : k < l.length
    · obtain ⟨o1, c1, b, off, he, ho, hc⟩ := (HC.out wr HB.out).cells
      cases he
      obtain rfl := ho (by omega)
      obtain ⟨h0, h1⟩ := hc k hlt
      have q1 : (k : Int) < (l.length : Int) := by omega
      have HLE : Hid ((pf k).length + 1 ≤ 3000000) := Lib.hid (by have := HPL.out k (by omega); omega)
      have hway := HST.out k hlt
      have HBx := Lib.hid (HB.out.trans ((alloc_below wr (.cells #[.int .u64 (l[k].t : Int), .string l[k].s] 36)).mono HB.out.size))
      have HOx := Lib.hid (HO.out.later (alloc_below wr (.cells #[.int .u64 (l[k].t : Int), .string l[k].s] 36)))

      have HS1 := Lib.hid (sl_one' (wr.alloc (.cells #[.int .u64 (l[k].t : Int), .string l[k].s] 36)) l[k] 36 (wr.heap.size + 1) (by simp))
      clear hc ho
      generalize l[k] = q at *
      obtain ⟨t, s⟩ := q
      dsimp only at *
      have HB4 := Lib.hid (HBx.out.trans ((alloc_below (wr.alloc (.cells #[.int .u64 (t : Int), .string s] 36)) (.cells #[.int .u64 (t : Int), .string s] 36)).mono HBx.out.size))
      have HO4 := Lib.hid (HOx.out.later (alloc_below (wr.alloc (.cells #[.int .u64 (t : Int), .string s] 36)) (.cells #[.int .u64 (t : Int), .string s] 36)))

      rcases hway with ⟨hy, hp⟩ | ⟨hy, hp⟩
      · have HP := Lib.hid hp
        clear hp

        go_wp2_with (first
          | (at_builtin; go_must (refine wpList_append_its _ rfl (.tmp 18) (.tmp 20) (Or.inr ⟨rfl, rfl⟩) rfl w.heap.size _ _ (pf k) [⟨t, s⟩] rfl HO4.out rfl HS1.out HB4.out.size HLE.out ?_); intro v6 w6 ho6 hb6; have HO6 := Lib.hid ho6; have HB6 := Lib.hid (HB4.out.trans hb6);  clear ho6 hb6))
        go_roundw
        case rel => exact ⟨k + 1, by omega, by go_num, by rw [HP.out]; exact HO6, HB6⟩
        case measure => simp [intOf]; omega
      · have HP := Lib.hid hp
        clear hp

        go_wp2
        go_roundw
        case rel => exact ⟨k + 1, by omega, by go_num, by rw [HP.out]; exact HOx, HBx⟩
        case measure => simp [intOf]; omega
    · have hk3 : k = l.length := by omega
      subst hk3
      go_wp2
      go_ret
      have h1 := HO.out.sl
      have h2 := HO.out.fr
      rw [HPM.out] at h1
      obtain ⟨o, c, h⟩ := h1.form
      subst h
      exact ⟨⟨_, _, _, rfl, h1, h2⟩, HB.out⟩

set_option maxRecDepth 100000 in
set_option maxHeartbeats 4000000 in
theorem rclear_gen (l M : List It) (v : Value) (tt : Nat) (hl : l.length ≤ 1000000) (w : World) (hs : Sl w v l) (pf : Nat → List It) (h0 : pf 0 = []) (hM : pf l.length = M) (hle : ∀ k, k ≤ l.length → (pf k).length ≤ k)
    (hstep : ∀ k (h : k < l.length), (l[k].t ≠ tt ∧ pf (k + 1) = pf k ++ [l[k]]) ∨ (l[k].t = tt ∧ pf (k + 1) = pf k)) :
    Calls Try.prog 13 #[v, .int .u64 (tt : Int)] w (SlP w M) := by
  have HC : Hid (∀ wz, Below w.heap.size w wz → Sl wz v l) := Lib.hid (fun wz hb => hs.later hb)
  have HP0 := Lib.hid h0
  have HPM := Lib.hid hM
  have HPL := Lib.hid hle
  have HST := Lib.hid hstep

  obtain ⟨o, c, rfl⟩ := hs.form
  have HNL : Hid (Ow 36 w w.heap.size (.slice none 0 0) (pf 0)) := Lib.hid (by rw [h0]; exact Ow.nil _ _ _)
  clear hs h0 hM hle hstep
  go_enter Try.func13, Try.ntmps13
  go_wp2
  go_loopw [5, 7, 10] (fun x _ y wz => ∃ k : Nat, k ≤ l.length ∧ y = .int .i64 k ∧ Hid (Ow 36 wz w.heap.size x (pf k)) ∧ Hid (Below w.heap.size w wz)) (fun _ _ y _ => l.length - (intOf y).toNat)
  case atStart => exact ⟨0, by omega, rfl, HNL, Lib.hid (Below.refl _ _)⟩
  case round =>
    obtain ⟨k, hk, rfl, HO, HB⟩ := hrel
    by_cases hlt : k < l.length
    · obtain ⟨o1, c1, b, off, he, ho, hc⟩ := (HC.out wr HB.out).cells
      cases he
      obtain rfl := ho (by omega)
      obtain ⟨h0, h1⟩ := hc k hlt
      have q1 : (k : Int) < (l.length : Int) := by omega
      have HLE : Hid ((pf k).length + 1 ≤ 3000000) := Lib.hid (by have := HPL.out k (by omega); omega)
      have hway := HST.out k hlt
      have HBx := Lib.hid (HB.out.trans ((alloc_below wr (.cells #[.int .u64 (l[k].t : Int), .string l[k].s] 36)).mono HB.out.size))
      have HOx := Lib.hid (HO.out.later (alloc_below wr (.cells #[.int .u64 (l[k].t : Int), .string l[k].s] 36)))

      have HS1 := Lib.hid (sl_one' (wr.alloc (.cells #[.int .u64 (l[k].t : Int), .string l[k].s] 36)) l[k] 36 (wr.heap.size + 1) (by simp))
      clear hc ho
      generalize l[k] = q at *
      obtain ⟨t, s⟩ := q
      dsimp only at *
      have HB4 := Lib.hid (HBx.out.trans ((alloc_below (wr.alloc (.cells #[.int .u64 (t : Int), .string s] 36)) (.cells #[.int .u64 (t : Int), .string s] 36)).mono HBx.out.size))
      have HO4 := Lib.hid (HOx.out.later (alloc_below (wr.alloc (.cells #[.int .u64 (t : Int), .string s] 36)) (.cells #[.int .u64 (t : Int), .string s] 36)))

      rcases hway with ⟨hy, hp⟩ | ⟨hy, hp⟩
      · have HP := Lib.hid hp
        clear hp
        have hy2 : ((t : Int) == (tt : Int)) = false := by rw [beq_eq_false_iff_ne]; omega
        have hy3 : ((t : Int) != (tt : Int)) = true := by simp only [bne, hy2]; rfl
        go_wp2_with (first
          | (at_builtin; go_must (refine wpList_append_its _ rfl (.tmp 18) (.tmp 20) (Or.inr ⟨rfl, rfl⟩) rfl w.heap.size _ _ (pf k) [⟨t, s⟩] rfl HO4.out rfl HS1.out HB4.out.size HLE.out ?_); intro v6 w6 ho6 hb6; have HO6 := Lib.hid ho6; have HB6 := Lib.hid (HB4.out.trans hb6);  clear ho6 hb6))
        go_roundw
        case rel => exact ⟨k + 1, by omega, by go_num, by rw [HP.out]; exact HO6, HB6⟩
        case measure => simp [intOf]; omega
      · have HP := Lib.hid hp
        clear hp
        subst hy
        go_wp2
        go_roundw
        case rel => exact ⟨k + 1, by omega, by go_num, by rw [HP.out]; exact HOx, HBx⟩
        case measure => simp [intOf]; omega
    · have hk3 : k = l.length := by omega
      subst hk3
      go_wp2
      go_ret
      have h1 := HO.out.sl
      have h2 := HO.out.fr
      rw [HPM.out] at h1
      obtain ⟨o, c, h⟩ := h1.form
      subst h
      exact ⟨⟨_, _, _, rfl, h1, h2⟩, HB.out⟩

set_option maxRecDepth 100000 in
set_option maxHeartbeats 4000000 in
theorem rsend_gen (l M : List It) (v : Value) (a : It) (hl : l.length ≤ 1000000) (w : World) (hs : Sl w v l) (pf : Nat → List It) (h0 : pf 0 = []) (hM : pf l.length = M) (hle : ∀ k, k ≤ l.length → (pf k).length ≤ k)
    (hstep : ∀ k (h : k < l.length), ((l.length < 64 ∨ (¬ l.length < 64 ∧ 0 < k)) ∧ pf (k + 1) = pf k ++ [l[k]]) ∨ ((¬ l.length < 64 ∧ k = 0) ∧ pf (k + 1) = pf k)) :
    Calls Try.prog 10 #[v, iv a] w (SlP w (M ++ [a])) := by
  have HC : Hid (∀ wz, Below w.heap.size w wz → Sl wz v l) := Lib.hid (fun wz hb => hs.later hb)
  have HP0 := Lib.hid h0
  have HPM := Lib.hid hM
  have HPL := Lib.hid hle
  have HST := Lib.hid hstep
  have HA0 := Lib.hid (Bx.new 36 w (.int .u64 (a.t : Int)) (.string a.s))
  have HB0 := Lib.hid (alloc_below w (.cells #[.int .u64 (a.t : Int), .string a.s] 36))
  unfold iv
  obtain ⟨o, c, rfl⟩ := hs.form
  have HNL : Hid (Ow 36 (w.alloc (.cells #[.int .u64 (a.t : Int), .string a.s] 36)) (w.heap.size + 1) (.slice none 0 0) (pf 0)) := Lib.hid (by rw [h0]; exact Ow.nil _ _ _)
  clear hs h0 hM hle hstep
  go_enter Try.func10, Try.ntmps10
  go_wp2
  go_loopw [5, 6, 7, 10] (fun x _ _ y wz => ∃ k : Nat, k ≤ l.length ∧ y = .int .i64 k ∧ Hid (Ow 36 wz (w.heap.size + 1) x (pf k)) ∧ Hid (Below w.heap.size w wz) ∧ Hid (Bx 36 wz w.heap.size (.int .u64 (a.t : Int)) (.string a.s))) (fun _ _ _ y _ => l.length - (intOf y).toNat)
  case atStart => exact ⟨0, by omega, rfl, HNL, HB0, HA0⟩
  case round =>
    obtain ⟨k, hk, rfl, HO, HB, HA⟩ := hrel
    by_cases hlt : k < l.length
    · obtain ⟨o1, c1, b, off, he, ho, hc⟩ := (HC.out wr HB.out).cells
      cases he
      obtain rfl := ho (by omega)
      obtain ⟨h0, h1⟩ := hc k hlt
      have q1 : (k : Int) < (l.length : Int) := by omega
      have HLE : Hid ((pf k).length + 1 ≤ 3000000) := Lib.hid (by have := HPL.out k (by omega); omega)
      have hway := HST.out k hlt
      have HBx := Lib.hid (HB.out.trans ((alloc_below wr (.cells #[.int .u64 (l[k].t : Int), .string l[k].s] 36)).mono HB.out.size))
      have HOx := Lib.hid (HO.out.later (alloc_below wr (.cells #[.int .u64 (l[k].t : Int), .string l[k].s] 36)))
      have HAx := Lib.hid (HA.out.later (alloc_below wr (.cells #[.int .u64 (l[k].t : Int), .string l[k].s] 36)))
      have HS1 := Lib.hid (sl_one' (wr.alloc (.cells #[.int .u64 (l[k].t : Int), .string l[k].s] 36)) l[k] 36 (wr.heap.size + 1) (by simp))
      clear hc ho
      generalize l[k] = q at *
      obtain ⟨t, s⟩ := q
      dsimp only at *
      have HB4 := Lib.hid (HBx.out.trans ((alloc_below (wr.alloc (.cells #[.int .u64 (t : Int), .string s] 36)) (.cells #[.int .u64 (t : Int), .string s] 36)).mono HBx.out.size))
      have HO4 := Lib.hid (HOx.out.later (alloc_below (wr.alloc (.cells #[.int .u64 (t : Int), .string s] 36)) (.cells #[.int .u64 (t : Int), .string s] 36)))
      have HA4 := Lib.hid (HAx.out.later (alloc_below (wr.alloc (.cells #[.int .u64 (t : Int), .string s] 36)) (.cells #[.int .u64 (t : Int), .string s] 36)))
      rcases hway with ⟨hy, hp⟩ | ⟨hy, hp⟩
      · have HP := Lib.hid hp
        clear hp

        rcases hy with hy | ⟨hy, hy2⟩
        all_goals
          go_wp2_with (first
            | (at_builtin; go_must (refine wpList_append_its _ rfl (.tmp 22) (.tmp 24) (Or.inr ⟨rfl, rfl⟩) rfl (w.heap.size + 1) _ _ (pf k) [⟨t, s⟩] rfl HO4.out rfl HS1.out (Nat.succ_le_of_lt (lt_of_heap HA4.out)) HLE.out ?_); intro v6 w6 ho6 hb6; have HO6 := Lib.hid ho6; have HB6 := Lib.hid (HB4.out.trans (hb6.mono (Nat.le_succ _))); have HA6 := Lib.hid (show Bx 36 w6 w.heap.size (.int .u64 (a.t : Int)) (.string a.s) from (hb6.block _ (Nat.lt_succ_self _)).trans HA4.out); clear ho6 hb6))
          go_roundw
          case rel => exact ⟨k + 1, by omega, by go_num, by rw [HP.out]; exact HO6, HB6, HA6⟩
          case measure => simp [intOf]; omega
      · have HP := Lib.hid hp
        clear hp
        obtain ⟨hy1, hy2⟩ := hy
        have hy3 : ¬ ((0 : Int) < (k : Int)) := by omega
        clear hy2
        go_wp2
        go_roundw
        case rel => exact ⟨k + 1, by omega, by go_num, by rw [HP.out]; exact HOx, HBx, HAx⟩
        case measure => simp [intOf]; omega
    · have hk3 : k = l.length := by omega
      subst hk3
      obtain ⟨a0, a1, _, _⟩ := HA.out.cells
      have HS1 := Lib.hid (sl_one wr a 36)
      have HASZ := Lib.hid (show w.heap.size + 1 ≤ (wr.alloc (.cells #[.int .u64 (a.t : Int), .string a.s] 36)).heap.size by have := lt_of_heap HA.out; simp; omega)
      have HLE : Hid ((pf l.length).length + 1 ≤ 3000000) := Lib.hid (by have := HPL.out l.length (by omega); omega)
      have HB4 := Lib.hid (HB.out.trans ((alloc_below wr (.cells #[.int .u64 (a.t : Int), .string a.s] 36)).mono HB.out.size))
      have HO4 := Lib.hid (HO.out.later (alloc_below wr (.cells #[.int .u64 (a.t : Int), .string a.s] 36)))
      go_wp2_with (first
        | (at_builtin; go_must (refine wpList_append_its _ rfl (.tmp 27) (.tmp 29) (Or.inr ⟨rfl, rfl⟩) rfl (w.heap.size + 1) _ _ (pf l.length) [a] rfl HO4.out rfl HS1.out HASZ.out HLE.out ?_); intro v6 w6 ho6 hb6; have HO6 := Lib.hid ho6; have HB6 := Lib.hid (HB4.out.trans (hb6.mono (Nat.le_succ _))); clear ho6 hb6))
      go_ret
      have h1 := HO6.out.sl
      have h2 := HO6.out.fr
      rw [HPM.out] at h1
      obtain ⟨o, c, h⟩ := h1.form
      subst h
      exact ⟨⟨_, _, _, rfl, h1, h2.mono (Nat.le_succ _)⟩, HB6.out⟩

end Go.Proofs.Ytcoadbagjlcagaa

namespace Go.Proofs.Ytcoadbagjlcagaa
open Go.RowKit

/-- Without the one at that place. -/
def dropL (l : List It) (i : Int) : List It := if 0 ≤ i ∧ i < (l.length : Int) then l.take i.toNat ++ l.drop (i.toNat + 1) else l
theorem dropL_in {l : List It} {i : Nat} (h : i < l.length) : dropL l (i : Int) = l.take i ++ l.drop (i + 1) := by
  unfold dropL
  rw [if_pos (by omega)]
  simp
theorem dropL_out {l : List It} {i : Int} (h : ¬ (0 ≤ i ∧ i < (l.length : Int))) : dropL l i = l := if_neg h
theorem rsend_any (l : List It) (a : It) (v : Value) (hl : l.length ≤ 64) (w : World) (hs : Sl w v l) : Calls Try.prog 10 #[v, iv a] w (SlP w (sendL l a)) := by
  refine rsend_gen l (l.drop (l.length - 63)) v a (by omega) w hs (fun k => (l.take k).drop (l.length - 63)) (by simp) (by simp) (fun k hk => by simp; omega) (fun k hk => ?_)
  by_cases h : l.length < 64
  · refine Or.inl ⟨Or.inl h, ?_⟩
    have e : l.length - 63 = 0 := by omega
    rw [e]
    simp only [List.drop_zero]
    rw [List.take_succ_eq_append_getElem hk]
  · have e : l.length - 63 = 1 := by omega
    rw [e]
    by_cases h0 : 0 < k
    · refine Or.inl ⟨Or.inr ⟨h, h0⟩, ?_⟩
      show (l.take (k + 1)).drop 1 = (l.take k).drop 1 ++ [l[k]]
      rw [List.take_succ_eq_append_getElem hk, List.drop_append_of_le_length (by rw [List.length_take]; omega)]
    · have h1 : k = 0 := by omega
      subst h1
      refine Or.inr ⟨⟨h, rfl⟩, ?_⟩
      show (l.take 1).drop 1 = (l.take 0).drop 1
      simp
theorem rdrop_any (l : List It) (i : Int) (v : Value) (hl : l.length ≤ 1000000) (w : World) (hs : Sl w v l) : Calls Try.prog 8 #[v, .int .i64 i] w (SlP w (dropL l i)) := by
  by_cases h : 0 ≤ i ∧ i < (l.length : Int)
  · obtain ⟨m, rfl⟩ : ∃ m : Nat, i = (m : Int) := ⟨i.toNat, by omega⟩
    have hm : m < l.length := by omega
    rw [dropL_in hm]
    refine rdrop_gen l (l.take m ++ l.drop (m + 1)) v m hl w hs (fun k => (l.take k).take m ++ (l.take k).drop (m + 1)) (by simp) (by simp) (fun k hk => by simp; omega) (fun k hk => ?_)
    by_cases e : k = m
    · refine Or.inr ⟨by simp [e], ?_⟩
      subst e
      show (l.take (k + 1)).take k ++ (l.take (k + 1)).drop (k + 1) = (l.take k).take k ++ (l.take k).drop (k + 1)
      rw [List.take_take, List.take_take, List.drop_eq_nil_of_le (by rw [List.length_take]; omega), List.drop_eq_nil_of_le (by rw [List.length_take]; omega)]
      simp
    · refine Or.inl ⟨by rw [beq_eq_false_iff_ne]; omega, ?_⟩
      show (l.take (k + 1)).take m ++ (l.take (k + 1)).drop (m + 1) = (l.take k).take m ++ (l.take k).drop (m + 1) ++ [l[k]]
      rw [List.take_take, List.take_take]
      by_cases hlt : k < m
      · rw [List.drop_eq_nil_of_le (by rw [List.length_take]; omega), List.drop_eq_nil_of_le (by rw [List.length_take]; omega), show min m (k + 1) = k + 1 by omega, show min m k = k by omega, List.take_succ_eq_append_getElem hk]
        simp
      · rw [show min m (k + 1) = m by omega, show min m k = m by omega, List.take_succ_eq_append_getElem hk, List.drop_append_of_le_length (by rw [List.length_take]; omega), List.append_assoc]
  · rw [dropL_out h]
    refine rdrop_gen l l v i hl w hs (fun k => l.take k) (by simp) (by simp) (fun k hk => by simp; omega) (fun k hk => ?_)
    refine Or.inl ⟨by rw [beq_eq_false_iff_ne]; omega, ?_⟩
    show l.take (k + 1) = l.take k ++ [l[k]]
    rw [List.take_succ_eq_append_getElem hk]
theorem rclear_any (l : List It) (tt : Nat) (v : Value) (hl : l.length ≤ 1000000) (w : World) (hs : Sl w v l) : Calls Try.prog 13 #[v, .int .u64 (tt : Int)] w (SlP w (l.filter (keep tt))) := by
  refine rclear_gen l (l.filter (keep tt)) v tt hl w hs (fun k => (l.take k).filter (keep tt)) (by simp) (by simp) (fun k hk => ?_) (fun k hk => ?_)
  · have := List.length_filter_le (keep tt) (l.take k)
    rw [List.length_take] at this
    omega
  · show _ ∧ (l.take (k + 1)).filter (keep tt) = _ ∨ _ ∧ (l.take (k + 1)).filter (keep tt) = _
    rw [filter_next hk]
    by_cases e : l[k].t = tt
    · exact Or.inr ⟨e, by simp [keep, e]⟩
    · exact Or.inl ⟨e, by simp [keep, e]⟩

theorem run_ne_it (x : It) (w : World) : (binOp .neq 36 (.agg #[.int .u64 (x.t : Int), .string x.s]) (.agg #[.int .u64 (x.t : Int), .string x.s])).run Try.prog w = .ok (.bool false) w := by
  obtain ⟨t, s⟩ := x
  go_simp
theorem run_ne_it33 (x : It) (w : World) : (binOp .neq 33 (.agg #[.int .u64 (x.t : Int), .string x.s]) (.agg #[.int .u64 (x.t : Int), .string x.s])).run Try.prog w = .ok (.bool false) w := by
  obtain ⟨t, s⟩ := x
  go_simp
set_option maxRecDepth 100000 in
set_option maxHeartbeats 4000000 in
theorem is_any (l : List It) (v u : Value) (hl : l.length ≤ 1000000) (hz : ∀ x ∈ l, x.s.size ≤ 140737488355328) (w : World) (hs : Sl w v l) (hu : Sl w u l) :
    Calls Try.prog 15 #[.agg #[v], u] w fun e w' => e = .returned (.bool true) ∧ Below w.heap.size w w' := by
  have HB0 := Lib.hid (alloc_below w (.cells #[v] 26))
  have HP0 := Lib.hid (B1.new 26 w v)
  have HU : Hid (∀ wz, Below w.heap.size w wz → Sl wz u l) := Lib.hid (fun wz hb => hu.later hb)
  have K18 := Lib.hid (all_any l v hl hz _ (hs.later HB0.out))
  obtain ⟨o, c, rfl⟩ := hs.form
  obtain ⟨o1, c1, rfl⟩ := hu.form
  have K17 := Lib.hid (len_any o l.length c)
  have hlen : ((l.length : Int) != (l.length : Int)) = false := by simp
  clear hs hu hz
  go_enter Try.func15, Try.ntmps15
  go_wp2_with (first
    | (go_at_call 18; ((with_reducible refine (K18.out).mono ?_); rintro e w1 ⟨⟨o5, n5, c5, rfl, hs5, _⟩, hb⟩; obtain ⟨_, _, hf⟩ := hs5.form; cases hf; have HB1 := Lib.hid (bt hb); have HA : Hid (∀ wz, Below w1.heap.size w1 wz → Sl wz (.slice o5 l.length c5) l) := Lib.hid (fun wz hz => hs5.later hz); obtain ⟨p0, p1⟩ := (HP0.out.later hb).cells; clear hb hs5))
    | (go_at_call 17; ((with_reducible refine (K17.out _).mono ?_); rintro e w2 ⟨rfl, hb⟩; have HB2 := Lib.hid hb; clear hb)))
  go_loopw [6, 23] (fun _ y wz => ∃ k : Nat, k ≤ l.length ∧ y = .int .i64 k ∧ Hid (Below w1.heap.size w1 wz)) (fun _ y _ => l.length - (intOf y).toNat)
  case atStart => exact ⟨0, by omega, rfl, HB2⟩
  case round =>
    obtain ⟨k, hk, rfl, HB⟩ := hrel
    by_cases hlt : k < l.length
    · obtain ⟨oa, ca, ba, fa, ea, hoa, hca⟩ := (HA.out wr HB.out).cells
      cases ea
      obtain rfl := hoa (by omega)
      obtain ⟨ob, cb, bb, fb, eb, hob, hcb⟩ := (HU.out wr (HB1.out.trans (HB.out.mono HB1.out.size))).cells
      cases eb
      obtain rfl := hob (by omega)
      obtain ⟨a0, a1⟩ := hca k hlt
      obtain ⟨b0, b1⟩ := hcb k hlt
      have q1 : (k : Int) < (l.length : Int) := by omega
      have hrun := run_ne_it l[k]
      have HBd : Hid (∀ q, Hid (Below w1.heap.size w1 (wr.drewN q))) := Lib.hid (fun q => Lib.hid ⟨HB.out.os, HB.out.tape, HB.out.output, HB.out.size, HB.out.block⟩)
      clear hoa hob hca hcb
      generalize l[k] = x at *
      obtain ⟨t, s⟩ := x
      dsimp only at *
      go_wp2_with (fail)
      go_quiet (fail)
      go_wp2
      go_roundw
      case rel => exact ⟨k + 1, by omega, by go_num, HBd.out _⟩
      case measure => simp [intOf]; omega
    · go_wp2
      go_ret
      exact ⟨rfl, HB1.out.trans (HB.out.mono HB1.out.size)⟩
end Go.Proofs.Ytcoadbagjlcagaa
