/- The law FileWhole.; The law FileWhole, for any arguments. -/
import Derived.Test.YtjkpopdjmmgbbaaGreatJ25
set_option linter.unusedVariables false
set_option linter.unusedSimpArgs false
namespace Go.Proofs.YtjkpopdjmmgbbaaGreat.Fi
open Go.RowKit Dk Go.Maps

theorem chainB {B : Nat} {w a b : World} (h : Hid (Below B w a)) (h2 : Hid (Below B a b)) : Hid (Below B w b) := Lib.hid (h.out.trans h2.out)
set_option maxRecDepth 100000 in
set_option maxHeartbeats 8000000 in
theorem whole_any (l : List Ac) (hll : l.length ≤ 8) (oa : Option Addr) (cap b off : Nat) (w : World) (ho : 0 < l.length → oa = some ⟨b, off, none⟩ ∧ b < w.heap.size) (hin : AcsIn w b off l)
    (ns : List (List Bool)) (hnl : ns.length ≤ 8) (o1 : Option Addr) (cap1 b1 off1 : Nat) (h1 : 0 < ns.length → o1 = some ⟨b1, off1, none⟩ ∧ b1 < w.heap.size) (h1b : BssIn w b1 off1 ns)
    (ss : List (List Nat)) (hsl : ss.length ≤ 8) (o2 : Option Addr) (cap2 b2 off2 : Nat) (h2 : 0 < ss.length → o2 = some ⟨b2, off2, none⟩ ∧ b2 < w.heap.size) (h2b : UssIn w b2 off2 ss) :
    Calls Tryz.prog 5 #[.slice oa l.length cap, .slice o1 ns.length cap1, .slice o2 ss.length cap2] w fun e w' => e = .returned (.bool true) ∧ Below w.heap.size w w' := by
  have K6 := Lib.hid (awake_any w)
  have K11 := Lib.hid (Px.new w)
  obtain ⟨m, hm⟩ : ∃ m, m = l.length := ⟨_, rfl⟩
  obtain ⟨m1, hm1⟩ : ∃ m1, m1 = ns.length := ⟨_, rfl⟩
  obtain ⟨m2, hm2⟩ : ∃ m2, m2 = ss.length := ⟨_, rfl⟩
  have HO := Lib.hid ho
  have HIN := Lib.hid hin
  have HM := Lib.hid (And.intro hm (And.intro hm1 hm2))
  have H1 := Lib.hid (And.intro h1 h1b)
  have H2 := Lib.hid (And.intro h2 h2b)
  have q8 : (m : Int) ≤ 8 := by omega
  have q81 : (m1 : Int) ≤ 8 := by omega
  have q82 : (m2 : Int) ≤ 8 := by omega
  rw [← hm, ← hm1, ← hm2]
  clear ho hin hm hm1 hm2 h1 h1b h2 h2b hll hnl hsl
  go_enter Tryz.func5, Tryz.ntmps5
  go_wp2_with (first
    | (go_at_call 6; ((with_reducible refine (K6.out).mono ?_); rintro e w1 ⟨rfl, hb1⟩; have HB1 := Lib.hid hb1; clear hb1))
    | (go_at_call 11; ((with_reducible refine (K11.out _ HB1.out).mono ?_); rintro e w2 ⟨D, rfl, HD2, HB2⟩)))
  clear K6 K11 HB1
  go_loopw [40, 9, 10] (fun v nv tv wr => ∃ (i : Nat) (now : ByteArray) (th : Bool), i ≤ m ∧ v = .int .i64 (i : Int) ∧ nv = .string now ∧ tv = .bool th ∧ Hid (Px w.heap.size wr D (3 * i) (fun st => Wh st ((nowX now th).map sealB))) ∧ Hid (Fits (nowX now th)) ∧ Hid (Below w.heap.size w wr)) (fun v _ _ _ => m - (intOf v).toNat)
  case atStart => exact ⟨0, ⟨#[]⟩, false, by omega, rfl, rfl, rfl, HD2, Lib.hid (fun t h => by cases h), HB2⟩
  case round =>
    obtain ⟨i, now, th, hi, rfl, rfl, rfl, HP, HX, HB⟩ := hrel
    by_cases hlt : i < m
    · have hil : i < l.length := by rw [← HM.out.1]; exact hlt
      obtain ⟨q, hq⟩ : ∃ q, q = l[i] := ⟨_, rfl⟩
      obtain ⟨c0, c1, c2, c3, c4, c5, g0, g1, g2, g3, g4, g5, hac⟩ := HIN.out i hil
      rw [← hq] at hac
      obtain ⟨eo, hbl⟩ := HO.out (by omega)
      obtain ⟨a, bn, n, bb, cl, f⟩ := q
      unfold AcIn at hac
      obtain ⟨rfl, rfl, rfl, hn, rfl, hbb, rfl, rfl, hf1, hf2⟩ := hac
      simp only at g0 g1 g2 g3 g4 g5 hn hbb hf1 hf2
      have k0 := (HB.out.cell (p := ⟨b, off + i * 6, none⟩) hbl).trans g0
      have k1 := (HB.out.cell (p := ⟨b, off + i * 6 + 1, none⟩) hbl).trans g1
      have k2 := (HB.out.cell (p := ⟨b, off + i * 6 + 2, none⟩) hbl).trans g2
      have k3 := (HB.out.cell (p := ⟨b, off + i * 6 + 3, none⟩) hbl).trans g3
      have k4 := (HB.out.cell (p := ⟨b, off + i * 6 + 4, none⟩) hbl).trans g4
      have k5 := (HB.out.cell (p := ⟨b, off + i * 6 + 5, none⟩) hbl).trans g5
      have efz : IntKind.i64.wrap f = f := IntWalk.i64_in _ ⟨by omega, by omega⟩
      have q1 : (0 : Int) ≤ (i : Int) := by omega
      have q2 : (i : Int) < (m : Int) := by omega
      have hi8 : 3 * i + 3 ≤ 100 := by omega
      obtain ⟨na, hna⟩ : ∃ na, na = wr.heap.size := ⟨_, rfl⟩
      have HNA := Lib.hid hna
      have K13 : Hid (∀ o : Obj, Calls Tryz.prog 13 #[.pointer (some ⟨D, 0, none⟩), .int .i64 f] (wr.alloc o) fun e w' => e = .returned (.tuple #[]) ∧ Hid (Py na w.heap.size w' D (3 * i) (fun st => Wh st ((nowX now th).map sealB))) ∧ Hid (Below w.heap.size w w') ∧ w'.heap[na]? = (wr.alloc o).heap[na]?) := Lib.hid (fun o => ((by rw [hna]; exact HP.out.py o : Py na w.heap.size (wr.alloc o) D (3 * i) (fun st => Wh st ((nowX now th).map sealB))).fuse f ⟨by omega, by omega⟩ (fun st h => ⟨⟨h.up, h.p, h.sn, h.nm⟩, h.one⟩)).mono fun e w' ⟨he, h1, h2, h3⟩ => ⟨he, Lib.hid h1, Lib.hid ((HB.out.alloc HB.out.size o).trans h2), h3⟩)
      have K17 : Hid (∀ w6, Hid (Py na w.heap.size w6 D (3 * i) (fun st => Wh st ((nowX now th).map sealB))) → Hid (Below w.heap.size w w6) → AcB w6 na a bn n bb cl f → Calls Tryz.prog 17 #[.agg #[.string a, .string bn, .int .u16 (n : Int), .int .u8 (bb : Int), .bool cl, .int .i8 f]] w6 fun e w' => ∃ x : ByteArray, e = .returned (.string x) ∧ Hid (x.size ≤ 3000) ∧ Hid (Py na w.heap.size w' D (3 * i) (fun st => Wh st ((nowX now th).map sealB))) ∧ Hid (Below w.heap.size w w') ∧ Hid (AcB w' na a bn n bb cl f)) := Lib.hid (fun w6 hp hb ha => (text_any a bn n bb cl f hn hbb w6).mono fun e w' ⟨x, he, hx, hbx⟩ => ⟨x, he, Lib.hid hx, Lib.hid (hp.out.later hbx), Lib.hid (hb.out.trans (hbx.mono hb.out.size)), Lib.hid ((hbx.block _ (lt_of_heap ha)).trans ha)⟩)
      have K16 : Hid (∀ w6 x, Hid (x.size ≤ 3000) → Hid (Py na w.heap.size w6 D (3 * i) (fun st => Wh st ((nowX now th).map sealB))) → Hid (Below w.heap.size w w6) → Hid (AcB w6 na a bn n bb cl f) → Calls Tryz.prog 16 #[.pointer (some ⟨D, 0, none⟩), .string ⟨#[109, 97, 105, 110]⟩, .string ⟨#[115, 112, 97, 114, 101]⟩, .string x] w6 fun e w' => ∃ E : Nat, e = .returned (.int .i64 (E : Int)) ∧ Hid (Px w.heap.size w' D (3 * i + 1) (AftX (nowX now th) x E)) ∧ Hid (Below w.heap.size w w') ∧ Hid (AcB w' na a bn n bb cl f)) := Lib.hid (fun w6 x hx hp hb ha => (hp.out.save (by omega) hx.out).mono fun e w' ⟨E, he, h1, h2, h3⟩ => ⟨E, he, Lib.hid h1, Lib.hid (hb.out.trans h2), Lib.hid (h3.trans ha.out)⟩)
      subst eo
      clear g0 g1 g2 g3 g4 g5 hn hbb hf1 hf2 hq
      go_upto_region 13 with (first
        | (go_at_call 13; ((with_reducible refine (K13.out _).mono ?_); rintro e w6 ⟨rfl, HP6, HB6, hc6⟩; have ha6 : AcB w6 na a bn n bb cl f := hc6.trans (by rw [HNA.out]; exact acb_new wr a bn n bb cl f); obtain ⟨z0, z1, z2, z3, z4, z5⟩ := ha6.cells; rw [HNA.out] at z0 z1 z2 z3 z4 z5))
        | (go_at_call 17; ((with_reducible refine (K17.out _ HP6 HB6 ha6).mono ?_); rintro e w7 ⟨next, rfl, HN7, HP7, HB7, HA7⟩))
        | (go_at_call 16; ((with_reducible refine (K16.out _ _ HN7 HP7 HB7 HA7).mono ?_); rintro e w8 ⟨E, rfl, HP8, HB8, HA8⟩)))
      clear K13 K17 K16 HP HB HP6 HB6 HP7 HB7 HA7 ha6 z0 z1 z2 z3 z4 z5
      have HE : Hid (∀ x', (E = 0 → x' = some next) → (E ≠ 0 → x' = nowX now th ∨ x' = some next) → Fits x') := Lib.hid (fun x' e1 e2 => by
        by_cases hE : E = 0
        · rw [e1 hE]
          intro t ht
          cases ht
          exact HN7.out
        · rcases e2 hE with e | e
          · rw [e]; exact HX.out
          · rw [e]
            intro t ht
            cases ht
            exact HN7.out)
      have K22 : Hid (Calls Tryz.prog 22 #[.pointer (some ⟨D, 0, none⟩)] w8 fun e w' => (∃ bb : Bool, e = .returned (.bool bb) ∧ Hid (bb = false → ∃ x', Px w.heap.size w8 D (3 * i + 2) (fun st => Po st (x'.map sealB)) ∧ Fits x' ∧ (E = 0 → x' = some next) ∧ (E ≠ 0 → x' = nowX now th ∨ x' = some next))) ∧ w' = w8) := Lib.hid (HP8.out.down.mono fun e w' ⟨⟨bb, he, h1⟩, hw⟩ => ⟨⟨bb, he, Lib.hid (fun hb => by
        obtain ⟨x', p1, p2, p3⟩ := h1 hb
        exact ⟨x', p1.le _ (by omega), HE.out x' p2 p3, p2, p3⟩)⟩, hw⟩)
      obtain ⟨z0, z1, z2, z3, z4, z5⟩ := HA8.out.cells
      rw [HNA.out] at z0 z1 z2 z3 z4 z5
      by_cases hi1 : i < m1
      · by_cases hi2 : i < m2
        · obtain ⟨v5, g5, s5⟩ := H1.out.2 i (by rw [← HM.out.2.1]; exact hi1)
          obtain ⟨e5, b5⟩ := H1.out.1 (by have := HM.out.2.1; omega)
          have k5 := (HB8.out.cell (p := ⟨b1, off1 + i, none⟩) b5).trans g5
          obtain ⟨v6, g6, s6⟩ := H2.out.2 i (by rw [← HM.out.2.2]; exact hi2)
          obtain ⟨e6, b6⟩ := H2.out.1 (by have := HM.out.2.2; omega)
          have k6 := (HB8.out.cell (p := ⟨b2, off2 + i, none⟩) b6).trans g6
          have K23 : Hid (Calls Tryz.prog 23 #[.pointer (some ⟨D, 0, none⟩), v5, v6] w8 fun e w' => e = .returned (.tuple #[]) ∧ Hid (∃ x', Px w.heap.size w' D (3 * i + 2) (fun st => Po st (x'.map sealB)) ∧ Fits x' ∧ (E = 0 → x' = some next) ∧ (E ≠ 0 → x' = nowX now th ∨ x' = some next)) ∧ Hid (Below w.heap.size w w')) := Lib.hid ((HP8.out.crashV (by omega) v5 v6 (s5.rb HB8.out) (s6.ru HB8.out)).mono fun e w' ⟨he, ⟨x', p1, p2, p3⟩, h2⟩ => ⟨he, Lib.hid ⟨x', p1, HE.out x' p2 p3, p2, p3⟩, Lib.hid (HB8.out.trans h2)⟩)
          obtain ⟨a5, n5, c5, rfl⟩ := s5.shape
          have q3 : (i : Int) < (m1 : Int) := by omega
          clear s5 g5 b5
          subst e5
          obtain ⟨a6, n6, c6, rfl⟩ := s6.shape
          have q4 : (i : Int) < (m2 : Int) := by omega
          clear s6 g6 b6
          subst e6
          clear hi1 hi2
          go_upto_region 23 with (first
            | (go_at_call 22; ((with_reducible refine (K22.out).mono ?_); rintro e w9 ⟨⟨bd, rfl, HD9⟩, hw9⟩; subst hw9))
            | (go_at_call 23; ((with_reducible refine (K23.out).mono ?_); rintro e w10 ⟨rfl, HX10, HB10⟩)))
          · have HX11 := HX10
            have HB11 := HB10
            obtain ⟨x', hp', hf', he1, he2⟩ := HX11.out
            have hE : E = 0 := by simpa using ‹((E : Int) == 0) = true›
            have hx : x' = nowX next true ∨ x' = some next := Or.inr (he1 hE)
            clear HX11 he1 he2 HP8 HB8 HA8 z0 z1 z2 z3 z4 z5 K22 K23 HE
            refine tail_at (D := D) (k := 3 * i + 2) (x := x') (next := next) (fun a w h => by apply_assumption; exact h) (by omega) hp' hf' HB11 hx ?_
            intro v' now' th' wz' h1 h2 h3
            clear hx hp' hf' HB11
            simp only [Exit.inBlock, Exit.then]
            apply_assumption
            go_wp2
            go_roundw
            case rel => exact ⟨i + 1, now', th', by omega, by go_num, rfl, rfl, Lib.hid (by rw [show 3 * (i + 1) = 3 * i + 2 + 1 by omega]; exact h1.out), h2, h3⟩
            case measure => simp [intOf]; omega
          · have HX11 := HX10
            have HB11 := HB10
            obtain ⟨x', hp', hf', he1, he2⟩ := HX11.out
            have hE : E = 0 := by simpa using ‹((E : Int) == 0) = true›
            have hx : x' = nowX next true ∨ x' = some next := Or.inr (he1 hE)
            clear HX11 he1 he2 HP8 HB8 HA8 z0 z1 z2 z3 z4 z5 K22 K23 HE
            refine tail_at (D := D) (k := 3 * i + 2) (x := x') (next := next) (fun a w h => by apply_assumption; exact h) (by omega) hp' hf' HB11 hx ?_
            intro v' now' th' wz' h1 h2 h3
            clear hx hp' hf' HB11
            simp only [Exit.inBlock, Exit.then]
            apply_assumption
            go_wp2
            go_roundw
            case rel => exact ⟨i + 1, now', th', by omega, by go_num, rfl, rfl, Lib.hid (by rw [show 3 * (i + 1) = 3 * i + 2 + 1 by omega]; exact h1.out), h2, h3⟩
            case measure => simp [intOf]; omega
          · have HX11 := Lib.hid (HD9.out (by simpa using ‹¬ bd = true›))
            have HB11 := HB8
            obtain ⟨x', hp', hf', he1, he2⟩ := HX11.out
            have hE : E = 0 := by simpa using ‹((E : Int) == 0) = true›
            have hx : x' = nowX next true ∨ x' = some next := Or.inr (he1 hE)
            clear HX11 he1 he2 HP8 HB8 HA8 z0 z1 z2 z3 z4 z5 K22 K23 HE
            refine tail_at (D := D) (k := 3 * i + 2) (x := x') (next := next) (fun a w h => by apply_assumption; exact h) (by omega) hp' hf' HB11 hx ?_
            intro v' now' th' wz' h1 h2 h3
            clear hx hp' hf' HB11
            simp only [Exit.inBlock, Exit.then]
            apply_assumption
            go_wp2
            go_roundw
            case rel => exact ⟨i + 1, now', th', by omega, by go_num, rfl, rfl, Lib.hid (by rw [show 3 * (i + 1) = 3 * i + 2 + 1 by omega]; exact h1.out), h2, h3⟩
            case measure => simp [intOf]; omega
          · have HX11 := HX10
            have HB11 := HB10
            obtain ⟨x', hp', hf', he1, he2⟩ := HX11.out
            have hEn : E ≠ 0 := by
              have h1 : ((E : Int) == 0) = false := by assumption
              simpa using h1
            have hx : x' = nowX now th ∨ x' = some next := he2 hEn
            clear HX11 he1 he2 HP8 HB8 HA8 z0 z1 z2 z3 z4 z5 K22 K23 HE
            refine tail_at (D := D) (k := 3 * i + 2) (x := x') (next := next) (fun a w h => by apply_assumption; exact h) (by omega) hp' hf' HB11 hx ?_
            intro v' now' th' wz' h1 h2 h3
            clear hx hp' hf' HB11
            simp only [Exit.inBlock, Exit.then]
            apply_assumption
            go_wp2
            go_roundw
            case rel => exact ⟨i + 1, now', th', by omega, by go_num, rfl, rfl, Lib.hid (by rw [show 3 * (i + 1) = 3 * i + 2 + 1 by omega]; exact h1.out), h2, h3⟩
            case measure => simp [intOf]; omega
          · have HX11 := HX10
            have HB11 := HB10
            obtain ⟨x', hp', hf', he1, he2⟩ := HX11.out
            have hEn : E ≠ 0 := by
              have h1 : ((E : Int) == 0) = false := by assumption
              simpa using h1
            have hx : x' = nowX now th ∨ x' = some next := he2 hEn
            clear HX11 he1 he2 HP8 HB8 HA8 z0 z1 z2 z3 z4 z5 K22 K23 HE
            refine tail_at (D := D) (k := 3 * i + 2) (x := x') (next := next) (fun a w h => by apply_assumption; exact h) (by omega) hp' hf' HB11 hx ?_
            intro v' now' th' wz' h1 h2 h3
            clear hx hp' hf' HB11
            simp only [Exit.inBlock, Exit.then]
            apply_assumption
            go_wp2
            go_roundw
            case rel => exact ⟨i + 1, now', th', by omega, by go_num, rfl, rfl, Lib.hid (by rw [show 3 * (i + 1) = 3 * i + 2 + 1 by omega]; exact h1.out), h2, h3⟩
            case measure => simp [intOf]; omega
          · have HX11 := Lib.hid (HD9.out (by simpa using ‹¬ bd = true›))
            have HB11 := HB8
            obtain ⟨x', hp', hf', he1, he2⟩ := HX11.out
            have hEn : E ≠ 0 := by
              have h1 : ((E : Int) == 0) = false := by assumption
              simpa using h1
            have hx : x' = nowX now th ∨ x' = some next := he2 hEn
            clear HX11 he1 he2 HP8 HB8 HA8 z0 z1 z2 z3 z4 z5 K22 K23 HE
            refine tail_at (D := D) (k := 3 * i + 2) (x := x') (next := next) (fun a w h => by apply_assumption; exact h) (by omega) hp' hf' HB11 hx ?_
            intro v' now' th' wz' h1 h2 h3
            clear hx hp' hf' HB11
            simp only [Exit.inBlock, Exit.then]
            apply_assumption
            go_wp2
            go_roundw
            case rel => exact ⟨i + 1, now', th', by omega, by go_num, rfl, rfl, Lib.hid (by rw [show 3 * (i + 1) = 3 * i + 2 + 1 by omega]; exact h1.out), h2, h3⟩
            case measure => simp [intOf]; omega
        · obtain ⟨v5, g5, s5⟩ := H1.out.2 i (by rw [← HM.out.2.1]; exact hi1)
          obtain ⟨e5, b5⟩ := H1.out.1 (by have := HM.out.2.1; omega)
          have k5 := (HB8.out.cell (p := ⟨b1, off1 + i, none⟩) b5).trans g5
          have K23 : Hid (Calls Tryz.prog 23 #[.pointer (some ⟨D, 0, none⟩), v5, (.slice none 0 0)] w8 fun e w' => e = .returned (.tuple #[]) ∧ Hid (∃ x', Px w.heap.size w' D (3 * i + 2) (fun st => Po st (x'.map sealB)) ∧ Fits x' ∧ (E = 0 → x' = some next) ∧ (E ≠ 0 → x' = nowX now th ∨ x' = some next)) ∧ Hid (Below w.heap.size w w')) := Lib.hid ((HP8.out.crashV (by omega) v5 (.slice none 0 0) (s5.rb HB8.out) (RuB.nil _ _)).mono fun e w' ⟨he, ⟨x', p1, p2, p3⟩, h2⟩ => ⟨he, Lib.hid ⟨x', p1, HE.out x' p2 p3, p2, p3⟩, Lib.hid (HB8.out.trans h2)⟩)
          obtain ⟨a5, n5, c5, rfl⟩ := s5.shape
          have q3 : (i : Int) < (m1 : Int) := by omega
          clear s5 g5 b5
          subst e5
          have q4 : ¬ (i : Int) < (m2 : Int) := by omega
          clear hi1 hi2
          go_upto_region 23 with (first
            | (go_at_call 22; ((with_reducible refine (K22.out).mono ?_); rintro e w9 ⟨⟨bd, rfl, HD9⟩, hw9⟩; subst hw9))
            | (go_at_call 23; ((with_reducible refine (K23.out).mono ?_); rintro e w10 ⟨rfl, HX10, HB10⟩)))
          · have HX11 := HX10
            have HB11 := HB10
            obtain ⟨x', hp', hf', he1, he2⟩ := HX11.out
            have hE : E = 0 := by simpa using ‹((E : Int) == 0) = true›
            have hx : x' = nowX next true ∨ x' = some next := Or.inr (he1 hE)
            clear HX11 he1 he2 HP8 HB8 HA8 z0 z1 z2 z3 z4 z5 K22 K23 HE
            refine tail_at (D := D) (k := 3 * i + 2) (x := x') (next := next) (fun a w h => by apply_assumption; exact h) (by omega) hp' hf' HB11 hx ?_
            intro v' now' th' wz' h1 h2 h3
            clear hx hp' hf' HB11
            simp only [Exit.inBlock, Exit.then]
            apply_assumption
            go_wp2
            go_roundw
            case rel => exact ⟨i + 1, now', th', by omega, by go_num, rfl, rfl, Lib.hid (by rw [show 3 * (i + 1) = 3 * i + 2 + 1 by omega]; exact h1.out), h2, h3⟩
            case measure => simp [intOf]; omega
          · have HX11 := HX10
            have HB11 := HB10
            obtain ⟨x', hp', hf', he1, he2⟩ := HX11.out
            have hE : E = 0 := by simpa using ‹((E : Int) == 0) = true›
            have hx : x' = nowX next true ∨ x' = some next := Or.inr (he1 hE)
            clear HX11 he1 he2 HP8 HB8 HA8 z0 z1 z2 z3 z4 z5 K22 K23 HE
            refine tail_at (D := D) (k := 3 * i + 2) (x := x') (next := next) (fun a w h => by apply_assumption; exact h) (by omega) hp' hf' HB11 hx ?_
            intro v' now' th' wz' h1 h2 h3
            clear hx hp' hf' HB11
            simp only [Exit.inBlock, Exit.then]
            apply_assumption
            go_wp2
            go_roundw
            case rel => exact ⟨i + 1, now', th', by omega, by go_num, rfl, rfl, Lib.hid (by rw [show 3 * (i + 1) = 3 * i + 2 + 1 by omega]; exact h1.out), h2, h3⟩
            case measure => simp [intOf]; omega
          · have HX11 := Lib.hid (HD9.out (by simpa using ‹¬ bd = true›))
            have HB11 := HB8
            obtain ⟨x', hp', hf', he1, he2⟩ := HX11.out
            have hE : E = 0 := by simpa using ‹((E : Int) == 0) = true›
            have hx : x' = nowX next true ∨ x' = some next := Or.inr (he1 hE)
            clear HX11 he1 he2 HP8 HB8 HA8 z0 z1 z2 z3 z4 z5 K22 K23 HE
            refine tail_at (D := D) (k := 3 * i + 2) (x := x') (next := next) (fun a w h => by apply_assumption; exact h) (by omega) hp' hf' HB11 hx ?_
            intro v' now' th' wz' h1 h2 h3
            clear hx hp' hf' HB11
            simp only [Exit.inBlock, Exit.then]
            apply_assumption
            go_wp2
            go_roundw
            case rel => exact ⟨i + 1, now', th', by omega, by go_num, rfl, rfl, Lib.hid (by rw [show 3 * (i + 1) = 3 * i + 2 + 1 by omega]; exact h1.out), h2, h3⟩
            case measure => simp [intOf]; omega
          · have HX11 := HX10
            have HB11 := HB10
            obtain ⟨x', hp', hf', he1, he2⟩ := HX11.out
            have hEn : E ≠ 0 := by
              have h1 : ((E : Int) == 0) = false := by assumption
              simpa using h1
            have hx : x' = nowX now th ∨ x' = some next := he2 hEn
            clear HX11 he1 he2 HP8 HB8 HA8 z0 z1 z2 z3 z4 z5 K22 K23 HE
            refine tail_at (D := D) (k := 3 * i + 2) (x := x') (next := next) (fun a w h => by apply_assumption; exact h) (by omega) hp' hf' HB11 hx ?_
            intro v' now' th' wz' h1 h2 h3
            clear hx hp' hf' HB11
            simp only [Exit.inBlock, Exit.then]
            apply_assumption
            go_wp2
            go_roundw
            case rel => exact ⟨i + 1, now', th', by omega, by go_num, rfl, rfl, Lib.hid (by rw [show 3 * (i + 1) = 3 * i + 2 + 1 by omega]; exact h1.out), h2, h3⟩
            case measure => simp [intOf]; omega
          · have HX11 := HX10
            have HB11 := HB10
            obtain ⟨x', hp', hf', he1, he2⟩ := HX11.out
            have hEn : E ≠ 0 := by
              have h1 : ((E : Int) == 0) = false := by assumption
              simpa using h1
            have hx : x' = nowX now th ∨ x' = some next := he2 hEn
            clear HX11 he1 he2 HP8 HB8 HA8 z0 z1 z2 z3 z4 z5 K22 K23 HE
            refine tail_at (D := D) (k := 3 * i + 2) (x := x') (next := next) (fun a w h => by apply_assumption; exact h) (by omega) hp' hf' HB11 hx ?_
            intro v' now' th' wz' h1 h2 h3
            clear hx hp' hf' HB11
            simp only [Exit.inBlock, Exit.then]
            apply_assumption
            go_wp2
            go_roundw
            case rel => exact ⟨i + 1, now', th', by omega, by go_num, rfl, rfl, Lib.hid (by rw [show 3 * (i + 1) = 3 * i + 2 + 1 by omega]; exact h1.out), h2, h3⟩
            case measure => simp [intOf]; omega
          · have HX11 := Lib.hid (HD9.out (by simpa using ‹¬ bd = true›))
            have HB11 := HB8
            obtain ⟨x', hp', hf', he1, he2⟩ := HX11.out
            have hEn : E ≠ 0 := by
              have h1 : ((E : Int) == 0) = false := by assumption
              simpa using h1
            have hx : x' = nowX now th ∨ x' = some next := he2 hEn
            clear HX11 he1 he2 HP8 HB8 HA8 z0 z1 z2 z3 z4 z5 K22 K23 HE
            refine tail_at (D := D) (k := 3 * i + 2) (x := x') (next := next) (fun a w h => by apply_assumption; exact h) (by omega) hp' hf' HB11 hx ?_
            intro v' now' th' wz' h1 h2 h3
            clear hx hp' hf' HB11
            simp only [Exit.inBlock, Exit.then]
            apply_assumption
            go_wp2
            go_roundw
            case rel => exact ⟨i + 1, now', th', by omega, by go_num, rfl, rfl, Lib.hid (by rw [show 3 * (i + 1) = 3 * i + 2 + 1 by omega]; exact h1.out), h2, h3⟩
            case measure => simp [intOf]; omega
      · by_cases hi2 : i < m2
        · obtain ⟨v6, g6, s6⟩ := H2.out.2 i (by rw [← HM.out.2.2]; exact hi2)
          obtain ⟨e6, b6⟩ := H2.out.1 (by have := HM.out.2.2; omega)
          have k6 := (HB8.out.cell (p := ⟨b2, off2 + i, none⟩) b6).trans g6
          have K23 : Hid (Calls Tryz.prog 23 #[.pointer (some ⟨D, 0, none⟩), (.slice none 0 0), v6] w8 fun e w' => e = .returned (.tuple #[]) ∧ Hid (∃ x', Px w.heap.size w' D (3 * i + 2) (fun st => Po st (x'.map sealB)) ∧ Fits x' ∧ (E = 0 → x' = some next) ∧ (E ≠ 0 → x' = nowX now th ∨ x' = some next)) ∧ Hid (Below w.heap.size w w')) := Lib.hid ((HP8.out.crashV (by omega) (.slice none 0 0) v6 (RbB.nil _ _) (s6.ru HB8.out)).mono fun e w' ⟨he, ⟨x', p1, p2, p3⟩, h2⟩ => ⟨he, Lib.hid ⟨x', p1, HE.out x' p2 p3, p2, p3⟩, Lib.hid (HB8.out.trans h2)⟩)
          have q3 : ¬ (i : Int) < (m1 : Int) := by omega
          obtain ⟨a6, n6, c6, rfl⟩ := s6.shape
          have q4 : (i : Int) < (m2 : Int) := by omega
          clear s6 g6 b6
          subst e6
          clear hi1 hi2
          go_upto_region 23 with (first
            | (go_at_call 22; ((with_reducible refine (K22.out).mono ?_); rintro e w9 ⟨⟨bd, rfl, HD9⟩, hw9⟩; subst hw9))
            | (go_at_call 23; ((with_reducible refine (K23.out).mono ?_); rintro e w10 ⟨rfl, HX10, HB10⟩)))
          · have HX11 := HX10
            have HB11 := HB10
            obtain ⟨x', hp', hf', he1, he2⟩ := HX11.out
            have hE : E = 0 := by simpa using ‹((E : Int) == 0) = true›
            have hx : x' = nowX next true ∨ x' = some next := Or.inr (he1 hE)
            clear HX11 he1 he2 HP8 HB8 HA8 z0 z1 z2 z3 z4 z5 K22 K23 HE
            refine tail_at (D := D) (k := 3 * i + 2) (x := x') (next := next) (fun a w h => by apply_assumption; exact h) (by omega) hp' hf' HB11 hx ?_
            intro v' now' th' wz' h1 h2 h3
            clear hx hp' hf' HB11
            simp only [Exit.inBlock, Exit.then]
            apply_assumption
            go_wp2
            go_roundw
            case rel => exact ⟨i + 1, now', th', by omega, by go_num, rfl, rfl, Lib.hid (by rw [show 3 * (i + 1) = 3 * i + 2 + 1 by omega]; exact h1.out), h2, h3⟩
            case measure => simp [intOf]; omega
          · have HX11 := HX10
            have HB11 := HB10
            obtain ⟨x', hp', hf', he1, he2⟩ := HX11.out
            have hE : E = 0 := by simpa using ‹((E : Int) == 0) = true›
            have hx : x' = nowX next true ∨ x' = some next := Or.inr (he1 hE)
            clear HX11 he1 he2 HP8 HB8 HA8 z0 z1 z2 z3 z4 z5 K22 K23 HE
            refine tail_at (D := D) (k := 3 * i + 2) (x := x') (next := next) (fun a w h => by apply_assumption; exact h) (by omega) hp' hf' HB11 hx ?_
            intro v' now' th' wz' h1 h2 h3
            clear hx hp' hf' HB11
            simp only [Exit.inBlock, Exit.then]
            apply_assumption
            go_wp2
            go_roundw
            case rel => exact ⟨i + 1, now', th', by omega, by go_num, rfl, rfl, Lib.hid (by rw [show 3 * (i + 1) = 3 * i + 2 + 1 by omega]; exact h1.out), h2, h3⟩
            case measure => simp [intOf]; omega
          · have HX11 := Lib.hid (HD9.out (by simpa using ‹¬ bd = true›))
            have HB11 := HB8
            obtain ⟨x', hp', hf', he1, he2⟩ := HX11.out
            have hE : E = 0 := by simpa using ‹((E : Int) == 0) = true›
            have hx : x' = nowX next true ∨ x' = some next := Or.inr (he1 hE)
            clear HX11 he1 he2 HP8 HB8 HA8 z0 z1 z2 z3 z4 z5 K22 K23 HE
            refine tail_at (D := D) (k := 3 * i + 2) (x := x') (next := next) (fun a w h => by apply_assumption; exact h) (by omega) hp' hf' HB11 hx ?_
            intro v' now' th' wz' h1 h2 h3
            clear hx hp' hf' HB11
            simp only [Exit.inBlock, Exit.then]
            apply_assumption
            go_wp2
            go_roundw
            case rel => exact ⟨i + 1, now', th', by omega, by go_num, rfl, rfl, Lib.hid (by rw [show 3 * (i + 1) = 3 * i + 2 + 1 by omega]; exact h1.out), h2, h3⟩
            case measure => simp [intOf]; omega
          · have HX11 := HX10
            have HB11 := HB10
            obtain ⟨x', hp', hf', he1, he2⟩ := HX11.out
            have hEn : E ≠ 0 := by
              have h1 : ((E : Int) == 0) = false := by assumption
              simpa using h1
            have hx : x' = nowX now th ∨ x' = some next := he2 hEn
            clear HX11 he1 he2 HP8 HB8 HA8 z0 z1 z2 z3 z4 z5 K22 K23 HE
            refine tail_at (D := D) (k := 3 * i + 2) (x := x') (next := next) (fun a w h => by apply_assumption; exact h) (by omega) hp' hf' HB11 hx ?_
            intro v' now' th' wz' h1 h2 h3
            clear hx hp' hf' HB11
            simp only [Exit.inBlock, Exit.then]
            apply_assumption
            go_wp2
            go_roundw
            case rel => exact ⟨i + 1, now', th', by omega, by go_num, rfl, rfl, Lib.hid (by rw [show 3 * (i + 1) = 3 * i + 2 + 1 by omega]; exact h1.out), h2, h3⟩
            case measure => simp [intOf]; omega
          · have HX11 := HX10
            have HB11 := HB10
            obtain ⟨x', hp', hf', he1, he2⟩ := HX11.out
            have hEn : E ≠ 0 := by
              have h1 : ((E : Int) == 0) = false := by assumption
              simpa using h1
            have hx : x' = nowX now th ∨ x' = some next := he2 hEn
            clear HX11 he1 he2 HP8 HB8 HA8 z0 z1 z2 z3 z4 z5 K22 K23 HE
            refine tail_at (D := D) (k := 3 * i + 2) (x := x') (next := next) (fun a w h => by apply_assumption; exact h) (by omega) hp' hf' HB11 hx ?_
            intro v' now' th' wz' h1 h2 h3
            clear hx hp' hf' HB11
            simp only [Exit.inBlock, Exit.then]
            apply_assumption
            go_wp2
            go_roundw
            case rel => exact ⟨i + 1, now', th', by omega, by go_num, rfl, rfl, Lib.hid (by rw [show 3 * (i + 1) = 3 * i + 2 + 1 by omega]; exact h1.out), h2, h3⟩
            case measure => simp [intOf]; omega
          · have HX11 := Lib.hid (HD9.out (by simpa using ‹¬ bd = true›))
            have HB11 := HB8
            obtain ⟨x', hp', hf', he1, he2⟩ := HX11.out
            have hEn : E ≠ 0 := by
              have h1 : ((E : Int) == 0) = false := by assumption
              simpa using h1
            have hx : x' = nowX now th ∨ x' = some next := he2 hEn
            clear HX11 he1 he2 HP8 HB8 HA8 z0 z1 z2 z3 z4 z5 K22 K23 HE
            refine tail_at (D := D) (k := 3 * i + 2) (x := x') (next := next) (fun a w h => by apply_assumption; exact h) (by omega) hp' hf' HB11 hx ?_
            intro v' now' th' wz' h1 h2 h3
            clear hx hp' hf' HB11
            simp only [Exit.inBlock, Exit.then]
            apply_assumption
            go_wp2
            go_roundw
            case rel => exact ⟨i + 1, now', th', by omega, by go_num, rfl, rfl, Lib.hid (by rw [show 3 * (i + 1) = 3 * i + 2 + 1 by omega]; exact h1.out), h2, h3⟩
            case measure => simp [intOf]; omega
        · have K23 : Hid (Calls Tryz.prog 23 #[.pointer (some ⟨D, 0, none⟩), (.slice none 0 0), (.slice none 0 0)] w8 fun e w' => e = .returned (.tuple #[]) ∧ Hid (∃ x', Px w.heap.size w' D (3 * i + 2) (fun st => Po st (x'.map sealB)) ∧ Fits x' ∧ (E = 0 → x' = some next) ∧ (E ≠ 0 → x' = nowX now th ∨ x' = some next)) ∧ Hid (Below w.heap.size w w')) := Lib.hid ((HP8.out.crashV (by omega) (.slice none 0 0) (.slice none 0 0) (RbB.nil _ _) (RuB.nil _ _)).mono fun e w' ⟨he, ⟨x', p1, p2, p3⟩, h2⟩ => ⟨he, Lib.hid ⟨x', p1, HE.out x' p2 p3, p2, p3⟩, Lib.hid (HB8.out.trans h2)⟩)
          have q3 : ¬ (i : Int) < (m1 : Int) := by omega
          have q4 : ¬ (i : Int) < (m2 : Int) := by omega
          clear hi1 hi2
          go_upto_region 23 with (first
            | (go_at_call 22; ((with_reducible refine (K22.out).mono ?_); rintro e w9 ⟨⟨bd, rfl, HD9⟩, hw9⟩; subst hw9))
            | (go_at_call 23; ((with_reducible refine (K23.out).mono ?_); rintro e w10 ⟨rfl, HX10, HB10⟩)))
          · have HX11 := HX10
            have HB11 := HB10
            obtain ⟨x', hp', hf', he1, he2⟩ := HX11.out
            have hE : E = 0 := by simpa using ‹((E : Int) == 0) = true›
            have hx : x' = nowX next true ∨ x' = some next := Or.inr (he1 hE)
            clear HX11 he1 he2 HP8 HB8 HA8 z0 z1 z2 z3 z4 z5 K22 K23 HE
            refine tail_at (D := D) (k := 3 * i + 2) (x := x') (next := next) (fun a w h => by apply_assumption; exact h) (by omega) hp' hf' HB11 hx ?_
            intro v' now' th' wz' h1 h2 h3
            clear hx hp' hf' HB11
            simp only [Exit.inBlock, Exit.then]
            apply_assumption
            go_wp2
            go_roundw
            case rel => exact ⟨i + 1, now', th', by omega, by go_num, rfl, rfl, Lib.hid (by rw [show 3 * (i + 1) = 3 * i + 2 + 1 by omega]; exact h1.out), h2, h3⟩
            case measure => simp [intOf]; omega
          · have HX11 := HX10
            have HB11 := HB10
            obtain ⟨x', hp', hf', he1, he2⟩ := HX11.out
            have hE : E = 0 := by simpa using ‹((E : Int) == 0) = true›
            have hx : x' = nowX next true ∨ x' = some next := Or.inr (he1 hE)
            clear HX11 he1 he2 HP8 HB8 HA8 z0 z1 z2 z3 z4 z5 K22 K23 HE
            refine tail_at (D := D) (k := 3 * i + 2) (x := x') (next := next) (fun a w h => by apply_assumption; exact h) (by omega) hp' hf' HB11 hx ?_
            intro v' now' th' wz' h1 h2 h3
            clear hx hp' hf' HB11
            simp only [Exit.inBlock, Exit.then]
            apply_assumption
            go_wp2
            go_roundw
            case rel => exact ⟨i + 1, now', th', by omega, by go_num, rfl, rfl, Lib.hid (by rw [show 3 * (i + 1) = 3 * i + 2 + 1 by omega]; exact h1.out), h2, h3⟩
            case measure => simp [intOf]; omega
          · have HX11 := Lib.hid (HD9.out (by simpa using ‹¬ bd = true›))
            have HB11 := HB8
            obtain ⟨x', hp', hf', he1, he2⟩ := HX11.out
            have hE : E = 0 := by simpa using ‹((E : Int) == 0) = true›
            have hx : x' = nowX next true ∨ x' = some next := Or.inr (he1 hE)
            clear HX11 he1 he2 HP8 HB8 HA8 z0 z1 z2 z3 z4 z5 K22 K23 HE
            refine tail_at (D := D) (k := 3 * i + 2) (x := x') (next := next) (fun a w h => by apply_assumption; exact h) (by omega) hp' hf' HB11 hx ?_
            intro v' now' th' wz' h1 h2 h3
            clear hx hp' hf' HB11
            simp only [Exit.inBlock, Exit.then]
            apply_assumption
            go_wp2
            go_roundw
            case rel => exact ⟨i + 1, now', th', by omega, by go_num, rfl, rfl, Lib.hid (by rw [show 3 * (i + 1) = 3 * i + 2 + 1 by omega]; exact h1.out), h2, h3⟩
            case measure => simp [intOf]; omega
          · have HX11 := HX10
            have HB11 := HB10
            obtain ⟨x', hp', hf', he1, he2⟩ := HX11.out
            have hEn : E ≠ 0 := by
              have h1 : ((E : Int) == 0) = false := by assumption
              simpa using h1
            have hx : x' = nowX now th ∨ x' = some next := he2 hEn
            clear HX11 he1 he2 HP8 HB8 HA8 z0 z1 z2 z3 z4 z5 K22 K23 HE
            refine tail_at (D := D) (k := 3 * i + 2) (x := x') (next := next) (fun a w h => by apply_assumption; exact h) (by omega) hp' hf' HB11 hx ?_
            intro v' now' th' wz' h1 h2 h3
            clear hx hp' hf' HB11
            simp only [Exit.inBlock, Exit.then]
            apply_assumption
            go_wp2
            go_roundw
            case rel => exact ⟨i + 1, now', th', by omega, by go_num, rfl, rfl, Lib.hid (by rw [show 3 * (i + 1) = 3 * i + 2 + 1 by omega]; exact h1.out), h2, h3⟩
            case measure => simp [intOf]; omega
          · have HX11 := HX10
            have HB11 := HB10
            obtain ⟨x', hp', hf', he1, he2⟩ := HX11.out
            have hEn : E ≠ 0 := by
              have h1 : ((E : Int) == 0) = false := by assumption
              simpa using h1
            have hx : x' = nowX now th ∨ x' = some next := he2 hEn
            clear HX11 he1 he2 HP8 HB8 HA8 z0 z1 z2 z3 z4 z5 K22 K23 HE
            refine tail_at (D := D) (k := 3 * i + 2) (x := x') (next := next) (fun a w h => by apply_assumption; exact h) (by omega) hp' hf' HB11 hx ?_
            intro v' now' th' wz' h1 h2 h3
            clear hx hp' hf' HB11
            simp only [Exit.inBlock, Exit.then]
            apply_assumption
            go_wp2
            go_roundw
            case rel => exact ⟨i + 1, now', th', by omega, by go_num, rfl, rfl, Lib.hid (by rw [show 3 * (i + 1) = 3 * i + 2 + 1 by omega]; exact h1.out), h2, h3⟩
            case measure => simp [intOf]; omega
          · have HX11 := Lib.hid (HD9.out (by simpa using ‹¬ bd = true›))
            have HB11 := HB8
            obtain ⟨x', hp', hf', he1, he2⟩ := HX11.out
            have hEn : E ≠ 0 := by
              have h1 : ((E : Int) == 0) = false := by assumption
              simpa using h1
            have hx : x' = nowX now th ∨ x' = some next := he2 hEn
            clear HX11 he1 he2 HP8 HB8 HA8 z0 z1 z2 z3 z4 z5 K22 K23 HE
            refine tail_at (D := D) (k := 3 * i + 2) (x := x') (next := next) (fun a w h => by apply_assumption; exact h) (by omega) hp' hf' HB11 hx ?_
            intro v' now' th' wz' h1 h2 h3
            clear hx hp' hf' HB11
            simp only [Exit.inBlock, Exit.then]
            apply_assumption
            go_wp2
            go_roundw
            case rel => exact ⟨i + 1, now', th', by omega, by go_num, rfl, rfl, Lib.hid (by rw [show 3 * (i + 1) = 3 * i + 2 + 1 by omega]; exact h1.out), h2, h3⟩
            case measure => simp [intOf]; omega
    · have hjm : i = m := by omega
      subst hjm
      go_wp2
      go_ret
      exact ⟨rfl, HB.out⟩
end Go.Proofs.YtjkpopdjmmgbbaaGreat.Fi

namespace Go.Proofs.YtjkpopdjmmgbbaaGreat.Fi
open Go.RowKit Dk Go.Maps
set_option maxRecDepth 100000 in
theorem whole_great (n n1 n2 : Nat) (oa o1 o2 : Option Addr) (cap cap1 cap2 : Nat) (h : 8 < n ∨ 8 < n1 ∨ 8 < n2) (w : World) :
    Calls Tryz.prog 5 #[.slice oa n cap, .slice o1 n1 cap1, .slice o2 n2 cap2] w fun e w' => e = .returned (.bool true) ∧ Below w.heap.size w w' := by
  have K6 := Lib.hid (awake_any w)
  by_cases h1 : 8 < n
  · have q1 : (8 : Int) < (n : Int) := by omega
    clear h h1
    go_enter Tryz.func5, Tryz.ntmps5
    go_wp2_with (first | (go_at_call 6; ((with_reducible refine (K6.out).mono ?_); rintro e w1 ⟨rfl, hb1⟩; have HB1 := Lib.hid hb1; clear hb1)))
    all_goals
      go_ret
      exact ⟨rfl, HB1.out⟩
  · by_cases h2 : 8 < n1
    · have q1 : ¬ (8 : Int) < (n : Int) := by omega
      have q2 : (8 : Int) < (n1 : Int) := by omega
      clear h h1 h2
      go_enter Tryz.func5, Tryz.ntmps5
      go_wp2_with (first | (go_at_call 6; ((with_reducible refine (K6.out).mono ?_); rintro e w1 ⟨rfl, hb1⟩; have HB1 := Lib.hid hb1; clear hb1)))
      all_goals
        go_ret
        exact ⟨rfl, HB1.out⟩
    · have q1 : ¬ (8 : Int) < (n : Int) := by omega
      have q2 : ¬ (8 : Int) < (n1 : Int) := by omega
      have q3 : (8 : Int) < (n2 : Int) := by omega
      clear h h1 h2
      go_enter Tryz.func5, Tryz.ntmps5
      go_wp2_with (first | (go_at_call 6; ((with_reducible refine (K6.out).mono ?_); rintro e w1 ⟨rfl, hb1⟩; have HB1 := Lib.hid hb1; clear hb1)))
      all_goals
        go_ret
        exact ⟨rfl, HB1.out⟩
theorem whole_walk (l : List Ac) (oa : Option Addr) (cap b off : Nat) (w : World) (ho : 0 < l.length → oa = some ⟨b, off, none⟩ ∧ b < w.heap.size) (hin : AcsIn w b off l)
    (ns : List (List Bool)) (o1 : Option Addr) (cap1 b1 off1 : Nat) (h1 : 0 < ns.length → o1 = some ⟨b1, off1, none⟩ ∧ b1 < w.heap.size) (h1b : BssIn w b1 off1 ns)
    (ss : List (List Nat)) (o2 : Option Addr) (cap2 b2 off2 : Nat) (h2 : 0 < ss.length → o2 = some ⟨b2, off2, none⟩ ∧ b2 < w.heap.size) (h2b : UssIn w b2 off2 ss) :
    Calls Tryz.prog 5 #[.slice oa l.length cap, .slice o1 ns.length cap1, .slice o2 ss.length cap2] w fun e w' => e = .returned (.bool true) ∧ Below w.heap.size w w' := by
  by_cases hg : 8 < l.length ∨ 8 < ns.length ∨ 8 < ss.length
  · exact whole_great _ _ _ _ _ _ _ _ _ hg w
  · exact whole_any l (by omega) oa cap b off w ho hin ns (by omega) o1 cap1 b1 off1 h1 h1b ss (by omega) o2 cap2 b2 off2 h2 h2b
end Go.Proofs.YtjkpopdjmmgbbaaGreat.Fi
