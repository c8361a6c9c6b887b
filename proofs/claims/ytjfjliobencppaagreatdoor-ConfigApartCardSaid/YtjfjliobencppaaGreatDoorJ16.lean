/- config: what Light lets through. -/
import Derived.Test.YtjfjliobencppaaGreatDoorJ15
set_option linter.unusedVariables false
set_option linter.unusedSimpArgs false
namespace Go.Proofs.YtjfjliobencppaaGreatDoor.Cf
open Go.RowKit

/-- Some truth; where it is true, G. -/
def LiP (G : Prop) (w : World) (e : Ending) (w' : World) : Prop := ∃ b : Bool, e = .returned (.bool b) ∧ (b = true → G) ∧ Below w.heap.size w w'
set_option maxRecDepth 100000 in
set_option maxHeartbeats 4000000 in
theorem light_walk (v : Value) (o1 o2 : Option Addr) (n1 n2 C1 C2 B1 f1 B2 f2 : Nat) (PL PK : Nat → Prop) (Q : Nat → Nat → Prop) (w : World) (h1 : 0 < n1 → o1 = some ⟨B1, f1, none⟩) (h2 : 0 < n2 → o2 = some ⟨B2, f2, none⟩)
    (hL : ∀ i, i < n1 → ∃ (s : ByteArray) (a b c d p : Int) (o : Option Addr) (n cap B f : Nat), w.cell? ⟨B1, f1 + i * 7, none⟩ = some (.string s) ∧ w.cell? ⟨B1, f1 + i * 7 + 1, none⟩ = some (.int .u8 a) ∧ w.cell? ⟨B1, f1 + i * 7 + 2, none⟩ = some (.int .u8 b) ∧ w.cell? ⟨B1, f1 + i * 7 + 3, none⟩ = some (.int .u8 c) ∧ w.cell? ⟨B1, f1 + i * 7 + 4, none⟩ = some (.int .u8 d) ∧ w.cell? ⟨B1, f1 + i * 7 + 5, none⟩ = some (.int .u16 p) ∧ w.cell? ⟨B1, f1 + i * 7 + 6, none⟩ = some (.slice o n cap) ∧ (0 < n → o = some ⟨B, f, none⟩) ∧ (s.size ≤ 300 → n ≤ 12 → (∀ j, j < n → Q i j) → PL i) ∧
      ∀ j, j < n → ∃ (x y z : ByteArray) (u : Int), w.cell? ⟨B, f + j * 4, none⟩ = some (.string x) ∧ w.cell? ⟨B, f + j * 4 + 1, none⟩ = some (.string y) ∧ w.cell? ⟨B, f + j * 4 + 2, none⟩ = some (.string z) ∧ w.cell? ⟨B, f + j * 4 + 3, none⟩ = some (.int .u64 u) ∧ (x.size ≤ 300 → y.size ≤ 300 → z.size ≤ 300 → Q i j))
    (hK : ∀ i, i < n2 → ∃ (s : ByteArray) (o : Option Addr) (n cap : Nat), w.cell? ⟨B2, f2 + i * 2, none⟩ = some (.string s) ∧ w.cell? ⟨B2, f2 + i * 2 + 1, none⟩ = some (.slice o n cap) ∧ (s.size ≤ 300 → n ≤ 12 → PK i)) :
    Calls Tryz.prog 8 #[.agg #[v, .slice o1 n1 C1, .slice o2 n2 C2]] w (LiP (n1 ≤ 12 ∧ n2 ≤ 12 ∧ (∀ i, i < n1 → PL i) ∧ ∀ i, i < n2 → PK i) w) := by
  have HB0 := Lib.hid (alloc_below w (.cells #[v, .slice o1 n1 C1, .slice o2 n2 C2] 26))
  have HX0 := Lib.hid (show Bk (w.alloc (.cells #[v, .slice o1 n1 C1, .slice o2 n2 C2] 26)) w.heap.size #[v, .slice o1 n1 C1, .slice o2 n2 C2] 26 from heap_alloc_new w _)
  have HL := Lib.hid hL
  have HK := Lib.hid hK
  have H1 := Lib.hid h1
  have H2 := Lib.hid h2
  obtain ⟨y0, y1, y2⟩ := bk3 HX0.out
  clear hL hK h1 h2
  go_enter Tryz.func8, Tryz.ntmps8
  go_upto_region 1 with fail
  generalize w.alloc (.cells #[v, .slice o1 n1 C1, .slice o2 n2 C2] 26) = w0 at *
  by_cases q1 : n1 ≤ 12
  · by_cases q2 : n2 ≤ 12
    · have m1 : decide ((12 : Int) < max (n1 : Int) (n2 : Int)) = false := by rw [decide_eq_false_iff_not]; omega
      go_wp2_with fail
      go_loopw [4, 6, 20] (fun _ _ iv wr => ∃ k : Nat, k ≤ n1 ∧ iv = .int .i64 (k : Int) ∧ Hid (Below w0.heap.size w0 wr ∧ ∀ i, i < k → PL i)) (fun _ _ iv _ => n1 - (intOf iv).toNat)
      case atStart => exact ⟨0, Nat.zero_le _, rfl, Lib.hid ⟨Below.refl _ _, fun i h => absurd h (by omega)⟩⟩
      case round =>
        obtain ⟨k, hk, rfl, HT⟩ := hrel
        by_cases hlt : k < n1
        · obtain rfl := H1.out (by omega)
          obtain ⟨s, a, b, c, d, p, o, n, cap, B, f, e0, e1, e2, e3, e4, e5, e6, ho, hPL, hR⟩ := HL.out k hlt
          have HW := Lib.hid (HB0.out.trans (HT.out.1.mono HB0.out.size))
          have f0 := (HW.out.cell (World.block_lt_of_cell? w _ e0)).trans e0
          have f1 := (HW.out.cell (World.block_lt_of_cell? w _ e1)).trans e1
          have f2 := (HW.out.cell (World.block_lt_of_cell? w _ e2)).trans e2
          have f3 := (HW.out.cell (World.block_lt_of_cell? w _ e3)).trans e3
          have f4 := (HW.out.cell (World.block_lt_of_cell? w _ e4)).trans e4
          have f5 := (HW.out.cell (World.block_lt_of_cell? w _ e5)).trans e5
          have f6 := (HW.out.cell (World.block_lt_of_cell? w _ e6)).trans e6
          have HO := Lib.hid ho
          have HP := Lib.hid hPL
          have HR := Lib.hid hR
          have HN := Lib.hid (alloc_below wr (.cells #[.string s, .int .u8 a, .int .u8 b, .int .u8 c, .int .u8 d, .int .u16 p, .slice o n cap] 52))
          have HW1 := Lib.hid (HW.out.trans (HN.out.mono HW.out.size))
          clear e0 e1 e2 e3 e4 e5 e6 ho hPL hR
          by_cases q3 : s.size ≤ 300
          · have m3 : decide ((300 : Int) < (s.size : Int)) = false := by rw [decide_eq_false_iff_not]; omega
            by_cases q4 : n ≤ 12
            · have m4 : decide ((12 : Int) < (n : Int)) = false := by rw [decide_eq_false_iff_not]; omega
              go_wp2_with fail
              generalize wr.alloc (.cells #[.string s, .int .u8 a, .int .u8 b, .int .u8 c, .int .u8 d, .int .u16 p, .slice o n cap] 52) = wb at *
              go_loopw [6, 37] (fun _ iv wz => ∃ j : Nat, j ≤ n ∧ iv = .int .i64 (j : Int) ∧ Hid (Below wb.heap.size wb wz ∧ ∀ i, i < j → Q k i)) (fun _ iv _ => n - (intOf iv).toNat)
              case atStart => exact ⟨0, Nat.zero_le _, rfl, Lib.hid ⟨Below.refl _ _, fun i h => absurd h (by omega)⟩⟩
              case round =>
                obtain ⟨j, hj, rfl, HJ⟩ := hrel
                by_cases hjn : j < n
                · obtain rfl := HO.out (by omega)
                  obtain ⟨x, y, z, u, r0, r1, r2, r3, hQ⟩ := HR.out j hjn
                  have HZ := Lib.hid (HW1.out.trans (HJ.out.1.mono HW1.out.size))
                  have HQ := Lib.hid hQ
                  have g0 := (HZ.out.cell (World.block_lt_of_cell? w _ r0)).trans r0
                  have g1 := (HZ.out.cell (World.block_lt_of_cell? w _ r1)).trans r1
                  have g2 := (HZ.out.cell (World.block_lt_of_cell? w _ r2)).trans r2
                  have g3 := (HZ.out.cell (World.block_lt_of_cell? w _ r3)).trans r3
                  have HN2 := Lib.hid (alloc_below wr (.cells #[.string x, .string y, .string z, .int .u64 u] 62))
                  have HZ2 := Lib.hid (HZ.out.trans (HN2.out.mono HZ.out.size))
                  have HJ2 := Lib.hid (HJ.out.1.trans (HN2.out.mono HJ.out.1.size))
                  clear r0 r1 r2 r3 hQ
                  by_cases qx : x.size ≤ 300
                  · by_cases qy : y.size ≤ 300
                    · by_cases qz : z.size ≤ 300
                      · have HQ5 := Lib.hid (And.intro qx (And.intro qy qz))
                        have dx : ¬ (300 : Int) < (x.size : Int) := by omega
                        have nx : ¬ 300 < x.size := by omega
                        have dy : ¬ (300 : Int) < (y.size : Int) := by omega
                        have ny : ¬ 300 < y.size := by omega
                        have dz : ¬ (300 : Int) < (z.size : Int) := by omega
                        have nz : ¬ 300 < z.size := by omega
                        clear qx qy qz
                        go_wp2_with fail
                        go_roundw
                        case rel =>
                          refine ⟨j + 1, by omega, by go_num, Lib.hid ⟨HJ2.out, fun i hi => ?_⟩⟩
                          by_cases ej : i = j
                          · subst ej; exact HQ.out HQ5.out.1 HQ5.out.2.1 HQ5.out.2.2
                          · exact HJ.out.2 i (by omega)
                        case measure => simp [intOf]; omega
                      · have dx : ¬ (300 : Int) < (x.size : Int) := by omega
                        have nx : ¬ 300 < x.size := by omega
                        have dy : ¬ (300 : Int) < (y.size : Int) := by omega
                        have ny : ¬ 300 < y.size := by omega
                        have dz : (300 : Int) < (z.size : Int) := by omega
                        have nz : 300 < z.size := by omega
                        clear qx qy qz
                        go_wp2_with fail
                        all_goals go_ret
                        all_goals exact ⟨false, rfl, fun h => (by cases h), HZ2.out⟩
                    · have dx : ¬ (300 : Int) < (x.size : Int) := by omega
                      have nx : ¬ 300 < x.size := by omega
                      have dy : (300 : Int) < (y.size : Int) := by omega
                      have ny : 300 < y.size := by omega
                      clear qx qy
                      go_wp2_with fail
                      all_goals go_ret
                      all_goals exact ⟨false, rfl, fun h => (by cases h), HZ2.out⟩
                  · have dx : (300 : Int) < (x.size : Int) := by omega
                    have nx : 300 < x.size := by omega
                    clear qx
                    go_wp2_with fail
                    all_goals go_ret
                    all_goals exact ⟨false, rfl, fun h => (by cases h), HZ2.out⟩
                · have HPk := Lib.hid (HP.out q3 q4 (fun i hi => HJ.out.2 i (by omega)))
                  have HF := Lib.hid ((HT.out.1.trans (HN.out.mono HT.out.1.size)).trans (HJ.out.1.mono (Nat.le_trans HT.out.1.size HN.out.size)))
                  go_wp2_with fail
                  go_roundw
                  case rel =>
                    refine ⟨k + 1, by omega, by go_num, Lib.hid ⟨HF.out, fun i hi => ?_⟩⟩
                    by_cases ej : i = k
                    · subst ej; exact HPk.out
                    · exact HT.out.2 i (by omega)
                  case measure => simp [intOf]; omega
            · have m4 : decide ((12 : Int) < (n : Int)) = true := by rw [decide_eq_true_iff]; omega
              go_wp2_with fail
              go_ret
              exact ⟨false, rfl, fun h => (by cases h), HW1.out⟩
          · have m3 : decide ((300 : Int) < (s.size : Int)) = true := by rw [decide_eq_true_iff]; omega
            go_wp2_with fail
            go_ret
            exact ⟨false, rfl, fun h => (by cases h), HW1.out⟩
        · have HX1 := Lib.hid (Bk.later HX0.out HT.out.1)
          have HW := Lib.hid (HB0.out.trans (HT.out.1.mono HB0.out.size))
          have HPL := Lib.hid (fun i (hi : i < n1) => HT.out.2 i (by omega))
          clear y0 y1 y2
          obtain ⟨y0, y1, y2⟩ := bk3 HX1.out
          clear HT
          go_wp2_with fail
          go_loopw [8, 57] (fun _ iv wz => ∃ j : Nat, j ≤ n2 ∧ iv = .int .i64 (j : Int) ∧ Hid (Below wr.heap.size wr wz ∧ ∀ i, i < j → PK i)) (fun _ iv _ => n2 - (intOf iv).toNat)
          case atStart => exact ⟨0, Nat.zero_le _, rfl, Lib.hid ⟨Below.refl _ _, fun i h => absurd h (by omega)⟩⟩
          case round =>
            obtain ⟨j, hj, rfl, HJ⟩ := hrel
            have HV := Lib.hid (HW.out.trans (HJ.out.1.mono HW.out.size))
            by_cases hjn : j < n2
            · obtain rfl := H2.out (by omega)
              obtain ⟨s, o, n, cap, e0, e1, hPK⟩ := HK.out j hjn
              have g0 := (HV.out.cell (World.block_lt_of_cell? w _ e0)).trans e0
              have g1 := (HV.out.cell (World.block_lt_of_cell? w _ e1)).trans e1
              have HP := Lib.hid hPK
              have HN := Lib.hid (alloc_below wr (.cells #[.string s, .slice o n cap] 57))
              have HV2 := Lib.hid (HV.out.trans (HN.out.mono HV.out.size))
              have HJ2 := Lib.hid (HJ.out.1.trans (HN.out.mono HJ.out.1.size))
              clear e0 e1 hPK
              by_cases q3 : s.size ≤ 300
              · have m3 : decide ((300 : Int) < (s.size : Int)) = false := by rw [decide_eq_false_iff_not]; omega
                by_cases q4 : n ≤ 12
                · have m4 : decide ((12 : Int) < (n : Int)) = false := by rw [decide_eq_false_iff_not]; omega
                  have HPk := Lib.hid (HP.out q3 q4)
                  go_wp2_with fail
                  go_roundw
                  case rel =>
                    refine ⟨j + 1, by omega, by go_num, Lib.hid ⟨HJ2.out, fun i hi => ?_⟩⟩
                    by_cases ej : i = j
                    · subst ej; exact HPk.out
                    · exact HJ.out.2 i (by omega)
                  case measure => simp [intOf]; omega
                · have m4 : decide ((12 : Int) < (n : Int)) = true := by rw [decide_eq_true_iff]; omega
                  go_wp2_with fail
                  go_ret
                  exact ⟨false, rfl, fun h => (by cases h), HV2.out⟩
              · have m3 : decide ((300 : Int) < (s.size : Int)) = true := by rw [decide_eq_true_iff]; omega
                go_wp2_with fail
                go_ret
                exact ⟨false, rfl, fun h => (by cases h), HV2.out⟩
            · have HPK := Lib.hid (fun i (hi : i < n2) => HJ.out.2 i (by omega))
              go_wp2_with fail
              go_ret
              exact ⟨true, rfl, fun _ => ⟨by assumption, by assumption, HPL.out, HPK.out⟩, HV.out⟩
    · have m1 : decide ((12 : Int) < max (n1 : Int) (n2 : Int)) = true := by rw [decide_eq_true_iff]; omega
      go_wp2_with fail
      go_ret
      exact ⟨false, rfl, fun h => (by cases h), HB0.out⟩
  · have m1 : decide ((12 : Int) < max (n1 : Int) (n2 : Int)) = true := by rw [decide_eq_true_iff]; omega
    go_wp2_with fail
    go_ret
    exact ⟨false, rfl, fun h => (by cases h), HB0.out⟩
/-- Light enough to be gone through. -/
def Co.lit (c : Co) : Prop := c.l.length ≤ 12 ∧ c.c.length ≤ 12 ∧ (∀ l ∈ c.l, l.name.size ≤ 300 ∧ l.r.length ≤ 12 ∧ ∀ r ∈ l.r, r.host.size ≤ 300 ∧ r.path.size ≤ 300 ∧ r.cluster.size ≤ 300) ∧ ∀ x ∈ c.c, x.name.size ≤ 300 ∧ x.e.length ≤ 12
theorem Co.lit.sized {c : Co} (h : c.lit) : c.sized :=
  ⟨by have := h.1; omega, by have := h.2.1; omega, fun l hl => ⟨by have := (h.2.2.1 l hl).1; omega, by have := (h.2.2.1 l hl).2.1; omega, fun r hr => by have := (h.2.2.1 l hl).2.2 r hr; exact ⟨by omega, by omega, by omega⟩⟩, fun x hx => by have := h.2.2.2 x hx; exact ⟨by omega, by omega⟩⟩
theorem light_any {w : World} {c0 c1 c2 : Value} {c : Co} (h : CoIn w c0 c1 c2 c) : Calls Tryz.prog 8 #[.agg #[c0, c1, c2]] w (LiP c.lit w) := by
  obtain ⟨rfl, hv, ⟨o1, C1, B1, f1, rfl, ho1, hE1⟩, ⟨o2, C2, B2, f2, rfl, ho2, hE2⟩⟩ := h
  refine (light_walk _ o1 o2 _ _ C1 C2 B1 f1 B2 f2 (fun i => ∀ h : i < c.l.length, c.l[i].name.size ≤ 300 ∧ c.l[i].r.length ≤ 12 ∧ ∀ r ∈ c.l[i].r, r.host.size ≤ 300 ∧ r.path.size ≤ 300 ∧ r.cluster.size ≤ 300) (fun i => ∀ h : i < c.c.length, c.c[i].name.size ≤ 300 ∧ c.c[i].e.length ≤ 12)
    (fun i j => ∀ h : i < c.l.length, ∀ h2 : j < c.l[i].r.length, c.l[i].r[j].host.size ≤ 300 ∧ c.l[i].r[j].path.size ≤ 300 ∧ c.l[i].r[j].cluster.size ≤ 300) w (fun hp => (ho1 hp).1) (fun hp => (ho2 hp).1) (fun i hi => ?_) (fun i hi => ?_)).mono ?_
  · obtain ⟨cs, hr, u, rfl, hn, hp, o, cap, B, f, rfl, ho, hR⟩ := hE1 i hi
    refine ⟨_, _, _, _, _, _, o, _, cap, B, f, ⟨hr 0 _ rfl, hr 1 _ rfl, hr 2 _ rfl, hr 3 _ rfl, hr 4 _ rfl, hr 5 _ rfl, hr 6 _ rfl, fun hp => (ho hp).1, fun g1 g2 g3 _ => ⟨g1, g2, fun r hr => ?_⟩, fun j hj => ?_⟩⟩
    · obtain ⟨j, hj, rfl⟩ := List.getElem_of_mem hr
      exact g3 j hj hi hj
    · obtain ⟨cs, hr2, hcs, hok⟩ := hR j hj
      subst hcs
      exact ⟨_, _, _, _, ⟨hr2 0 _ rfl, hr2 1 _ rfl, hr2 2 _ rfl, hr2 3 _ rfl, fun a b c _ _ => ⟨a, b, c⟩⟩⟩
  · obtain ⟨cs, hr, u, rfl, hn, o, cap, B, f, rfl, ho, hR⟩ := hE2 i hi
    exact ⟨_, o, _, cap, ⟨hr 0 _ rfl, hr 1 _ rfl, fun g1 g2 _ => ⟨g1, g2⟩⟩⟩
  · rintro e w' ⟨b, rfl, hb, hB⟩
    refine ⟨b, rfl, fun ht => ?_, hB⟩
    obtain ⟨h1, h2, h3, h4⟩ := hb ht
    refine ⟨h1, h2, fun l hl => ?_, fun x hx => ?_⟩
    · obtain ⟨i, hi, rfl⟩ := List.getElem_of_mem hl
      exact h3 i hi hi
    · obtain ⟨i, hi, rfl⟩ := List.getElem_of_mem hx
      exact h4 i hi hi
end Go.Proofs.YtjfjliobencppaaGreatDoor.Cf
