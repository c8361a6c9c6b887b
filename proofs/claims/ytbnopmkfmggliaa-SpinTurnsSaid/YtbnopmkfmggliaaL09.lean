/- Walk of the law SpinUp. -/
import Derived.Test.YtbnopmkfmggliaaL08
import Derived.Deep.RegionHeld3
set_option linter.unusedVariables false
set_option linter.unusedSimpArgs false
namespace Go.Proofs.Ytbnopmkfmggliaa
open Go.RowKit
open Fl

/-- What the memory holds at each turn. -/
structure UpE (w wr : World) (g9 g14 : Nat) (h u : Nat → Int) (n : Nat) (v : Value) (L : List Int) : Prop where
  S : NS wr g9 h u n
  A : NS wr g14 Zf u n
  O : OL wr v L
  B : Below w.heap.size w wr
theorem UpE.later {w wr wz : World} {g9 g14 : Nat} {h u : Nat → Int} {n : Nat} {v : Value} {L : List Int} (E : UpE w wr g9 g14 h u n v L) (hb : Below wr.heap.size wr wz) : UpE w wz g9 g14 h u n v L :=
  ⟨E.S.later hb, E.A.later hb, E.O.later hb, E.B.trans (hb.mono E.B.size)⟩

theorem own_ns {w : World} {B : Nat} {v : Value} {k : Nat} {L : List Value} {g : Nat} {h u : Nat → Int} {n : Nat} (ho : w.ownsRow B 3 1 v k L) (H : NS w g h u n) : v.ownBlock ≠ some g := by
  intro e
  rcases ho.2 with ⟨rfl, _⟩ | ⟨g', cap, cur, rfl, _, hh, _⟩
  · cases e
  · simp only [Value.ownBlock, Option.some.injEq] at e
    subst e
    unfold NS at H
    rw [H] at hh
    simp at hh
theorem upm_drewN {w wr : World} {g9 g14 g15 : Nat} {h h2 u : Nat → Int} {n : Nat} {v : Value} {L : List Int} (E : Hid (UpE w wr g9 g14 h u n v L ∧ NS wr g15 h2 u n)) (m : Nat) : Hid (UpE w (wr.drewN m) g9 g14 h u n v L ∧ NS (wr.drewN m) g15 h2 u n) :=
  Lib.hid ⟨⟨E.out.1.S, E.out.1.A, E.out.1.O.block (fun _ _ _ => rfl), ⟨E.out.1.B.os, E.out.1.B.tape, E.out.1.B.output, E.out.1.B.size, E.out.1.B.block⟩⟩, E.out.2⟩
theorem nine_of {w : World} {g : Nat} {a0 a1 a2 a3 a4 a5 a6 a7 a8 : Value} (h : w.heap[g]? = some (.cells #[a0, a1, a2, a3, a4, a5, a6, a7, a8] 28 (0, 0))) : w.cell? ⟨g, 0, none⟩ = some a0 ∧ w.cell? ⟨g, 1, none⟩ = some a1 ∧ w.cell? ⟨g, 2, none⟩ = some a2 ∧ w.cell? ⟨g, 3, none⟩ = some a3 ∧ w.cell? ⟨g, 4, none⟩ = some a4 ∧ w.cell? ⟨g, 5, none⟩ = some a5 ∧ w.cell? ⟨g, 6, none⟩ = some a6 ∧ w.cell? ⟨g, 7, none⟩ = some a7 ∧ w.cell? ⟨g, 8, none⟩ = some a8 := by
  have cc := fun (j : Nat) (v : Value) (hj : (#[a0, a1, a2, a3, a4, a5, a6, a7, a8] : Array Value)[j]? = some v) => (cell_of_row w g j _ _ _ h).trans hj
  exact ⟨cc 0 _ rfl, cc 1 _ rfl, cc 2 _ rfl, cc 3 _ rfl, cc 4 _ rfl, cc 5 _ rfl, cc 6 _ rfl, cc 7 _ rfl, cc 8 _ rfl⟩
theorem OL.drew' {w : World} {v : Value} {L : List Int} (h : OL w v L) : OL w.drew v L := h.block (fun _ _ _ => rfl)
set_option maxRecDepth 1000000 in
set_option maxHeartbeats 8000000 in
theorem up_any (l ld : List Int) (hl : ∀ x ∈ l, -9223372036854775808 ≤ x ∧ x ≤ 9223372036854775807) (up tn : Nat) (hup : up ≤ 255) (htn : tn ≤ 255) (at0 at2 : Option Addr) (cap cap2 b off b2 off2 : Nat) (w : World) (hat : 0 < l.length → at0 = some ⟨b, off, none⟩ ∧ b < w.heap.size) (hc : DIn w b off l) (hat2 : 0 < ld.length → at2 = some ⟨b2, off2, none⟩ ∧ b2 < w.heap.size) (hc2 : DIn w b2 off2 ld) :
    Calls Try.prog 5 #[.slice at0 l.length cap, .int .u8 (up : Int), .slice at2 ld.length cap2, .int .u8 (tn : Int)] w fun e w' => e = .returned (.bool true) ∧ Below w.heap.size w w' := by
  have K6 := Lib.hid awake22_any
  have HC2 := Lib.hid hc2
  have HAT2 := Lib.hid hat2
  have K7 : Hid (∀ wr, Below w.heap.size w wr → Calls Try.prog 7 #[.slice at0 l.length cap] wr fun e w' => e = .returned (.tuple #[nwS l, .int .i64 (nwE l)]) ∧ Below wr.heap.size wr w') := Lib.hid (fun wr hb => new_any l hl at0 cap b off wr (fun hp => ⟨(hat hp).1, Nat.lt_of_lt_of_le (hat hp).2 hb.size⟩) (hc.later hb (fun hp => (hat hp).2)))
  clear hat hc hl hat2 hc2
  obtain ⟨dn, hdn⟩ : ∃ dn, dn = ld.length := ⟨_, rfl⟩
  have HDN := Lib.hid hdn
  by_cases h0 : nwE l = 0
  · have hnw : l.length ≤ 8 ∧ inW l := by
      unfold nwE at h0
      by_cases h : 8 < l.length
      · rw [if_pos h] at h0; omega
      · rw [if_neg h] at h0
        by_cases hw : inW l
        · exact ⟨by omega, hw⟩
        · rw [if_neg hw] at h0; omega
    have e2 : nwS l = spV Zf (wts l) l.length := by unfold nwS; rw [h0, if_pos rfl]
    rw [h0, e2] at K7
    clear h0 e2
    obtain ⟨n, hn⟩ : ∃ n, n = l.length := ⟨_, rfl⟩
    have hn8 : n ≤ 8 := by omega
    have HU2 : Hid (∀ i, 0 ≤ wts l i ∧ wts l i ≤ 100) := Lib.hid (fun i => by
      unfold wts
      by_cases hi : i < n
      · rw [List.getD_eq_getElem?_getD, List.getElem?_eq_getElem (by omega)]
        have := hnw.2 _ (List.getElem_mem (show i < l.length by omega))
        simp only [Option.getD_some]; omega
      · rw [List.getD_eq_getElem?_getD, List.getElem?_eq_none (by omega)]
        decide)
    rw [← hn] at K7 ⊢
    rw [← hdn]
    clear hn hnw hdn
    generalize wts l = u at *
    by_cases hbig : n = 0 ∨ 10 < dn
    · have q1 : ((n : Int) == 0) = decide (n = 0) := by
        by_cases e : n = 0
        · rw [decide_eq_true e, beq_iff_eq]; omega
        · rw [decide_eq_false e, beq_eq_false_iff_ne]; omega
      have q2 : (decide (n = 0) || decide ((10 : Int) < (dn : Int))) = true := by
        rcases hbig with e | e
        · rw [decide_eq_true e]; rfl
        · rw [decide_eq_true (show (10 : Int) < (dn : Int) by omega), Bool.or_true]
      clear hbig HC2 HAT2 HDN HU2 htn hup
      obtain ⟨p1, hp1⟩ : ∃ p1, decide (n = 0) = p1 := ⟨_, rfl⟩
      obtain ⟨p2, hp2⟩ : ∃ p2, decide ((10 : Int) < (dn : Int)) = p2 := ⟨_, rfl⟩
      rw [hp1] at q1 q2
      rw [hp2] at q2
      go_enter Try.func5, Try.ntmps5
      go_upto_region 4 with (first
        | (go_at_call 6; ((with_reducible refine (K6.out _).mono ?_); rintro z w1 ⟨rfl, hb1⟩; have HB1 := Lib.hid hb1; clear hb1))
        | (go_at_call 7; ((with_reducible refine (K7.out _ HB1.out).mono ?_); rintro z w2 ⟨rfl, hb2⟩; have HB2 := Lib.hid (HB1.out.trans (hb2.mono HB1.out.size)); have HZ2 := Lib.hid (NS.new w2 Zf Zf 0); clear hb2))
        | (refine wpList_store_ns (h' := Zf) (u' := u) (n' := n) rfl _ _ rfl HZ2.out rfl rfl ?_))
      have HBa := Lib.hid (below_setRow (HB2.out.trans ((alloc_below w2 (.cells (spc Zf Zf 0) 28)).mono HB2.out.size)) HB2.out.size (spc Zf u n))
      have HB3 : Hid (Below w.heap.size w ((w2.alloc (.cells #[.complex .f64 0 0, .complex .f64 0 0, .complex .f64 0 0, .complex .f64 0 0, .complex .f64 0 0, .complex .f64 0 0, .complex .f64 0 0, .complex .f64 0 0, .int .i64 0] 28)).setRow w2.heap.size (spc Zf u n))) := HBa
      clear HBa
      generalize (w2.alloc (.cells #[.complex .f64 0 0, .complex .f64 0 0, .complex .f64 0 0, .complex .f64 0 0, .complex .f64 0 0, .complex .f64 0 0, .complex .f64 0 0, .complex .f64 0 0, .int .i64 0] 28)).setRow w2.heap.size (spc Zf u n) = w3 at *
      cases p1
      · cases p2
        · cases q2
        · go_wp2
          go_ret
          exact ⟨rfl, HB3.out⟩
      · go_wp2
        go_ret
        exact ⟨rfl, HB3.out⟩
    · have hn0 : 0 < n := by omega
      have hd10 : dn ≤ 10 := by omega
      have q1 : ((n : Int) == 0) = false := by rw [beq_eq_false_iff_ne]; omega
      clear hbig
      go_enter Try.func5, Try.ntmps5
      go_upto_region 4 with (first
        | (go_at_call 6; ((with_reducible refine (K6.out _).mono ?_); rintro z w1 ⟨rfl, hb1⟩; have HB1 := Lib.hid hb1; clear hb1))
        | (go_at_call 7; ((with_reducible refine (K7.out _ HB1.out).mono ?_); rintro z w2 ⟨rfl, hb2⟩; have HB2 := Lib.hid (HB1.out.trans (hb2.mono HB1.out.size)); have HZ2 := Lib.hid (NS.new w2 Zf Zf 0); clear hb2))
        | (refine wpList_store_ns (h' := Zf) (u' := u) (n' := n) rfl _ _ rfl HZ2.out rfl rfl ?_))
      have HSa := Lib.hid (HZ2.out.row Zf u n)
      have HBa := Lib.hid (below_setRow (HB2.out.trans ((alloc_below w2 (.cells (spc Zf Zf 0) 28)).mono HB2.out.size)) HB2.out.size (spc Zf u n))
      have HS3 : Hid (NS ((w2.alloc (.cells #[.complex .f64 0 0, .complex .f64 0 0, .complex .f64 0 0, .complex .f64 0 0, .complex .f64 0 0, .complex .f64 0 0, .complex .f64 0 0, .complex .f64 0 0, .int .i64 0] 28)).setRow w2.heap.size (spc Zf u n)) w2.heap.size Zf u n) := HSa
      have HB3 : Hid (Below w.heap.size w ((w2.alloc (.cells #[.complex .f64 0 0, .complex .f64 0 0, .complex .f64 0 0, .complex .f64 0 0, .complex .f64 0 0, .complex .f64 0 0, .complex .f64 0 0, .complex .f64 0 0, .int .i64 0] 28)).setRow w2.heap.size (spc Zf u n))) := HBa
      have HG9 := Lib.hid HB2.out.size
      clear HSa HBa HB1 HB2 HZ2 K6 K7
      generalize (w2.alloc (.cells #[.complex .f64 0 0, .complex .f64 0 0, .complex .f64 0 0, .complex .f64 0 0, .complex .f64 0 0, .complex .f64 0 0, .complex .f64 0 0, .complex .f64 0 0, .int .i64 0] 28)).setRow w2.heap.size (spc Zf u n) = w3 at *
      generalize w2.heap.size = g9 at *
      obtain ⟨one, hone⟩ : ∃ one, one = up % n := ⟨_, rfl⟩
      have e1 : (up : Int) % (n : Int) = (one : Int) := by rw [hone]; first | exact (Int.natCast_emod up n).symm | (push_cast; rfl)
      have hon : one < n := by rw [hone]; exact Nat.mod_lt _ hn0
      clear hone
      go_upto_region 7 with fail
      rw [e1]
      clear e1
      go_wp2
      go_loopw [12, 49] (fun v i wr => ∃ k : Nat, k ≤ n ∧ i = .int .i64 (k : Int) ∧ Hid (wr.ownsRow w.heap.size 3 1 v (oth one k).length (ivs (oth one k)) ∧ NS wr g9 Zf u n ∧ Below w.heap.size w wr)) (fun _ i _ => n - (intOf i).toNat)
      case atStart => exact ⟨0, by omega, rfl, Lib.hid ⟨World.ownsRow_nil _ _ _ _, HS3.out, HB3.out⟩⟩
      case round =>
        obtain ⟨k, hk, rfl, HO⟩ := hrel
        clear HS3 HB3
        by_cases hlt : k < n
        · have hkn : (k : Int) < (n : Int) := by omega
          by_cases he : k = one
          · have q3 : ((k : Int) == (one : Int)) = true := by rw [beq_iff_eq]; omega
            have es : oth one (k + 1) = oth one k := by rw [oth_step, if_pos he]
            rw [← es] at HO
            clear es he
            go_wp2
            go_roundw
            case rel => exact ⟨k + 1, by omega, by go_num, HO⟩
            case measure => simp [intOf]; omega
          · have q3 : ((k : Int) == (one : Int)) = false := by rw [beq_eq_false_iff_ne]; omega
            have es : oth one (k + 1) = oth one k ++ [(k : Int)] := by rw [oth_step, if_neg he]
            have el : (oth one (k + 1)).length = (oth one k).length + 1 := by rw [es]; simp
            have hll := oth_len one k
            have HES := Lib.hid (And.intro es el)
            clear es el he
            generalize hL2 : oth one (k + 1) = L2 at *
            have HL2 := Lib.hid hL2
            clear hL2
            generalize oth one k = L1 at *
            go_wp2_with (first
              | (at_builtin; go_must (refine wpList_append_int wr rfl (.tmp 55) (.tmp 57) rfl w.heap.size u12 L1.length L1 rfl HO.out.1 (k : Int) rfl (by omega) HO.out.2.2.size ?_); intro v' w' hown' hb' hkept'; have HO2 : Hid (w'.ownsRow w.heap.size 3 1 v' L2.length (ivs L2) ∧ NS w' g9 Zf u n ∧ Below w.heap.size w w') := Lib.hid ⟨by rw [HES.out.1, List.length_append]; exact hown', (hkept' g9 HO.out.2.1.lt (own_ns HO.out.1 HO.out.2.1)).trans HO.out.2.1, HO.out.2.2.trans hb'⟩; clear hown' hb' hkept'))
            go_roundw
            case rel => exact ⟨k + 1, by omega, by go_num, Lib.hid (by have := HO2.out; rw [← HL2.out] at this; exact this)⟩
            case measure => simp [intOf]; omega
        · obtain rfl : k = n := by omega
          have HOL := Lib.hid (OL.of HO.out.1)
          have HS3 := Lib.hid HO.out.2.1
          have HB3 := Lib.hid HO.out.2.2
          clear HO
          obtain ⟨oL, capL, gL, hv, _⟩ := HOL.out.din
          subst hv
          have HZ3 : Hid (NS (wr.alloc (.cells #[.complex .f64 0 0, .complex .f64 0 0, .complex .f64 0 0, .complex .f64 0 0, .complex .f64 0 0, .complex .f64 0 0, .complex .f64 0 0, .complex .f64 0 0, .int .i64 0] 28)) wr.heap.size Zf Zf 0) := Lib.hid (NS.new wr Zf Zf 0)
          go_upto_region 15 with (first
            | (refine wpList_load_ns rfl _ rfl HS3.out rfl ?_)
            | (refine wpList_store_ns (h' := Zf) (u' := u) (n' := k) rfl _ _ rfl HZ3.out rfl rfl ?_))
          have HU4 : Hid (UpE w ((wr.alloc (.cells #[.complex .f64 0 0, .complex .f64 0 0, .complex .f64 0 0, .complex .f64 0 0, .complex .f64 0 0, .complex .f64 0 0, .complex .f64 0 0, .complex .f64 0 0, .int .i64 0] 28)).setRow wr.heap.size (spc Zf u k)) g9 wr.heap.size Zf u k (.slice oL (oth one k).length capL) (oth one k)) := Lib.hid ⟨(HS3.out.later (alloc_below wr _)).rowOther (by have := HS3.out.lt; omega) _, HZ3.out.row Zf u k, (HOL.out.later (alloc_below wr _)).row HZ3.out _, below_setRow (HB3.out.trans ((alloc_below wr (.cells #[.complex .f64 0 0, .complex .f64 0 0, .complex .f64 0 0, .complex .f64 0 0, .complex .f64 0 0, .complex .f64 0 0, .complex .f64 0 0, .complex .f64 0 0, .int .i64 0] 28)).mono HB3.out.size)) HB3.out.size _⟩
          have HG14 := Lib.hid (And.intro HB3.out.size (show g9 ≠ wr.heap.size by have := HS3.out.lt; omega))
          clear HS3 HB3 HZ3 HOL
          generalize (wr.alloc (.cells #[.complex .f64 0 0, .complex .f64 0 0, .complex .f64 0 0, .complex .f64 0 0, .complex .f64 0 0, .complex .f64 0 0, .complex .f64 0 0, .complex .f64 0 0, .int .i64 0] 28)).setRow wr.heap.size (spc Zf u k) = w4 at *
          generalize wr.heap.size = g14 at *
          generalize k = n at *
          obtain ⟨m, hm⟩ : ∃ m, m = tn % 40 := ⟨_, rfl⟩
          have em : (tn : Int) % 40 = (m : Int) := by omega
          have hm40 : m < 40 := by omega
          clear hm htn
          go_upto_region 16 with fail
          try rw [em]
          clear em
          go_loopw [63] (fun i wr => ∃ (k : Nat) (h : Nat → Int), k ≤ m ∧ i = .int .u8 (k : Int) ∧ Hid ((∀ i, -(800 * (k : Int)) ≤ h i ∧ h i ≤ 800 * (k : Int)) ∧ UpE w wr g9 g14 h u n (.slice oL (oth one n).length capL) (oth one n))) (fun i _ => m - (intOf i).toNat)
          case atStart => exact ⟨0, Zf, by omega, rfl, Lib.hid ⟨fun i => by show _ ∧ (0 : Int) ≤ _; simp [Zf], HU4.out⟩⟩
          case round =>
            obtain ⟨k, h, hk, rfl, HI⟩ := hrel
            clear HU4
            by_cases hlt : k < m
            · have hkm : (k : Int) < (m : Int) := by omega
              obtain ⟨h2, hh2⟩ : ∃ h2, nH (upL ld) h u n = h2 := ⟨_, rfl⟩
              obtain ⟨iv, hiv⟩ : ∃ iv, cN (tC (upL ld) h u n) = iv := ⟨_, rfl⟩
              obtain ⟨okb, hok⟩ : ∃ okb, (tC (upL ld) h u n).isSome = okb := ⟨_, rfl⟩
              have hb1 : ∀ i, -(800 * ((k + 1 : Nat) : Int)) ≤ h2 i ∧ h2 i ≤ 800 * ((k + 1 : Nat) : Int) := fun i => by
                have := nH_bound (up := upL ld) (n := n) (B := 800 * (k : Int)) (by omega) hn8 HU2.out HI.out.1 i
                rw [hh2] at this
                push_cast
                omega
              have HBD := Lib.hid hb1
              have HDW : Hid (∀ d : Nat, d < n → (d : Int) ∈ ld → h2 d = h d ∧ (okb = true → iv ≠ (d : Int))) := Lib.hid (fun d hd hm => by
                have hdn : upL ld d = false := by unfold upL; rw [decide_eq_true hm]; rfl
                refine ⟨by rw [← hh2]; exact nH_down hdn, fun ho e => ?_⟩
                rw [← hok] at ho
                rw [← hiv] at e
                cases hc : tC (upL ld) h u n with
                | none => rw [hc] at ho; cases ho
                | some j =>
                  have := (tC_lt hc).2
                  rw [hc] at e
                  have e2 : j = d := by have e3 : (j : Int) = (d : Int) := e; omega
                  rw [e2, hdn] at this
                  cases this)
              have K12 : Hid (∀ wz, Below w.heap.size w wz → Calls Try.prog 12 #[spV h u n, .slice at2 dn cap2] wz fun e w' => e = .returned (.tuple #[spV h2 u n, .int .i64 iv, .bool okb]) ∧ Below wz.heap.size wz w') := Lib.hid (fun wz hbz => by
                have := next_any h u n ld at2 cap2 b2 off2 wz ⟨hn8, HU2.out, fun i => by have := HI.out.1 i; omega, by have := HDN.out; omega, fun hp => ⟨(HAT2.out hp).1, Nat.lt_of_lt_of_le (HAT2.out hp).2 hbz.size⟩, HC2.out.later hbz (fun hp => (HAT2.out hp).2)⟩
                rw [← HDN.out] at this
                exact this.mono (fun e w' ⟨h1, h3⟩ => ⟨by rw [h1, hh2, hiv, hok], h3⟩))
              have KAL : Hid (∀ wz, OL wz (.slice oL (oth one n).length capL) (oth one n) → Calls Try.prog 12 #[spV Zf u n, .slice oL (oth one n).length capL] wz fun e w' => e = .returned (.tuple #[spV Zf u n, .int .i64 (one : Int), .bool true]) ∧ Below wz.heap.size wz w') := Lib.hid (fun wz hol => by
                obtain ⟨o', cap', g', hv, ha, hd⟩ := hol.din
                injection hv with hv1 hv2 hv3
                have := next_any Zf u n (oth one n) oL capL g' 0 wz ⟨hn8, HU2.out, fun i => by show (-1000000000 : Int) ≤ 0 ∧ (0 : Int) ≤ 1000000000; omega, by have := oth_len one n; omega, fun hp => by rw [hv1]; exact ha hp, hd⟩
                refine this.mono (fun e w' ⟨h1, h3⟩ => ⟨?_, h3⟩)
                have ho := fun i hi => oth_up one n i hi
                rw [h1, tC_one ho n (Nat.le_refl _), if_pos hon, spV.eq (h' := Zf) (u' := u) (fun i _ => nH_one ho hon i) (fun _ _ => rfl)]
                rfl)
              have KSM : Hid (∀ wz, Calls Try.prog 11 #[spV Zf u n, spV Zf u n] wz fun e w' => e = .returned (.bool true) ∧ Below wz.heap.size wz w') := Lib.hid (fun wz => same_any Zf u n (fun i => by show (-1000000000 : Int) ≤ 0 ∧ (0 : Int) ≤ 1000000000; omega) HU2.out wz)
              have K17a := Lib.hid (fun wz => pairs_any h2 u n hn8 wz)
              have K17b := Lib.hid (fun wz => pairs_any h u n hn8 wz)
              have HOR : Hid (∀ d : Nat, d < n → FloatKind.f64.format.order (fb (h d)) (fb (h d)) = some .eq ∧ FloatKind.f64.format.order (fb (u d)) (fb (u d)) = some .eq) := Lib.hid (fun d _ => by
                have y1 := HI.out.1 d
                have y2 := HU2.out d
                exact ⟨(order_lits (h d) (h d) (small _ (by omega)).small3 (small _ (by omega)).small3).trans (congrArg some (cmp_eq _)), (order_lits (u d) (u d) (small _ (by omega)).small3 (small _ (by omega)).small3).trans (congrArg some (cmp_eq _))⟩)
              have HE := Lib.hid HI.out.2
              clear HI hb1 hh2 hiv hok
              go_upto_region 18 with (first
                | (refine wpList_load_ns rfl _ rfl HE.out.S rfl ?_)
                | (go_at_call 12; ((with_reducible refine (K12.out _ HE.out.B).mono ?_); rintro z w5 ⟨rfl, hb5⟩; have HE5 := Lib.hid (HE.out.later hb5); have HZ5 := Lib.hid (NS.new w5 Zf Zf 0); clear hb5))
                | (refine wpList_store_ns (h' := h2) (u' := u) (n' := n) rfl _ _ rfl HZ5.out rfl rfl ?_))
              have HM6 : Hid (UpE w ((w5.alloc (.cells #[.complex .f64 0 0, .complex .f64 0 0, .complex .f64 0 0, .complex .f64 0 0, .complex .f64 0 0, .complex .f64 0 0, .complex .f64 0 0, .complex .f64 0 0, .int .i64 0] 28)).setRow w5.heap.size (spc h2 u n)) g9 g14 h u n (.slice oL (oth one n).length capL) (oth one n) ∧ NS ((w5.alloc (.cells #[.complex .f64 0 0, .complex .f64 0 0, .complex .f64 0 0, .complex .f64 0 0, .complex .f64 0 0, .complex .f64 0 0, .complex .f64 0 0, .complex .f64 0 0, .int .i64 0] 28)).setRow w5.heap.size (spc h2 u n)) w5.heap.size h2 u n) := Lib.hid (by
                have hz := HZ5.out
                have e := HE5.out
                have ha := alloc_below w5 (.cells (spc Zf Zf 0) 28)
                exact ⟨⟨(e.S.later ha).rowOther (by have := e.S.lt; omega) _, (e.A.later ha).rowOther (by have := e.A.lt; omega) _, (e.O.later ha).row hz _, below_setRow (e.B.trans (ha.mono e.B.size)) e.B.size _⟩, hz.row h2 u n⟩)
              have HG15 : Hid (g9 ≠ w5.heap.size ∧ g14 ≠ w5.heap.size) := Lib.hid ⟨by have := HE5.out.S.lt; omega, by have := HE5.out.A.lt; omega⟩
              clear HE HE5 HZ5 K12
              generalize (w5.alloc (.cells #[.complex .f64 0 0, .complex .f64 0 0, .complex .f64 0 0, .complex .f64 0 0, .complex .f64 0 0, .complex .f64 0 0, .complex .f64 0 0, .complex .f64 0 0, .int .i64 0] 28)).setRow w5.heap.size (spc h2 u n) = w6 at *
              generalize w5.heap.size = g15 at *
              go_wp2
              go_loopw [74] (fun i wr => ∃ q : Nat, q ≤ dn ∧ i = .int .i64 (q : Int) ∧ Hid (UpE w wr g9 g14 h u n (.slice oL (oth one n).length capL) (oth one n) ∧ NS wr g15 h2 u n)) (fun i _ => dn - (intOf i).toNat)
              case atStart => exact ⟨0, by omega, rfl, HM6⟩
              case round =>
                obtain ⟨q, hq, rfl, HM⟩ := hrel
                clear HM6
                by_cases hqd : q < dn
                · have hqi : (q : Int) < (dn : Int) := by omega
                  have hql : q < ld.length := by have := HDN.out; omega
                  have hcell := HC2.out q hql
                  have hmem := List.getElem_mem hql
                  obtain ⟨rfl, hbb⟩ := HAT2.out (by omega)
                  rw [← HM.out.1.B.cell (p := ⟨b2, off2 + q, none⟩) hbb] at hcell
                  clear hbb
                  generalize ld[q] = x at *
                  by_cases hx0 : x < 0
                  · have q1x : decide (0 ≤ x) = false := by rw [decide_eq_false_iff_not]; omega
                    clear hmem
                    go_upto_region 21 with fail
                    go_quiet ((fail))
                    simp only [Exit.then]
                    apply_assumption
                    go_wp2
                    go_roundw
                    case rel => exact ⟨q + 1, by omega, by go_num, upm_drewN HM _⟩
                    case measure => simp [intOf]; omega
                  · obtain ⟨d, hd⟩ : ∃ d : Nat, x = (d : Int) := ⟨x.toNat, by omega⟩
                    subst hd
                    have q1x : decide ((0 : Int) ≤ (d : Int)) = true := by rw [decide_eq_true_eq]; omega
                    by_cases hdn2 : d < n
                    · have q2x : decide ((d : Int) < (n : Int)) = true := by rw [decide_eq_true_eq]; omega
                      have q2y : (d : Int) < (n : Int) := by omega
                      obtain ⟨hh, hne⟩ := HDW.out d hdn2 hmem
                      obtain ⟨or1, or2⟩ := HOR.out d hdn2
                      have HHD := Lib.hid hh
                      clear hmem hh hx0
                      cases okb with
                      | true =>
                        have hne2 : ((iv : Int) == (d : Int)) = false := by rw [beq_eq_false_iff_ne]; exact hne rfl
                        clear hne
                        go_upto_region 21 with fail
                        clear hcell
                        refine wp_region_held_drew (S := fun wz => Hid (UpE w wz g9 g14 h u n (.slice oL (oth one n).length capL) (oth one n) ∧ NS wz g15 h2 u n)) (by kernel_rfl) (Lib.hid ⟨⟨HM.out.1.S, HM.out.1.A, HM.out.1.O.drew', HM.out.1.B.drew⟩, HM.out.2⟩) (fun hHeld => ?_)
                        generalize wr.drew = wc0 at *
                        refine wpAnyH_take (i := 0) (oi := ⟨some 78, _, _, _, _, _⟩) (v := ?_) rfl (by kernel_rfl) (by kernel_rfl) (by kernel_rfl) (fun _ _ _ h => h) (Or.inl ⟨by rfl, by (intro w hSw; (try dsimp only at hSw); go_simp; try with_reducible rfl)⟩) hHeld ?_
                        try simp only [Act.put, List.setIfInBounds_toArray, List.set_cons_zero, List.set_cons_succ]
                        refine wpAnyH_take (i := 1) (oi := ⟨some 79, _, _, _, _, _⟩) (v := ?_) rfl (by kernel_rfl) (by kernel_rfl) (by kernel_rfl) (fun _ _ _ h => h) (Or.inl ⟨by rfl, by (intro w hSw; (try dsimp only at hSw); go_simp; try with_reducible rfl)⟩) hHeld ?_
                        try simp only [Act.put, List.setIfInBounds_toArray, List.set_cons_zero, List.set_cons_succ]
                        refine wpAnyH_take (i := 2) (oi := ⟨some 80, _, _, _, _, _⟩) (v := ?_) rfl (by kernel_rfl) (by kernel_rfl) (by kernel_rfl) (fun _ _ _ h => h) (Or.inl ⟨by rfl, by (intro w hSw; (try dsimp only at hSw); go_simp; try with_reducible rfl)⟩) hHeld ?_
                        try simp only [Act.put, List.setIfInBounds_toArray, List.set_cons_zero, List.set_cons_succ]
                        refine wpAnyH_take (i := 3) (oi := ⟨some 81, _, _, _, _, _⟩) (v := ?_) rfl (by kernel_rfl) (by kernel_rfl) (by kernel_rfl) (fun _ _ _ h => h) (Or.inl ⟨by rfl, by (intro w hSw; (try dsimp only at hSw); go_simp; try with_reducible rfl)⟩) hHeld ?_
                        try simp only [Act.put, List.setIfInBounds_toArray, List.set_cons_zero, List.set_cons_succ]
                        refine wpAnyH_take (i := 4) (oi := ⟨some 82, _, _, _, _, _⟩) (v := ?_) rfl (by kernel_rfl) (by kernel_rfl) (by kernel_rfl) (fun _ _ _ h => h) (Or.inl ⟨by rfl, by (intro w hSw; (try dsimp only at hSw); go_simp; try with_reducible rfl)⟩) hHeld ?_
                        try simp only [Act.put, List.setIfInBounds_toArray, List.set_cons_zero, List.set_cons_succ]
                        refine wpAnyH_take (i := 5) (oi := ⟨some 83, _, _, _, _, _⟩) (v := ?_) rfl (by kernel_rfl) (by kernel_rfl) (by kernel_rfl) (fun _ _ _ h => h) (Or.inl ⟨by rfl, by (intro w hSw; (try dsimp only at hSw); go_simp; try with_reducible rfl)⟩) hHeld ?_
                        try simp only [Act.put, List.setIfInBounds_toArray, List.set_cons_zero, List.set_cons_succ]
                        refine wpAnyH_take (i := 6) (oi := ⟨some 84, _, _, _, _, _⟩) (v := ?_) rfl (by kernel_rfl) (by kernel_rfl) (by kernel_rfl) (fun _ _ _ h => h) (Or.inl ⟨by rfl, by (intro w hSw; (try dsimp only at hSw); go_simp; try with_reducible rfl)⟩) hHeld ?_
                        try simp only [Act.put, List.setIfInBounds_toArray, List.set_cons_zero, List.set_cons_succ]
                        refine wpAnyH_take (i := 7) (oi := ⟨some 85, _, _, _, _, _⟩) (v := ?_) rfl (by kernel_rfl) (by kernel_rfl) (by kernel_rfl) (fun _ _ _ h => h) (Or.inl ⟨by rfl, by (intro w hSw; (try dsimp only at hSw); go_simp; try with_reducible rfl)⟩) hHeld ?_
                        try simp only [Act.put, List.setIfInBounds_toArray, List.set_cons_zero, List.set_cons_succ]
                        refine wpAnyH_take (i := 8) (oi := ⟨some 86, _, _, _, _, _⟩) (v := ?_) rfl (by kernel_rfl) (by kernel_rfl) (by kernel_rfl) (fun _ _ _ h => h) (Or.inl ⟨by rfl, by (intro w hSw; (try dsimp only at hSw); go_simp; try with_reducible rfl)⟩) hHeld ?_
                        try simp only [Act.put, List.setIfInBounds_toArray, List.set_cons_zero, List.set_cons_succ]
                        refine wpAnyH_take (i := 9) (oi := ⟨some 87, _, _, _, _, _⟩) (v := ?_) rfl (by kernel_rfl) (by kernel_rfl) (by kernel_rfl) (fun _ _ _ h => h) (Or.inl ⟨by rfl, by (intro w hSw; (try dsimp only at hSw); go_simp; try with_reducible rfl)⟩) hHeld ?_
                        try simp only [Act.put, List.setIfInBounds_toArray, List.set_cons_zero, List.set_cons_succ]
                        refine wpAnyH_take (i := 10) (oi := ⟨some 88, _, _, _, _, _⟩) (v := ?_) rfl (by kernel_rfl) (by kernel_rfl) (by kernel_rfl) (fun _ _ _ h => h) (Or.inl ⟨by rfl, by (intro w hSw; (try dsimp only at hSw); go_simp; try with_reducible rfl)⟩) hHeld ?_
                        try simp only [Act.put, List.setIfInBounds_toArray, List.set_cons_zero, List.set_cons_succ]
                        refine wpAnyH_take (i := 11) (oi := ⟨some 89, _, _, _, _, _⟩) (v := ?_) rfl (by kernel_rfl) (by kernel_rfl) (by kernel_rfl) (fun _ _ _ h => h) (Or.inl ⟨by rfl, by (intro w hSw; (try dsimp only at hSw); go_simp; try with_reducible rfl)⟩) hHeld ?_
                        try simp only [Act.put, List.setIfInBounds_toArray, List.set_cons_zero, List.set_cons_succ]
                        refine wpAnyH_take (i := 12) (oi := ⟨some 90, _, _, _, _, _⟩) (v := ?_) rfl (by kernel_rfl) (by kernel_rfl) (by kernel_rfl) (fun _ _ _ h => h) (Or.inl ⟨by rfl, by (intro w hSw; (try dsimp only at hSw); go_simp; try with_reducible rfl)⟩) hHeld ?_
                        try simp only [Act.put, List.setIfInBounds_toArray, List.set_cons_zero, List.set_cons_succ]
                        refine wpAnyH_take (i := 13) (oi := ⟨some 91, _, _, _, _, _⟩) (v := ?_) rfl (by kernel_rfl) (by kernel_rfl) (by kernel_rfl) (fun _ _ _ h => h) (Or.inl ⟨by rfl, by (intro w hSw; (try dsimp only at hSw); go_simp; try with_reducible rfl)⟩) hHeld ?_
                        try simp only [Act.put, List.setIfInBounds_toArray, List.set_cons_zero, List.set_cons_succ]
                        refine wpAnyH_take (i := 14) (oi := ⟨some 92, _, _, _, _, _⟩) (v := ?_) rfl (by kernel_rfl) (by kernel_rfl) (by kernel_rfl) (fun _ _ _ h => h) (Or.inl ⟨by rfl, by (intro w hSw; (try dsimp only at hSw); go_simp; try with_reducible rfl)⟩) hHeld ?_
                        try simp only [Act.put, List.setIfInBounds_toArray, List.set_cons_zero, List.set_cons_succ]
                        refine wpAnyH_take (i := 15) (oi := ⟨some 93, _, _, _, _, _⟩) (v := ?_) rfl (by kernel_rfl) (by kernel_rfl) (by kernel_rfl) (fun _ _ _ h => h) (Or.inl ⟨by rfl, by (intro w hSw; (try dsimp only at hSw); go_simp; try with_reducible rfl)⟩) hHeld ?_
                        try simp only [Act.put, List.setIfInBounds_toArray, List.set_cons_zero, List.set_cons_succ]
                        refine wpAnyH_take (i := 16) (oi := ⟨some 94, _, _, _, _, _⟩) rfl (by kernel_rfl) (by kernel_rfl) (by kernel_rfl) (fun _ _ _ h => h) (yieldsIf_load_ns (by rfl) (.tmp 15) rfl g15 rfl (fun w hSw => hSw.out.2)) hHeld ?_
                        try simp only [Act.put, List.setIfInBounds_toArray, List.set_cons_zero, List.set_cons_succ]
                        refine wpAnyH_take (i := 18) (oi := ⟨some 96, _, _, _, _, _⟩) (v := ?_) rfl (by kernel_rfl) (by kernel_rfl) (by kernel_rfl) (fun _ _ _ h => h) (Or.inl ⟨by rfl, by (intro w hSw; (try dsimp only at hSw); go_simp; try with_reducible rfl)⟩) hHeld ?_
                        try simp only [Act.put, List.setIfInBounds_toArray, List.set_cons_zero, List.set_cons_succ]
                        refine wpAnyH_take (i := 21) (oi := ⟨some 99, _, _, _, _, _⟩) rfl (by kernel_rfl) (by kernel_rfl) (by kernel_rfl) (fun _ _ _ h => h) (yieldsIf_load_ns (by rfl) (.tmp 9) rfl g9 rfl (fun w hSw => hSw.out.1.S)) hHeld ?_
                        try simp only [Act.put, List.setIfInBounds_toArray, List.set_cons_zero, List.set_cons_succ]
                        refine wpAnyH_take (i := 23) (oi := ⟨some 101, _, _, _, _, _⟩) (v := ?_) rfl (by kernel_rfl) (by kernel_rfl) (by kernel_rfl) (fun _ _ _ h => h) (Or.inl ⟨by rfl, by (intro w hSw; (try dsimp only at hSw); go_simp; try with_reducible rfl)⟩) hHeld ?_
                        try simp only [Act.put, List.setIfInBounds_toArray, List.set_cons_zero, List.set_cons_succ]
                        refine wpAnyH_ready (rs := [17]) (by kernel_rfl) (by simp) ?_
                        refine AllReadyH.cons (o := ⟨some 95, _, _, _, _, _⟩) rfl (fun K hK => ?_) ?_
                        · go_simp
                          refine (K17a.out wc0).mono ?_
                          intro ze wca hP
                          obtain ⟨oa, cpa, gpa, rfl, hoa, hcca, hbn⟩ := hP
                          obtain ⟨rfl, _, hlta⟩ := hoa hn0
                          try go_simp
                          have HRa := Lib.hid (And.intro (hcca d hdn2) hlta)
                          clear hcca hoa hlta
                          refine hK.out _ _ (Lib.hid ⟨hHeld.out.1.later hbn, hHeld.out.2.later hbn⟩) (fun hHeld2 => ?_)
                          clear hK K hHeld
                          have hHeld := hHeld2
                          clear hHeld2
                          try simp only [Act.put, List.setIfInBounds_toArray, List.set_cons_zero, List.set_cons_succ]
                          refine wpAnyH_take (i := 19) (oi := ⟨some 97, _, _, _, _, _⟩) (v := ?_) rfl (by kernel_rfl) (by kernel_rfl) (by kernel_rfl) (fun _ _ _ h => h) (Or.inl ⟨by rfl, by (intro w hSw; (try dsimp only at hSw); go_simp; try with_reducible rfl)⟩) hHeld ?_
                          try simp only [Act.put, List.setIfInBounds_toArray, List.set_cons_zero, List.set_cons_succ]
                          refine wpAnyH_ready (rs := [20, 22]) (by kernel_rfl) (by simp) ?_
                          refine AllReadyH.cons (o := ⟨some 98, _, _, _, _, _⟩) rfl (fun K hK => ?_) ?_
                          · have hcl := HRa.out.1
                            rw [HHD.out] at hcl
                            go_simp
                            clear hcl
                            refine hK.out _ _ (hHeld) (fun hHeld2 => ?_)
                            clear hK K hHeld
                            have hHeld := hHeld2
                            clear hHeld2
                            try simp only [Act.put, List.setIfInBounds_toArray, List.set_cons_zero, List.set_cons_succ]
                            refine wpAnyH_ready (rs := [22]) (by kernel_rfl) (by simp) ?_
                            refine AllReadyH.cons (o := ⟨some 100, _, _, _, _, _⟩) rfl (fun K hK => ?_) ?_
                            · go_simp
                              refine (K17b.out wca).mono ?_
                              intro ze wcb hP
                              obtain ⟨ob, cpb, gpb, rfl, hob, hccb, hbn⟩ := hP
                              obtain ⟨rfl, _, hltb⟩ := hob hn0
                              try go_simp
                              have HRb := Lib.hid (And.intro (hccb d hdn2) hltb)
                              clear hccb hob hltb
                              have HRa' := Lib.hid (And.intro ((hbn.cell (p := ⟨gpa, d, none⟩) HRa.out.2).trans HRa.out.1) (Nat.lt_of_lt_of_le HRa.out.2 hbn.size))
                              clear HRa
                              have HRa := HRa'
                              clear HRa'
                              refine hK.out _ _ (Lib.hid ⟨hHeld.out.1.later hbn, hHeld.out.2.later hbn⟩) (fun hHeld2 => ?_)
                              clear hK K hHeld
                              have hHeld := hHeld2
                              clear hHeld2
                              try simp only [Act.put, List.setIfInBounds_toArray, List.set_cons_zero, List.set_cons_succ]
                              refine wpAnyH_take (i := 24) (oi := ⟨some 102, _, _, _, _, _⟩) (v := ?_) rfl (by kernel_rfl) (by kernel_rfl) (by kernel_rfl) (fun _ _ _ h => h) (Or.inl ⟨by rfl, by (intro w hSw; (try dsimp only at hSw); go_simp; try with_reducible rfl)⟩) hHeld ?_
                              try simp only [Act.put, List.setIfInBounds_toArray, List.set_cons_zero, List.set_cons_succ]
                              refine wpAnyH_ready (rs := [25]) (by kernel_rfl) (by simp) ?_
                              refine AllReadyH.cons (o := ⟨some 103, _, _, _, _, _⟩) rfl (fun K hK => ?_) ?_
                              · have hcl := HRb.out.1
                                go_simp
                                clear hcl
                                refine hK.out _ _ (hHeld) (fun hHeld2 => ?_)
                                clear hK K hHeld
                                have hHeld := hHeld2
                                clear hHeld2
                                try simp only [Act.put, List.setIfInBounds_toArray, List.set_cons_zero, List.set_cons_succ]
                                refine wpAnyH_take (i := 26) (oi := ⟨some 104, _, _, _, _, _⟩) (v := ?_) rfl (by kernel_rfl) (by kernel_rfl) (by kernel_rfl) (fun _ _ _ h => h) (Or.inl ⟨by rfl, by (intro w hSw; (try dsimp only at hSw); go_simp; try with_reducible rfl)⟩) hHeld ?_
                                try simp only [Act.put, List.setIfInBounds_toArray, List.set_cons_zero, List.set_cons_succ]
                                refine wpAnyH_take (i := 27) (oi := ⟨some 105, _, _, _, _, _⟩) (v := ?_) rfl (by kernel_rfl) (by kernel_rfl) (by kernel_rfl) (fun _ _ _ h => h) (Or.inl ⟨by rfl, by (intro w hSw; (try dsimp only at hSw); go_simp; try with_reducible rfl)⟩) hHeld ?_
                                try simp only [Act.put, List.setIfInBounds_toArray, List.set_cons_zero, List.set_cons_succ]
                                refine wpAnyH_take (i := 28) (oi := ⟨some 106, _, _, _, _, _⟩) (v := ?_) rfl (by kernel_rfl) (by kernel_rfl) (by kernel_rfl) (fun _ _ _ h => h) (Or.inl ⟨by rfl, by (intro w hSw; (try dsimp only at hSw); go_simp; try with_reducible rfl)⟩) hHeld ?_
                                try simp only [Act.put, List.setIfInBounds_toArray, List.set_cons_zero, List.set_cons_succ]
                                refine wpAnyH_done (by kernel_rfl) ?_ _
                                simp only [Exit.then]
                                apply_assumption
                                have HM9 : Hid (UpE w wcb g9 g14 h u n (.slice oL (oth one n).length capL) (oth one n) ∧ NS wcb g15 h2 u n) := hHeld
                                clear hHeld HRa HRb
                                go_wp2
                                exact ⟨⟨q + 1, by omega, by go_num, HM9⟩, by simp [intOf]; omega⟩
                              · exact AllReadyH.nil
                            · exact AllReadyH.nil
                          · refine AllReadyH.cons (o := ⟨some 100, _, _, _, _, _⟩) rfl (fun K hK => ?_) ?_
                            · go_simp
                              refine (K17b.out wca).mono ?_
                              intro ze wcb hP
                              obtain ⟨ob, cpb, gpb, rfl, hob, hccb, hbn⟩ := hP
                              obtain ⟨rfl, _, hltb⟩ := hob hn0
                              try go_simp
                              have HRb := Lib.hid (And.intro (hccb d hdn2) hltb)
                              clear hccb hob hltb
                              have HRa' := Lib.hid (And.intro ((hbn.cell (p := ⟨gpa, d, none⟩) HRa.out.2).trans HRa.out.1) (Nat.lt_of_lt_of_le HRa.out.2 hbn.size))
                              clear HRa
                              have HRa := HRa'
                              clear HRa'
                              refine hK.out _ _ (Lib.hid ⟨hHeld.out.1.later hbn, hHeld.out.2.later hbn⟩) (fun hHeld2 => ?_)
                              clear hK K hHeld
                              have hHeld := hHeld2
                              clear hHeld2
                              try simp only [Act.put, List.setIfInBounds_toArray, List.set_cons_zero, List.set_cons_succ]
                              refine wpAnyH_take (i := 24) (oi := ⟨some 102, _, _, _, _, _⟩) (v := ?_) rfl (by kernel_rfl) (by kernel_rfl) (by kernel_rfl) (fun _ _ _ h => h) (Or.inl ⟨by rfl, by (intro w hSw; (try dsimp only at hSw); go_simp; try with_reducible rfl)⟩) hHeld ?_
                              try simp only [Act.put, List.setIfInBounds_toArray, List.set_cons_zero, List.set_cons_succ]
                              refine wpAnyH_ready (rs := [20, 25]) (by kernel_rfl) (by simp) ?_
                              refine AllReadyH.cons (o := ⟨some 98, _, _, _, _, _⟩) rfl (fun K hK => ?_) ?_
                              · have hcl := HRa.out.1
                                rw [HHD.out] at hcl
                                go_simp
                                clear hcl
                                refine hK.out _ _ (hHeld) (fun hHeld2 => ?_)
                                clear hK K hHeld
                                have hHeld := hHeld2
                                clear hHeld2
                                try simp only [Act.put, List.setIfInBounds_toArray, List.set_cons_zero, List.set_cons_succ]
                                refine wpAnyH_ready (rs := [25]) (by kernel_rfl) (by simp) ?_
                                refine AllReadyH.cons (o := ⟨some 103, _, _, _, _, _⟩) rfl (fun K hK => ?_) ?_
                                · have hcl := HRb.out.1
                                  go_simp
                                  clear hcl
                                  refine hK.out _ _ (hHeld) (fun hHeld2 => ?_)
                                  clear hK K hHeld
                                  have hHeld := hHeld2
                                  clear hHeld2
                                  try simp only [Act.put, List.setIfInBounds_toArray, List.set_cons_zero, List.set_cons_succ]
                                  refine wpAnyH_take (i := 26) (oi := ⟨some 104, _, _, _, _, _⟩) (v := ?_) rfl (by kernel_rfl) (by kernel_rfl) (by kernel_rfl) (fun _ _ _ h => h) (Or.inl ⟨by rfl, by (intro w hSw; (try dsimp only at hSw); go_simp; try with_reducible rfl)⟩) hHeld ?_
                                  try simp only [Act.put, List.setIfInBounds_toArray, List.set_cons_zero, List.set_cons_succ]
                                  refine wpAnyH_take (i := 27) (oi := ⟨some 105, _, _, _, _, _⟩) (v := ?_) rfl (by kernel_rfl) (by kernel_rfl) (by kernel_rfl) (fun _ _ _ h => h) (Or.inl ⟨by rfl, by (intro w hSw; (try dsimp only at hSw); go_simp; try with_reducible rfl)⟩) hHeld ?_
                                  try simp only [Act.put, List.setIfInBounds_toArray, List.set_cons_zero, List.set_cons_succ]
                                  refine wpAnyH_take (i := 28) (oi := ⟨some 106, _, _, _, _, _⟩) (v := ?_) rfl (by kernel_rfl) (by kernel_rfl) (by kernel_rfl) (fun _ _ _ h => h) (Or.inl ⟨by rfl, by (intro w hSw; (try dsimp only at hSw); go_simp; try with_reducible rfl)⟩) hHeld ?_
                                  try simp only [Act.put, List.setIfInBounds_toArray, List.set_cons_zero, List.set_cons_succ]
                                  refine wpAnyH_done (by kernel_rfl) ?_ _
                                  simp only [Exit.then]
                                  apply_assumption
                                  have HM9 : Hid (UpE w wcb g9 g14 h u n (.slice oL (oth one n).length capL) (oth one n) ∧ NS wcb g15 h2 u n) := hHeld
                                  clear hHeld HRa HRb
                                  go_wp2
                                  exact ⟨⟨q + 1, by omega, by go_num, HM9⟩, by simp [intOf]; omega⟩
                                · exact AllReadyH.nil
                              · refine AllReadyH.cons (o := ⟨some 103, _, _, _, _, _⟩) rfl (fun K hK => ?_) ?_
                                · have hcl := HRb.out.1
                                  go_simp
                                  clear hcl
                                  refine hK.out _ _ (hHeld) (fun hHeld2 => ?_)
                                  clear hK K hHeld
                                  have hHeld := hHeld2
                                  clear hHeld2
                                  try simp only [Act.put, List.setIfInBounds_toArray, List.set_cons_zero, List.set_cons_succ]
                                  refine wpAnyH_ready (rs := [20]) (by kernel_rfl) (by simp) ?_
                                  refine AllReadyH.cons (o := ⟨some 98, _, _, _, _, _⟩) rfl (fun K hK => ?_) ?_
                                  · have hcl := HRa.out.1
                                    rw [HHD.out] at hcl
                                    go_simp
                                    clear hcl
                                    refine hK.out _ _ (hHeld) (fun hHeld2 => ?_)
                                    clear hK K hHeld
                                    have hHeld := hHeld2
                                    clear hHeld2
                                    try simp only [Act.put, List.setIfInBounds_toArray, List.set_cons_zero, List.set_cons_succ]
                                    refine wpAnyH_take (i := 26) (oi := ⟨some 104, _, _, _, _, _⟩) (v := ?_) rfl (by kernel_rfl) (by kernel_rfl) (by kernel_rfl) (fun _ _ _ h => h) (Or.inl ⟨by rfl, by (intro w hSw; (try dsimp only at hSw); go_simp; try with_reducible rfl)⟩) hHeld ?_
                                    try simp only [Act.put, List.setIfInBounds_toArray, List.set_cons_zero, List.set_cons_succ]
                                    refine wpAnyH_take (i := 27) (oi := ⟨some 105, _, _, _, _, _⟩) (v := ?_) rfl (by kernel_rfl) (by kernel_rfl) (by kernel_rfl) (fun _ _ _ h => h) (Or.inl ⟨by rfl, by (intro w hSw; (try dsimp only at hSw); go_simp; try with_reducible rfl)⟩) hHeld ?_
                                    try simp only [Act.put, List.setIfInBounds_toArray, List.set_cons_zero, List.set_cons_succ]
                                    refine wpAnyH_take (i := 28) (oi := ⟨some 106, _, _, _, _, _⟩) (v := ?_) rfl (by kernel_rfl) (by kernel_rfl) (by kernel_rfl) (fun _ _ _ h => h) (Or.inl ⟨by rfl, by (intro w hSw; (try dsimp only at hSw); go_simp; try with_reducible rfl)⟩) hHeld ?_
                                    try simp only [Act.put, List.setIfInBounds_toArray, List.set_cons_zero, List.set_cons_succ]
                                    refine wpAnyH_done (by kernel_rfl) ?_ _
                                    simp only [Exit.then]
                                    apply_assumption
                                    have HM9 : Hid (UpE w wcb g9 g14 h u n (.slice oL (oth one n).length capL) (oth one n) ∧ NS wcb g15 h2 u n) := hHeld
                                    clear hHeld HRa HRb
                                    go_wp2
                                    exact ⟨⟨q + 1, by omega, by go_num, HM9⟩, by simp [intOf]; omega⟩
                                  · exact AllReadyH.nil
                                · exact AllReadyH.nil
                            · exact AllReadyH.nil
                        · exact AllReadyH.nil
                      | false =>
                        clear hne
                        go_upto_region 21 with fail
                        clear hcell
                        refine wp_region_held_drew (S := fun wz => Hid (UpE w wz g9 g14 h u n (.slice oL (oth one n).length capL) (oth one n) ∧ NS wz g15 h2 u n)) (by kernel_rfl) (Lib.hid ⟨⟨HM.out.1.S, HM.out.1.A, HM.out.1.O.drew', HM.out.1.B.drew⟩, HM.out.2⟩) (fun hHeld => ?_)
                        generalize wr.drew = wc0 at *
                        refine wpAnyH_take (i := 0) (oi := ⟨some 78, _, _, _, _, _⟩) (v := ?_) rfl (by kernel_rfl) (by kernel_rfl) (by kernel_rfl) (fun _ _ _ h => h) (Or.inl ⟨by rfl, by (intro w hSw; (try dsimp only at hSw); go_simp; try with_reducible rfl)⟩) hHeld ?_
                        try simp only [Act.put, List.setIfInBounds_toArray, List.set_cons_zero, List.set_cons_succ]
                        refine wpAnyH_take (i := 1) (oi := ⟨some 79, _, _, _, _, _⟩) (v := ?_) rfl (by kernel_rfl) (by kernel_rfl) (by kernel_rfl) (fun _ _ _ h => h) (Or.inl ⟨by rfl, by (intro w hSw; (try dsimp only at hSw); go_simp; try with_reducible rfl)⟩) hHeld ?_
                        try simp only [Act.put, List.setIfInBounds_toArray, List.set_cons_zero, List.set_cons_succ]
                        refine wpAnyH_take (i := 2) (oi := ⟨some 80, _, _, _, _, _⟩) (v := ?_) rfl (by kernel_rfl) (by kernel_rfl) (by kernel_rfl) (fun _ _ _ h => h) (Or.inl ⟨by rfl, by (intro w hSw; (try dsimp only at hSw); go_simp; try with_reducible rfl)⟩) hHeld ?_
                        try simp only [Act.put, List.setIfInBounds_toArray, List.set_cons_zero, List.set_cons_succ]
                        refine wpAnyH_take (i := 3) (oi := ⟨some 81, _, _, _, _, _⟩) (v := ?_) rfl (by kernel_rfl) (by kernel_rfl) (by kernel_rfl) (fun _ _ _ h => h) (Or.inl ⟨by rfl, by (intro w hSw; (try dsimp only at hSw); go_simp; try with_reducible rfl)⟩) hHeld ?_
                        try simp only [Act.put, List.setIfInBounds_toArray, List.set_cons_zero, List.set_cons_succ]
                        refine wpAnyH_take (i := 4) (oi := ⟨some 82, _, _, _, _, _⟩) (v := ?_) rfl (by kernel_rfl) (by kernel_rfl) (by kernel_rfl) (fun _ _ _ h => h) (Or.inl ⟨by rfl, by (intro w hSw; (try dsimp only at hSw); go_simp; try with_reducible rfl)⟩) hHeld ?_
                        try simp only [Act.put, List.setIfInBounds_toArray, List.set_cons_zero, List.set_cons_succ]
                        refine wpAnyH_take (i := 5) (oi := ⟨some 83, _, _, _, _, _⟩) (v := ?_) rfl (by kernel_rfl) (by kernel_rfl) (by kernel_rfl) (fun _ _ _ h => h) (Or.inl ⟨by rfl, by (intro w hSw; (try dsimp only at hSw); go_simp; try with_reducible rfl)⟩) hHeld ?_
                        try simp only [Act.put, List.setIfInBounds_toArray, List.set_cons_zero, List.set_cons_succ]
                        refine wpAnyH_take (i := 6) (oi := ⟨some 84, _, _, _, _, _⟩) (v := ?_) rfl (by kernel_rfl) (by kernel_rfl) (by kernel_rfl) (fun _ _ _ h => h) (Or.inl ⟨by rfl, by (intro w hSw; (try dsimp only at hSw); go_simp; try with_reducible rfl)⟩) hHeld ?_
                        try simp only [Act.put, List.setIfInBounds_toArray, List.set_cons_zero, List.set_cons_succ]
                        refine wpAnyH_take (i := 7) (oi := ⟨some 85, _, _, _, _, _⟩) (v := ?_) rfl (by kernel_rfl) (by kernel_rfl) (by kernel_rfl) (fun _ _ _ h => h) (Or.inl ⟨by rfl, by (intro w hSw; (try dsimp only at hSw); go_simp; try with_reducible rfl)⟩) hHeld ?_
                        try simp only [Act.put, List.setIfInBounds_toArray, List.set_cons_zero, List.set_cons_succ]
                        refine wpAnyH_take (i := 8) (oi := ⟨some 86, _, _, _, _, _⟩) (v := ?_) rfl (by kernel_rfl) (by kernel_rfl) (by kernel_rfl) (fun _ _ _ h => h) (Or.inl ⟨by rfl, by (intro w hSw; (try dsimp only at hSw); go_simp; try with_reducible rfl)⟩) hHeld ?_
                        try simp only [Act.put, List.setIfInBounds_toArray, List.set_cons_zero, List.set_cons_succ]
                        refine wpAnyH_take (i := 9) (oi := ⟨some 87, _, _, _, _, _⟩) (v := ?_) rfl (by kernel_rfl) (by kernel_rfl) (by kernel_rfl) (fun _ _ _ h => h) (Or.inl ⟨by rfl, by (intro w hSw; (try dsimp only at hSw); go_simp; try with_reducible rfl)⟩) hHeld ?_
                        try simp only [Act.put, List.setIfInBounds_toArray, List.set_cons_zero, List.set_cons_succ]
                        refine wpAnyH_take (i := 10) (oi := ⟨some 88, _, _, _, _, _⟩) (v := ?_) rfl (by kernel_rfl) (by kernel_rfl) (by kernel_rfl) (fun _ _ _ h => h) (Or.inl ⟨by rfl, by (intro w hSw; (try dsimp only at hSw); go_simp; try with_reducible rfl)⟩) hHeld ?_
                        try simp only [Act.put, List.setIfInBounds_toArray, List.set_cons_zero, List.set_cons_succ]
                        refine wpAnyH_take (i := 11) (oi := ⟨some 89, _, _, _, _, _⟩) (v := undef) rfl (by kernel_rfl) (by kernel_rfl) (by kernel_rfl) (fun _ _ _ h => h) (Or.inr ⟨by rfl, rfl⟩) hHeld ?_
                        try simp only [Act.put, List.setIfInBounds_toArray, List.set_cons_zero, List.set_cons_succ]
                        refine wpAnyH_take (i := 12) (oi := ⟨some 90, _, _, _, _, _⟩) (v := undef) rfl (by kernel_rfl) (by kernel_rfl) (by kernel_rfl) (fun _ _ _ h => h) (Or.inr ⟨by rfl, rfl⟩) hHeld ?_
                        try simp only [Act.put, List.setIfInBounds_toArray, List.set_cons_zero, List.set_cons_succ]
                        refine wpAnyH_take (i := 13) (oi := ⟨some 91, _, _, _, _, _⟩) (v := undef) rfl (by kernel_rfl) (by kernel_rfl) (by kernel_rfl) (fun _ _ _ h => h) (Or.inr ⟨by rfl, rfl⟩) hHeld ?_
                        try simp only [Act.put, List.setIfInBounds_toArray, List.set_cons_zero, List.set_cons_succ]
                        refine wpAnyH_take (i := 14) (oi := ⟨some 92, _, _, _, _, _⟩) (v := ?_) rfl (by kernel_rfl) (by kernel_rfl) (by kernel_rfl) (fun _ _ _ h => h) (Or.inl ⟨by rfl, by (intro w hSw; (try dsimp only at hSw); go_simp; try with_reducible rfl)⟩) hHeld ?_
                        try simp only [Act.put, List.setIfInBounds_toArray, List.set_cons_zero, List.set_cons_succ]
                        refine wpAnyH_take (i := 15) (oi := ⟨some 93, _, _, _, _, _⟩) (v := ?_) rfl (by kernel_rfl) (by kernel_rfl) (by kernel_rfl) (fun _ _ _ h => h) (Or.inl ⟨by rfl, by (intro w hSw; (try dsimp only at hSw); go_simp; try with_reducible rfl)⟩) hHeld ?_
                        try simp only [Act.put, List.setIfInBounds_toArray, List.set_cons_zero, List.set_cons_succ]
                        refine wpAnyH_take (i := 16) (oi := ⟨some 94, _, _, _, _, _⟩) rfl (by kernel_rfl) (by kernel_rfl) (by kernel_rfl) (fun _ _ _ h => h) (yieldsIf_load_ns (by rfl) (.tmp 15) rfl g15 rfl (fun w hSw => hSw.out.2)) hHeld ?_
                        try simp only [Act.put, List.setIfInBounds_toArray, List.set_cons_zero, List.set_cons_succ]
                        refine wpAnyH_take (i := 18) (oi := ⟨some 96, _, _, _, _, _⟩) (v := ?_) rfl (by kernel_rfl) (by kernel_rfl) (by kernel_rfl) (fun _ _ _ h => h) (Or.inl ⟨by rfl, by (intro w hSw; (try dsimp only at hSw); go_simp; try with_reducible rfl)⟩) hHeld ?_
                        try simp only [Act.put, List.setIfInBounds_toArray, List.set_cons_zero, List.set_cons_succ]
                        refine wpAnyH_take (i := 21) (oi := ⟨some 99, _, _, _, _, _⟩) rfl (by kernel_rfl) (by kernel_rfl) (by kernel_rfl) (fun _ _ _ h => h) (yieldsIf_load_ns (by rfl) (.tmp 9) rfl g9 rfl (fun w hSw => hSw.out.1.S)) hHeld ?_
                        try simp only [Act.put, List.setIfInBounds_toArray, List.set_cons_zero, List.set_cons_succ]
                        refine wpAnyH_take (i := 23) (oi := ⟨some 101, _, _, _, _, _⟩) (v := ?_) rfl (by kernel_rfl) (by kernel_rfl) (by kernel_rfl) (fun _ _ _ h => h) (Or.inl ⟨by rfl, by (intro w hSw; (try dsimp only at hSw); go_simp; try with_reducible rfl)⟩) hHeld ?_
                        try simp only [Act.put, List.setIfInBounds_toArray, List.set_cons_zero, List.set_cons_succ]
                        refine wpAnyH_ready (rs := [17]) (by kernel_rfl) (by simp) ?_
                        refine AllReadyH.cons (o := ⟨some 95, _, _, _, _, _⟩) rfl (fun K hK => ?_) ?_
                        · go_simp
                          refine (K17a.out wc0).mono ?_
                          intro ze wca hP
                          obtain ⟨oa, cpa, gpa, rfl, hoa, hcca, hbn⟩ := hP
                          obtain ⟨rfl, _, hlta⟩ := hoa hn0
                          try go_simp
                          have HRa := Lib.hid (And.intro (hcca d hdn2) hlta)
                          clear hcca hoa hlta
                          refine hK.out _ _ (Lib.hid ⟨hHeld.out.1.later hbn, hHeld.out.2.later hbn⟩) (fun hHeld2 => ?_)
                          clear hK K hHeld
                          have hHeld := hHeld2
                          clear hHeld2
                          try simp only [Act.put, List.setIfInBounds_toArray, List.set_cons_zero, List.set_cons_succ]
                          refine wpAnyH_take (i := 19) (oi := ⟨some 97, _, _, _, _, _⟩) (v := ?_) rfl (by kernel_rfl) (by kernel_rfl) (by kernel_rfl) (fun _ _ _ h => h) (Or.inl ⟨by rfl, by (intro w hSw; (try dsimp only at hSw); go_simp; try with_reducible rfl)⟩) hHeld ?_
                          try simp only [Act.put, List.setIfInBounds_toArray, List.set_cons_zero, List.set_cons_succ]
                          refine wpAnyH_ready (rs := [20, 22]) (by kernel_rfl) (by simp) ?_
                          refine AllReadyH.cons (o := ⟨some 98, _, _, _, _, _⟩) rfl (fun K hK => ?_) ?_
                          · have hcl := HRa.out.1
                            rw [HHD.out] at hcl
                            go_simp
                            clear hcl
                            refine hK.out _ _ (hHeld) (fun hHeld2 => ?_)
                            clear hK K hHeld
                            have hHeld := hHeld2
                            clear hHeld2
                            try simp only [Act.put, List.setIfInBounds_toArray, List.set_cons_zero, List.set_cons_succ]
                            refine wpAnyH_ready (rs := [22]) (by kernel_rfl) (by simp) ?_
                            refine AllReadyH.cons (o := ⟨some 100, _, _, _, _, _⟩) rfl (fun K hK => ?_) ?_
                            · go_simp
                              refine (K17b.out wca).mono ?_
                              intro ze wcb hP
                              obtain ⟨ob, cpb, gpb, rfl, hob, hccb, hbn⟩ := hP
                              obtain ⟨rfl, _, hltb⟩ := hob hn0
                              try go_simp
                              have HRb := Lib.hid (And.intro (hccb d hdn2) hltb)
                              clear hccb hob hltb
                              have HRa' := Lib.hid (And.intro ((hbn.cell (p := ⟨gpa, d, none⟩) HRa.out.2).trans HRa.out.1) (Nat.lt_of_lt_of_le HRa.out.2 hbn.size))
                              clear HRa
                              have HRa := HRa'
                              clear HRa'
                              refine hK.out _ _ (Lib.hid ⟨hHeld.out.1.later hbn, hHeld.out.2.later hbn⟩) (fun hHeld2 => ?_)
                              clear hK K hHeld
                              have hHeld := hHeld2
                              clear hHeld2
                              try simp only [Act.put, List.setIfInBounds_toArray, List.set_cons_zero, List.set_cons_succ]
                              refine wpAnyH_take (i := 24) (oi := ⟨some 102, _, _, _, _, _⟩) (v := ?_) rfl (by kernel_rfl) (by kernel_rfl) (by kernel_rfl) (fun _ _ _ h => h) (Or.inl ⟨by rfl, by (intro w hSw; (try dsimp only at hSw); go_simp; try with_reducible rfl)⟩) hHeld ?_
                              try simp only [Act.put, List.setIfInBounds_toArray, List.set_cons_zero, List.set_cons_succ]
                              refine wpAnyH_ready (rs := [25]) (by kernel_rfl) (by simp) ?_
                              refine AllReadyH.cons (o := ⟨some 103, _, _, _, _, _⟩) rfl (fun K hK => ?_) ?_
                              · have hcl := HRb.out.1
                                go_simp
                                clear hcl
                                refine hK.out _ _ (hHeld) (fun hHeld2 => ?_)
                                clear hK K hHeld
                                have hHeld := hHeld2
                                clear hHeld2
                                try simp only [Act.put, List.setIfInBounds_toArray, List.set_cons_zero, List.set_cons_succ]
                                refine wpAnyH_take (i := 26) (oi := ⟨some 104, _, _, _, _, _⟩) (v := ?_) rfl (by kernel_rfl) (by kernel_rfl) (by kernel_rfl) (fun _ _ _ h => h) (Or.inl ⟨by rfl, by (intro w hSw; (try dsimp only at hSw); go_simp; try with_reducible rfl)⟩) hHeld ?_
                                try simp only [Act.put, List.setIfInBounds_toArray, List.set_cons_zero, List.set_cons_succ]
                                refine wpAnyH_take (i := 27) (oi := ⟨some 105, _, _, _, _, _⟩) (v := ?_) rfl (by kernel_rfl) (by kernel_rfl) (by kernel_rfl) (fun _ _ _ h => h) (Or.inl ⟨by rfl, by (intro w hSw; (try dsimp only at hSw); go_simp; try with_reducible rfl)⟩) hHeld ?_
                                try simp only [Act.put, List.setIfInBounds_toArray, List.set_cons_zero, List.set_cons_succ]
                                refine wpAnyH_take (i := 28) (oi := ⟨some 106, _, _, _, _, _⟩) (v := ?_) rfl (by kernel_rfl) (by kernel_rfl) (by kernel_rfl) (fun _ _ _ h => h) (Or.inl ⟨by rfl, by (intro w hSw; (try dsimp only at hSw); go_simp; try with_reducible rfl)⟩) hHeld ?_
                                try simp only [Act.put, List.setIfInBounds_toArray, List.set_cons_zero, List.set_cons_succ]
                                refine wpAnyH_done (by kernel_rfl) ?_ _
                                simp only [Exit.then]
                                apply_assumption
                                have HM9 : Hid (UpE w wcb g9 g14 h u n (.slice oL (oth one n).length capL) (oth one n) ∧ NS wcb g15 h2 u n) := hHeld
                                clear hHeld HRa HRb
                                go_wp2
                                exact ⟨⟨q + 1, by omega, by go_num, HM9⟩, by simp [intOf]; omega⟩
                              · exact AllReadyH.nil
                            · exact AllReadyH.nil
                          · refine AllReadyH.cons (o := ⟨some 100, _, _, _, _, _⟩) rfl (fun K hK => ?_) ?_
                            · go_simp
                              refine (K17b.out wca).mono ?_
                              intro ze wcb hP
                              obtain ⟨ob, cpb, gpb, rfl, hob, hccb, hbn⟩ := hP
                              obtain ⟨rfl, _, hltb⟩ := hob hn0
                              try go_simp
                              have HRb := Lib.hid (And.intro (hccb d hdn2) hltb)
                              clear hccb hob hltb
                              have HRa' := Lib.hid (And.intro ((hbn.cell (p := ⟨gpa, d, none⟩) HRa.out.2).trans HRa.out.1) (Nat.lt_of_lt_of_le HRa.out.2 hbn.size))
                              clear HRa
                              have HRa := HRa'
                              clear HRa'
                              refine hK.out _ _ (Lib.hid ⟨hHeld.out.1.later hbn, hHeld.out.2.later hbn⟩) (fun hHeld2 => ?_)
                              clear hK K hHeld
                              have hHeld := hHeld2
                              clear hHeld2
                              try simp only [Act.put, List.setIfInBounds_toArray, List.set_cons_zero, List.set_cons_succ]
                              refine wpAnyH_take (i := 24) (oi := ⟨some 102, _, _, _, _, _⟩) (v := ?_) rfl (by kernel_rfl) (by kernel_rfl) (by kernel_rfl) (fun _ _ _ h => h) (Or.inl ⟨by rfl, by (intro w hSw; (try dsimp only at hSw); go_simp; try with_reducible rfl)⟩) hHeld ?_
                              try simp only [Act.put, List.setIfInBounds_toArray, List.set_cons_zero, List.set_cons_succ]
                              refine wpAnyH_ready (rs := [20, 25]) (by kernel_rfl) (by simp) ?_
                              refine AllReadyH.cons (o := ⟨some 98, _, _, _, _, _⟩) rfl (fun K hK => ?_) ?_
                              · have hcl := HRa.out.1
                                rw [HHD.out] at hcl
                                go_simp
                                clear hcl
                                refine hK.out _ _ (hHeld) (fun hHeld2 => ?_)
                                clear hK K hHeld
                                have hHeld := hHeld2
                                clear hHeld2
                                try simp only [Act.put, List.setIfInBounds_toArray, List.set_cons_zero, List.set_cons_succ]
                                refine wpAnyH_ready (rs := [25]) (by kernel_rfl) (by simp) ?_
                                refine AllReadyH.cons (o := ⟨some 103, _, _, _, _, _⟩) rfl (fun K hK => ?_) ?_
                                · have hcl := HRb.out.1
                                  go_simp
                                  clear hcl
                                  refine hK.out _ _ (hHeld) (fun hHeld2 => ?_)
                                  clear hK K hHeld
                                  have hHeld := hHeld2
                                  clear hHeld2
                                  try simp only [Act.put, List.setIfInBounds_toArray, List.set_cons_zero, List.set_cons_succ]
                                  refine wpAnyH_take (i := 26) (oi := ⟨some 104, _, _, _, _, _⟩) (v := ?_) rfl (by kernel_rfl) (by kernel_rfl) (by kernel_rfl) (fun _ _ _ h => h) (Or.inl ⟨by rfl, by (intro w hSw; (try dsimp only at hSw); go_simp; try with_reducible rfl)⟩) hHeld ?_
                                  try simp only [Act.put, List.setIfInBounds_toArray, List.set_cons_zero, List.set_cons_succ]
                                  refine wpAnyH_take (i := 27) (oi := ⟨some 105, _, _, _, _, _⟩) (v := ?_) rfl (by kernel_rfl) (by kernel_rfl) (by kernel_rfl) (fun _ _ _ h => h) (Or.inl ⟨by rfl, by (intro w hSw; (try dsimp only at hSw); go_simp; try with_reducible rfl)⟩) hHeld ?_
                                  try simp only [Act.put, List.setIfInBounds_toArray, List.set_cons_zero, List.set_cons_succ]
                                  refine wpAnyH_take (i := 28) (oi := ⟨some 106, _, _, _, _, _⟩) (v := ?_) rfl (by kernel_rfl) (by kernel_rfl) (by kernel_rfl) (fun _ _ _ h => h) (Or.inl ⟨by rfl, by (intro w hSw; (try dsimp only at hSw); go_simp; try with_reducible rfl)⟩) hHeld ?_
                                  try simp only [Act.put, List.setIfInBounds_toArray, List.set_cons_zero, List.set_cons_succ]
                                  refine wpAnyH_done (by kernel_rfl) ?_ _
                                  simp only [Exit.then]
                                  apply_assumption
                                  have HM9 : Hid (UpE w wcb g9 g14 h u n (.slice oL (oth one n).length capL) (oth one n) ∧ NS wcb g15 h2 u n) := hHeld
                                  clear hHeld HRa HRb
                                  go_wp2
                                  exact ⟨⟨q + 1, by omega, by go_num, HM9⟩, by simp [intOf]; omega⟩
                                · exact AllReadyH.nil
                              · refine AllReadyH.cons (o := ⟨some 103, _, _, _, _, _⟩) rfl (fun K hK => ?_) ?_
                                · have hcl := HRb.out.1
                                  go_simp
                                  clear hcl
                                  refine hK.out _ _ (hHeld) (fun hHeld2 => ?_)
                                  clear hK K hHeld
                                  have hHeld := hHeld2
                                  clear hHeld2
                                  try simp only [Act.put, List.setIfInBounds_toArray, List.set_cons_zero, List.set_cons_succ]
                                  refine wpAnyH_ready (rs := [20]) (by kernel_rfl) (by simp) ?_
                                  refine AllReadyH.cons (o := ⟨some 98, _, _, _, _, _⟩) rfl (fun K hK => ?_) ?_
                                  · have hcl := HRa.out.1
                                    rw [HHD.out] at hcl
                                    go_simp
                                    clear hcl
                                    refine hK.out _ _ (hHeld) (fun hHeld2 => ?_)
                                    clear hK K hHeld
                                    have hHeld := hHeld2
                                    clear hHeld2
                                    try simp only [Act.put, List.setIfInBounds_toArray, List.set_cons_zero, List.set_cons_succ]
                                    refine wpAnyH_take (i := 26) (oi := ⟨some 104, _, _, _, _, _⟩) (v := ?_) rfl (by kernel_rfl) (by kernel_rfl) (by kernel_rfl) (fun _ _ _ h => h) (Or.inl ⟨by rfl, by (intro w hSw; (try dsimp only at hSw); go_simp; try with_reducible rfl)⟩) hHeld ?_
                                    try simp only [Act.put, List.setIfInBounds_toArray, List.set_cons_zero, List.set_cons_succ]
                                    refine wpAnyH_take (i := 27) (oi := ⟨some 105, _, _, _, _, _⟩) (v := ?_) rfl (by kernel_rfl) (by kernel_rfl) (by kernel_rfl) (fun _ _ _ h => h) (Or.inl ⟨by rfl, by (intro w hSw; (try dsimp only at hSw); go_simp; try with_reducible rfl)⟩) hHeld ?_
                                    try simp only [Act.put, List.setIfInBounds_toArray, List.set_cons_zero, List.set_cons_succ]
                                    refine wpAnyH_take (i := 28) (oi := ⟨some 106, _, _, _, _, _⟩) (v := ?_) rfl (by kernel_rfl) (by kernel_rfl) (by kernel_rfl) (fun _ _ _ h => h) (Or.inl ⟨by rfl, by (intro w hSw; (try dsimp only at hSw); go_simp; try with_reducible rfl)⟩) hHeld ?_
                                    try simp only [Act.put, List.setIfInBounds_toArray, List.set_cons_zero, List.set_cons_succ]
                                    refine wpAnyH_done (by kernel_rfl) ?_ _
                                    simp only [Exit.then]
                                    apply_assumption
                                    have HM9 : Hid (UpE w wcb g9 g14 h u n (.slice oL (oth one n).length capL) (oth one n) ∧ NS wcb g15 h2 u n) := hHeld
                                    clear hHeld HRa HRb
                                    go_wp2
                                    exact ⟨⟨q + 1, by omega, by go_num, HM9⟩, by simp [intOf]; omega⟩
                                  · exact AllReadyH.nil
                                · exact AllReadyH.nil
                            · exact AllReadyH.nil
                        · exact AllReadyH.nil
                    · have q2x : decide ((d : Int) < (n : Int)) = false := by rw [decide_eq_false_iff_not]; omega
                      clear hmem
                      go_upto_region 21 with fail
                      go_quiet ((fail))
                      simp only [Exit.then]
                      apply_assumption
                      go_wp2
                      go_roundw
                      case rel => exact ⟨q + 1, by omega, by go_num, upm_drewN HM _⟩
                      case measure => simp [intOf]; omega
                · obtain rfl : q = dn := by omega
                  go_upto_region 25 with (first
                    | (refine wpList_load_ns rfl _ rfl HM.out.2 rfl ?_)
                    | (refine wpList_store_ns rfl _ _ rfl HM.out.1.S rfl rfl ?_))
                  have HE7 : Hid (UpE w (wr.setRow g9 (spc h2 u n)) g9 g14 h2 u n (.slice oL (oth one n).length capL) (oth one n)) := Lib.hid ⟨HM.out.1.S.row h2 u n, HM.out.1.A.rowOther HG14.out.2.symm _, HM.out.1.O.row HM.out.1.S _, below_setRow HM.out.1.B HG9.out _⟩
                  clear HM
                  generalize wr.setRow g9 (spc h2 u n) = w7 at *
                  go_upto_region 26 with (first
                    | (refine wpList_load_ns rfl _ rfl HE7.out.A rfl ?_)
                    | (go_at_call 12; ((with_reducible refine (KAL.out _ HE7.out.O).mono ?_); rintro z w8 ⟨rfl, hb8⟩; have HE8 := Lib.hid (HE7.out.later hb8); have HZ8 := Lib.hid (NS.new w8 Zf Zf 0); clear hb8))
                    | (refine wpList_store_ns (h' := Zf) (u' := u) (n' := n) rfl _ _ rfl HZ8.out rfl rfl ?_))
                  have HE9 : Hid (UpE w ((w8.alloc (.cells #[.complex .f64 0 0, .complex .f64 0 0, .complex .f64 0 0, .complex .f64 0 0, .complex .f64 0 0, .complex .f64 0 0, .complex .f64 0 0, .complex .f64 0 0, .int .i64 0] 28)).setRow w8.heap.size (spc Zf u n)) g9 g14 h2 u n (.slice oL (oth one n).length capL) (oth one n) ∧ NS ((w8.alloc (.cells #[.complex .f64 0 0, .complex .f64 0 0, .complex .f64 0 0, .complex .f64 0 0, .complex .f64 0 0, .complex .f64 0 0, .complex .f64 0 0, .complex .f64 0 0, .int .i64 0] 28)).setRow w8.heap.size (spc Zf u n)) w8.heap.size Zf u n) := Lib.hid (by
                    have hz := HZ8.out
                    have e := HE8.out
                    have ha := alloc_below w8 (.cells (spc Zf Zf 0) 28)
                    exact ⟨⟨(e.S.later ha).rowOther (by have := e.S.lt; omega) _, (e.A.later ha).rowOther (by have := e.A.lt; omega) _, (e.O.later ha).row hz _, below_setRow (e.B.trans (ha.mono e.B.size)) e.B.size _⟩, hz.row Zf u n⟩)
                  clear HE7 HE8 HZ8 KAL
                  generalize (w8.alloc (.cells #[.complex .f64 0 0, .complex .f64 0 0, .complex .f64 0 0, .complex .f64 0 0, .complex .f64 0 0, .complex .f64 0 0, .complex .f64 0 0, .complex .f64 0 0, .int .i64 0] 28)).setRow w8.heap.size (spc Zf u n) = w9 at *
                  generalize w8.heap.size = g20 at *
                  obtain ⟨c0, c1, c2, c3, c4, c5, c6, c7, c8, hcs⟩ : ∃ c0 c1 c2 c3 c4 c5 c6 c7 c8 : Value, spc Zf u n = #[c0, c1, c2, c3, c4, c5, c6, c7, c8] := ⟨_, _, _, _, _, _, _, _, _, rfl⟩
                  have KSM2 : Hid (∀ wz, Calls Try.prog 11 #[.agg #[c0, c1, c2, c3, c4, c5, c6, c7, c8], .agg #[c0, c1, c2, c3, c4, c5, c6, c7, c8]] wz fun e w' => e = .returned (.bool true) ∧ Below wz.heap.size wz w') := Lib.hid (fun wz => by
                    have := KSM.out wz
                    unfold spV at this
                    rw [hcs] at this
                    exact this)
                  obtain ⟨x0, x1, x2, x3, x4, x5, x6, x7, x8⟩ := nine_of (by have := HE9.out.2; unfold NS at this; rw [hcs] at this; exact this)
                  obtain ⟨y0, y1, y2, y3, y4, y5, y6, y7, y8⟩ := nine_of (by have := HE9.out.1.A; unfold NS at this; rw [hcs] at this; exact this)
                  clear hcs KSM
                  go_wp2_with (first
                    | (go_at_call 11; ((with_reducible refine (KSM2.out _).mono ?_); rintro z w10 ⟨rfl, hb10⟩; have HE10 := Lib.hid (HE9.out.1.later hb10); clear hb10 x0 x1 x2 x3 x4 x5 x6 x7 x8 y0 y1 y2 y3 y4 y5 y6 y7 y8)))
                  go_roundw
                  case rel => exact ⟨k + 1, h2, by omega, by go_num, Lib.hid ⟨HBD.out, HE10.out⟩⟩
                  case measure => simp [intOf]; omega
            · obtain rfl : k = m := by omega
              have KL := Lib.hid (fun wz => len_any h u n wz)
              go_wp2_with (first
                | (refine wpList_load_ns rfl _ rfl HI.out.2.S rfl ?_)
                | (go_at_call 18; ((with_reducible refine (KL.out _).mono ?_); rintro z w5 ⟨rfl, hb5⟩; have HE5 := Lib.hid (HI.out.2.later hb5); clear hb5)))
              go_ret
              exact ⟨rfl, HE5.out.B⟩
  · have e1 : ((nwE l : Int) == 0) = false := by rw [beq_eq_false_iff_ne]; exact h0
    obtain ⟨E, hE⟩ : ∃ E, nwE l = E := ⟨_, rfl⟩
    have e2 : nwS l = spV Zf Zf 0 := by unfold nwS; rw [if_neg h0]
    rw [e2, hE] at K7
    rw [hE] at e1 h0
    clear e2 hE
    go_enter Try.func5, Try.ntmps5
    go_upto_region 4 with (first
      | (go_at_call 6; ((with_reducible refine (K6.out _).mono ?_); rintro z w1 ⟨rfl, hb1⟩; have HB1 := Lib.hid hb1; clear hb1))
      | (go_at_call 7; ((with_reducible refine (K7.out _ HB1.out).mono ?_); rintro z w2 ⟨rfl, hb2⟩; have HB2 := Lib.hid (HB1.out.trans (hb2.mono HB1.out.size)); have HZ2 := Lib.hid (NS.new w2 Zf Zf 0); clear hb2))
      | (refine wpList_store_ns (h' := Zf) (u' := Zf) (n' := 0) rfl _ _ rfl HZ2.out rfl rfl ?_))
    have HBa := Lib.hid (below_setRow (HB2.out.trans ((alloc_below w2 (.cells (spc Zf Zf 0) 28)).mono HB2.out.size)) HB2.out.size (spc Zf Zf 0))
    have HB3 : Hid (Below w.heap.size w ((w2.alloc (.cells #[.complex .f64 0 0, .complex .f64 0 0, .complex .f64 0 0, .complex .f64 0 0, .complex .f64 0 0, .complex .f64 0 0, .complex .f64 0 0, .complex .f64 0 0, .int .i64 0] 28)).setRow w2.heap.size (spc Zf Zf 0))) := HBa
    clear HBa
    generalize (w2.alloc (.cells #[.complex .f64 0 0, .complex .f64 0 0, .complex .f64 0 0, .complex .f64 0 0, .complex .f64 0 0, .complex .f64 0 0, .complex .f64 0 0, .complex .f64 0 0, .int .i64 0] 28)).setRow w2.heap.size (spc Zf Zf 0) = w3 at *
    go_wp2
    go_ret
    exact ⟨rfl, HB3.out⟩
end Go.Proofs.Ytbnopmkfmggliaa
