/- LabelStars, walked. -/
import Derived.Test.YtmflpjgedoopoaaDoorQ
namespace Go.Proofs.YtmflpjgedoopoaaDoor
open Go.RowKit

theorem head_star {l : List UInt8} (h : (cut 46 l).headD [] = [42]) : l.headD 0 = 42 := by
  cases l with
  | nil => simp [cut] at h
  | cons x xs =>
    by_cases e : x = 46
    · subst e; rw [cut_cons_eq] at h; simp at h
    · rw [cut_cons_ne e] at h
      simp at h
      simpa using h.1
theorem lowC_star {c : UInt8} (h : lowC c = 42) : c = 42 := by
  rw [byte_eq, lowC_nat] at h
  rw [byte_eq]
  split at h <;> simp at h ⊢ <;> omega
theorem low_head (l : List UInt8) : (low l).headD 0 = 42 → l.headD 0 = 42 := by
  cases l with
  | nil => simp [low]
  | cons x xs => intro h; exact lowC_star h
theorem hostP_plain {l : List UInt8} (h : l.headD 0 ≠ 42) : hostP l = cut 46 l := by
  unfold hostP
  rw [if_neg (fun e => h (head_star e.2))]
theorem hostN_fine {l : List UInt8} (h0 : 0 < l.length) (h1 : l.length ≤ 64) (h2 : (hostP l).all partB = true) : hostN l = 0 := by
  unfold hostN
  rw [if_neg (by omega), if_neg (by omega), if_pos h2]
theorem host_starred {s : List UInt8} (h : hostN s = 0) (h1 : s.length ≤ 60) (h2 : s.headD 0 ≠ 42) : hostN ([42, 46] ++ s) = 0 := by
  refine hostN_fine (by simp) (by simp; omega) ?_
  have := host_parts h
  rw [hostP_plain h2] at this
  unfold hostP
  rw [cut_front 42 (by decide)]
  have hpos := List.length_pos_iff.2 (cut_ne 46 s)
  rw [if_pos ⟨by simp; exact hpos, rfl⟩]
  exact this
theorem host_joined {s t : List UInt8} (h : hostN s = 0) (h2 : s.headD 0 ≠ 42) (ht : hostN t = 0) (ht2 : t.headD 0 ≠ 42) (hl : s.length + t.length ≤ 63) : hostN (t ++ [46] ++ s) = 0 := by
  refine hostN_fine (by simp; omega) (by simp; omega) ?_
  have e1 := host_parts h
  have e2 := host_parts ht
  rw [hostP_plain h2] at e1
  rw [hostP_plain ht2] at e2
  have e3 : (t ++ [46] ++ s).headD 0 ≠ 42 := by
    have := (host_sizes ht).1
    cases t with
    | nil => simp at this
    | cons a u => exact ht2
  rw [hostP_plain e3, show t ++ [46] ++ s = t ++ 46 :: s by simp, cut_mid, List.all_append, e1, e2]; rfl
theorem cover_joined (s t : List UInt8) : coverB ([42, 46] ++ s) (t ++ [46] ++ s) = true := by
  unfold coverB
  rw [show t ++ [46] ++ s = t ++ ([46] ++ s) by simp, low_append, low_append, low_append, show low [42, 46] = [42, 46] by decide, show low [46] = [46] by decide, cut_front 42 (by decide), show low t ++ ([46] ++ low s) = low t ++ 46 :: low s by simp, cut_mid]
  have hpos := List.length_pos_iff.2 (cut_ne 46 (low t))
  unfold coverP
  have e : (cut 46 (low t) ++ cut 46 (low s)).drop ((cut 46 (low t) ++ cut 46 (low s)).length - (cut 46 (low s)).length) = cut 46 (low s) := by
    rw [List.length_append, Nat.add_sub_cancel, List.drop_left]
  rw [List.tail_cons, List.headD_cons, e, decide_eq_true (by rw [List.length_append]; omega)]
  simp
theorem cover_not {s : List UInt8} (t : List UInt8) (h2 : s.headD 0 ≠ 42) : coverB s (t ++ [46] ++ s) = false := by
  unfold coverB
  have e1 : (low s == low (t ++ [46] ++ s)) = false := by
    rw [beq_eq_false_iff_ne]
    intro e
    have := congrArg List.length e
    rw [low_len, low_len] at this
    simp at this
    omega
  rw [e1, Bool.false_or]
  unfold coverP
  rw [beq_eq_false_iff_ne.2 (fun e => h2 (low_head s (head_star e))), Bool.false_and, Bool.false_and]

theorem host_v (a : ByteArray) (n : Nat) (hn : hostN a.data.toList = n) (m : Int) (ha : a.size ≤ 140737488351232) (w : World) (hm : Mx w m) :
    Calls Tryd.prog 15 #[.string a] w fun e w' => e = .returned (.int .i64 n) ∧ Below w.heap.size w w' := by
  subst hn; exact host_any a m w ha hm

/-- What the law asks of its arguments. -/
def StarsFine (s t : ByteArray) : Prop := hostN s.data.toList = 0 ∧ s.size ≤ 60 ∧ s.data.toList.headD 0 ≠ 42 ∧ t.size ≤ 30 ∧ hostN t.data.toList = 0 ∧ t.data.toList.headD 0 ≠ 42 ∧ s.size + t.size ≤ 63

set_option maxRecDepth 1000000 in
set_option maxHeartbeats 4000000 in
theorem labelStars_walk (s t : ByteArray) (hs : s.size ≤ 140737488351232) (ht : t.size ≤ 140737488351232) (m : Int) (w : World) (hm : Mx w m) :
    Calls Tryd.prog 7 #[.string s, .string t] w fun e w' => e = .returned (.bool true) ∧ Below w.heap.size w w' := by
  have HA := Lib.hid (awake_any m w hm)
  have HMX := Lib.hid hm
  have HSZ := Lib.hid hs
  have HTZ := Lib.hid ht
  clear hm
  obtain ⟨n1, hn1⟩ : ∃ n, hostN s.data.toList = n := ⟨_, rfl⟩
  obtain ⟨n2, hn2⟩ : ∃ n, hostN t.data.toList = n := ⟨_, rfl⟩
  have K1 := Lib.hid (host_v s n1 hn1 m hs)
  have K2 := Lib.hid (host_v t n2 hn2 m ht)
  have HN1 := Lib.hid hn1
  have HN2 := Lib.hid hn2
  clear hn1 hn2
  go_enter Tryd.func7, Tryd.ntmps7
  go_wp2_with fail
  refine (HA.out).mono ?_
  rintro e w1 ⟨rfl, hb1⟩
  have B1 := Lib.hid hb1
  clear hb1
  go_upto_region 3 with (fail)
  go_cut [43] (fun x wx => ∃ bb : Bool, x = .bool bb ∧ Below w.heap.size w wx ∧ Hid (bb = false → StarsFine s t))
  case first =>
    go_wp2_with fail
    refine (K1.out _ (HMX.out.later B1.out)).mono ?_
    rintro e w2 ⟨rfl, hb2⟩
    have B2 := Lib.hid (B1.out.trans (hb2.mono B1.out.size))
    clear hb2
    by_cases e1 : n1 = 0
    · subst e1
      have hs0 := (host_sizes HN1.out).1
      rw [← Lib.size_eq] at hs0
      have HH1 := Lib.hid (head_get s hs0)
      by_cases h60 : s.size ≤ 60
      · have d60 : decide ((60 : Int) < (s.size : Int)) = false := decide_eq_false (by omega)
        by_cases c1 : s[0].toNat = 42
        · go_wp2
          go_meet
          case rel => exact ⟨true, rfl, B2.out, Lib.hid (fun h => by cases h)⟩
        · have q1 : ((s[0].toNat : Int) == 42) = false := neq_int c1
          by_cases h30 : t.size ≤ 30
          · have d30 : decide ((30 : Int) < (t.size : Int)) = false := decide_eq_false (by omega)
            go_wp2_with fail
            refine (K2.out _ (HMX.out.later B2.out)).mono ?_
            rintro e w3 ⟨rfl, hb3⟩
            have B3 := Lib.hid (B2.out.trans (hb3.mono B2.out.size))
            clear hb3
            by_cases e2 : n2 = 0
            · subst e2
              have ht0 := (host_sizes HN2.out).1
              rw [← Lib.size_eq] at ht0
              have HH2 := Lib.hid (head_get t ht0)
              by_cases c2 : t[0].toNat = 42
              · go_wp2
                go_meet
                case rel => exact ⟨true, rfl, B3.out, Lib.hid (fun h => by cases h)⟩
              · have q2 : ((t[0].toNat : Int) == 42) = false := neq_int c2
                by_cases h63 : s.size + t.size ≤ 63
                · have d63 : decide ((63 : Int) < (s.size : Int) + (t.size : Int)) = false := decide_eq_false (by omega)
                  have HF : Hid (StarsFine s t) := Lib.hid ⟨HN1.out, h60, fun h => c1 (by rw [← HH1.out, h]; rfl), h30, HN2.out, fun h => c2 (by rw [← HH2.out, h]; rfl), h63⟩
                  go_wp2
                  go_meet
                  case rel => exact ⟨false, rfl, B3.out, Lib.hid (fun _ => HF.out)⟩
                · have d63 : decide ((63 : Int) < (s.size : Int) + (t.size : Int)) = true := decide_eq_true (by omega)
                  go_wp2
                  go_meet
                  case rel => exact ⟨true, rfl, B3.out, Lib.hid (fun h => by cases h)⟩
            · have q2 : ((n2 : Int) == 0) = false := neq_int e2
              have q2' : ((n2 : Int) != 0) = true := by unfold bne; rw [q2]; rfl
              go_wp2
              go_meet
              case rel => exact ⟨true, rfl, B3.out, Lib.hid (fun h => by cases h)⟩
          · have d30 : decide ((30 : Int) < (t.size : Int)) = true := decide_eq_true (by omega)
            go_wp2
            go_meet
            case rel => exact ⟨true, rfl, B2.out, Lib.hid (fun h => by cases h)⟩
      · have d60 : decide ((60 : Int) < (s.size : Int)) = true := decide_eq_true (by omega)
        go_wp2
        go_meet
        case rel => exact ⟨true, rfl, B2.out, Lib.hid (fun h => by cases h)⟩
    · have q1 : ((n1 : Int) == 0) = false := neq_int e1
      have q1' : ((n1 : Int) != 0) = true := by unfold bne; rw [q1]; rfl
      go_wp2
      go_meet
      case rel => exact ⟨true, rfl, B2.out, Lib.hid (fun h => by cases h)⟩
  case rest =>
    obtain ⟨bb, rfl, hb, HF⟩ := hcut
    have B2 := Lib.hid hb
    clear hb
    cases bb
    · obtain ⟨f1, f2, f3, f4, f5, f6, f7⟩ := HF.out rfl
      clear HF
      obtain ⟨a, had, hal, hadd1⟩ := add_run ⟨#[42, 46]⟩ s (by have : (⟨#[42, 46]⟩ : ByteArray).size = 2 := rfl; omega)
      obtain ⟨b, hbd, hbl, hadd2⟩ := add_run t ⟨#[46]⟩ (by have : (⟨#[46]⟩ : ByteArray).size = 1 := rfl; omega)
      have z1 : (⟨#[42, 46]⟩ : ByteArray).size = 2 := rfl
      have z2 : (⟨#[46]⟩ : ByteArray).size = 1 := rfl
      obtain ⟨c, hcd, hcl, hadd3⟩ := add_run b s (by omega)
      have hcd' : c.data.toList = t.data.toList ++ [46] ++ s.data.toList := by rw [hcd, hbd]
      have had' : a.data.toList = [42, 46] ++ s.data.toList := had
      have G1 := Lib.hid (host_v a 0 (by rw [had']; exact host_starred f1 (by rw [← Lib.size_eq]; exact f2) f3) m (by omega))
      have G2 := Lib.hid (covers_v a c true (by rw [had', hcd']; exact cover_joined _ _) m (by omega) (by omega))
      have G3 := Lib.hid (covers_v a s false (by rw [had']; exact cover_less _) m (by omega) (by omega))
      have G4 := Lib.hid (covers_v a a true (cover_refl _) m (by omega) (by omega))
      have G5 := Lib.hid (covers_v s c false (by rw [hcd']; exact cover_not _ f3) m (by omega) (by omega))
      have G6 := Lib.hid (host_v c 0 (by rw [hcd']; exact host_joined f1 f3 f5 f6 (by rw [← Lib.size_eq, ← Lib.size_eq]; exact f7)) m (by omega))
      clear f1 f2 f3 f4 f5 f6 f7 had hal hbd hbl hcd hcl z1 z2 hcd' had'
      go_wp2_with fail
      refine (G1.out _ (HMX.out.later B2.out)).mono ?_
      rintro e w3 ⟨rfl, hb3⟩
      have B3 := Lib.hid (B2.out.trans (hb3.mono B2.out.size))
      clear hb3
      go_wp2_with fail
      refine (G2.out _ (HMX.out.later B3.out)).mono ?_
      rintro e w4 ⟨rfl, hb4⟩
      have B4 := Lib.hid (B3.out.trans (hb4.mono B3.out.size))
      clear hb4
      go_wp2_with fail
      refine (G3.out _ (HMX.out.later B4.out)).mono ?_
      rintro e w5 ⟨rfl, hb5⟩
      have B5 := Lib.hid (B4.out.trans (hb5.mono B4.out.size))
      clear hb5
      go_wp2_with fail
      refine (G4.out _ (HMX.out.later B5.out)).mono ?_
      rintro e w6 ⟨rfl, hb6⟩
      have B6 := Lib.hid (B5.out.trans (hb6.mono B5.out.size))
      clear hb6
      go_wp2_with fail
      refine (G5.out _ (HMX.out.later B6.out)).mono ?_
      rintro e w7 ⟨rfl, hb7⟩
      have B7 := Lib.hid (B6.out.trans (hb7.mono B6.out.size))
      clear hb7
      go_wp2_with fail
      refine (G6.out _ (HMX.out.later B7.out)).mono ?_
      rintro e w8 ⟨rfl, hb8⟩
      have B8 := Lib.hid (B7.out.trans (hb8.mono B7.out.size))
      clear hb8
      go_wp2
      go_ret
      exact ⟨rfl, B8.out⟩
    · go_wp2
      go_ret
      exact ⟨rfl, B2.out⟩
end Go.Proofs.YtmflpjgedoopoaaDoor
