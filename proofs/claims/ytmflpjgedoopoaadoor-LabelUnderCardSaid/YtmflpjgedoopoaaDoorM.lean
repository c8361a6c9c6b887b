/- Which pattern covers which host. -/
import Derived.Test.YtmflpjgedoopoaaDoorL
import Derived.Test.YtmflpjgedoopoaaDoorJ
namespace Go.Proofs.YtmflpjgedoopoaaDoor
open Go.RowKit

/-- The library's cut, with the slice as it is. -/
def Splits (w : World) (l : List (List UInt8)) (e : Ending) (w' : World) : Prop :=
  e = .returned (.slice (some ⟨w.heap.size, 0, none⟩) l.length l.length) ∧ (∀ j, j < l.length → w'.cell? ⟨w.heap.size, j, none⟩ = some (.string (str (l.getD j [])))) ∧ Below w.heap.size w w' ∧ w.heap.size < w'.heap.size
theorem split_exact (s : ByteArray) (c : UInt8) (m : Int) (w : World) (hs : s.size ≤ 4294967280) (hm : Mx w m) :
    Calls Tryd.prog 44 #[.string s, .string ⟨#[c]⟩] w (Splits w (cut c s.data.toList)) := by
  refine (Tryd.strings_Split s ⟨#[c]⟩ m w (by omega) hm (Nat.le_refl 1)).mono ?_
  rintro e w' ⟨rfl, rfl⟩
  have hcut := splitB_cut c s
  have hlen : (Lib.splitB ⟨#[c]⟩ 0 (Lib.countB s ⟨#[c]⟩) s).length = (cut c s.data.toList).length := by rw [← hcut, List.length_map]
  have hall := Lib.splitB_all ⟨#[c]⟩ (Nat.le_refl 1) 0 _ s rfl
  rw [← hall, hlen]
  refine ⟨rfl, fun j hj => ?_, (Below.refl _ _).alloc (Nat.le_refl _) _, by simp⟩
  rw [World.cell?_alloc_new]
  simp only [List.getElem?_toArray, List.getElem?_map]
  rw [← hcut, List.getD_eq_getElem?_getD, List.getElem?_map]
  rw [List.getElem?_eq_getElem (by rw [hlen]; exact hj)]
  simp only [Option.map_some, Option.getD_some, str_of]

theorem low_len (l : List UInt8) : (low l).length = l.length := by simp [low]
theorem reads_at {w : World} {g o c : Nat} {l : List (List UInt8)} (hg : g < w.heap.size) (hc : l.length ≤ c) (hN : l.length ≤ 4294967296) (h : ∀ j, j < l.length → w.cell? ⟨g, o + j, none⟩ = some (.string (str (l.getD j [])))) : Reads w (.slice (some ⟨g, o, none⟩) l.length c) l :=
  ⟨_, c, rfl, hc, hN, fun _ => ⟨g, o, rfl, hg, h⟩⟩
theorem getD_drop (l : List (List UInt8)) (k j : Nat) : (l.drop k).getD j [] = l.getD (k + j) [] := by
  rw [List.getD_eq_getElem?_getD, List.getD_eq_getElem?_getD, List.getElem?_drop]

set_option maxRecDepth 1000000 in
set_option maxHeartbeats 1000000 in
theorem covers_any (p h : ByteArray) (m : Int) (w : World) (hp : p.size ≤ 4294967280) (hh : h.size ≤ 4294967280) (hm : Mx w m) :
    Calls Tryd.prog 26 #[.string p, .string h] w fun e w' => e = .returned (.bool (coverB p.data.toList h.data.toList)) ∧ Below w.heap.size w w' := by
  have K1 := Lib.hid (fun w => lower_any p w (by omega))
  have K2 := Lib.hid (fun w => lower_any h w (by omega))
  obtain ⟨R, hR⟩ : ∃ R, R = coverB p.data.toList h.data.toList := ⟨_, rfl⟩
  rw [← hR]
  unfold coverB at hR
  have hp2 : (str (low p.data.toList)).size ≤ 4294967280 := by rw [str_size, low_len, ← Lib.size_eq]; exact hp
  have hh2 : (str (low h.data.toList)).size ≤ 4294967280 := by rw [str_size, low_len, ← Lib.size_eq]; exact hh
  generalize low p.data.toList = lp at K1 hR hp2
  generalize low h.data.toList = lh at K2 hR hh2
  have K3 := Lib.hid (fun w (hm : Mx w m) => split_exact (str lp) 46 m w hp2 hm)
  have K4 := Lib.hid (fun w (hm : Mx w m) => split_exact (str lh) 46 m w hh2 hm)
  rw [str_data] at K3 K4
  have hle1 := cut_le 46 lp
  have hle2 := cut_le 46 lh
  rw [← str_size] at hle1 hle2
  have hne1 := cut_ne 46 lp
  have hne2 := cut_ne 46 lh
  by_cases heq : lp = lh
  · have HT : Hid (R = true) := Lib.hid (by rw [hR, beq_iff_eq.2 heq, Bool.true_or])
    subst heq
    clear hR hle1 hle2 hne1 hne2 K3 K4 hp2 hh2
    go_enter Tryd.func26, Tryd.ntmps26
    go_wp2_with fail
    refine (K1.out _).mono ?_
    rintro e w1 ⟨rfl, hb1⟩
    go_wp2_with fail
    refine (K2.out _).mono ?_
    rintro e w2 ⟨rfl, hb2⟩
    go_wp2
    go_ret
    exact ⟨ret_bool HT.out.symm, hb1.trans (hb2.mono hb1.size)⟩
  · have HR : Hid (R = coverP (cut 46 lp) (cut 46 lh)) := Lib.hid (by rw [hR, beq_eq_false_iff_ne.2 heq, Bool.false_or])
    have hsn := str_neq heq
    clear hR heq
    generalize cut 46 lp = P at *
    generalize cut 46 lh = Q at *
    generalize str lp = sp at *
    generalize str lh = sh at *
    have HMX := Lib.hid hm
    have HE1 := Lib.hid (show P.length ≤ 4294967296 by omega)
    have HE2 := Lib.hid (show Q.length ≤ 4294967296 by omega)
    clear hm hle1 hle2 hp2 hh2 hp hh
    go_enter Tryd.func26, Tryd.ntmps26
    go_wp2_with fail
    refine (K1.out _).mono ?_
    rintro e w1 ⟨rfl, hb1⟩
    have HB1 := Lib.hid hb1
    clear hb1
    go_wp2_with fail
    refine (K2.out _).mono ?_
    rintro e w2 ⟨rfl, hb2⟩
    have HB2 := Lib.hid (HB1.out.trans (hb2.mono HB1.out.size))
    clear hb2
    go_wp2_with fail
    refine (K3.out _ (HMX.out.later HB2.out)).mono ?_
    rintro e w3 ⟨rfl, hc3, hb3, hz3⟩
    have HB3 := Lib.hid (HB2.out.trans (hb3.mono HB2.out.size))
    go_wp2_with fail
    refine (K4.out _ (HMX.out.later HB3.out)).mono ?_
    rintro e w4 ⟨rfl, hc4, hb4, hz4⟩
    have HB4 := Lib.hid (HB3.out.trans (hb4.mono HB3.out.size))
    have hc3' : ∀ j, j < P.length → w4.cell? ⟨w2.heap.size, j, none⟩ = some (.string (str (P.getD j []))) := fun j hj => by
      rw [hb4.cell (p := ⟨w2.heap.size, j, none⟩) hz3]; exact hc3 j hj
    have hz34 : w2.heap.size < w4.heap.size := by omega
    have HC3 := Lib.hid hc3'
    have HC4 := Lib.hid hc4
    clear hc3 hc3' hc4 hb3 hb4 HB1 HB2 HB3 K1 K2 K3 K4
    generalize w2.heap.size = g3 at *
    generalize w3.heap.size = g4 at *
    have hP0 : 0 < P.length := List.length_pos_iff.2 hne1
    have hQ0 : 0 < Q.length := List.length_pos_iff.2 hne2
    have ha := HC3.out 0 hP0
    have hd0 : P.getD 0 [] = P.headD [] := by cases P <;> rfl
    rw [hd0] at ha
    have HT : Hid (∀ j, j < P.length - 1 → w4.cell? ⟨g3, 1 + j, none⟩ = some (.string (str (P.tail.getD j [])))) := Lib.hid (fun j hj => by
      rw [getD_tail, Nat.add_comm 1 j]; exact HC3.out (j + 1) (by omega))
    have HTL : Hid (P.tail.length = P.length - 1) := Lib.hid (List.length_tail)
    have HR2 : Hid (R = (P.headD [] == [42] && decide (P.tail.length < Q.length) && (Q.drop (Q.length - P.tail.length) == P.tail))) := Lib.hid (by rw [HR.out]; rfl)
    clear hd0 HR HC3 hne1 hne2
    generalize P.headD [] = a at *
    generalize P.tail = T at *
    generalize P.length = n1 at *
    have hn1 := HE1.out
    have hn2 := HE2.out
    have HD : Hid (∀ k, k ≤ Q.length → ∀ j, j < (Q.drop k).length → w4.cell? ⟨g4, k + j, none⟩ = some (.string (str ((Q.drop k).getD j [])))) := Lib.hid (fun k hk j hj => by
      rw [List.length_drop] at hj
      rw [getD_drop]; exact HC4.out (k + j) (by omega))
    have HDL : Hid (∀ k, (Q.drop k).length = Q.length - k) := Lib.hid (fun k => List.length_drop)
    generalize hq : Q.length = n2 at *
    have HQ := Lib.hid hq
    clear hq
    by_cases hst : a = [42]
    · subst hst
      rw [show str [42] = ({ data := #[42] } : ByteArray) from rfl] at ha
      by_cases h1 : n1 = 1
      · subst h1
        obtain rfl : T = [] := List.eq_nil_of_length_eq_zero HTL.out
        have HTR : Hid (R = true) := Lib.hid (by rw [HR2.out]; simp [hQ0, HQ.out])
        have K5 := Lib.hid (equal_any (.slice (some ⟨g4, 0, none⟩) 0 0) (.slice (some ⟨g3, 0, none⟩) 0 0) [] [] w4 ⟨_, 0, rfl, Nat.le_refl _, by decide, fun h => absurd h (by decide)⟩ ⟨_, 0, rfl, Nat.le_refl _, by decide, fun h => absurd h (by decide)⟩)
        rw [show decide (([] : List (List UInt8)) = []) = true from rfl] at K5
        clear HT HTL HR2 HD HDL
        go_wp2_with (go_at_call 19; ((with_reducible refine (K5.out).mono ?_); rintro e w5 ⟨rfl, hb5⟩))
        go_ret
        exact ⟨ret_bool HTR.out.symm, HB4.out.trans (hb5.mono HB4.out.size)⟩
      · obtain ⟨t, rfl⟩ : ∃ t, n1 = t + 2 := ⟨n1 - 2, by omega⟩
        have HTL2 : Hid (T.length = t + 1) := Lib.hid (by rw [HTL.out]; omega)
        by_cases hlt : t + 1 < n2
        · obtain ⟨d, rfl⟩ : ∃ d, n2 = d + (t + 2) := ⟨n2 - (t + 2), by omega⟩
          have r1 : Reads w4 (.slice (some ⟨g4, d + 1, none⟩) (t + 1) (t + 1)) (Q.drop (d + 1)) := by
            have hl := HDL.out (d + 1)
            have := reads_at (g := g4) (o := d + 1) (c := t + 1) (l := Q.drop (d + 1)) hz4 (by omega) (by omega) (HD.out (d + 1) (by omega))
            rw [hl, show d + (t + 2) - (d + 1) = t + 1 by omega] at this; exact this
          have r2 : Reads w4 (.slice (some ⟨g3, 1, none⟩) (t + 1) (t + 1)) T := by
            have := reads_at (g := g3) (o := 1) (c := t + 1) (l := T) hz34 (by rw [HTL2.out]; exact Nat.le_refl _) (by rw [HTL2.out]; omega) (fun j hj => HT.out j (by rw [HTL2.out] at hj; omega))
            rw [HTL2.out] at this; exact this
          have K5 := Lib.hid (equal_any _ _ _ _ w4 r1 r2)
          have HRR : Hid (R = decide (Q.drop (d + 1) = T)) := Lib.hid (by
            rw [HR2.out, HTL2.out, decide_eq_true hlt, show d + (t + 2) - (t + 1) = d + 1 by omega, Bool.eq_iff_iff]; simp)
          clear HT HTL HTL2 HR2 HD HDL r1 r2 h1
          have ec : (d : Int) + ((t : Int) + 2) - ((t : Int) + 1) = (d : Int) + 1 := by omega
          have e2 : d + (t + 2) - (d + 1) = t + 1 := by omega
          have d1 : decide ((0 : Int) < (d : Int) + 1) = true := decide_eq_true (by omega)
          go_wp2_with (go_at_call 19; ((with_reducible refine (K5.out).mono ?_); rintro e w5 ⟨rfl, hb5⟩))
          go_ret
          exact ⟨ret_bool HRR.out.symm, HB4.out.trans (hb5.mono HB4.out.size)⟩
        · have HRR : Hid (R = false) := Lib.hid (by
            rw [HR2.out, HTL2.out, decide_eq_false hlt, Bool.and_false, Bool.false_and])
          clear HT HTL HTL2 HR2 HD HDL h1
          go_wp2
          go_ret
          exact ⟨ret_bool HRR.out.symm, HB4.out⟩
    · have HRR : Hid (R = false) := Lib.hid (by
        rw [HR2.out, beq_eq_false_iff_ne.2 hst, Bool.false_and, Bool.false_and])
      have hne := str_neq hst
      have hne2 : ((str a).toList == [42]) = false := by rw [← hne, show (str [42]).toList = [42] from Lib.toList_data _]
      clear HT HTL HR2 HD HDL hst
      generalize str a = y at *
      by_cases h1 : n1 = 1
      · subst h1
        go_wp2
        go_ret
        exact ⟨ret_bool HRR.out.symm, HB4.out⟩
      · obtain ⟨t, rfl⟩ : ∃ t, n1 = t + 2 := ⟨n1 - 2, by omega⟩
        go_wp2
        go_ret
        exact ⟨ret_bool HRR.out.symm, HB4.out⟩
end Go.Proofs.YtmflpjgedoopoaaDoor
