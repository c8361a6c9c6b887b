/- Walk of the law DigestSums, out of what the document's Text answers. -/
import Derived.Test.YtfakkbjnapelfaaDP
import Derived.ChangeKeysEq
namespace Go.Proofs.Ytfakkbjnapelfaa.Dg
open Go.RowKit

theorem wf16 {a : Int} (h : (Lit.int .u16 a).wf = true) : 0 ≤ a ∧ a < 65536 := by
  simp [Lit.wf, IntKind.min, IntKind.max, IntKind.signed, IntKind.bits] at h; omega
theorem wf8 {a : Int} (h : (Lit.int .u8 a).wf = true) : 0 ≤ a ∧ a < 256 := by
  simp [Lit.wf, IntKind.min, IntKind.max, IntKind.signed, IntKind.bits] at h; omega
theorem repeat_l (n : Nat) : Lib.repeatL [97] n = List.replicate n 97 := by
  induction n with
  | zero => rfl
  | succ n ih => simp [Lib.repeatL, List.replicate_succ] at ih ⊢; try exact ih
theorem repeat_any (n : Nat) (hn : n ≤ 255) (w : World) : Calls Try.prog 17 #[.string ⟨#[97]⟩, .int .i64 n] w fun e w' => e = .returned (.string (W.str (List.replicate n 97))) ∧ Below w.heap.size w w' := by
  rcases Nat.lt_or_ge n 2 with h | h
  · rcases (show n = 0 ∨ n = 1 by omega) with rfl | rfl
    · exact (Try.strings_Repeat_zero ⟨#[97]⟩ w).mono (by rintro e w' ⟨rfl, rfl⟩; exact ⟨rfl, Below.refl _ _⟩)
    · exact (Try.strings_Repeat_one ⟨#[97]⟩ w).mono (by rintro e w' ⟨rfl, rfl⟩; exact ⟨rfl, Below.refl _ _⟩)
  · have := Try.strings_Repeat_main ⟨#[97]⟩ n w h (by omega) (by show 1 * n ≤ _; omega) (by decide)
    refine this.mono ?_
    rintro e w' ⟨rfl, hb⟩
    refine ⟨?_, hb⟩
    rw [show (⟨#[97]⟩ : ByteArray).data.toList = [97] from rfl, repeat_l]
    rfl
theorem text_one (l : List UInt8) (hl : l.length ≤ 2000) (b : Nat) (w : World) (hb : b < w.heap.size) (h0 : w.cell? ⟨b, 0, none⟩ = some (.string (W.str l))) (w' : World) (hbw : Below w.heap.size w w') :
    Calls Try.prog 42 #[.slice (some ⟨b, 0, none⟩) 1 1, .string ⟨#[]⟩] w' fun e w'' => e = .returned (.string (W.str l)) ∧ Below w'.heap.size w' w'' := by
  have hJ := Try.strings_Join b 0 1 [W.str l] ⟨#[]⟩ w' (by
    intro j x hx
    have hc : ∀ k, w'.cell? ⟨b, k, none⟩ = w.cell? ⟨b, k, none⟩ := fun k => World.cell?_of_block (hbw.block b hb)
    match j, hx with
    | 0, hx => simp at hx; subst hx; rw [hc]; exact h0) (Nat.lt_of_lt_of_le hb hbw.size) (by simp) (by simp) (by
      show (Lib.join [l] []).length ≤ _
      simp [Lib.join]; omega)
  have e2 : (⟨(Lib.join ([W.str l].map (·.data.toList)) (⟨#[]⟩ : ByteArray).data.toList).toArray⟩ : ByteArray) = W.str l := by
    show W.str (Lib.join [l] []) = W.str l
    simp [Lib.join]
  rw [e2] at hJ
  exact hJ
theorem text_three (t : ByteArray) (k : Nat) (ht : t.size ≤ 2000) (b : Nat) (w : World) (hb : b < w.heap.size) (h0 : w.cell? ⟨b, 0, none⟩ = some (.string (t.extract 0 k))) (h1 : w.cell? ⟨b, 1, none⟩ = some (.string ⟨#[]⟩)) (h2 : w.cell? ⟨b, 2, none⟩ = some (.string (t.extract k t.size))) (w' : World) (hbw : Below w.heap.size w w') :
    Calls Try.prog 42 #[.slice (some ⟨b, 0, none⟩) 3 3, .string ⟨#[]⟩] w' fun e w'' => e = .returned (.string (W.str t.data.toList)) ∧ Below w'.heap.size w' w'' := by
  have hlen : t.data.toList.length = t.size := by simp
  have e2 : Lib.join ([t.extract 0 k, ⟨#[]⟩, t.extract k t.size].map (·.data.toList)) (⟨#[]⟩ : ByteArray).data.toList = t.data.toList := by
    simp only [List.map_cons, List.map_nil, ext_list]
    simp [Lib.join]
    rw [show (t.data.toList.drop k).take (t.size - k) = t.data.toList.drop k from List.take_of_length_le (by simp)]
    exact List.take_append_drop k _
  have hJ := Try.strings_Join b 0 3 [t.extract 0 k, ⟨#[]⟩, t.extract k t.size] ⟨#[]⟩ w' (by
    intro j x hx
    have hc : ∀ k, w'.cell? ⟨b, k, none⟩ = w.cell? ⟨b, k, none⟩ := fun k => World.cell?_of_block (hbw.block b hb)
    match j, hx with
    | 0, hx => simp at hx; subst hx; rw [hc]; exact h0
    | 1, hx => simp at hx; subst hx; rw [hc]; exact h1
    | 2, hx => simp at hx; subst hx; rw [hc]; exact h2) (Nat.lt_of_lt_of_le hb hbw.size) (by simp) (by simp) (by rw [e2]; omega)
  rw [e2] at hJ
  exact hJ
/-- What holds of each world in the law's last region. -/
def DSx (w : World) (g : Nat) (o : List UInt8) (wz : World) : Prop := BB g 42 o wz ∧ w.heap.size ≤ g ∧ Below w.heap.size w wz
theorem DSx.later {w wz w1 : World} {g : Nat} {o : List UInt8} (h : DSx w g o wz) (hb : Below wz.heap.size wz w1) : DSx w g o w1 := ⟨h.1.later hb, h.2.1, h.2.2.trans (hb.mono h.2.2.size)⟩
theorem DSx.drew {w wz : World} {g : Nat} {o : List UInt8} (h : DSx w g o wz) : DSx w g o wz.drew := h.later (bd1 wz)
theorem DSx.undrew {w wz : World} {g : Nat} {o : List UInt8} (h : DSx w g o wz.drew) : DSx w g o wz := ⟨h.1, h.2.1, ⟨h.2.2.os, h.2.2.tape, h.2.2.output, h.2.2.size, h.2.2.block⟩⟩
theorem DSx.alloc {w wz : World} {g : Nat} {o : List UInt8} (h : DSx w g o wz) (ob : Obj) : DSx w g o (wz.alloc ob) := h.later ((Below.refl _ _).alloc (Nat.le_refl _) _)
theorem part_u8 (o : List UInt8) (i : Nat) (hi : i < o.length) (w : World) : (part 5 (W.bcells o).toArray i).run Try.prog w = .ok (.int .u8 (o[i].toNat : Int)) w := by
  obtain ⟨ti, h1, hz, hsz, _⟩ := info_parts (show (Try.prog.info? 5).map (fun i => (i.zero, i.size, i.bytes)) = some (some (.int .u8 0), 1, 1) by kernel_rfl)
  simp [part, isAgg, run_underlying Try.underlying5, sizeOf, typeInfo, h1, hsz, W.bcells, hi]
theorem eq_items (o : List UInt8) (w : World) : ∀ is : List Nat, (∀ i ∈ is, i < o.length) → (Op.eqItems 9999 5 1 (W.bcells o).toArray (W.bcells o).toArray is).run Try.prog w = .ok true w
  | [], _ => by simp [Op.eqItems]
  | i :: is, h => by
    have ih := eq_items o w is (fun x hx => h x (by simp [hx]))
    have hp := part_u8 o i (h i (by simp)) w
    have he : (Op.equalIn 9999 5 (.int .u8 (o[i]'(h i (by simp))).toNat) (.int .u8 (o[i]'(h i (by simp))).toNat)).run Try.prog w = .ok true w := by simp [go_sem]
    simp only [Op.eqItems, Sem.run_bind, Nat.mul_one, hp, Result.andThen_ok, he]
    simpa using ih
set_option maxRecDepth 100000 in
theorem eq48 (o : List UInt8) (ho : o.length = 16) (w : World) : (Op.equalIn 10000 48 (.agg (W.bcells o).toArray) (.agg (W.bcells o).toArray)).run Try.prog w = .ok true w := by
  obtain ⟨ti, h1, _⟩ := info_parts (show (Try.prog.info? 5).map (fun i => (i.zero, i.size, i.bytes)) = some (some (.int .u8 0), 1, 1) by kernel_rfl)
  show (Op.equalIn (9999 + 1) 48 (.agg (W.bcells o).toArray) (.agg (W.bcells o).toArray)).run Try.prog w = _
  rw [run_equalIn_array w 9999 _ _ Try.underlying48 h1, show Try.prog.cellsOf 5 = 1 by kernel_rfl]
  exact eq_items o w _ (fun i hi => by rw [ho]; exact List.mem_range.1 hi)

set_option maxRecDepth 1000000 in
set_option maxHeartbeats 2000000 in
theorem dsums_walk (s : ByteArray) (n a : Nat) (hn : n ≤ 255) (ha : a < 65536) (w : World)
    (KT0 : ∀ (l : List UInt8) (_ : l.length ≤ 2000) (w : World), Calls Try.prog 20 #[.string (W.str l)] w fun e w' => e = .returned (.string (W.str (sumL l))) ∧ Below w.heap.size w w') :
    Calls Try.prog 5 #[.string s, .int .u8 n, .int .u16 a] w fun e w' => e = .returned (.bool true) ∧ Below w.heap.size w w' := by
  by_cases hbig : 1000 < s.size
  · have hb : (1000 : Int) < s.size := by omega
    go_enter Try.func5, Try.ntmps5
    go_wp2_with (first | (go_at_call 16; go_must (refine (awake_sum _).mono ?_); rintro e w1 ⟨rfl, hb1⟩))
    go_ret
    exact ⟨rfl, hb1⟩
  · obtain ⟨T, hT⟩ : ∃ T, T = s.data.toList ++ List.replicate n 97 := ⟨_, rfl⟩
    have hTl : T.length ≤ 1255 := by rw [hT]; simp; omega
    obtain ⟨t, ht⟩ : ∃ t, t = W.str T := ⟨_, rfl⟩
    have htl : t.data.toList = T := by rw [ht]; rfl
    have htz : t.size = T.length := by rw [ht, W.size_str]
    obtain ⟨rp, hrp⟩ : ∃ rp, rp = W.str (List.replicate n 97) := ⟨_, rfl⟩
    have KR := Lib.hid (repeat_any n hn)
    rw [← hrp] at KR
    have hadd : ∀ wz, (Op.stringOp .add s rp).run Try.prog wz = .ok (.string t) wz := by
      intro wz
      have := W.run_str_add s.data.toList (List.replicate n 97) (by simp; omega) wz
      rw [hrp, ht, hT]
      exact this
    obtain ⟨k, hk⟩ : ∃ k, k = a % (t.size + 1) := ⟨_, rfl⟩
    have hkt : k ≤ t.size := by have := Nat.mod_lt a (show 0 < t.size + 1 by omega); omega
    have e1 : (a : Int) % ((t.size : Int) + 1) = (k : Int) := by rw [hk]; simp
    obtain ⟨o, ho⟩ : ∃ o, o = sumL T := ⟨_, rfl⟩
    have hol : o.length = 32 := by rw [ho, sumL_len]
    have KS1 : Hid (∀ (b : Nat) (w : World), b < w.heap.size → w.cell? ⟨b, 0, none⟩ = some (.string t) → Calls Try.prog 18 #[.slice (some ⟨b, 0, none⟩) 1 1] w fun e w' => e = .returned (.agg (W.bcells o).toArray) ∧ Below w.heap.size w w') := Lib.hid (fun b w hb h0 => by
      rw [ho]; exact sum_core _ T (by omega) w (text_one T (by omega) b w hb (by rw [← ht]; exact h0)))
    obtain ⟨so, hso⟩ : ∃ so, so = W.str o := ⟨_, rfl⟩
    have KT1 : Hid (∀ (b : Nat) (w : World), b < w.heap.size → w.cell? ⟨b, 0, none⟩ = some (.string t) → Calls Try.prog 19 #[.slice (some ⟨b, 0, none⟩) 1 1] w fun e w' => e = .returned (.string so) ∧ Below w.heap.size w w') := Lib.hid (fun b w hb h0 => by
      rw [hso, ho]; exact text_core _ T (by omega) w (text_one T (by omega) b w hb (by rw [← ht]; exact h0)))
    have KT3 : Hid (∀ (b : Nat) (w : World), b < w.heap.size → w.cell? ⟨b, 0, none⟩ = some (.string (t.extract 0 k)) → w.cell? ⟨b, 1, none⟩ = some (.string ⟨#[]⟩) → w.cell? ⟨b, 2, none⟩ = some (.string (t.extract k t.size)) → Calls Try.prog 19 #[.slice (some ⟨b, 0, none⟩) 3 3] w fun e w' => e = .returned (.string so) ∧ Below w.heap.size w w') := Lib.hid (fun b w hb h0 h1 h2 => by
      rw [hso, ho]; exact text_core _ T (by omega) w (by rw [← htl]; exact text_three t k (by omega) b w hb h0 h1 h2))
    have KRT : Hid (∀ w, Calls Try.prog 20 #[.string t] w fun e w' => e = .returned (.string so) ∧ Below w.heap.size w w') := Lib.hid (fun w => by
      rw [hso, ho, ht]; exact KT0 T (by omega) w)
    have KP : Hid (∀ w, Calls Try.prog 21 #[.string t] w fun e w' => e = .returned (.agg (W.bcells (o.take 16)).toArray) ∧ Below w.heap.size w w') := Lib.hid (fun w => by
      rw [ho, ht]; exact print_any T (by omega) w)
    have KRP : Hid (∀ w, Calls Try.prog 22 #[.string t] w fun e w' => e = .returned (.agg (W.bcells (o.take 16)).toArray) ∧ Below w.heap.size w w') := Lib.hid (fun w => by
      rw [ho, ht]; exact rprint_any T (KT0 T (by omega)) w)
    have hcv : ∀ (g : Nat) (wz : World), BB g 42 o wz → (convert 46 9 (.slice (some ⟨g, 0, none⟩) 32 32)).run Try.prog wz = .ok (.string so) wz := fun g wz hz => by rw [hso]; exact conv42 hz hol
    have HCV := Lib.hid hcv
    have HEQ := Lib.hid (eq48 (o.take 16) (by simp [hol]))
    have HI42 := Lib.hid (info42 o hol)
    have HSZ := Lib.hid (size42 o hol)
    have HONE := Lib.hid (bcells_one o)
    have hs1 : (s.size : Int) ≤ 1000 := by omega
    have ht2 : (t.size : Int) ≤ 1255 := by omega
    have ik : (k : Int) ≤ (t.size : Int) := by omega
    have in8 : (n : Int) ≤ 255 := by omega
    have ia : (a : Int) < 65536 := by omega
    clear hbig hT hTl ht htl htz hrp hk hkt ho hol hso hcv KT0
    generalize (W.bcells (o.take 16)).toArray = pA at *
    go_enter Try.func5, Try.ntmps5
    go_upto_region 8 with (first
      | (go_at_call 16; go_must (refine (awake_sum _).mono ?_); rintro e w1 ⟨rfl, hb1⟩)
      | (go_at_call 17; go_must (refine (KR.out _).mono ?_); rintro e w2 ⟨rfl, hb2⟩)
      | (go_at_call 18; ((with_reducible refine (KS1.out _ _ ?_ ?_).mono ?_); (simp [go_sem]); (simp [go_sem]); rintro e w3 ⟨rfl, hb3⟩))
      | (refine wpList_plain rfl fun _ hK => wp_store_row 42 (.tmp 9) (.tmp 28) rfl _ (W.bcells o).toArray rfl rfl 42 (W.bcells zb32).toArray (bb_lit _ zb32_is) HI42.out HSZ.out HONE.out (hK _ _ ?_)))
    have hb12 := hb1.trans (hb2.mono hb1.size)
    have hb13 : Below w.heap.size w w3 := (hb12.alloc hb12.size _).trans (hb3.mono (by simp; have := hb12.size; omega))
    rw [zb32_is]
    dsimp only [Act.put]
    refine gen_wp (S := fun wz => Hid (DSx w w3.heap.size o wz)) (Lib.hid ⟨setRow_heap _ _ _ (W.bcells o).toArray _ _ (bb_new w3 zb32 42), hb13.size, below_row (hb13.alloc hb13.size _) hb13.size _⟩) ?_
    intro W3 hX
    clear hb1 hb2 hb3 hb12 hb13 KR KS1 HI42 HSZ HONE
    generalize w3.heap.size = g at *
    try rw [e1]
    have heq : ∀ wz, (Op.equalIn 10000 48 (.agg pA) (.agg pA)).run Try.prog wz = .ok true wz := HEQ.out
    have mk : Hid (∀ wz, DSx w g o wz → ((convert 46 9 (.slice (some ⟨g, 0, none⟩) 32 32)).run Try.prog wz = .ok (.string so) wz ∧ Hid (DSx w g o wz))) := Lib.hid (fun wz h => ⟨HCV.out g wz h.1, Lib.hid h⟩)
    have hst := Lib.hid (DSx.drew hX.out)
    clear HEQ HCV
    go_region_held3 (fun wz => (convert 46 9 (.slice (some ⟨g, 0, none⟩) 32 32)).run Try.prog wz = .ok (.string so) wz ∧ Hid (DSx w g o wz))
      (first
        | exact mk.out _ hst.out
        | (refine mk.out _ (DSx.later ?_ (by assumption)); go_split_ands; (first | (refine Hid.out ?_; assumption) | (refine DSx.undrew (Hid.out ?_); assumption)))
        | (refine mk.out _ (DSx.drew (DSx.alloc ?_ _)); go_split_ands; (first | (refine Hid.out ?_; assumption) | (refine DSx.undrew (Hid.out ?_); assumption)))
        | (refine mk.out _ (DSx.alloc ?_ _); go_split_ands; (first | (refine Hid.out ?_; assumption) | (refine DSx.undrew (Hid.out ?_); assumption)))
        | (refine mk.out _ (DSx.drew ?_); go_split_ands; (first | (refine Hid.out ?_; assumption) | (refine DSx.undrew (Hid.out ?_); assumption)))
        | (refine mk.out _ ?_; go_split_ands; (first | (refine Hid.out ?_; assumption) | (refine DSx.undrew (Hid.out ?_); assumption))))
      (first
        | (go_at_call 19; ((with_reducible refine (KT1.out _ _ ?_ ?_).mono ?_); (simp [go_sem]); (simp [go_sem]); rintro e w1 ⟨rfl, hb1⟩))
        | (go_at_call 19; ((with_reducible refine (KT3.out _ _ ?_ ?_ ?_ ?_).mono ?_); (simp [go_sem]); (simp [go_sem]); (simp [go_sem]); (simp [go_sem]); rintro e w2 ⟨rfl, hb2⟩))
        | (go_at_call 20; ((with_reducible refine (KRT.out _).mono ?_); rintro e w4 ⟨rfl, hb4⟩))
        | (go_at_call 21; ((with_reducible refine (KP.out _).mono ?_); rintro e w5 ⟨rfl, hb5⟩))
        | (go_at_call 22; ((with_reducible refine (KRP.out _).mono ?_); rintro e w6 ⟨rfl, hb6⟩)))
    rename_i hHx
    have hE := Lib.hid hHx.2.out.2.2
    simp only [Exit.then]
    apply_assumption
    go_wp2
    go_ret
    exact ⟨rfl, hE.out⟩
end Go.Proofs.Ytfakkbjnapelfaa.Dg
