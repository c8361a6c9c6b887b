/- The library's cut, equality of slices, and a path's parts. -/
import Derived.Test.YtmflpjgedoopoaaDoorF
namespace Go.Proofs.YtmflpjgedoopoaaDoor
open Go.RowKit

theorem split_any (s : ByteArray) (c : UInt8) (m : Int) (w : World) (hs : s.size ≤ 4294967280) (hm : w.cell? ⟨0, 0, none⟩ = some (.int .i64 m)) :
    Calls Tryd.prog 44 #[.string s, .string ⟨#[c]⟩] w (Gives w (cut c s.data.toList)) := by
  refine (Tryd.strings_Split s ⟨#[c]⟩ m w (by omega) hm (Nat.le_refl 1)).mono ?_
  rintro e w' ⟨rfl, rfl⟩
  have hcut := splitB_cut c s
  have hlen : (Lib.splitB ⟨#[c]⟩ 0 (Lib.countB s ⟨#[c]⟩) s).length = (cut c s.data.toList).length := by rw [← hcut, List.length_map]
  have hall := Lib.splitB_all ⟨#[c]⟩ (Nat.le_refl 1) 0 _ s rfl
  rw [← hall, hlen]
  have hle := cut_le c s.data.toList
  rw [← Lib.size_eq] at hle
  refine ⟨_, rfl, ⟨_, _, rfl, Nat.le_refl _, by omega, fun _ => ⟨w.heap.size, 0, rfl, by simp, fun j hj => ?_⟩⟩, (Below.refl _ _).alloc (Nat.le_refl _) _⟩
  rw [World.cell?_alloc_new, Nat.zero_add]
  simp only [List.getElem?_toArray, List.getElem?_map]
  rw [← hcut, List.getD_eq_getElem?_getD, List.getElem?_map]
  rw [List.getElem?_eq_getElem (by rw [hlen]; exact hj)]
  simp only [Option.map_some, Option.getD_some, str_of]

theorem equal_any (v1 v2 : Value) (l1 l2 : List (List UInt8)) (w : World) (h1 : Reads w v1 l1) (h2 : Reads w v2 l2) :
    Calls Tryd.prog 19 #[v1, v2] w fun e w' => e = .returned (.bool (decide (l1 = l2))) ∧ Below w.heap.size w w' := by
  obtain ⟨a1, c1, rfl, hc1, hN1, h1⟩ := h1
  obtain ⟨a2, c2, rfl, hc2, hN2, h2⟩ := h2
  by_cases he : l1.length = l2.length
  · rcases Nat.eq_zero_or_pos l1.length with h0 | h0
    · have e1 : l1 = [] := List.eq_nil_of_length_eq_zero h0
      have e2 : l2 = [] := List.eq_nil_of_length_eq_zero (by omega)
      subst e1 e2
      refine (Tryd.slices_Equal_string_empty a1 a2 c1 0 c2 w (by omega)).mono ?_
      rintro e w' ⟨rfl, rfl⟩
      exact ⟨rfl, Below.refl _ _⟩
    · obtain ⟨b1, o1, rfl, hb1, g1⟩ := h1 h0
      obtain ⟨b2, o2, rfl, hb2, g2⟩ := h2 (by omega)
      refine (Tryd.slices_Equal_string b1 o1 l1.length c1 b2 o2 l2.length c2 (l1.map str) (l2.map str) w (by simp) (by simp) (by omega) (by omega) ?_ ?_).mono ?_
      · intro j hj
        have hj' : j < l1.length := by simpa using hj
        rw [g1 j hj', List.getD_eq_getElem?_getD, List.getD_eq_getElem?_getD, List.getElem?_map, List.getElem?_eq_getElem hj']; rfl
      · intro j hj
        have hj' : j < l2.length := by simpa using hj
        rw [g2 j hj', List.getD_eq_getElem?_getD, List.getD_eq_getElem?_getD, List.getElem?_map, List.getElem?_eq_getElem hj']; rfl
      · rintro e w' ⟨rfl, n, rfl⟩
        refine ⟨ret_bool ?_, below_drewN (Below.refl _ _) n⟩
        rw [List.take_of_length_le (by simp), List.take_of_length_le (by simp), Bool.eq_iff_iff, decide_eq_true_eq, decide_eq_true_eq]
        exact ⟨fun h => List.map_inj_right (fun _ _ => str_inj) |>.1 h, fun h => by rw [h]⟩
  · refine (Tryd.slices_Equal_string_lens a1 a2 l1.length c1 l2.length c2 w he).mono ?_
    rintro e w' ⟨rfl, rfl⟩
    exact ⟨ret_bool (decide_eq_false (fun h => he (by rw [h]))).symm, Below.refl _ _⟩

theorem clone_any (s : ByteArray) (w : World) (hs : s.size ≤ 4294967280) : Calls Tryd.prog 50 #[.string s] w fun e w' => e = .returned (.string s) ∧ Below w.heap.size w w' := by
  have K1 := Lib.hid (Tryd.stringslite_Clone s w (by omega))
  go_enter Tryd.func50, Tryd.ntmps50
  go_wp2_with (go_at_call 67; ((with_reducible refine (K1.out).mono ?_); rintro e w1 ⟨rfl, hb⟩))
  go_ret
  exact ⟨rfl, hb⟩

theorem parts_take (l : List (List UInt8)) (k : Nat) (h : k < l.length) : (l.take (k + 1)).filter (fun p => !p.isEmpty) = (l.take k).filter (fun p => !p.isEmpty) ++ (if l.getD k [] = [] then [] else [l.getD k []]) := by
  rw [List.take_succ_eq_append_getElem h, List.filter_append, List.getD_eq_getElem?_getD, List.getElem?_eq_getElem h]
  by_cases e : l[k] = [] <;> simp [e]

set_option maxHeartbeats 1000000 in
theorem parts_any (s : ByteArray) (m : Int) (w : World) (hs : s.size ≤ 4294967280) (hm : w.cell? ⟨0, 0, none⟩ = some (.int .i64 m)) :
    Calls Tryd.prog 20 #[.string s] w (Gives w (parts s.data.toList)) := by
  have HL := Lib.hid (Lib.size_eq s)
  have K1 := Lib.hid (split_any s 47 m w hs hm)
  clear hm
  unfold parts
  have hpos : 0 < (cut 47 s.data.toList).length := List.length_pos_iff.2 (cut_ne _ _)
  have hle := cut_le 47 s.data.toList
  rw [← HL.out] at hle
  have hmem : ∀ k, k < (cut 47 s.data.toList).length → ((cut 47 s.data.toList).getD k []).length ≤ s.size := fun k hk => by
    rw [HL.out]
    refine cut_part_len (c := 47) ?_
    rw [List.getD_eq_getElem?_getD, List.getElem?_eq_getElem hk]; exact List.getElem_mem hk
  have HM := Lib.hid hmem
  clear hmem
  generalize cut 47 s.data.toList = L at K1 hpos hle HM ⊢
  have HP := Lib.hid hpos
  have HE := Lib.hid hle
  clear hpos hle
  go_enter Tryd.func20, Tryd.ntmps20
  go_wp2_with (go_at_call 44; ((with_reducible refine (K1.out).mono ?_); rintro e w1 ⟨v, rfl, ⟨a, c, rfl, hc, hN, hr⟩, hb1⟩; obtain ⟨b, o, rfl, hbl, hcell⟩ := hr HP.out; have HC := Lib.hid hcell; have HC2 := Lib.hid hc; clear hr hcell hc; have HN := Lib.hid hN; clear hN))
  have hbw := hb1.size
  have HO := Lib.hid (World.ownsRow_nil w1 w1.heap.size 9 1)
  have HB1 := Lib.hid hb1
  clear hb1
  go_loopw [3, 9] (fun o9 i wr => ∃ (k : Nat) (acc : List (List UInt8)), k ≤ L.length ∧ i = .int .i64 k ∧ wr.ownsRow w1.heap.size 9 1 o9 acc.length (scells acc) ∧ Below w1.heap.size w1 wr ∧ Hid (acc.length ≤ k ∧ acc = (L.take k).filter (fun p => !p.isEmpty))) (fun _ i _ => L.length - (intOf i).toNat)
  case atStart => exact ⟨0, [], Nat.zero_le _, rfl, HO.out, Below.refl _ _, Lib.hid ⟨Nat.zero_le _, rfl⟩⟩
  case round =>
    obtain ⟨k, acc, hk, rfl, hown, hb, hj⟩ := hrel
    have hbs := hb.size
    have hacc : acc.length ≤ k := hj.out.1
    have hNN := HN.out
    by_cases hlt : k < L.length
    · have hc : wr.cell? ⟨b, o + k, none⟩ = some (.string (str (L.getD k []))) := by rw [hb.cell (p := ⟨b, o + k, none⟩) hbl]; exact HC.out k hlt
      have NX := Lib.hid (parts_take L k hlt)
      have hpl := HM.out k hlt
      rw [← str_size] at hpl
      generalize L.getD k [] = p at hc NX hpl
      by_cases he : p = []
      · subst he
        have e0 : str [] = ByteArray.empty := rfl
        rw [e0] at hc
        go_wp2
        go_roundw
        case rel => exact ⟨k + 1, acc, by omega, by go_num, hown, hb, Lib.hid ⟨by omega, by rw [NX.out, ← hj.out.2]; simp⟩⟩
        case measure => simp [intOf] <;> omega
      · obtain ⟨hne, hne2⟩ := str_full he
        have HPE := Lib.hid he
        clear he
        generalize hy : str p = y at hc hne hne2 hpl
        have HY := Lib.hid hy
        clear hy
        have K2 := Lib.hid (fun w => clone_any y w (by omega))
        go_wp2_with (first
          | (go_at_call 50; ((with_reducible refine (K2.out _).mono ?_); rintro e w2 ⟨rfl, hb2⟩; have hbb := hb.trans (hb2.mono hbs); have hown2 := own_later hown hb2; have hbs2 := hb2.size))
          | (at_builtin; go_must (refine wpList_append_str _ rfl (.tmp 15) (.tmp 18) rfl w1.heap.size u3 acc rfl hown2 _ _ HY.out.symm rfl (by omega) (by omega) ?_); intro v1 w3 hown1 hb3))
        go_roundw
        case rel => exact ⟨k + 1, acc ++ [p], by omega, by go_num, hown1, hbb.trans hb3, Lib.hid ⟨by simp; exact hacc, by rw [NX.out, ← hj.out.2, if_neg HPE.out]⟩⟩
        case measure => simp [intOf] <;> omega
    · have hkl : k = L.length := by omega
      have HF := Lib.hid hj.out.2
      rw [hkl, List.take_length] at HF
      clear hkl
      go_wp2
      go_ret
      refine ⟨_, rfl, ?_, HB1.out.trans (hb.mono hbw)⟩
      rw [← HF.out]
      exact reads_own hown (by omega)
end Go.Proofs.YtmflpjgedoopoaaDoor
