/- A path's parts by definition; whether a path is under another one. -/
import Derived.Test.YtmflpjgedoopoaaDoorG
namespace Go.Proofs.YtmflpjgedoopoaaDoor
open Go.RowKit

set_option maxHeartbeats 1000000 in
theorem rparts_any (s : ByteArray) (w : World) (hs : s.size ≤ 4294967280) :
    Calls Tryd.prog 21 #[.string s] w (Gives w (parts s.data.toList)) := by
  have HL := Lib.hid (Lib.size_eq s)
  have K1 := Lib.hid (show Calls Tryd.prog 45 #[.string s, .int .u8 47] w (Gives w (cut 47 s.data.toList)) from rcut_any s 47 w hs)
  unfold parts
  have hpos : 0 < (cut 47 s.data.toList).length := List.length_pos_iff.2 (cut_ne _ _)
  have hle := cut_le 47 s.data.toList
  rw [← HL.out] at hle
  have hmem : ∀ k, k < (cut 47 s.data.toList).length → ((cut 47 s.data.toList).getD k []).length ≤ s.size := fun k hk => by
    rw [HL.out]
    refine cut_part_len (c := 47) ?_
    rw [List.getD_eq_getElem?_getD, List.getElem?_eq_getElem hk]; exact List.getElem_mem hk
  have HM := Lib.hid hmem
  clear hmem
  generalize cut 47 s.data.toList = L at K1 hpos hle HM ⊢
  have HP := Lib.hid hpos
  have HE := Lib.hid hle
  clear hpos hle
  go_enter Tryd.func21, Tryd.ntmps21
  go_wp2_with (go_at_call 45; ((with_reducible refine (K1.out).mono ?_); rintro e w1 ⟨v, rfl, ⟨a, c, rfl, hc, hN, hr⟩, hb1⟩; obtain ⟨b, o, rfl, hbl, hcell⟩ := hr HP.out; have HC := Lib.hid hcell; have HC2 := Lib.hid hc; clear hr hcell hc; have HN := Lib.hid hN; clear hN))
  have hbw := hb1.size
  have HO := Lib.hid (World.ownsRow_nil w1 w1.heap.size 9 1)
  have HB1 := Lib.hid hb1
  clear hb1
  go_loopw [3, 9] (fun o9 i wr => ∃ (k : Nat) (acc : List (List UInt8)), k ≤ L.length ∧ i = .int .i64 k ∧ wr.ownsRow w1.heap.size 9 1 o9 acc.length (scells acc) ∧ Below w1.heap.size w1 wr ∧ Hid (acc.length ≤ k ∧ acc = (L.take k).filter (fun p => !p.isEmpty))) (fun _ i _ => L.length - (intOf i).toNat)
  case atStart => exact ⟨0, [], Nat.zero_le _, rfl, HO.out, Below.refl _ _, Lib.hid ⟨Nat.zero_le _, rfl⟩⟩
  case round =>
    obtain ⟨k, acc, hk, rfl, hown, hb, hj⟩ := hrel
    have hbs := hb.size
    have hacc : acc.length ≤ k := hj.out.1
    have hNN := HN.out
    by_cases hlt : k < L.length
    · have hc : wr.cell? ⟨b, o + k, none⟩ = some (.string (str (L.getD k []))) := by rw [hb.cell (p := ⟨b, o + k, none⟩) hbl]; exact HC.out k hlt
      have NX := Lib.hid (parts_take L k hlt)
      have hpl := HM.out k hlt
      rw [← str_size] at hpl
      generalize L.getD k [] = p at hc NX hpl
      by_cases he : p = []
      · subst he
        have e0 : str [] = ByteArray.empty := rfl
        rw [e0] at hc
        go_wp2
        go_roundw
        case rel => exact ⟨k + 1, acc, by omega, by go_num, hown, hb, Lib.hid ⟨by omega, by rw [NX.out, ← hj.out.2]; simp⟩⟩
        case measure => simp [intOf] <;> omega
      · obtain ⟨hne, hne2⟩ := str_full he
        have HPE := Lib.hid he
        clear he
        generalize hy : str p = y at hc hne hne2 hpl
        have HY := Lib.hid hy
        clear hy
        go_wp2_with (first
          | (at_builtin; go_must (refine wpList_append_str _ rfl (.tmp 15) (.tmp 17) rfl w1.heap.size u3 acc rfl hown _ _ HY.out.symm rfl (by omega) (by omega) ?_); intro v1 w3 hown1 hb3))
        go_roundw
        case rel => exact ⟨k + 1, acc ++ [p], by omega, by go_num, hown1, hb.trans hb3, Lib.hid ⟨by simp; exact hacc, by rw [NX.out, ← hj.out.2, if_neg HPE.out]⟩⟩
        case measure => simp [intOf] <;> omega
    · have hkl : k = L.length := by omega
      have HF := Lib.hid hj.out.2
      rw [hkl, List.take_length] at HF
      clear hkl
      go_wp2
      go_ret
      refine ⟨_, rfl, ?_, HB1.out.trans (hb.mono hbw)⟩
      rw [← HF.out]
      exact reads_own hown (by omega)

/-- Variable MaxLen of the library's holds a number. -/
def Mx (w : World) (m : Int) : Prop := w.cell? ⟨0, 0, none⟩ = some (.int .i64 m)
theorem Mx.later {w w' : World} {m : Int} (h : Mx w m) (hb : Below w.heap.size w w') : Mx w' m := by
  unfold Mx at *
  rw [hb.cell (p := ⟨0, 0, none⟩) (World.block_lt_of_cell? _ _ h)]; exact h

theorem getD_take (l : List (List UInt8)) (k j : Nat) (h : j < k) : (l.take k).getD j [] = l.getD j [] := by
  rw [List.getD_eq_getElem?_getD, List.getD_eq_getElem?_getD, List.getElem?_take, if_pos h]
theorem reads_take {w : World} {a : Option Addr} {c : Nat} {l : List (List UInt8)} (h : Reads w (.slice a l.length c) l) (k : Nat) (hk : k ≤ l.length) : Reads w (.slice a k c) (l.take k) := by
  obtain ⟨a', c', hv, hc, hN, h⟩ := h
  injection hv with e1 e2 e3
  subst e1 e3
  have hl : (l.take k).length = k := by simp; omega
  refine ⟨a, c, by rw [hl], by omega, by omega, fun h0 => ?_⟩
  rw [hl] at h0
  obtain ⟨b, o, ha, hb, hcell⟩ := h (by omega)
  exact ⟨b, o, ha, hb, fun j hj => by rw [hl] at hj; rw [getD_take l k j hj]; exact hcell j (by omega)⟩
theorem prefix_take (A B : List (List UInt8)) : A.isPrefixOf B = decide (A = B.take A.length) := by
  rw [Bool.eq_iff_iff, List.isPrefixOf_iff_prefix, decide_eq_true_eq, List.prefix_iff_eq_take]

theorem under_any (a b : ByteArray) (m : Int) (w : World) (ha : a.size ≤ 4294967280) (hb : b.size ≤ 4294967280) (hm : Mx w m) :
    Calls Tryd.prog 24 #[.string a, .string b] w fun e w' => e = .returned (.bool (underB a.data.toList b.data.toList)) ∧ Below w.heap.size w w' := by
  have K1 := Lib.hid (parts_any a m w ha hm)
  have K2 := Lib.hid (fun w' (h : Below w.heap.size w w') => parts_any b m w' hb (hm.later h))
  obtain ⟨R, hR⟩ : ∃ R, R = underB a.data.toList b.data.toList := ⟨_, rfl⟩
  rw [← hR]
  unfold underB at hR
  generalize parts a.data.toList = A at K1 hR
  generalize parts b.data.toList = B at K2 hR
  have HR := Lib.hid hR
  clear hR hm ha hb
  go_enter Tryd.func24, Tryd.ntmps24
  go_wp2_with fail
  refine (K1.out).mono ?_
  rintro e w1 ⟨v1, rfl, hr1, hb1⟩
  obtain ⟨a1, c1, rfl, hc1, hN1, hr1⟩ := hr1
  have HR1 := Lib.hid hr1
  have HC1 := Lib.hid hc1
  clear hr1 hc1
  go_wp2_with fail
  refine (K2.out _ hb1).mono ?_
  rintro e w2 ⟨v2, rfl, hr2, hb2⟩
  obtain ⟨a2, c2, rfl, hc2, hN2, hr2⟩ := hr2
  have HR2 := Lib.hid hr2
  clear hr2
  by_cases hle : A.length ≤ B.length
  · have r1 : Reads w2 (.slice a1 A.length c1) A := Reads.later ⟨a1, c1, rfl, HC1.out, hN1, HR1.out⟩ hb2
    have r2 : Reads w2 (.slice a2 A.length c2) (B.take A.length) := reads_take ⟨a2, c2, rfl, hc2, hN2, HR2.out⟩ A.length hle
    have K3 := Lib.hid (equal_any _ _ _ _ w2 r1 r2)
    have HR3 : Hid (R = decide (A = B.take A.length)) := Lib.hid (HR.out.trans (prefix_take A B))
    clear r1 r2
    go_wp2_with fail
    refine (K3.out).mono ?_
    rintro e w3 ⟨rfl, hb3⟩
    go_wp2
    go_ret
    have h13 := hb1.trans ((hb2.trans (hb3.mono hb2.size)).mono hb1.size)
    exact ⟨ret_bool HR3.out.symm, h13⟩
  · have HF : Hid (R = false) := Lib.hid (by
      rw [HR.out, Bool.eq_false_iff]
      intro h
      exact hle (List.isPrefixOf_iff_prefix.1 h).length_le)
    go_wp2
    go_ret
    exact ⟨ret_bool HF.out.symm, hb1.trans (hb2.mono hb1.size)⟩
end Go.Proofs.YtmflpjgedoopoaaDoor
