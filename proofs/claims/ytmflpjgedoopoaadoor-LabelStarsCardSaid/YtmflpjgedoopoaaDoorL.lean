/- Whether a text may be a host. -/
import Derived.Test.YtmflpjgedoopoaaDoorK
import Derived.Test.YtmflpjgedoopoaaDoorH
namespace Go.Proofs.YtmflpjgedoopoaaDoor
open Go.RowKit

/-- At 'form'. -/
def HostJ (R : Nat) (w : World) (a' : Act) (w' : World) : Prop := R = 4 ∧ Below w.heap.size w w' ∧ ∃ (u0 u1 u2 u3 u4 u5 u6 u7 u8 u9 u10 u11 u12 u13 u14 u15 u16 u17 u18 u19 u20 u21 u22 u23 u24 u25 u26 u27 u28 u29 u30 u31 u32 u33 u34 u35 u36 u37 u38 u39 u40 u41 u42 u43 u44 u45 u46 u47 u48 u49 u50 u51 u52 : Value), a' = { tmps := #[u0, u1, u2, u3, u4, u5, u6, u7, u8, u9, u10, u11, u12, u13, u14, u15, u16, u17, u18, u19, u20, u21, u22, u23, u24, u25, u26, u27, u28, u29, u30, u31, u32, u33, u34, u35, u36, u37, u38, u39, u40, u41, u42, u43, u44, u45, u46, u47, u48, u49, u50, u51, u52], defers := [] }

theorem getD_tail (l : List (List UInt8)) (j : Nat) : l.tail.getD j [] = l.getD (j + 1) [] := by cases l <;> rfl
theorem reads_tail {w : World} {b o c : Nat} {l : List (List UInt8)} (h : Reads w (.slice (some ⟨b, o, none⟩) l.length c) l) (hl : 1 < l.length) : Reads w (.slice (some ⟨b, o + 1, none⟩) (l.length - 1) (c - 1)) l.tail := by
  obtain ⟨a', c', hv, hc, hN, h⟩ := h
  injection hv with e1 e2 e3
  subst e1 e3
  refine ⟨_, c - 1, by rw [List.length_tail], by rw [List.length_tail]; omega, by rw [List.length_tail]; omega, fun h0 => ?_⟩
  rw [List.length_tail] at h0
  obtain ⟨b', o', ha, hb, hcell⟩ := h (by omega)
  injection ha with ha
  injection ha with ea eo
  subst ea eo
  refine ⟨b, o + 1, rfl, hb, fun j hj => ?_⟩
  rw [List.length_tail] at hj
  rw [getD_tail, show o + 1 + j = o + (j + 1) by omega]
  exact hcell (j + 1) (by omega)
theorem str_ne {s : ByteArray} (h : 0 < s.size) : s.toList.isEmpty = false ∧ (!s.toList.isEmpty) = true := by
  rw [← str_of s]
  exact str_full (fun e => by rw [Lib.size_eq, e] at h; exact absurd h (by decide))

set_option maxRecDepth 1000000 in
set_option maxHeartbeats 4000000 in
theorem host_any (s : ByteArray) (m : Int) (w : World) (hs : s.size ≤ 140737488351232) (hm : Mx w m) :
    Calls Tryd.prog 15 #[.string s] w fun e w' => e = .returned (.int .i64 (hostN s.data.toList)) ∧ Below w.heap.size w w' := by
  have HL := Lib.hid (Lib.size_eq s)
  obtain ⟨R, hR⟩ : ∃ R, R = hostN s.data.toList := ⟨_, rfl⟩
  rw [← hR]
  unfold hostN at hR
  rw [← HL.out] at hR
  have HMX := Lib.hid hm
  clear hm
  by_cases h0 : 0 < s.size
  · obtain ⟨z1, z2⟩ := str_ne h0
    rw [if_neg (by omega)] at hR
    by_cases h64 : 64 < s.size
    · rw [if_pos h64] at hR
      subst hR
      go_enter Tryd.func15, Tryd.ntmps15
      go_wp2
      go_step3
      go_wp2
      try rw [Exit.noGoto_ret]
      go_ret
      exact ⟨rfl, Below.refl _ _⟩
    · rw [if_neg h64] at hR
      have h64' : s.size ≤ 64 := by omega
      clear h64
      have K1 := Lib.hid (split_any s 46 m w (by omega) HMX.out)
      obtain ⟨H, hH⟩ : ∃ H, H = hostP s.data.toList := ⟨_, rfl⟩
      rw [← hH] at hR
      have HR := Lib.hid hR
      clear hR
      have hH2 := hH
      unfold hostP at hH
      have hpos : 0 < (cut 46 s.data.toList).length := List.length_pos_iff.2 (cut_ne _ _)
      have hle := cut_le 46 s.data.toList
      rw [← HL.out] at hle
      have hmem : ∀ p, p ∈ cut 46 s.data.toList → p.length ≤ s.size := fun p hp => by
        rw [HL.out]; exact cut_part_len hp
      have hHpos : 0 < H.length := by
        rw [hH]; split
        · rename_i h; rw [List.length_tail]; omega
        · exact hpos
      have hHle : H.length ≤ s.size + 1 := by
        rw [hH]; split
        · rw [List.length_tail]; omega
        · exact hle
      have hHmem : ∀ k, k < H.length → (H.getD k []).length ≤ s.size := fun k hk => by
        refine hmem _ ?_
        have h1 : H.getD k [] ∈ H := by rw [List.getD_eq_getElem?_getD, List.getElem?_eq_getElem hk]; exact List.getElem_mem hk
        generalize H.getD k [] = x at h1
        rw [hH] at h1
        split at h1
        · exact List.mem_of_mem_tail h1
        · exact h1
      clear hmem hH2
      generalize cut 46 s.data.toList = L at K1 hpos hle hH
      have HP := Lib.hid hpos
      have HE := Lib.hid hle
      have HH := Lib.hid hH
      have HHP := Lib.hid hHpos
      have HHE := Lib.hid hHle
      have HHM := Lib.hid hHmem
      clear hpos hle hH hHpos hHle hHmem
      go_enter Tryd.func15, Tryd.ntmps15
      go_wp2
      refine wp_scope_jumps 0 (HostJ R w) (fun _ _ => 0) rfl ?_ ?_
      · go_wp2_with fail
        refine (K1.out).mono ?_
        rintro e w1 ⟨v, rfl, ⟨a, c, rfl, hc, hN, hr⟩, hb1⟩
        obtain ⟨b, o, rfl, hbl, hcell⟩ := hr HP.out
        have hrd : Reads w1 (.slice (some ⟨b, o, none⟩) L.length c) L := ⟨_, c, rfl, hc, hN, fun _ => ⟨b, o, rfl, hbl, hcell⟩⟩
        have hc0 := hcell 0 HP.out
        rw [Nat.add_zero] at hc0
        have HRD := Lib.hid hrd
        have HB1 := Lib.hid hb1
        clear hb1 hrd hcell hr
        have hcs : L.length ≤ c := hc
        obtain ⟨st, hst⟩ : ∃ st, st = decide (1 < L.length ∧ L.headD [] = [42]) := ⟨_, rfl⟩
        have HST := Lib.hid hst
        clear hst
        have hd0 : L.getD 0 [] = L.headD [] := by cases L <;> rfl
        rw [hd0] at hc0
        go_upto_region 6 with (fail)
        go_cut [21] (fun v wx => w1 = wx ∧ v = .bool st)
        case first =>
          by_cases h1 : 1 < L.length
          · by_cases h2 : L.headD [] = [42]
            · have HS : Hid (st = true) := Lib.hid (by rw [HST.out, decide_eq_true ⟨h1, h2⟩])
              have hc0' : w1.cell? ⟨b, o, none⟩ = some (.string { data := #[42] }) := by rw [hc0, h2]; rfl
              clear hc0 h2 hd0
              go_wp2
              go_meet
              case rel => exact ⟨by trivial, by rw [HS.out]⟩
            · have HS : Hid (st = false) := Lib.hid (by rw [HST.out, decide_eq_false (fun h => h2 h.2)])
              have hne := str_neq h2
              have hne2 : ((str (L.headD [])).toList == [42]) = false := by rw [← hne, show (str [42]).toList = [42] from Lib.toList_data _]
              clear h2 hd0
              generalize str (L.headD []) = y at *
              go_wp2
              go_meet
              case rel => exact ⟨by trivial, by rw [HS.out]⟩
          · have HS : Hid (st = false) := Lib.hid (by rw [HST.out, decide_eq_false (fun h => h1 h.1)])
            go_wp2
            go_meet
            case rel => exact ⟨by trivial, by rw [HS.out]⟩
        case rest =>
          obtain ⟨rfl, rfl⟩ := hcut
          clear hc0 hd0
          go_upto_if 21 with (fail)
          go_cut [3] (fun v wx => w1 = wx ∧ Reads w1 v H)
          case first =>
            cases st
            · have HG : Hid (Reads w1 (.slice (some ⟨b, o, none⟩) L.length c) H) := Lib.hid (by
                rw [HH.out, if_neg (fun h => absurd HST.out (by rw [decide_eq_true h]; decide))]; exact HRD.out)
              go_wp2
              go_meet
              case rel => exact ⟨by trivial, HG.out⟩
            · have hst := of_decide_eq_true HST.out.symm
              have HG : Hid (Reads w1 (.slice (some ⟨b, o + 1, none⟩) (L.length - 1) (c - 1)) H) := Lib.hid (by
                rw [HH.out, if_pos hst]; exact reads_tail HRD.out hst.1)
              have h1 := hst.1
              clear hst
              go_wp2
              go_meet
              case rel => exact ⟨by trivial, HG.out⟩
          case rest =>
            obtain ⟨rfl, a2, c2, rfl, hc2, hN2, hr2⟩ := hcut
            obtain ⟨b2, o2, rfl, hbl2, hcell2⟩ := hr2 HHP.out
            have HC := Lib.hid hcell2
            clear hcell2 hr2 HRD hc hc2 hcs
            go_wp2
            go_loopw [26] (fun i wr => ∃ k : Nat, k ≤ H.length ∧ i = .int .i64 k ∧ Below w1.heap.size w1 wr ∧ Hid (∀ j, j < k → partB (H.getD j []) = true)) (fun i _ => H.length - (intOf i).toNat)
            case atStart => exact ⟨0, Nat.zero_le _, rfl, Below.refl _ _, Lib.hid (by simp)⟩
            case round =>
              obtain ⟨k, hk, rfl, hb, hj⟩ := hrel
              have hbs := hb.size
              have HBW := Lib.hid (HB1.out.trans (hb.mono HB1.out.size))
              by_cases hlt : k < H.length
              · have hc : wr.cell? ⟨b2, o2 + k, none⟩ = some (.string (str (H.getD k []))) := by rw [hb.cell (p := ⟨b2, o2 + k, none⟩) hbl2]; exact HC.out k hlt
                have hpl := HHM.out k hlt
                have Y : Hid (partB (H.getD k []) = true → ∀ j, j < k + 1 → partB (H.getD j []) = true) := Lib.hid (all_below hj.out)
                have NO : Hid (partB (H.getD k []) = false → R = 4) := Lib.hid (fun h => by
                  rw [HR.out, if_neg]
                  intro h2
                  have h3 := List.all_eq_true.1 h2 (H.getD k []) (by rw [List.getD_eq_getElem?_getD, List.getElem?_eq_getElem hlt]; exact List.getElem_mem hlt)
                  rw [h] at h3; cases h3)
                have hPB : partB (H.getD k []) = (decide (0 < (H.getD k []).length) && decide ((H.getD k []).length ≤ 32) && (H.getD k []).headD 0 != 45 && (H.getD k []).getLastD 0 != 45 && (H.getD k []).all (plainB [45])) := rfl
                have hE := fun w hp => each_plain (str (H.getD k [])) ⟨#[45]⟩ wr.heap.size w (by rw [str_size]; omega) hp
                rw [str_data] at hE
                have HEACH := Lib.hid (hE _ (cell_one wr (.string ⟨#[45]⟩) 9))
                rw [show (⟨#[45]⟩ : ByteArray).data.toList = [45] from rfl] at HEACH
                clear hE
                generalize H.getD k [] = p at hc hpl Y NO hPB HEACH
                rw [← str_size] at hpl
                obtain ⟨v, hv⟩ : ∃ v, v = p.all (plainB [45]) := ⟨_, rfl⟩
                rw [← hv] at hPB HEACH
                have HPB := Lib.hid hPB
                clear hPB hv
                rcases Nat.eq_zero_or_pos p.length with hz | hz
                · obtain rfl : p = [] := List.eq_nil_of_length_eq_zero hz
                  have C0 := Lib.hid (NO.out rfl)
                  rw [show str [] = ByteArray.empty from rfl] at hc
                  clear Y NO HPB
                  go_wp2
                  go_step3
                  exact ⟨rfl, C0.out, HBW.out, _, _, _, _, _, _, _, _, _, _, _, _, _, _, _, _, _, _, _, _, _, _, _, _, _, _, _, _, _, _, _, _, _, _, _, _, _, _, _, _, _, _, _, _, _, _, _, _, _, _, _, _, _, rfl⟩
                · obtain ⟨n1, n2⟩ := str_full (p := p) (by rintro rfl; exact absurd hz (by decide))
                  have hh := head_get (str p) (by rw [str_size]; exact hz)
                  have hla := getLastD_getD p hz
                  have hla2 := getD_at (str p) (p.length - 1) (by rw [str_size]; omega)
                  rw [str_data] at hh hla2
                  rw [← hla] at hla2
                  obtain ⟨t, ht⟩ : ∃ t, (str p).size = t + 1 := ⟨p.length - 1, by rw [str_size]; omega⟩
                  have htp : p.length = t + 1 := by rw [← ht, str_size]
                  have hx1 : p.length - 1 = t := by omega
                  have hyl : t < (str p).size := by omega
                  have hy0 : 0 < (str p).size := by omega
                  obtain ⟨x0, hn0⟩ : ∃ x0, ((str p)[0]'hy0).toNat = x0 := ⟨_, rfl⟩
                  obtain ⟨x1, hn1⟩ : ∃ x1, ((str p)[t]'hyl).toNat = x1 := ⟨_, rfl⟩
                  have HF : Hid (partB p = true ↔ t + 1 ≤ 32 ∧ x0 ≠ 45 ∧ x1 ≠ 45 ∧ v = true) := Lib.hid (by
                    rw [HPB.out, htp, ← hn0, ← hn1]
                    have hla3 : p.getLastD 0 = (str p)[t] := by rw [hla2]; congr 1
                    rw [hh, hla3]
                    simp only [Bool.and_eq_true, decide_eq_true_eq, bne_iff_ne, ne_eq, byte_eq]
                    constructor
                    · rintro ⟨⟨⟨⟨_, a⟩, b⟩, c⟩, d⟩; exact ⟨a, b, c, d⟩
                    · rintro ⟨a, b, c, d⟩; exact ⟨⟨⟨⟨by omega, a⟩, b⟩, c⟩, d⟩)
                  have NOT : Hid (¬ (t + 1 ≤ 32 ∧ x0 ≠ 45 ∧ x1 ≠ 45 ∧ v = true) → R = 4) := Lib.hid (fun h => NO.out (Bool.eq_false_iff.2 (fun h2 => h (HF.out.1 h2))))
                  have YES : Hid ((t + 1 ≤ 32 ∧ x0 ≠ 45 ∧ x1 ≠ 45 ∧ v = true) → ∀ j, j < k + 1 → partB (H.getD j []) = true) := Lib.hid (fun h => Y.out (HF.out.2 h))
                  clear hh hla hla2 HF Y NO HPB hx1 htp hz
                  generalize str p = y at *
                  by_cases h32 : t + 1 ≤ 32
                  · have d32 : decide ((32 : Int) < (t : Int) + 1) = false := decide_eq_false (by omega)
                    by_cases e0 : x0 = 45
                    · have C0 := Lib.hid (NOT.out (by rintro ⟨_, h, _⟩; exact h e0))
                      clear NOT YES
                      subst e0
                      go_wp2
                      go_step3
                      exact ⟨rfl, C0.out, HBW.out, _, _, _, _, _, _, _, _, _, _, _, _, _, _, _, _, _, _, _, _, _, _, _, _, _, _, _, _, _, _, _, _, _, _, _, _, _, _, _, _, _, _, _, _, _, _, _, _, _, _, _, _, _, rfl⟩
                    · have q0 : ((x0 : Int) == 45) = false := neq_int e0
                      by_cases e1 : x1 = 45
                      · have C0 := Lib.hid (NOT.out (by rintro ⟨_, _, h, _⟩; exact h e1))
                        clear NOT YES
                        subst e1
                        go_wp2
                        go_step3
                        exact ⟨rfl, C0.out, HBW.out, _, _, _, _, _, _, _, _, _, _, _, _, _, _, _, _, _, _, _, _, _, _, _, _, _, _, _, _, _, _, _, _, _, _, _, _, _, _, _, _, _, _, _, _, _, _, _, _, _, _, _, _, _, rfl⟩
                      · have q1 : ((x1 : Int) == 45) = false := neq_int e1
                        cases v
                        · have C0 := Lib.hid (NOT.out (by rintro ⟨_, _, _, h⟩; cases h))
                          clear NOT YES
                          go_wp2_with (first
                            | (go_at_call 43; ((with_reducible refine (plain_any _ _).mono ?_); rintro e w1 ⟨rfl, rfl⟩))
                            | (go_at_call 42; ((with_reducible refine (HEACH.out).mono ?_); rintro e w1 ⟨rfl, rfl⟩)))
                          go_step3
                          exact ⟨rfl, C0.out, HBW.out.alloc HBW.out.size _, _, _, _, _, _, _, _, _, _, _, _, _, _, _, _, _, _, _, _, _, _, _, _, _, _, _, _, _, _, _, _, _, _, _, _, _, _, _, _, _, _, _, _, _, _, _, _, _, _, _, _, _, _, rfl⟩
                        · have C0 := Lib.hid (YES.out ⟨h32, e0, e1, rfl⟩)
                          clear NOT YES
                          go_wp2_with (first
                            | (go_at_call 43; ((with_reducible refine (plain_any _ _).mono ?_); rintro e w1 ⟨rfl, rfl⟩))
                            | (go_at_call 42; ((with_reducible refine (HEACH.out).mono ?_); rintro e w1 ⟨rfl, rfl⟩)))
                          go_roundw
                          case rel => exact ⟨k + 1, by omega, by go_num, hb.alloc hbs _, C0⟩
                          case measure => simp [intOf] <;> omega
                  · have C0 := Lib.hid (NOT.out (by rintro ⟨h, _⟩; exact h32 h))
                    clear NOT YES
                    have d32 : decide ((32 : Int) < (t : Int) + 1) = true := decide_eq_true (by omega)
                    go_wp2
                    go_step3
                    exact ⟨rfl, C0.out, HBW.out, _, _, _, _, _, _, _, _, _, _, _, _, _, _, _, _, _, _, _, _, _, _, _, _, _, _, _, _, _, _, _, _, _, _, _, _, _, _, _, _, _, _, _, _, _, _, _, _, _, _, _, _, _, rfl⟩
              · have C0 : Hid (R = 0) := Lib.hid (by
                  rw [HR.out, if_pos]
                  rw [List.all_eq_true]
                  intro x hx
                  obtain ⟨j, hj2, rfl⟩ := List.mem_iff_getElem.1 hx
                  have := hj.out j (by omega)
                  rwa [List.getD_eq_getElem?_getD, List.getElem?_eq_getElem hj2] at this)
                go_wp2
                simp only [Exit.jump]
                go_ret
                exact ⟨ret_int (by rw [C0.out]; rfl), HBW.out⟩
      · rintro a' w' ⟨hr, hb, u0, u1, u2, u3, u4, u5, u6, u7, u8, u9, u10, u11, u12, u13, u14, u15, u16, u17, u18, u19, u20, u21, u22, u23, u24, u25, u26, u27, u28, u29, u30, u31, u32, u33, u34, u35, u36, u37, u38, u39, u40, u41, u42, u43, u44, u45, u46, u47, u48, u49, u50, u51, u52, rfl⟩
        have HR4 := Lib.hid hr
        clear hr
        go_wp2
        simp only [Exit.jump]
        go_ret
        exact ⟨ret_int (by rw [HR4.out]; rfl), hb⟩
  · obtain rfl : s = ByteArray.empty := by
      obtain ⟨⟨l⟩⟩ := s
      cases l with
      | nil => rfl
      | cons a t => exact absurd (Nat.succ_pos _) h0
    rw [if_pos (by decide)] at hR
    subst hR
    go_enter Tryd.func15, Tryd.ntmps15
    go_wp2
    go_step3
    go_wp2
    try rw [Exit.noGoto_ret]
    go_ret
    exact ⟨rfl, Below.refl _ _⟩
end Go.Proofs.YtmflpjgedoopoaaDoor
