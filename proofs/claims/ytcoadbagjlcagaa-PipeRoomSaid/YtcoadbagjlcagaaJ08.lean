/- The law PipeRoom. -/
import Derived.Test.YtcoadbagjlcagaaJ04
set_option linter.unusedVariables false
set_option linter.unusedSimpArgs false
namespace Go.Proofs.Ytcoadbagjlcagaa
open Go.RowKit

instance : Inhabited It := ⟨⟨0, ⟨#[]⟩⟩⟩
/-- The texts, as they are sent. -/
def X (l : List ByteArray) (k : Nat) : It := ⟨k % 3, l.getD k ⟨#[]⟩⟩
def T (l : List ByteArray) (k : Nat) : List It := (List.range k).map (X l)
def R (l : List ByteArray) (k : Nat) : List It := (T l k).drop (k - 64)
theorem T_len (l : List ByteArray) (k : Nat) : (T l k).length = k := by simp [T]
theorem T_succ (l : List ByteArray) (k : Nat) : T l (k + 1) = T l k ++ [X l k] := by simp [T, List.range_succ]
theorem R_len (l : List ByteArray) (k : Nat) : (R l k).length = k - (k - 64) := by simp [R, T_len]
theorem R_succ (l : List ByteArray) (k : Nat) : sendL (R l k) (X l k) = R l (k + 1) := by
  unfold sendL
  rw [R_len]
  unfold R
  rw [T_succ, List.drop_drop, List.drop_append_of_le_length (by rw [T_len]; omega)]
  have e : k - 64 + (k - (k - 64) - 63) = k + 1 - 64 := by omega
  rw [e]
theorem R_ok {l : List ByteArray} (hz : ∀ s ∈ l, s.size ≤ 140737488355328) (k : Nat) (hk : k ≤ l.length) : Okl (R l k) := by
  have HZ := Lib.hid hz
  clear hz
  refine ⟨by rw [R_len]; omega, fun x hx => ?_⟩
  have h1 := List.mem_of_mem_drop hx
  simp only [T, List.mem_map, List.mem_range] at h1
  obtain ⟨j, hj, rfl⟩ := h1
  have e : l.getD j ⟨#[]⟩ = l[j]'(by omega) := by simp [show j < l.length by omega]
  simp only [X]
  rw [e]
  exact HZ.out _ (List.getElem_mem _)
theorem R_at (l : List ByteArray) (k i : Nat) (hi : i < (R l k).length) : (R l k)[i] = ⟨(k - 64 + i) % 3, l.getD (k - 64 + i) ⟨#[]⟩⟩ := by
  have h := hi
  rw [R_len] at h
  simp only [R, List.getElem_drop, T, List.getElem_map, List.getElem_range, X]
/-- How many of the first so many are kept. -/
def nk (tt : Nat) (L : List It) (i : Nat) : Nat := ((L.take i).filter (keep tt)).length
theorem nk_end (tt : Nat) (L : List It) : nk tt L L.length = (L.filter (keep tt)).length := by simp [nk]
theorem nk_le (tt : Nat) (L : List It) (i : Nat) : nk tt L i ≤ i := by
  have := List.length_filter_le (keep tt) (L.take i)
  rw [List.length_take] at this
  unfold nk; omega
theorem nk_yes {tt : Nat} {L : List It} {i : Nat} (hi : i < L.length) (hk : L[i].t ≠ tt) : nk tt L (i + 1) = nk tt L i + 1 ∧ ∃ h : nk tt L i < (L.filter (keep tt)).length, (L.filter (keep tt))[nk tt L i] = L[i] := by
  have hkt : keep tt L[i] = true := by simp [keep, hk]
  have e1 : L.filter (keep tt) = (L.take i).filter (keep tt) ++ (L.drop i).filter (keep tt) := by rw [← List.filter_append, List.take_append_drop]
  have e2 : (L.drop i).filter (keep tt) = L[i] :: (L.drop (i + 1)).filter (keep tt) := by
    rw [List.drop_eq_getElem_cons hi, List.filter_cons, if_pos hkt]
  refine ⟨?_, ?_, ?_⟩
  · unfold nk
    rw [filter_next hi, if_pos hkt]
    simp
  · rw [e1, e2]; simp [nk]
  · simp only [e1, e2]
    rw [List.getElem_append_right (by simp [nk])]
    simp [nk]
theorem nk_no {tt : Nat} {L : List It} {i : Nat} (hi : i < L.length) (hk : L[i].t = tt) : nk tt L (i + 1) = nk tt L i := by
  have hkt : keep tt L[i] = false := by simp [keep, hk]
  unfold nk
  rw [filter_next hi, hkt]
  simp

def SsIn (w : World) (b off : Nat) (l : List ByteArray) : Prop := ∀ k (h : k < l.length), w.cell? ⟨b, off + k, none⟩ = some (.string l[k])
set_option maxRecDepth 100000 in
set_option maxHeartbeats 8000000 in
theorem room_any (l : List ByteArray) (tt : Nat) (htt : tt ≤ 255) (hz : ∀ s ∈ l, s.size ≤ 140737488355328) (at0 : Option Addr) (cap b off : Nat) (w : World) (hat : 0 < l.length → at0 = some ⟨b, off, none⟩ ∧ b < w.heap.size) (hc : SsIn w b off l) :
    Calls Try.prog 5 #[.slice at0 l.length cap, .int .u8 (tt : Int)] w fun e w' => e = .returned (.bool true) ∧ Below w.heap.size w w' := by
  have HC : Hid (∀ wz, Below w.heap.size w wz → SsIn wz b off l) := Lib.hid (fun wz hz k h => (hz.cell (p := ⟨b, off + k, none⟩) (hat (by omega)).2).trans (hc k h))
  have HAT : Hid (0 < l.length → at0 = some ⟨b, off, none⟩) := Lib.hid (fun h => (hat h).1)
  have K6 := Lib.hid awake_any
  have HZ := Lib.hid hz
  clear hat hc hz
  by_cases h100 : l.length ≤ 100
  · have q100 : ¬ ((l.length : Int) > 100) := by omega
    have HR0 : Hid (R l 0 = []) := Lib.hid rfl
    go_enter Try.func5, Try.ntmps5
    go_wp2_with (first
      | (go_at_call 6; ((with_reducible refine (K6.out _).mono ?_); rintro e w1 ⟨rfl, hb⟩; have HP1 : Hid (B1 26 (w1.alloc (.cells #[.slice none 0 0] 26)) w1.heap.size (.slice none 0 0)) := Lib.hid (B1.new 26 w1 _); have HB1 := Lib.hid (hb.trans ((alloc_below w1 (.cells #[.slice none 0 0] 26)).mono hb.size)); have HG1 := Lib.hid hb.size; clear hb)))
    obtain ⟨gp, hgp⟩ : ∃ gp, gp = w1.heap.size := ⟨_, rfl⟩
    rw [← hgp] at HP1 HG1 ⊢
    generalize w1.alloc (.cells #[.slice none 0 0] 26) = w2 at *
    clear hgp
    clear w1
    go_loopw [6, 7, 21] (fun _ _ y wz => ∃ k : Nat, ∃ v, k ≤ l.length ∧ y = .int .i64 k ∧ Hid (B1 26 wz gp v) ∧ Hid (Sl wz v (R l k)) ∧ Hid (Fr (gp + 1) v) ∧ Hid (Below w.heap.size w wz)) (fun _ _ y _ => l.length - (intOf y).toNat)
    case atStart => exact ⟨0, _, by omega, rfl, HP1, Lib.hid (by rw [HR0.out]; exact Sl.nil _), Lib.hid (Fr.nil _), HB1⟩
    case round =>
      obtain ⟨k, v, hk, rfl, HP, HS, HF, HB⟩ := hrel
      by_cases hlt : k < l.length
      · obtain rfl := HAT.out (by omega)
        have a0 := HC.out wr HB.out k hlt
        have q1 : (k : Int) < (l.length : Int) := by omega
        have HOK := Lib.hid (R_ok HZ.out k hk)
        obtain ⟨o, c, hv⟩ := HS.out.form
        subst hv
        have HRS := Lib.hid (R_succ l k)
        have eX : X l k = ⟨k % 3, l[k]⟩ := by simp [X, hlt]
        rw [eX] at HRS
        have K14 := Lib.hid (send_any (R l k) (k % 3) l[k] (.slice o (R l k).length c) (by have := HOK.out.1; omega) (HZ.out _ (List.getElem_mem hlt)) wr HS.out)
        rw [HRS.out] at K14
        obtain ⟨p0, p1⟩ := HP.out.cells
        clear eX
        have e3 : ((k % 3 : Nat) : Int) = (k : Int) % 3 := by omega
        rw [e3] at K14
        have HP0 := HP
        clear e3
        generalize l[k] = s at *
        go_wp2_with (first
          | (go_at_call 14; ((with_reducible refine (K14.out).mono ?_); rintro e w5 ⟨⟨o5, n5, c5, rfl, hs5, hf5⟩, hb5⟩; have HF5 := Lib.hid (show Fr (gp + 1) (.slice o5 n5 c5) from hf5.mono (lt_of_heap HP.out)); have HS5 := Lib.hid hs5; have HP5 := Lib.hid (HP.out.later hb5); have HB5 := Lib.hid (HB.out.trans (hb5.mono HB.out.size)); obtain ⟨y0, y1⟩ := HP5.out.cells; clear hs5 hf5 hb5)))
        go_roundw
        case rel => exact ⟨k + 1, _, by omega, by go_num, Lib.hid (HP5.out.put _), Lib.hid (HS5.out.awayF HF5.out ⟨gp, 0, none⟩ (Nat.lt_succ_self _) _), HF5, Lib.hid (HB5.out.setCell (p := ⟨gp, 0, none⟩) HG1.out _)⟩
        case measure => simp [intOf]; omega
      · obtain rfl : k = l.length := by omega
        have HOK := Lib.hid (R_ok HZ.out l.length (Nat.le_refl _))
        have hRl := R_len l l.length
        have HAT2 := Lib.hid (R_at l l.length)
        have emax : max ((l.length : Int) - 64) 0 = ((l.length - 64 : Nat) : Int) := by omega
        have hRl2 : (((R l l.length).length : Nat) : Int) = (l.length : Int) - ((l.length - 64 : Nat) : Int) := by omega
        have hk1 : l.length - 64 ≤ l.length := by omega
        obtain ⟨o, c, hv⟩ := HS.out.form
        subst hv
        generalize R l l.length = L at *
        generalize l.length - 64 = k0 at *
        have hne : (((L.length : Nat) : Int) != (l.length : Int) - (k0 : Int)) = false := by rw [hRl2]; simp
        have HRL := Lib.hid hRl
        clear hRl hRl2
        have HL64 := Lib.hid (show L.length ≤ 1000000 by have := HOK.out.1; omega)
        have KA := Lib.hid (fun W h => all_any L (.slice o L.length c) HL64.out HOK.out.2 W h)
        have KC := Lib.hid (fun W h => clear_any L (tt % 3) (.slice o L.length c) HL64.out W h)
        have HOF := Lib.hid (HOK.out.clear (tt % 3))
        have KB := Lib.hid (fun v W h => all_any (L.filter (keep (tt % 3))) v (by have := HOF.out.1; omega) HOF.out.2 W h)
        have e3 : ((tt % 3 : Nat) : Int) = (tt : Int) % 3 := by omega
        rw [e3] at KC
        obtain ⟨p0, p1⟩ := HP.out.cells
        go_wp2_with (first
          | (go_at_call 18; ((with_reducible refine (KA.out _ HS.out).mono ?_); rintro e w5 ⟨⟨o5, n5, c5, rfl, hs5, _⟩, hb5⟩; obtain ⟨_, _, hx⟩ := hs5.form; cases hx; have HP5 := Lib.hid (HP.out.later hb5); have HS5 := Lib.hid hs5; have HSv := Lib.hid (HS.out.later hb5); have HB5 := Lib.hid (HB.out.trans (hb5.mono HB.out.size)); obtain ⟨y0, y1⟩ := HP5.out.cells; clear hs5 hb5))
          | (go_at_call 12; ((with_reducible refine (KC.out _ HSv.out).mono ?_); rintro e w6 ⟨⟨o6, n6, c6, rfl, hs6, _⟩, hb6⟩; have HS6 := Lib.hid hs6; have HS56 := Lib.hid (HS5.out.later hb6); have HB6 := Lib.hid (HB5.out.trans (hb6.mono HB5.out.size)); clear hs6 hb6))
          | (go_at_call 18; ((with_reducible refine (KB.out _ _ HS6.out).mono ?_); rintro e w7 ⟨⟨o7, n7, c7, rfl, hs7, _⟩, hb7⟩; obtain ⟨_, _, hx⟩ := hs7.form; cases hx; have HS7 := Lib.hid hs7; have HS57 := Lib.hid (HS56.out.later hb7); have HB7 := Lib.hid (HB6.out.trans (hb7.mono HB6.out.size)); clear hs7 hb7)))
        clear hne p0 p1 y0 y1
        have HN0 : Hid (nk (tt % 3) L 0 = 0) := Lib.hid rfl
        have HLS : Hid (∀ wz, Below w7.heap.size w7 wz → Sl wz (.slice o5 L.length c5) L ∧ Sl wz (.slice o7 (L.filter (keep (tt % 3))).length c7) (L.filter (keep (tt % 3))) ∧ Below w.heap.size w wz) := Lib.hid (fun wz hb => ⟨HS57.out.later hb, HS7.out.later hb, HB7.out.trans (hb.mono HB7.out.size)⟩)
        have HNY := Lib.hid (fun i hi h => nk_yes (tt := tt % 3) (L := L) (i := i) hi h)
        have HNN := Lib.hid (fun i hi h => nk_no (tt := tt % 3) (L := L) (i := i) hi h)
        have HNE := Lib.hid (nk_end (tt % 3) L)
        have HNL := Lib.hid (nk_le (tt % 3) L)
        generalize nk (tt % 3) L = N at *
        generalize L.filter (keep (tt % 3)) = F at *
        go_loopw [10, 12, 13, 54] (fun x _ _ y wz => ∃ i : Nat, i ≤ L.length ∧ y = .int .i64 i ∧ x = .int .i64 (N i) ∧ Hid (Below w7.heap.size w7 wz)) (fun _ _ _ y _ => L.length - (intOf y).toNat)
        case atStart => exact ⟨0, by omega, rfl, by rw [HN0.out]; rfl, Lib.hid (Below.refl _ _)⟩
        case round =>
          obtain ⟨i, hi, rfl, rfl, HBr⟩ := hrel
          by_cases hlt : i < L.length
          · obtain ⟨hsl, hsf, hbw⟩ := HLS.out wr HBr.out
            obtain ⟨oL, cL, bL, fL, eL, hoL, hcL⟩ := hsl.cells
            cases eL
            obtain rfl := hoL (by omega)
            have hx := hcL i hlt
            have hLi := HAT2.out i hlt
            obtain ⟨j, hj⟩ : ∃ j, j = k0 + i := ⟨_, rfl⟩
            rw [← hj] at hLi
            have hjl : j < l.length := by have := HRL.out; omega
            obtain rfl := HAT.out (by omega)
            have eg : l.getD j ⟨#[]⟩ = l[j] := by simp [hjl]
            rw [eg] at hLi
            rw [hLi] at hx
            obtain ⟨x0, x1⟩ := hx
            have e5 : ((j % 3 : Nat) : Int) = (j : Int) % 3 := by omega
            dsimp only at x0 x1
            rw [e5] at x0
            have ej : (k0 : Int) + (i : Int) = (j : Int) := by omega
            have q1 : (i : Int) < (L.length : Int) := by omega
            have q2 : (j : Int) < (l.length : Int) := by omega
            have q4 : N i ≤ 100 := by have := HNL.out i; have := HRL.out; omega
            have hbx := alloc_below wr (.cells #[.int .u64 ((j : Int) % 3), .string l[j]] 33)
            have a0 := HC.out _ (hbw.trans (hbx.mono hbw.size)) j hjl
            have hX := Bx.new 33 wr (.int .u64 ((j : Int) % 3)) (.string l[j])
            have HXq : Hid (∀ q, Bx 33 ((wr.alloc (.cells #[.int .u64 ((j : Int) % 3), .string l[j]] 33)).drewN q) wr.heap.size (.int .u64 ((j : Int) % 3)) (.string l[j])) := Lib.hid (fun q => hX)
            have HBq : Hid (∀ q, Below w7.heap.size w7 ((wr.alloc (.cells #[.int .u64 ((j : Int) % 3), .string l[j]] 33)).drewN q)) := Lib.hid (fun q => by
              have h := HBr.out.trans (hbx.mono HBr.out.size)
              exact ⟨h.os, h.tape, h.output, h.size, h.block⟩)
            have hrun := run_ne_it33 ⟨j % 3, l[j]⟩
            dsimp only at hrun
            rw [e5] at hrun
            have HWAY : Hid ((((j : Int) % 3 != (tt : Int) % 3) = true ∧ N (i + 1) = N i + 1 ∧ ∃ h : N i < F.length, F[N i] = ⟨j % 3, l[j]⟩) ∨ (((j : Int) % 3 != (tt : Int) % 3) = false ∧ N (i + 1) = N i)) := Lib.hid (by
              by_cases e : j % 3 = tt % 3
              · refine Or.inr ⟨?_, HNN.out i hlt (by rw [hLi]; exact e)⟩
                have : (j : Int) % 3 = (tt : Int) % 3 := by omega
                rw [this]; simp
              · obtain ⟨h1, h2, h3⟩ := HNY.out i hlt (by rw [hLi]; exact e)
                refine Or.inl ⟨?_, h1, h2, by rw [h3, hLi]⟩
                rw [bne_iff_ne]; omega)
            have E5 := Lib.hid e5
            clear hsl hsf hcL hLi eg e5 hj hbx hX hoL
            generalize l[j] = s at *
            go_wp2_with (fail)
            go_quiet (fail)
            have HX8 := Lib.hid (HXq.out nq)
            have HB8 := Lib.hid (HBq.out nq)
            generalize (wr.alloc (.cells #[.int .u64 ((j : Int) % 3), .string s] 33)).drewN nq = w8 at *
            obtain ⟨z0, z1, _, _⟩ := HX8.out.cells
            rcases HWAY.out with ⟨ht, hn, hf, hfe⟩ | ⟨ht, hn⟩
            · obtain ⟨_, hsf, _⟩ := HLS.out w8 HB8.out
              obtain ⟨oF, cF, bF, fF, eF, hoF, hcF⟩ := hsf.cells
              cases eF
              obtain rfl := hoF (by omega)
              have hy := hcF (N i) hf
              rw [hfe] at hy
              obtain ⟨y0, y1⟩ := hy
              dsimp only at y0 y1
              rw [E5.out] at y0
              have q5 : ((N i : Nat) : Int) < (F.length : Int) := by omega
              have HN := Lib.hid hn
              have HBd : Hid (∀ q, Below w7.heap.size w7 (w8.drewN q)) := Lib.hid (fun q => ⟨HB8.out.os, HB8.out.tape, HB8.out.output, HB8.out.size, HB8.out.block⟩)
              clear hn hfe hcF hsf hoF
              go_wp2_with (fail)
              go_quiet (fail)
              go_wp2
              go_roundw
              case rel => exact ⟨i + 1, by omega, by go_num, by rw [HN.out]; go_num, Lib.hid (HBd.out _)⟩
              case measure => simp [intOf]; omega
            · have HN := Lib.hid hn
              clear hn
              go_wp2
              go_roundw
              case rel => exact ⟨i + 1, by omega, by go_num, by rw [HN.out], HB8⟩
              case measure => simp [intOf]; omega
          · obtain rfl : i = L.length := by omega
            rw [HNE.out]
            have hee : (((F.length : Nat) : Int) == (F.length : Int)) = true := by simp
            go_wp2
            go_ret
            exact ⟨rfl, (HLS.out wr HBr.out).2.2⟩
  · have q100 : (100 : Int) < (l.length : Int) := by omega
    go_enter Try.func5, Try.ntmps5
    go_wp2_with (first
      | (go_at_call 6; ((with_reducible refine (K6.out _).mono ?_); rintro e w1 ⟨rfl, hb⟩; have HB1 := Lib.hid hb; clear hb)))
    go_ret
    exact ⟨rfl, HB1.out⟩

end Go.Proofs.Ytcoadbagjlcagaa
