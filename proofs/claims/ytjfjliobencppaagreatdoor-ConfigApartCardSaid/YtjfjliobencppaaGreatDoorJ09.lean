/- codec.write of a list, and of any value.; codec.Put of any value.; codec.Text, codec.Num; law07's awake. -/
import Derived.Test.YtjfjliobencppaaGreatDoorJ08
import Derived.Test.YtjfjliobencppaaGreatDoorJ07
set_option linter.unusedVariables false
set_option linter.unusedSimpArgs false
namespace Go.Proofs.YtjfjliobencppaaGreatDoor
open Go.RowKit

/-- What a value's writing may rest on: the values lie in an older part of memory than the box and its row. -/
def Apt (B : Nat) (g : Nat) (ρ : Option Nat) : Prop := B ≤ g ∧ ∀ k, ρ = some k → B ≤ k
theorem Apt.next {B g : Nat} {ρ ρ1 : Option Nat} {w : World} (h : Apt B g ρ) (hn : Nxt ρ ρ1 w) (hs : B ≤ w.heap.size) : Apt B g ρ1 := by
  refine ⟨h.1, fun k hk => ?_⟩
  rcases hn with rfl | ⟨q, rfl, hq⟩
  · exact h.2 k hk
  · cases hk; omega

set_option maxRecDepth 100000 in
set_option maxHeartbeats 1000000 in
theorem write_three (n : Int) (s : ByteArray) (l : List Tr) (o : Option Addr) (cap b off : Nat) (hlen : l.length ≤ 1000000) (w0 : World) (g : Nat) (ρ : Option Nat) (hap : Apt w0.heap.size g ρ) (L : List UInt8) (hL : L.length ≤ 8192)
    (ih : ∀ x ∈ l, ∀ (c0 c1 c2 c3 : Value) (w : World) (ρ : Option Nat) (L : List UInt8), VIn w0 x c0 c1 c2 c3 → Below w0.heap.size w0 w → Apt w0.heap.size g ρ → Buf g ρ L w → L.length ≤ 8192 → Calls Tryz.prog 58 #[.agg #[c0, c1, c2, c3], .func (Fn.func 55) #[] #[.pointer (some ⟨g, 0, none⟩)]] w (WrP g ρ L (txtT x) w))
    (w : World) (hw0 : Below w0.heap.size w0 w) (hB : Buf g ρ L w) (ho : 0 < l.length → o = some ⟨b, off, none⟩ ∧ b < w0.heap.size) (hl : VInL w0 b off l) :
    Calls Tryz.prog 58 #[.agg #[.int .i64 3, .int .u64 n, .string s, .slice o l.length cap], .func (Fn.func 55) #[] #[.pointer (some ⟨g, 0, none⟩)]] w (WrP g ρ L (3 :: (sh l.length ++ txtL l)) w) := by
  obtain ⟨m, hm⟩ : ∃ m, m = l.length := ⟨_, rfl⟩
  have HDA := Lib.hid (txtP_all l)
  have HLE := Lib.hid (fun j h => txtP_le l j h)
  obtain ⟨D, hD⟩ : ∃ D, D = txtL l := ⟨_, rfl⟩
  rw [← hD] at HDA HLE ⊢
  rw [← hm] at hlen ⊢
  have HM := Lib.hid hm
  have HO := Lib.hid ho
  have HL := Lib.hid hl
  have IH := Lib.hid ih
  have HAP := Lib.hid hap
  have HW0 := Lib.hid hw0
  have K1 := Lib.hid (put_one 3 (by omega))
  rw [show UInt8.ofNat 3 = 3 from rfl] at K1
  have KS := Lib.hid (fun w => short_any m (by omega) w)
  have hsl := sh_ten m (by omega)
  have hwr : IntKind.u64.wrap (m : Int) = (m : Int) := IntWalk.u64_in _ (by omega)
  obtain ⟨hd, hhd⟩ : ∃ hd, hd = 3 :: sh m := ⟨_, rfl⟩
  have hT : (3 :: (sh m ++ D)) = hd ++ D := by rw [hhd]; rfl
  rw [hT]
  have KA : Hid (∀ w, Buf g ρ L w → Calls Tryz.prog 55 #[.slice (some ⟨w.heap.size, 0, none⟩) 2 2, .pointer (some ⟨g, 0, none⟩)] (w.alloc (.cells #[.string (str [3]), .string (str (sh m))] 9)) fun e w' => ∃ ok, e = .returned (.bool ok) ∧ AddQ g ρ L hd w ok w') :=
    Lib.hid (fun w h => by
      have := add_two g ρ L hL (str [3]) (str (sh m)) (by rw [size_str]; simp) (by rw [size_str]; omega) w h
      rw [hhd]
      exact this)
  generalize str [3] = S1 at *
  generalize str (sh m) = S2 at *
  clear hsl ho hl ih hm hD hhd hT hap hw0
  have H0 := Lib.hid (VW.new w (.int .i64 3) (.int .u64 n) (.string s) (.slice o m cap) 69)
  have HB0 := Lib.hid (hB.later (alloc_below w (.cells #[.int .i64 3, .int .u64 n, .string s, .slice o m cap] 69)))
  obtain ⟨c0, c1, c2, c3⟩ := H0.out.1
  clear hB
  go_enter Tryz.func58, Tryz.ntmps58
  go_wp2_with fail
  refine (K1.out _).mono ?_
  rintro r w1 ⟨rfl, hb1⟩
  have H1 := Lib.hid (H0.out.later hb1)
  have HB1 := Lib.hid (HB0.out.later hb1)
  clear c0 c1 c2 c3 hb1
  obtain ⟨c0, c1, c2, c3⟩ := H1.out.1
  go_wp2_with fail
  refine (KS.out _).mono ?_
  rintro r w2 ⟨rfl, hb2⟩
  have H2 := Lib.hid (H1.out.later hb2)
  have HB2 := Lib.hid (HB1.out.later hb2)
  clear c0 c1 c2 c3 hb2
  obtain ⟨hpg, hpr⟩ := HB2.out.apart H2.out.1.1 ⟨fun x e => (by cases e), fun a b c e => (by cases e)⟩
  have HPG := Lib.hid (And.intro hpg hpr)
  clear hpg hpr
  go_wp2_with fail
  refine (KA.out w2 HB2.out).mono ?_
  rintro r w3 ⟨ok, rfl, hq⟩
  have HQ := Lib.hid (AddQ.pre H2.out.2.2 hq)
  have hbk : w3.heap[w.heap.size]? = w2.heap[w.heap.size]? := hq.1.2.2.2.2 _ H2.out.2.1 HPG.out.1 HPG.out.2
  have cc := fun j => World.cell?_of_block (a := ⟨w.heap.size, j, none⟩) hbk
  obtain ⟨c0', c1', c2', c3'⟩ := H2.out.1
  have c0 := (cc 0).trans c0'
  have c1 := (cc 1).trans c1'
  have c2 := (cc 2).trans c2'
  have c3 := (cc 3).trans c3'
  clear hq hbk cc c0' c1' c2' c3' HB0 HB1
  cases ok
  · have HQ2 : Hid (AddQ g ρ L (hd ++ D) w false w3) := Lib.hid ⟨HQ.out.1, fun e => (by cases e), fun _ => by
      have := HQ.out.2.2 rfl
      rw [List.length_append]; omega⟩
    clear c0 c1 c2 c3
    go_wp2
    go_ret
    exact ⟨false, rfl, HQ2.out⟩
  · obtain ⟨hsum, ρ0, hn0, hbuf0⟩ := HQ.out.2.1 rfl
    have HB4 : Hid (Buf g ρ0 (L ++ (hd ++ txtP l 0)) w3) := Lib.hid (by rw [txtP_0, List.append_nil]; exact hbuf0)
    have HS4 : Hid (L.length + (hd ++ txtP l 0).length ≤ 8192) := Lib.hid (by rw [txtP_0, List.append_nil]; exact hsum)
    have HN4 := Lib.hid hn0
    have HC4 := Lib.hid HQ.out.1
    clear hsum hn0 hbuf0 HQ
    go_wp2_with fail
    clear c0 c1 c2 c3
    go_loopw [49] (fun iv wr => ∃ (j : Nat) (ρ1 : Option Nat), j ≤ m ∧ iv = .int .i64 (j : Int) ∧ Hid (Buf g ρ1 (L ++ (hd ++ txtP l j)) wr) ∧ Hid (Nxt ρ ρ1 w) ∧ Hid (Chg g ρ w wr) ∧ Hid (L.length + (hd ++ txtP l j).length ≤ 8192)) (fun iv _ => m - (intOf iv).toNat)
    case atStart => exact ⟨0, ρ0, Nat.zero_le _, rfl, HB4, HN4, HC4, HS4⟩
    case round =>
      clear HB4 HS4 HN4 HC4
      obtain ⟨j, ρ1, hj, rfl, hB, hN, hC, hS⟩ := hrel
      have HBW := Lib.hid (HW0.out.trans (hC.out.below HAP.out.1 HAP.out.2 HW0.out.size))
      by_cases hjm : j < m
      · have hjl : j < l.length := by rw [← HM.out]; exact hjm
        obtain ⟨ho', hb'⟩ := HO.out (by omega)
        subst ho'
        obtain ⟨d0, d1, d2, d3, e0, e1, e2, e3, hv⟩ := HL.out.at j hjl
        obtain ⟨k', n', s', o', len', cap', rfl, rfl, rfl, rfl⟩ := hv.cells
        have f0 := (HBW.out.cell (p := ⟨b, _, none⟩) hb').trans e0
        have f1 := (HBW.out.cell (p := ⟨b, _, none⟩) hb').trans e1
        have f2 := (HBW.out.cell (p := ⟨b, _, none⟩) hb').trans e2
        have f3 := (HBW.out.cell (p := ⟨b, _, none⟩) hb').trans e3
        have hst := store27 wr k' n' s' o' len' cap'
        have HV := Lib.hid hv
        have hle := HLE.out j hjl
        have hsu : hd ++ txtP l (j + 1) = (hd ++ txtP l j) ++ txtT l[j] := by rw [txtP_succ l j hjl, List.append_assoc]
        have HSU := Lib.hid hsu
        have HLEN := Lib.hid hle
        have IHJ := Lib.hid (IH.out l[j] (List.getElem_mem hjl))
        have HAP1 := Lib.hid (HAP.out.next hN.out HW0.out.size)
        obtain ⟨A, hA⟩ : ∃ A, A = hd ++ txtP l j := ⟨_, rfl⟩
        rw [← hA] at hB hS HSU
        have HAL : Hid (A.length + (txtT l[j]).length ≤ (hd ++ D).length) := Lib.hid (by rw [hA, List.length_append, List.length_append]; omega)
        clear e0 e1 e2 e3 hv hle hsu hA
        go_wp2_with fail
        obtain ⟨wa, hwa⟩ : ∃ wa, wa = wr.alloc (.cells #[.int .i64 k', .int .u64 (n' : Int), .string s', .slice o' len' cap'] 69) := ⟨_, rfl⟩
        rw [← hwa]
        have HBA := Lib.hid (show Below wr.heap.size wr wa by rw [hwa]; exact alloc_below _ _)
        clear hwa f0 f1 f2 f3 hst
        refine (IHJ.out _ _ _ _ wa ρ1 (L ++ A) HV.out (HBW.out.trans (HBA.out.mono HBW.out.size)) HAP1.out (hB.out.later HBA.out) (by rw [List.length_append]; exact hS.out)).mono ?_
        rintro r w5 ⟨ok, rfl, hq⟩
        have HQ := Lib.hid (AddQ.pre HBA.out hq)
        clear hq
        cases ok
        · have HQ2 : Hid (AddQ g ρ L (hd ++ D) w false w5) := Lib.hid ⟨hC.out.trans hN.out HQ.out.1, fun e => (by cases e), fun _ => by
            have h1 := HQ.out.2.2 rfl
            have h2 := HAL.out
            rw [List.length_append] at h1
            omega⟩
          go_wp2
          go_ret
          exact ⟨false, rfl, HQ2.out⟩
        · obtain ⟨hsum, ρ2, hn2, hbuf2⟩ := HQ.out.2.1 rfl
          have HB5 : Hid (Buf g ρ2 (L ++ (hd ++ txtP l (j + 1))) w5) := Lib.hid (by rw [HSU.out, ← List.append_assoc]; exact hbuf2)
          have HS5 : Hid (L.length + (hd ++ txtP l (j + 1)).length ≤ 8192) := Lib.hid (by
            rw [List.length_append] at hsum
            rw [HSU.out, List.length_append]; omega)
          have HN5 := Lib.hid (hN.out.trans hC.out.2.2.2.1 hn2)
          have HC5 := Lib.hid (hC.out.trans hN.out HQ.out.1)
          clear hsum hn2 hbuf2
          go_wp2
          go_roundw
          case rel => exact ⟨j + 1, ρ2, by omega, by go_num, HB5, HN5, HC5, HS5⟩
          case measure => simp [intOf]; omega
      · have ejm : j = l.length := by rw [← HM.out]; omega
        have hpd : txtP l j = D := by rw [ejm]; exact HDA.out
        rw [hpd] at hB hS
        have HQ2 : Hid (AddQ g ρ L (hd ++ D) w true wr) := Lib.hid ⟨hC.out, fun _ => ⟨hS.out, ρ1, hN.out, hB.out⟩, fun e => (by cases e)⟩
        clear hpd ejm
        go_wp2
        go_ret
        exact ⟨true, rfl, HQ2.out⟩
theorem write_any (w0 : World) (g : Nat) : ∀ (t : Tr), sndT t = true → ∀ (c0 c1 c2 c3 : Value) (w : World) (ρ : Option Nat) (L : List UInt8), VIn w0 t c0 c1 c2 c3 → Below w0.heap.size w0 w → Apt w0.heap.size g ρ → Buf g ρ L w → L.length ≤ 8192 → Calls Tryz.prog 58 #[.agg #[c0, c1, c2, c3], .func (Fn.func 55) #[] #[.pointer (some ⟨g, 0, none⟩)]] w (WrP g ρ L (txtT t) w) := by
  refine Tr.ind ?_
  intro k n s l ih hsn c0 c1 c2 c3 w ρ L h hw hap hB hL
  unfold VIn at h
  obtain ⟨rfl, rfl, hn, rfl, ⟨hsz, hlen⟩, o, cap, b, off, rfl, ho, hl⟩ := h
  unfold sndT at hsn
  simp only [Bool.and_eq_true, decide_eq_true_eq, sndL_all, List.all_eq_true] at hsn
  obtain ⟨⟨⟨⟨⟨k1, k3⟩, _⟩, _⟩, _⟩, hall⟩ := hsn
  unfold txtT
  rcases (show k = 1 ∨ k = 2 ∨ k = 3 by omega) with rfl | rfl | rfl
  · exact write_one n hn s o l.length cap g ρ L hL w hB
  · simp only [show ¬ (2 : Int) = 1 by omega, if_false, if_true]
    exact write_two n s hsz o l.length cap g ρ L hL w hB
  · simp only [show ¬ (3 : Int) = 1 by omega, show ¬ (3 : Int) = 2 by omega, if_false]
    exact write_three n s l o cap b off hlen w0 g ρ hap L hL (fun x hx c0 c1 c2 c3 w ρ L hv => ih x hx (hall x hx) c0 c1 c2 c3 w ρ L hv) w hw hB ho hl
end Go.Proofs.YtjfjliobencppaaGreatDoor

namespace Go.Proofs.YtjfjliobencppaaGreatDoor
open Go.RowKit

theorem row_string {ρ : Option Nat} {o : Option Addr} {cap : Nat} {L : List UInt8} {w : World} (h : Row ρ o cap L w) (hne : L ≠ []) : (convert 113 9 (.slice o L.length cap)).run Tryz.prog w = .ok (.string (str L)) w := by
  rcases h with ⟨_, _, _, h⟩ | ⟨r, cur, rfl, rfl, _, hg, hlc, hcm, hcs, htk⟩
  · exact absurd h hne
  · refine run_convert_bytes_back (P := Tryz.prog) w 113 9 5 ⟨r, 0, none⟩ cap L Tryz.underlying113 Tryz.underlying5 Tryz.underlying9 ?_
    intro j hj
    rw [plain_add, cell_of_row w r j _ _ _ hg, ← Array.getElem?_toList]
    have := congrArg (fun l => l[j]?) htk
    simp only [List.getElem?_take, hj, if_true] at this
    rw [this]
    simp [bcells, hj]
theorem txtT_ne : ∀ t : Tr, txtT t ≠ []
  | .mk k n s l => by
    unfold txtT
    split
    · simp
    · split <;> simp
theorem buf_new (w : World) (A : Obj) : Buf (w.heap.size + 1) none [] ((w.alloc A).alloc (.cells #[.slice none 0 0] 113)) := by
  have h := heap_alloc_new (w.alloc A) (.cells #[.slice none 0 0] 113)
  rw [show (w.alloc A).heap.size = w.heap.size + 1 by simp] at h
  exact ⟨none, 0, h, Or.inl ⟨rfl, rfl, rfl, rfl⟩, by simp⟩
theorem Buf.cell {g : Nat} {ρ : Option Nat} {L : List UInt8} {w : World} (h : Buf g ρ L w) (hne : L ≠ []) : ∃ o cap, w.cell? ⟨g, 0, none⟩ = some (.slice o L.length cap) ∧ (convert 113 9 (.slice o L.length cap)).run Tryz.prog w = .ok (.string (str L)) w := by
  obtain ⟨o, cap, h1, h2, _⟩ := h
  exact ⟨o, cap, by rw [cell_of_row w g 0 _ _ _ h1]; rfl, row_string h2 hne⟩

set_option maxRecDepth 100000 in
theorem put_value (t : Tr) (a : Int) (b : Nat) (s : ByteArray) (o : Option Addr) (m cap : Nat) (w : World) (hd : deepT t ≤ 1000000000) (hv : VIn w t (.int .i64 a) (.int .u64 (b : Int)) (.string s) (.slice o m cap)) :
    Calls Tryz.prog 24 #[.agg #[.int .i64 a, .int .u64 (b : Int), .string s, .slice o m cap]] w fun e w' => e = .returned (.tuple #[.string (putS t), .int .i64 (putC t : Nat)]) ∧ Below w.heap.size w w' := by
  have H00 := Lib.hid (And.intro ((VW.new w (.int .i64 a) (.int .u64 (b : Int)) (.string s) (.slice o m cap) 69).later (alloc_below _ (.cells #[.slice none 0 0] 113))) (buf_new w (.cells #[.int .i64 a, .int .u64 (b : Int), .string s, .slice o m cap] 69)))
  have K1 : Hid (∀ wz, Below w.heap.size w wz → Calls Tryz.prog 56 #[.agg #[.int .i64 a, .int .u64 (b : Int), .string s, .slice o m cap]] wz fun e w' => e = .returned (.bool (sndT t)) ∧ Below wz.heap.size wz w') := Lib.hid (fun wz hb => sound_any t _ _ _ _ wz (hv.later hb))
  have K2 : Hid (∀ wz, Below w.heap.size w wz → Calls Tryz.prog 57 #[.agg #[.int .i64 a, .int .u64 (b : Int), .string s, .slice o m cap]] wz fun e w' => e = .returned (.int .i64 (deepT t : Nat)) ∧ Below wz.heap.size wz w') := Lib.hid (fun wz hb => deep_any t _ _ _ _ wz hd (hv.later hb))
  by_cases h1 : sndT t = false
  · have e1 : putC t = 10 := by unfold putC; rw [if_pos h1]
    have e2 : putS t = ⟨#[]⟩ := by unfold putS; rw [if_neg (by omega)]
    rw [e1, e2]
    rw [h1] at K1
    clear e1 e2 K2 h1 hd hv
    go_enter Tryz.func24, Tryz.ntmps24
    go_upto_region 3 with fail
    refine gen_wp (S := fun wz => Hid (VW w (.int .i64 a) (.int .u64 (b : Int)) (.string s) (.slice o m cap) wz ∧ Buf (w.heap.size + 1) none [] wz)) H00 ?_
    intro W1 H1
    obtain ⟨c0, c1, c2, c3⟩ := H1.out.1.1
    clear H00
    go_wp2_with fail
    refine (K1.out _ H1.out.1.2.2).mono ?_
    rintro r w1 ⟨rfl, hb1⟩
    have HE := Lib.hid (H1.out.1.2.2.trans (hb1.mono H1.out.1.2.2.size))
    clear hb1 c0 c1 c2 c3
    go_wp2
    go_ret2
    exact ⟨rfl, HE.out⟩
  · have h1' : sndT t = true := by simpa using h1
    rw [h1'] at K1
    by_cases h2 : 6 < deepT t
    · have e1 : putC t = 8 := by unfold putC; rw [if_neg h1, if_pos h2]
      have e2 : putS t = ⟨#[]⟩ := by unfold putS; rw [if_neg (by omega)]
      rw [e1, e2]
      have h2' : ((deepT t : Nat) : Int) > 6 := by omega
      generalize deepT t = dd at *
      clear e1 e2 h1 h1' hv h2 hd
      go_enter Tryz.func24, Tryz.ntmps24
      go_upto_region 3 with fail
      refine gen_wp (S := fun wz => Hid (VW w (.int .i64 a) (.int .u64 (b : Int)) (.string s) (.slice o m cap) wz ∧ Buf (w.heap.size + 1) none [] wz)) H00 ?_
      intro W1 H1
      obtain ⟨c0, c1, c2, c3⟩ := H1.out.1.1
      clear H00
      go_wp2_with fail
      refine (K1.out _ H1.out.1.2.2).mono ?_
      rintro r w1 ⟨rfl, hb1⟩
      have H2 := Lib.hid (H1.out.1.later hb1)
      clear hb1 c0 c1 c2 c3
      obtain ⟨c0, c1, c2, c3⟩ := H2.out.1
      go_wp2_with fail
      refine (K2.out _ H2.out.2.2).mono ?_
      rintro r w2 ⟨rfl, hb2⟩
      have HE := Lib.hid (H2.out.2.2.trans (hb2.mono H2.out.2.2.size))
      clear hb2 c0 c1 c2 c3
      go_wp2
      go_ret2
      exact ⟨rfl, HE.out⟩
    · have KW : Hid (∀ wz, Below w.heap.size w wz → Buf (w.heap.size + 1) none [] wz → Calls Tryz.prog 58 #[.agg #[.int .i64 a, .int .u64 (b : Int), .string s, .slice o m cap], .func (Fn.func 55) #[] #[.pointer (some ⟨w.heap.size + 1, 0, none⟩)]] wz (WrP (w.heap.size + 1) none [] (txtT t) wz)) := Lib.hid (fun wz hb hB => write_any w (w.heap.size + 1) t h1' _ _ _ _ wz none [] hv hb ⟨by omega, fun k hk => by cases hk⟩ hB (by simp))
      have h2' : ¬ ((deepT t : Nat) : Int) > 6 := by omega
      have HPC : Hid (putC t = if 8192 < (txtT t).length then 5 else 0) := Lib.hid (by unfold putC; rw [if_neg h1, if_neg h2])
      have HNE := Lib.hid (txtT_ne t)
      have HPS : Hid (putC t = 0 → putS t = str (txtT t)) := Lib.hid (fun h => by unfold putS; rw [if_pos h])
      have HPS2 : Hid (putC t ≠ 0 → putS t = ⟨#[]⟩) := Lib.hid (fun h => by unfold putS; rw [if_neg h])
      generalize deepT t = dd at *
      generalize txtT t = T at *
      generalize putC t = pc at *
      generalize putS t = ps at *
      clear h1 h1' hv h2 hd
      go_enter Tryz.func24, Tryz.ntmps24
      go_upto_region 3 with fail
      refine gen_wp (S := fun wz => Hid (VW w (.int .i64 a) (.int .u64 (b : Int)) (.string s) (.slice o m cap) wz ∧ Buf (w.heap.size + 1) none [] wz)) H00 ?_
      intro W1 H1
      obtain ⟨c0, c1, c2, c3⟩ := H1.out.1.1
      have HB1 := Lib.hid H1.out.2
      clear H00
      go_wp2_with fail
      refine (K1.out _ H1.out.1.2.2).mono ?_
      rintro r w1 ⟨rfl, hb1⟩
      have H2 := Lib.hid (H1.out.1.later hb1)
      have HB2 := Lib.hid (HB1.out.later hb1)
      clear hb1 c0 c1 c2 c3
      obtain ⟨c0, c1, c2, c3⟩ := H2.out.1
      go_wp2_with fail
      refine (K2.out _ H2.out.2.2).mono ?_
      rintro r w2 ⟨rfl, hb2⟩
      have H3 := Lib.hid (H2.out.later hb2)
      have HB3 := Lib.hid (HB2.out.later hb2)
      clear hb2 c0 c1 c2 c3
      obtain ⟨c0, c1, c2, c3⟩ := H3.out.1
      go_wp2_with fail
      refine (KW.out _ H3.out.2.2 HB3.out).mono ?_
      rintro r w3 ⟨ok, rfl, hq⟩
      have HE := Lib.hid (H3.out.2.2.trans (hq.1.below (B := w.heap.size) (by omega) (fun k hk => by cases hk) H3.out.2.2.size))
      clear c0 c1 c2 c3
      cases ok
      · have h5 := hq.2.2 rfl
        have e1 : pc = 5 := by rw [HPC.out, if_pos (by simpa using h5)]
        have e2 : ps = ⟨#[]⟩ := HPS2.out (by omega)
        have E1 := Lib.hid e1
        have E2 := Lib.hid e2
        clear hq h5 e1 e2 HPC HPS HPS2
        go_wp2
        go_ret2
        exact ⟨by rw [E1.out, E2.out]; rfl, HE.out⟩
      · obtain ⟨h5, ρ', _, hbuf⟩ := hq.2.1 rfl
        have e1 : pc = 0 := by rw [HPC.out, if_neg (by simp at h5; omega)]
        have e2 : ps = str T := HPS.out e1
        have E1 := Lib.hid e1
        have E2 := Lib.hid e2
        rw [List.nil_append] at hbuf
        obtain ⟨oo, cc, k0, kc⟩ := hbuf.cell HNE.out
        clear hq h5 e1 e2 HPC HPS HPS2 hbuf
        go_wp2
        go_ret2
        exact ⟨by rw [E1.out, E2.out]; rfl, HE.out⟩
theorem put_tree (t : Tr) (c0 c1 c2 c3 : Value) (w : World) (hd : deepT t ≤ 1000000000) (hv : VIn w t c0 c1 c2 c3) :
    Calls Tryz.prog 24 #[.agg #[c0, c1, c2, c3]] w fun e w' => e = .returned (.tuple #[.string (putS t), .int .i64 (putC t : Nat)]) ∧ Below w.heap.size w w' := by
  obtain ⟨a, b, s, o, m, cap, rfl, rfl, rfl, rfl⟩ := hv.cells
  exact put_value t a b s o m cap w hd hv
end Go.Proofs.YtjfjliobencppaaGreatDoor

namespace Go.Proofs.YtjfjliobencppaaGreatDoor
open Go.RowKit

set_option maxRecDepth 100000 in
theorem text_any (s : ByteArray) (hs : s.size ≤ 1000000000) (w : World) : Calls Tryz.prog 107 #[.string s] w fun e w' => e = .returned (.agg #[.int .i64 2, .int .u64 0, .string s, .slice none 0 0]) ∧ Below w.heap.size w w' := by
  have K39 := Lib.hid (fun w => clone_any s w hs)
  have HBX := Lib.hid (show Bx w.heap.size (.int .i64 0) (.int .u64 0) (.string ⟨#[]⟩) (.slice none 0 0) (w.alloc (.cells #[.int .i64 0, .int .u64 0, .string ⟨#[]⟩, .slice none 0 0] 69)) from ⟨four_new _ _ _ _ _ _, alloc_lt _ _⟩)
  have HH := Lib.hid (heap_alloc_new w (.cells #[.int .i64 0, .int .u64 0, .string ⟨#[]⟩, .slice none 0 0] 69))
  have HBL := Lib.hid (alloc_below w (.cells #[.int .i64 0, .int .u64 0, .string ⟨#[]⟩, .slice none 0 0] 69))
  clear hs
  go_enter Tryz.func107, Tryz.ntmps107
  go_wp2_with fail
  refine (K39.out _).mono ?_
  rintro r w1 ⟨rfl, hb1⟩
  obtain ⟨c0, c1, c2, c3⟩ := (HBX.out.later hb1).1
  have b1 := (hb1.block _ (lt_of_heap HH.out)).trans HH.out
  have y0 := frozen_of_row w1 w.heap.size 0 _ _ b1
  have y1 := frozen_of_row w1 w.heap.size 1 _ _ b1
  have y2 := frozen_of_row w1 w.heap.size 2 _ _ b1
  have y3 := frozen_of_row w1 w.heap.size 3 _ _ b1
  have HB := Lib.hid (HBL.out.trans (hb1.mono HBL.out.size))
  clear b1 hb1
  go_wp2
  refine bodyPost_ret (v := .agg #[.int .i64 2, .int .u64 0, .string s, .slice none 0 0]) (by simp [results, Tryz.results107, go_sem, *]) rfl ⟨rfl, ?_⟩
  have hle : w.heap.size ≤ w.heap.size := Nat.le_refl _
  exact (((HB.out.setCell (p := ⟨w.heap.size, 0, none⟩) hle _).setCell (p := ⟨w.heap.size, 1, none⟩) hle _).setCell (p := ⟨w.heap.size, 2, none⟩) hle _).setCell (p := ⟨w.heap.size, 3, none⟩) hle _
set_option maxRecDepth 100000 in
theorem num_any (n : Nat) (w : World) : Calls Tryz.prog 60 #[.int .u64 (n : Int)] w fun e w' => e = .returned (.agg #[.int .i64 1, .int .u64 (n : Int), .string ⟨#[]⟩, .slice none 0 0]) ∧ Below w.heap.size w w' := by
  go_enter Tryz.func60, Tryz.ntmps60
  go_wp2
  refine bodyPost_ret (v := .agg #[.int .i64 1, .int .u64 (n : Int), .string ⟨#[]⟩, .slice none 0 0]) (by simp [results, Tryz.results60, go_sem, *]) rfl ⟨rfl, ?_⟩
  exact (Below.refl _ _).alloc (Nat.le_refl _) _

def t5 : Tr := .mk 3 0 ⟨#[]⟩ [.mk 1 5 ⟨#[]⟩ []]
theorem sh_small (n : Nat) (h : n < 128) : sh n = [UInt8.ofNat n] := by rw [sh]; simp; omega
theorem t5_put : putC t5 = 0 ∧ putS t5 = ⟨#[3, 1, 1, 5]⟩ := by
  have h1 : sndT t5 = true := by simp [t5, sndT, sndL, ByteArray.size]
  have h2 : deepT t5 = 1 := by simp [t5, deepT, deepL]
  have h3 : txtT t5 = [3, 1, 1, 5] := by simp [t5, txtT, txtL, sh_small]
  have h4 : putC t5 = 0 := by unfold putC; rw [h1, h2, h3]; rfl
  refine ⟨h4, ?_⟩
  unfold putS
  rw [if_pos h4, h3]
  rfl
theorem t5_deep : deepT t5 ≤ 1000000000 := by
  have h2 : deepT t5 = 1 := by simp [t5, deepT, deepL]
  omega
theorem t5_in (w : World) : VInL (w.alloc (.cells #[.int .i64 1, .int .u64 5, .string ⟨#[]⟩, .slice none 0 0] 69)) w.heap.size 0 [.mk 1 5 ⟨#[]⟩ []] := by
  unfold VInL
  obtain ⟨c0, c1, c2, c3⟩ := four_new w (.int .i64 1) (.int .u64 5) (.string ⟨#[]⟩) (.slice none 0 0) 69
  refine ⟨⟨_, _, _, _, c0, c1, c2, c3, ?_⟩, by unfold VInL; trivial⟩
  unfold VIn
  exact ⟨rfl, rfl, by omega, rfl, ⟨by simp [ByteArray.size], by simp⟩, none, 0, 0, 0, rfl, fun h => absurd h (by simp), by unfold VInL; trivial⟩

set_option maxRecDepth 100000 in
theorem awake7_any (w : World) : Calls Tryz.prog 47 #[] w fun e w' => e = .returned (.bool true) ∧ Below w.heap.size w w' := by
  have K1 := Lib.hid (fun w => num_any 5 w)
  have K2 : Hid (∀ W : World, Calls Tryz.prog 91 #[.slice (some ⟨W.heap.size, 0, none⟩) 1 1] (W.alloc (.cells #[.int .i64 1, .int .u64 5, .string ⟨#[]⟩, .slice none 0 0] 69)) (ToP t5 (W.alloc (.cells #[.int .i64 1, .int .u64 5, .string ⟨#[]⟩, .slice none 0 0] 69)))) :=
    Lib.hid (fun W => list_any [.mk 1 5 ⟨#[]⟩ []] (by simp) _ 1 W.heap.size 0 _ (fun _ => ⟨rfl, alloc_lt _ _⟩) (t5_in W))
  have K3 : Hid (∀ (w : World) (c0 c1 c2 c3 : Value), VIn w t5 c0 c1 c2 c3 → Calls Tryz.prog 24 #[.agg #[c0, c1, c2, c3]] w fun e w' => e = .returned (.tuple #[.string ⟨#[3, 1, 1, 5]⟩, .int .i64 0]) ∧ Below w.heap.size w w') := Lib.hid (fun w c0 c1 c2 c3 h => by
    have h2 := put_tree t5 c0 c1 c2 c3 w t5_deep h
    rw [t5_put.1, t5_put.2] at h2
    exact h2)
  go_enter Tryz.func47, Tryz.ntmps47
  go_wp2_with fail
  refine (K1.out _).mono ?_
  rintro r w1 ⟨rfl, hb1⟩
  go_wp2_with fail
  refine (K2.out w1).mono ?_
  rintro r w2 ⟨d0, d1, d2, d3, rfl, hv, hb2⟩
  have HB2 := Lib.hid ((hb1.alloc hb1.size (.cells #[.int .i64 1, .int .u64 5, .string ⟨#[]⟩, .slice none 0 0] 69)).trans (hb2.mono (Nat.le_trans hb1.size (by simp))))
  have HV := Lib.hid hv.plain
  clear hb1 hb2 hv
  go_wp2_with fail
  refine (K3.out _ _ _ _ _ HV.out).mono ?_
  rintro r w3 ⟨rfl, hb3⟩
  have HB3 := Lib.hid (HB2.out.trans (hb3.mono HB2.out.size))
  clear hb3
  go_wp2_with fail
  refine (awake1_any _).mono ?_
  rintro r w4 ⟨rfl, hb4⟩
  go_wp2
  go_ret
  exact ⟨rfl, HB3.out.trans (hb4.mono HB3.out.size)⟩
end Go.Proofs.YtjfjliobencppaaGreatDoor
