/- SpinTurns: Is.; SpinTurns: Of.; SpinTurns: its second argument, opened; a reference's spin in a box. -/
import Derived.Test.YtbnopmkfmggliaaL11
import Derived.ChangeSame
import Derived.OpenShut
import Derived.Deep.Slices
set_option linter.unusedVariables false
set_option linter.unusedSimpArgs false
namespace Go.Proofs.Ytbnopmkfmggliaa
open Go.RowKit
open Fl

set_option maxRecDepth 1000000 in
set_option maxHeartbeats 8000000 in
theorem isq_any (h u : Nat → Int) (n : Nat) (hn : n ≤ 8) (hh : ∀ i, -1000000000 ≤ h i ∧ h i ≤ 1000000000) (hu : ∀ i, 0 ≤ u i ∧ u i ≤ 100) (w : World) (ρ1 ρ2 : Option Nat) (o1 o2 : Option Addr) (c1 c2 : Nat) (h1 : IRow ρ1 o1 c1 (hls h n) w) (h2 : IRow ρ2 o2 c2 (hls u n) w) :
    Calls Try.prog 10 #[spV h u n, .agg #[.slice o1 n c1, .slice o2 n c2]] w fun e w' => e = .returned (.bool true) ∧ Below w.heap.size w w' := by
  obtain ⟨e0, e1, e2, e3, e4, e5, e6, e7, e8, hcs⟩ : ∃ e0 e1 e2 e3 e4 e5 e6 e7 e8 : Value, spc h u n = #[e0, e1, e2, e3, e4, e5, e6, e7, e8] := ⟨_, _, _, _, _, _, _, _, _, rfl⟩
  have K17 : Hid (∀ wz, Calls Try.prog 17 #[.agg #[e0, e1, e2, e3, e4, e5, e6, e7, e8]] wz (PrR wz h u n)) := Lib.hid (fun wz => by
    have := pairs_any h u n hn wz
    unfold spV at this
    rw [hcs] at this
    exact this)
  have K18 : Hid (∀ wz, Calls Try.prog 18 #[.agg #[e0, e1, e2, e3, e4, e5, e6, e7, e8]] wz fun e w' => e = .returned (.int .i64 (n : Int)) ∧ Below wz.heap.size wz w') := Lib.hid (fun wz => by
    have := len_any h u n wz
    unfold spV at this
    rw [hcs] at this
    exact this)
  have K14 : Hid (∀ wz, Calls Try.prog 14 #[.agg #[e0, e1, e2, e3, e4, e5, e6, e7, e8]] wz fun e w' => e = .returned (.int .i64 (tot u n)) ∧ Below wz.heap.size wz w') := Lib.hid (fun wz => by
    have := total_any h u n hn hh hu wz
    unfold spV at this
    rw [hcs] at this
    exact this)
  have K15 : Hid (∀ k wz, Calls Try.prog 15 #[.complex .f64 (fb (h k)) (fb (u k))] wz fun e w' => e = .returned (.tuple #[.int .i64 (h k), .int .i64 (u k), .int .i64 0]) ∧ wz = w') := Lib.hid (fun k wz => parts_any (h k) (u k) (small _ (by have := hh k; omega)) (small _ (by have := hu k; omega)) wz)
  unfold spV
  rw [hcs]
  have HROW := Lib.hid (And.intro h1 h2)
  have HTB : Hid (∀ k, k ≤ n → -1000 ≤ tot u k ∧ tot u k ≤ 100 * (k : Int)) := Lib.hid (fun k hk => by
    have h3 := tot_le (f := u) (g := fun _ => 100) (n := k) (fun i _ => (hu i).2)
    have h4 : ∀ k : Nat, tot (fun _ => 100) k = 100 * (k : Int) := fun k => by
      induction k with
      | zero => rfl
      | succ k ih => rw [tot, ih]; push_cast; omega
    rw [h4] at h3
    have h5 := tot_le (f := Zf) (g := u) (n := k) (fun i _ => (hu i).1)
    rw [tot_zero] at h5
    omega)
  have HUB := Lib.hid hu
  clear h1 h2 hcs hh hu
  have HE : Hid (((w.alloc (.cells #[e0, e1, e2, e3, e4, e5, e6, e7, e8] 28)).alloc (.cells #[.slice o1 n c1, .slice o2 n c2] 33)).heap[w.heap.size]? = some (.cells #[e0, e1, e2, e3, e4, e5, e6, e7, e8] 28 (0, 0)) ∧ ((w.alloc (.cells #[e0, e1, e2, e3, e4, e5, e6, e7, e8] 28)).alloc (.cells #[.slice o1 n c1, .slice o2 n c2] 33)).heap[w.heap.size + 1]? = some (.cells #[.slice o1 n c1, .slice o2 n c2] 33 (0, 0)) ∧ Below w.heap.size w ((w.alloc (.cells #[e0, e1, e2, e3, e4, e5, e6, e7, e8] 28)).alloc (.cells #[.slice o1 n c1, .slice o2 n c2] 33))) := Lib.hid (by
    have a1 := heap_alloc_new w (.cells #[e0, e1, e2, e3, e4, e5, e6, e7, e8] 28)
    have b1 := alloc_below w (.cells #[e0, e1, e2, e3, e4, e5, e6, e7, e8] 28)
    have a2 := heap_alloc_new (w.alloc (.cells #[e0, e1, e2, e3, e4, e5, e6, e7, e8] 28)) (.cells #[.slice o1 n c1, .slice o2 n c2] 33)
    have b2 := alloc_below (w.alloc (.cells #[e0, e1, e2, e3, e4, e5, e6, e7, e8] 28)) (.cells #[.slice o1 n c1, .slice o2 n c2] 33)
    have e1 : (w.alloc (.cells #[e0, e1, e2, e3, e4, e5, e6, e7, e8] 28)).heap.size = w.heap.size + 1 := by simp
    rw [e1] at a2
    exact ⟨(b2.block _ (lt_of_heap a1)).trans a1, a2, b1.trans (b2.mono b1.size)⟩)
  go_enter Try.func10, Try.ntmps10
  go_upto_region 1 with fail
  generalize ((w.alloc (.cells #[e0, e1, e2, e3, e4, e5, e6, e7, e8] 28)).alloc (.cells #[.slice o1 n c1, .slice o2 n c2] 33)) = w1 at *
  obtain ⟨x0, x1, x2, x3, x4, x5, x6, x7, x8⟩ := nine_of HE.out.1
  go_upto_region 2 with (first
    | (go_at_call 17; ((with_reducible refine (K17.out _).mono ?_); rintro z w2 ⟨op, cp, gp, rfl, hop, hcp, hb2⟩; have HPR := Lib.hid (And.intro hop hcp); have HE2 : Hid (w2.heap[w.heap.size]? = some (.cells #[e0, e1, e2, e3, e4, e5, e6, e7, e8] 28 (0, 0)) ∧ w2.heap[w.heap.size + 1]? = some (.cells #[.slice o1 n c1, .slice o2 n c2] 33 (0, 0)) ∧ Below w.heap.size w w2) := Lib.hid ⟨(hb2.block _ (lt_of_heap HE.out.1)).trans HE.out.1, (hb2.block _ (lt_of_heap HE.out.2.1)).trans HE.out.2.1, HE.out.2.2.trans (hb2.mono HE.out.2.2.size)⟩; clear hop hcp hb2 x0 x1 x2 x3 x4 x5 x6 x7 x8)))
  clear HE K17
  obtain ⟨x0, x1, x2, x3, x4, x5, x6, x7, x8⟩ := nine_of HE2.out.1
  obtain ⟨⟨s0, s1⟩, _⟩ := two_cells HE2.out.2.1
  go_upto_region 5 with (first
    | (go_at_call 18; ((with_reducible refine (K18.out _).mono ?_); rintro z w3 ⟨rfl, hb3⟩; have HE3 : Hid (w3.heap[w.heap.size]? = some (.cells #[e0, e1, e2, e3, e4, e5, e6, e7, e8] 28 (0, 0)) ∧ w3.heap[w.heap.size + 1]? = some (.cells #[.slice o1 n c1, .slice o2 n c2] 33 (0, 0)) ∧ Below w.heap.size w w3) := Lib.hid ⟨(hb3.block _ (lt_of_heap HE2.out.1)).trans HE2.out.1, (hb3.block _ (lt_of_heap HE2.out.2.1)).trans HE2.out.2.1, HE2.out.2.2.trans (hb3.mono HE2.out.2.2.size)⟩; have HPR3 : Hid (∀ i, i < n → op = some ⟨gp, 0, none⟩ ∧ w3.cell? ⟨gp, i, none⟩ = some (.complex .f64 (fb (h i)) (fb (u i)))) := Lib.hid (fun i hi => ⟨(HPR.out.1 (by omega)).1, (hb3.cell (p := ⟨gp, i, none⟩) (HPR.out.1 (by omega)).2.2).trans (HPR.out.2 i hi)⟩); clear hb3 x0 x1 x2 x3 x4 x5 x6 x7 x8 s0 s1)))
  clear HE2 HPR K18
  go_wp2
  go_loop [6, 7, 8, 9, 10, 11, 29] (fun tl _ _ _ _ _ i => ∃ k : Nat, k ≤ n ∧ i = .int .i64 (k : Int) ∧ tl = .int .i64 (tot u k)) (fun _ _ _ _ _ _ i => n - (intOf i).toNat)
  case atStart => exact ⟨0, by omega, rfl, rfl⟩
  case round =>
    obtain ⟨k, hk, rfl, rfl⟩ := hrel
    by_cases hlt : k < n
    · have hkn : (k : Int) < (n : Int) := by omega
      obtain ⟨rfl, hcl⟩ := HPR3.out k hlt
      obtain ⟨r1, _, rfl, q1⟩ := (HROW.out.1.later HE3.out.2.2).at k hlt
      obtain ⟨r2, _, rfl, q2⟩ := (HROW.out.2.later HE3.out.2.2).at k hlt
      obtain ⟨⟨s0, s1⟩, _⟩ := two_cells HE3.out.2.1
      have K := Lib.hid (K15.out k)
      have htb := HTB.out k hk
      have hub := HUB.out k
      have HTS : Hid (tot u (k + 1) = tot u k + u k) := Lib.hid rfl
      generalize tot u k = t1 at *
      generalize fb (h k) = p at *
      generalize fb (u k) = q at *
      generalize h k = x at *
      generalize u k = y at *
      go_wp2_with ((go_at_call 15; ((with_reducible refine (K.out _).mono ?_); rintro z w4 ⟨rfl, rfl⟩)))
      go_round
      case rel => exact ⟨k + 1, by omega, by go_num, by rw [HTS.out]⟩
      case measure => simp [intOf]; omega
    · obtain rfl : n = k := by omega
      obtain ⟨x0, x1, x2, x3, x4, x5, x6, x7, x8⟩ := nine_of HE3.out.1
      go_wp2_with ((go_at_call 14; ((with_reducible refine (K14.out _).mono ?_); rintro z w4 ⟨rfl, hb4⟩; have HB4 := Lib.hid (HE3.out.2.2.trans (hb4.mono HE3.out.2.2.size)); clear hb4)))
      go_ret
      exact ⟨rfl, HB4.out⟩
end Go.Proofs.Ytbnopmkfmggliaa

namespace Go.Proofs.Ytbnopmkfmggliaa
open Go.RowKit
open Fl

/-- An endpoint of a weight. -/
def epc (x : Int) : List Value := [.int .u8 0, .int .u8 0, .int .u8 0, .int .u8 0, .int .u16 0, .int .i64 x]
/-- Endpoints in memory. -/
def EpIn (w : World) (g : Nat) (l : List Int) : Prop := ∀ k (h : k < l.length), w.cell? ⟨g, k * 6, none⟩ = some (.int .u8 0) ∧ w.cell? ⟨g, k * 6 + 1, none⟩ = some (.int .u8 0) ∧ w.cell? ⟨g, k * 6 + 2, none⟩ = some (.int .u8 0) ∧ w.cell? ⟨g, k * 6 + 3, none⟩ = some (.int .u8 0) ∧ w.cell? ⟨g, k * 6 + 4, none⟩ = some (.int .u16 0) ∧ w.cell? ⟨g, k * 6 + 5, none⟩ = some (.int .i64 l[k])
theorem own_len {w : World} {B : Nat} {v : Value} {k : Nat} {L : List Value} (ho : w.ownsRow B 3 1 v k L) : L.length = k := by have := ho.1; omega

set_option maxRecDepth 1000000 in
set_option maxHeartbeats 8000000 in
theorem of_spin (l : List Int) (hl : ∀ x ∈ l, -9223372036854775808 ≤ x ∧ x ≤ 9223372036854775807) (hn : l.length ≤ 20) (nm : ByteArray) (oe : Option Addr) (ce ge : Nat) (w : World) (hat : 0 < l.length → oe = some ⟨ge, 0, none⟩ ∧ ge < w.heap.size) (hc : EpIn w ge l) :
    Calls Try.prog 9 #[.agg #[.string nm, .slice oe l.length ce]] w fun e w' => e = .returned (.tuple #[nwS l, .int .i64 (nwE l)]) ∧ Below w.heap.size w w' := by
  have HC := Lib.hid hc
  have HAT := Lib.hid hat
  have HNW : Hid (∀ wz v, Below w.heap.size w wz → OL wz v l → ∃ (o : Option Addr) (cap : Nat), v = .slice o l.length cap ∧ Calls Try.prog 7 #[v] wz fun e w' => e = .returned (.tuple #[nwS l, .int .i64 (nwE l)]) ∧ Below wz.heap.size wz w') := Lib.hid (fun wz v hb ho => by
    obtain ⟨o, cap, g, rfl, ha, hd⟩ := ho.din
    exact ⟨o, cap, rfl, new_any l hl o cap g 0 wz ha hd⟩)
  clear hat hc hl
  obtain ⟨n, hnn⟩ : ∃ n, n = l.length := ⟨_, rfl⟩
  have HNL := Lib.hid hnn
  rw [← hnn] at hn ⊢
  clear hnn
  have HS0 : Hid (NS ((w.alloc (.cells #[.string nm, .slice oe n ce] 38)).alloc (.cells #[.complex .f64 0 0, .complex .f64 0 0, .complex .f64 0 0, .complex .f64 0 0, .complex .f64 0 0, .complex .f64 0 0, .complex .f64 0 0, .complex .f64 0 0, .int .i64 0] 28)) (w.heap.size + 1) Zf Zf 0 ∧ Below w.heap.size w ((w.alloc (.cells #[.string nm, .slice oe n ce] 38)).alloc (.cells #[.complex .f64 0 0, .complex .f64 0 0, .complex .f64 0 0, .complex .f64 0 0, .complex .f64 0 0, .complex .f64 0 0, .complex .f64 0 0, .complex .f64 0 0, .int .i64 0] 28))) := Lib.hid (by
    have b1 := alloc_below w (.cells #[.string nm, .slice oe n ce] 38)
    have a2 := NS.new (w.alloc (.cells #[.string nm, .slice oe n ce] 38)) Zf Zf 0
    have b2 := alloc_below (w.alloc (.cells #[.string nm, .slice oe n ce] 38)) (.cells (spc Zf Zf 0) 28)
    have e1 : (w.alloc (.cells #[.string nm, .slice oe n ce] 38)).heap.size = w.heap.size + 1 := by simp
    rw [e1] at a2
    exact ⟨a2, b1.trans (b2.mono b1.size)⟩)
  rw [nwS_eq] at HNW ⊢
  generalize nwU l = U at *
  generalize nwN l = N at *
  generalize nwE l = EV at *
  go_enter Try.func9, Try.ntmps9
  go_upto_region 3 with fail
  generalize (w.alloc (.cells #[.string nm, .slice oe n ce] 38)).alloc (.cells #[.complex .f64 0 0, .complex .f64 0 0, .complex .f64 0 0, .complex .f64 0 0, .complex .f64 0 0, .complex .f64 0 0, .complex .f64 0 0, .complex .f64 0 0, .int .i64 0] 28) = w1 at *
  go_wp2
  go_loopw [4, 6, 10] (fun v _ i wr => ∃ k : Nat, k ≤ n ∧ i = .int .i64 (k : Int) ∧ Hid (wr.ownsRow w1.heap.size 3 1 v k (ivs (l.take k)) ∧ Below w1.heap.size w1 wr)) (fun _ _ i _ => n - (intOf i).toNat)
  case atStart => exact ⟨0, by omega, rfl, Lib.hid ⟨World.ownsRow_nil _ _ _ _, Below.refl _ _⟩⟩
  case round =>
    obtain ⟨k, hk, rfl, HM⟩ := hrel
    have HBW : Hid (Below w.heap.size w wr) := Lib.hid (HS0.out.2.trans (HM.out.2.mono HS0.out.2.size))
    by_cases hlt : k < n
    · have hkn : (k : Int) < (n : Int) := by omega
      have hkl : k < l.length := by rw [← HNL.out]; exact hlt
      obtain ⟨k0, k1, k2, k3, k4, k5⟩ := HC.out k hkl
      obtain ⟨rfl, hgl⟩ := HAT.out (by omega)
      rw [← HBW.out.cell (p := ⟨ge, k * 6, none⟩) hgl] at k0
      rw [← HBW.out.cell (p := ⟨ge, k * 6 + 1, none⟩) hgl] at k1
      rw [← HBW.out.cell (p := ⟨ge, k * 6 + 2, none⟩) hgl] at k2
      rw [← HBW.out.cell (p := ⟨ge, k * 6 + 3, none⟩) hgl] at k3
      rw [← HBW.out.cell (p := ⟨ge, k * 6 + 4, none⟩) hgl] at k4
      rw [← HBW.out.cell (p := ⟨ge, k * 6 + 5, none⟩) hgl] at k5
      have HTK : Hid (l.take (k + 1) = l.take k ++ [l[k]]) := Lib.hid (List.take_add_one.trans (by rw [List.getElem?_eq_getElem hkl]; rfl))
      have HKL : Hid ((l.take k).length = k) := Lib.hid (by rw [List.length_take]; omega)
      clear hgl
      generalize l[k] = x at *
      have HM1 : Hid ((wr.alloc (.cells #[.int .u8 0, .int .u8 0, .int .u8 0, .int .u8 0, .int .u16 0, .int .i64 x] 44)).ownsRow w1.heap.size 3 1 u4 k (ivs (l.take k)) ∧ Below w1.heap.size w1 (wr.alloc (.cells #[.int .u8 0, .int .u8 0, .int .u8 0, .int .u8 0, .int .u16 0, .int .i64 x] 44))) := Lib.hid ⟨HM.out.1.alloc _, HM.out.2.trans ((alloc_below wr _).mono HM.out.2.size)⟩
      clear HM HBW
      go_wp2_with (first
        | (at_builtin; go_must (refine wpList_append_int (wr.alloc (.cells #[.int .u8 0, .int .u8 0, .int .u8 0, .int .u8 0, .int .u16 0, .int .i64 x] 44)) rfl (.tmp 14) (.tmp 17) rfl w1.heap.size u4 k (l.take k) rfl HM1.out.1 x (by rw [show (wr.alloc (.cells #[.int .u8 0, .int .u8 0, .int .u8 0, .int .u8 0, .int .u16 0, .int .i64 x] 44)).heap.size = wr.heap.size + 1 by simp]; rfl) (by omega) HM1.out.2.size ?_); intro v' w' hown' hb' hkept'; have HO2 : Hid (w'.ownsRow w1.heap.size 3 1 v' (k + 1) (ivs (l.take (k + 1))) ∧ Below w1.heap.size w1 w') := Lib.hid ⟨by rw [HTK.out]; exact hown', HM1.out.2.trans hb'⟩; clear hown' hb' hkept'))
      go_roundw
      case rel => exact ⟨k + 1, by omega, by go_num, HO2⟩
      case measure => simp [intOf]; omega
    · obtain rfl : n = k := by omega
      have HOL : Hid (OL wr u4 l) := Lib.hid (OL.of (by
        have := HM.out.1
        rw [HNL.out, List.take_length] at this
        exact this))
      have HZ : Hid (NS wr (w.heap.size + 1) Zf Zf 0) := Lib.hid (HS0.out.1.later HM.out.2)
      obtain ⟨ow, cw, hv, hcall⟩ := HNW.out wr u4 HBW.out HOL.out
      rw [← HNL.out] at hv
      subst hv
      have KN := Lib.hid hcall
      clear hcall
      have hB := HBW.out
      clear HOL HNW HS0
      go_wp2_with (first
        | (go_at_call 7; ((with_reducible refine (KN.out).mono ?_); rintro z w2 ⟨rfl, hb2⟩; have HZ2 := Lib.hid (HZ.out.later hb2); have HB2 := Lib.hid (HBW.out.trans (hb2.mono HBW.out.size)); clear hb2))
        | (refine wpList_store_ns rfl _ _ rfl HZ2.out rfl rfl ?_))
      have HR := Lib.hid (HZ2.out.row Zf U N)
      have HBR := Lib.hid (below_setRow HB2.out (show w.heap.size ≤ w.heap.size + 1 by omega) (spc Zf U N))
      generalize w2.setRow (w.heap.size + 1) (spc Zf U N) = w3 at *
      obtain ⟨⟨r0, r1, r2, r3, r4, r5, r6, r7⟩, r8⟩ := HR.out.cells
      refine bodyPost_ret (v := .tuple #[spV Zf U N, .int .i64 EV]) (by simp [results, Try.results9, go_sem, spV, spc, cplx, *]) rfl ⟨rfl, HBR.out⟩
end Go.Proofs.Ytbnopmkfmggliaa

namespace Go.Proofs.Ytbnopmkfmggliaa
open Go.ChangeShapes Go.WideShapes Go.RowKit Go.Deep

def ISl (w : World) (l : List Int) (v : Value) : Prop := ∃ (o : Option Addr) (cap b off : Nat), v = .slice o l.length cap ∧ (0 < l.length → o = some ⟨b, off, none⟩ ∧ b < w.heap.size) ∧ DIn w b off l
def ISs (w : World) (b off : Nat) (ls : List (List Int)) : Prop := ∀ i (h : i < ls.length), ∃ v, w.cell? ⟨b, off + i, none⟩ = some v ∧ ISl w ls[i] v
theorem ISl.later {w w' : World} {l : List Int} {v : Value} (h : ISl w l v) (hb : Below w.heap.size w w') : ISl w' l v := by
  obtain ⟨o, cap, b, off, hv, ha, hd⟩ := h
  exact ⟨o, cap, b, off, hv, fun hp => ⟨(ha hp).1, Nat.lt_of_lt_of_le (ha hp).2 hb.size⟩, hd.later hb (fun hp => (ha hp).2)⟩
theorem cells22 : Try.prog.cellsOf 22 = 1 := by kernel_rfl
section
variable {H : Type} {enc : TypeId × Value → H} {w : World} {sp : Nat → Bool} {held : Bool}
set_option maxRecDepth 100000 in
theorem trod_ints {fuel : Nat} {cs : List Value} {x : DataW H × List MemPlace} (h : DataW.trod enc Try.prog w 0 sp held fuel 22 cs = some x) : ∃ (l : List Int) (v : Value), cs = [v] ∧ ISl w l v := by
  rcases open_slice Try.underlying22 h with ⟨hcs, _⟩ | ⟨a, len, cap', m, n', D, Pl, hcs, _⟩
  · subst hcs
    obtain ⟨l, b, off, hl, _, ha, hd⟩ := open_ints h
    exact ⟨l, _, rfl, none, 0, b, off, by rw [hl], ha, hd⟩
  · subst hcs
    obtain ⟨l, b, off, hl, _, ha, hd⟩ := open_ints h
    exact ⟨l, _, rfl, some a, cap', b, off, by rw [hl], ha, hd⟩
set_option maxRecDepth 100000 in
theorem open_iss {fuel : Nat} {at0 : Option Addr} {n cap : Nat} {x : DataW H × List MemPlace} (h : DataW.trod enc Try.prog w 0 sp held fuel 23 [.slice at0 n cap] = some x) :
    ∃ (l : List (List Int)) (b off : Nat), n = l.length ∧ (0 < l.length → at0 = some ⟨b, off, none⟩ ∧ b < w.heap.size) ∧ ISs w b off l := by
  rcases open_slice Try.underlying23 h with ⟨hcs, _⟩ | ⟨a, len, cap', m, n', D, Pl, hcs, hb, hl, hm, hmm, hx, hi⟩
  · simp only [List.cons.injEq, Value.slice.injEq, and_true] at hcs
    obtain ⟨rfl, rfl, rfl⟩ := hcs
    exact ⟨[], 0, 0, rfl, fun h => absurd h (by simp), fun k h => absurd h (by simp)⟩
  · simp only [List.cons.injEq, Value.slice.injEq, and_true] at hcs
    obtain ⟨rfl, rfl, rfl⟩ := hcs
    have hnm : n ≤ m := by rw [hmm]; split <;> omega
    obtain ⟨b, off, spot⟩ := a
    have each : ∀ i, i < n → ∃ q : List Int, ∃ v, w.cell? ((⟨b, off, spot⟩ : Addr).add i) = some v ∧ ISl w q v := by
      intro i hlt
      obtain ⟨cs', h1, h2⟩ := hi i (by omega)
      rw [cells22] at h1
      obtain ⟨_, hlen2, hcell⟩ := World.cells?_some h1
      obtain ⟨q, v, e1, hv⟩ := trod_ints h2
      subst e1
      have h0 := hcell 0 (by simp)
      rw [Nat.mul_one] at h0
      have ez : ((⟨b, off, spot⟩ : Addr).add i).add 0 = (⟨b, off, spot⟩ : Addr).add i := by unfold Addr.add; simp
      rw [ez] at h0
      exact ⟨q, v, h0, hv⟩
    obtain ⟨q, hq⟩ := choose_lt each
    have hspot : 0 < n → spot = none ∧ b < w.heap.size := by
      intro hp
      obtain ⟨v, h0, _⟩ := hq 0 hp
      have hs := World.cell?_spot h0
      have hbl := World.block_lt_of_cell? w _ h0
      unfold Addr.add at hs hbl
      simp at hs hbl
      exact ⟨hs, hbl⟩
    refine ⟨(List.range n).map q, b, off, by simp, ?_, ?_⟩
    · intro hp
      have h1 := hspot (by simpa using hp)
      exact ⟨by rw [h1.1], h1.2⟩
    · intro k hk
      have hk' : k < n := by simpa using hk
      have hs := (hspot (by omega)).1
      subst hs
      obtain ⟨v, hc, hok⟩ := hq k hk'
      rw [plain_add] at hc
      simp only [List.getElem_map, List.getElem_range]
      exact ⟨v, hc, hok⟩
end
open Fl
/-- A reference's spin: its two rows, and its box. -/
structure RQ (w : World) (g : Nat) (ρ1 ρ2 : Option Nat) (o1 o2 : Option Addr) (c1 c2 : Nat) (h u : Nat → Int) (n : Nat) : Prop where
  b : w.heap[g]? = some (.cells #[.slice o1 n c1, .slice o2 n c2] 33 (0, 0))
  r1 : IRow ρ1 o1 c1 (hls h n) w
  r2 : IRow ρ2 o2 c2 (hls u n) w
theorem RQ.later {w w' : World} {g : Nat} {ρ1 ρ2 : Option Nat} {o1 o2 : Option Addr} {c1 c2 : Nat} {h u : Nat → Int} {n : Nat} (q : RQ w g ρ1 ρ2 o1 o2 c1 c2 h u n) (hb : Below w.heap.size w w') : RQ w' g ρ1 ρ2 o1 o2 c1 c2 h u n :=
  ⟨(hb.block _ (lt_of_heap q.b)).trans q.b, q.r1.later hb, q.r2.later hb⟩
theorem IRow.other {w w' : World} {g : Nat} {ρ : Option Nat} {o : Option Addr} {c : Nat} {l : List Int} {a : Array Value} {T : TypeId} (h : IRow ρ o c l w) (hT : T ≠ 3) (hg : w.heap[g]? = some (.cells a T (0, 0))) (hw : ∀ k, k ≠ g → w'.heap[k]? = w.heap[k]?) : IRow ρ o c l w' :=
  h.keep (fun r hr => hw r (fun e => by
    subst e
    rcases h with ⟨_, _, h0, _⟩ | ⟨r2, cur, h1, _, h4, _⟩
    · rw [h0] at hr; cases hr
    · rw [h1] at hr; cases hr
      rw [hg] at h4
      simp only [Option.some.injEq, Obj.cells.injEq] at h4
      exact hT h4.2.1))
theorem RQ.other {w w' : World} {g q : Nat} {ρ1 ρ2 : Option Nat} {o1 o2 : Option Addr} {c1 c2 : Nat} {h u : Nat → Int} {n : Nat} {a : Array Value} {T : TypeId} (R : RQ w g ρ1 ρ2 o1 o2 c1 c2 h u n) (hT : T ≠ 3) (hg : w.heap[q]? = some (.cells a T (0, 0))) (hq : g ≠ q) (hw : ∀ k, k ≠ q → w'.heap[k]? = w.heap[k]?) : RQ w' g ρ1 ρ2 o1 o2 c1 c2 h u n :=
  ⟨(hw g hq).trans R.b, R.r1.other hT hg hw, R.r2.other hT hg hw⟩
end Go.Proofs.Ytbnopmkfmggliaa
