/- The law LedgerHolds: its loop, and the whole of it.; Acts as arguments, opened. -/
import Derived.Test.YtpcmmejlmhbcdaaGreatJ33
import Derived.Test.YtpcmmejlmhbcdaaGreatJ34
import Derived.Test.YtpcmmejlmhbcdaaGreatJ35
import Derived.Test.YtpcmmejlmhbcdaaGreatJ36
import Derived.Test.YtpcmmejlmhbcdaaGreatJ37
import Derived.Test.YtpcmmejlmhbcdaaGreatJ38
import Derived.Test.YtpcmmejlmhbcdaaGreatJ39
import Derived.Test.YtpcmmejlmhbcdaaGreatJ40
import Derived.Test.YtpcmmejlmhbcdaaGreatJ32
import Derived.ChangeSame
import Derived.OpenShut
import Derived.Deep.Slices
set_option linter.unusedVariables false
set_option linter.unusedSimpArgs false
namespace Go.Proofs.YtpcmmejlmhbcdaaGreat
open Go.RowKit

set_option maxRecDepth 1000000 in
theorem way_end {o : Option Addr} {m cap k b5 : Nat} {row : Nat} {held : Bool} {u : Nat → Value} {wr : World} {Q0 : Exit → Act → World → Prop} {P : Act → World → Prop} (hexit : ∀ u', Q0 (.exit 0) (fw o m cap k b5 (.int .i64 (m : Int)) (.int .i64 (row : Int)) (.bool held) u') wr) :
    Code.wp Tryz.prog bodyC (Exit.then P Q0) (fw o m cap k b5 (.int .i64 (m : Int)) (.int .i64 (row : Int)) (.bool held) u) wr := by
  have H := Lib.hid hexit
  clear hexit
  conv => arg 2; whnf
  unfold fw
  go_wp2
  suffices h : ∀ a' : Act, a' = fw o m cap k b5 (.int .i64 (m : Int)) (.int .i64 (row : Int)) (.bool held) (fun j => a'.tmps.getD j undef) → Q0 (.exit 0) a' wr from h _ rfl
  intro a' ha
  rw [ha]
  exact H.out _

theorem round {l : List Ac} {o : Option Addr} {m cap k b off b5 : Nat} {w : World} {Q0 : Exit → Act → World → Prop} (h100 : m ≤ 100) (hk : k ≤ 255) (hk0 : ¬ k = 0) (HM : m = l.length) (HAT : 0 < l.length → o = some ⟨b, off, none⟩ ∧ b < w.heap.size) (HIN : AcsIn w b off l) (HW1 : Hid (w.heap.size ≤ b5))
    (hexit : ∀ x7 x8 u' wr, Below w.heap.size w wr → Q0 (.exit 0) (fw o m cap k b5 (.int .i64 (m : Int)) x7 x8 u') wr) {a : Act} {wr : World} (hI : WI o m cap k b5 w a wr) :
    Code.wp Tryz.prog bodyC (Exit.then (fun a' w'' => WI o m cap k b5 w a' w'' ∧ Wmu m a' < Wmu m a) Q0) a wr := by
  obtain ⟨u, i, row, L, held, rfl, him, hri, HI, HL, HP, HB⟩ := hI
  have hmu : Wmu m (fw o m cap k b5 (.int .i64 (i : Int)) (.int .i64 (row : Int)) (.bool held) u) = m - i := by
    show m - (intOf (.int .i64 (i : Int))).toNat = m - i
    simp [intOf]
  rw [hmu]
  by_cases hlt : i < m
  · have hil : i < l.length := by rw [← HM]; exact hlt
    obtain ⟨ho, hbw⟩ := HAT (by omega)
    subst ho
    obtain ⟨c0, c1, c2, hD, hP⟩ := HIN i hil
    have c0 := (HB.out.cell (p := ⟨b, off + i * 3, none⟩) hbw).trans c0
    have c1 := (HB.out.cell (p := ⟨b, off + i * 3 + 1, none⟩) hbw).trans c1
    have c2 := (HB.out.cell (p := ⟨b, off + i * 3 + 2, none⟩) hbw).trans c2
    by_cases hp : l[i].p % 3 = 0
    · by_cases t2 : l[i].d % 4 = 2
      · exact way_a h100 hk hk0 HW1 hlt hri HI HL HP HB c0 c1 c2 hD hP hp t2
      by_cases t3 : l[i].d % 4 = 3
      · exact way_b h100 hk hk0 HW1 hlt hri HI HL HP HB c0 c1 c2 hD hP hp t3
      cases held
      · by_cases hkr : k ≤ row + 1
        · exact way_d h100 hk hk0 HW1 hlt hri HI HL HP HB c0 c1 c2 hD hP hp (by omega) hkr
        · exact way_e h100 hk hk0 HW1 hlt hri HI HL HP HB c0 c1 c2 hD hP hp (by omega) hkr
      · exact way_c h100 hk hk0 HW1 hlt hri HI HL HP HB c0 c1 c2 hD hP hp (by omega)
    · by_cases t2 : l[i].d % 4 = 2
      · exact way_f h100 hk hk0 HW1 hlt hri HI HL HP HB c0 c1 c2 hD hP hp t2
      by_cases t3 : l[i].d % 4 = 3
      · exact way_g h100 hk hk0 HW1 hlt hri HI HL HP HB c0 c1 c2 hD hP hp t3
      · exact way_h h100 hk hk0 HW1 hlt hri HI HL HP HB c0 c1 c2 hD hP hp (by omega)
  · have e : i = m := by omega
    subst e
    exact way_end (fun u' => hexit _ _ u' wr HB.out)

theorem loop_any {l : List Ac} {o : Option Addr} {m cap k b off b5 : Nat} {w w0 : World} {Q0 : Exit → Act → World → Prop} {a : Act} (ha : a = fw o m cap k b5 (.int .i64 0) (.int .i64 0) (.bool false) (fun j => a.tmps.getD j undef)) (h100 : m ≤ 100) (hk : k ≤ 255) (hk0 : ¬ k = 0) (HM : m = l.length) (HAT : 0 < l.length → o = some ⟨b, off, none⟩ ∧ b < w.heap.size) (HIN : AcsIn w b off l) (HW1 : Hid (w.heap.size ≤ b5))
    (hexit : ∀ x7 x8 u' wr, Below w.heap.size w wr → Q0 (.exit 0) (fw o m cap k b5 (.int .i64 (m : Int)) x7 x8 u') wr) (HL : Hid (LBx w0 b5 [])) (HP : Hid (w0.rangeAt (b5 + 1) 0 (pc (kk 8)))) (HB : Hid (Below w.heap.size w w0)) :
    Code.wp Tryz.prog (Code.loop bodyC) Q0 a w0 := by
  refine wp_loop (WI o m cap k b5 w) (fun a _ => Wmu m a) ?_ (fun a wr hI => round h100 hk hk0 HM HAT HIN HW1 hexit hI)
  exact ⟨_, 0, 0, [], false, ha, Nat.zero_le _, Nat.le_refl _, Lib.hid Inv.start, HL, HP, HB⟩

set_option maxRecDepth 100000 in
set_option maxHeartbeats 16000000 in
theorem holds_any (l : List Ac) (o : Option Addr) (cap b off k : Nat) (hk : k ≤ 255) (w : World) (hat : 0 < l.length → o = some ⟨b, off, none⟩ ∧ b < w.heap.size) (hin : AcsIn w b off l) :
    Calls Tryz.prog 5 #[.slice o l.length cap, .int .u8 k] w fun e w' => e = .returned (.bool true) ∧ Below w.heap.size w w' := by
  have A16 := Lib.hid (fun w => awake16_any w)
  obtain ⟨m, hm⟩ : ∃ m, m = l.length := ⟨_, rfl⟩
  rw [← hm]
  by_cases h100 : 100 < m
  · clear hm hat hin
    have q1 : ¬ m ≤ 100 := by omega
    go_enter Tryz.func5, Tryz.ntmps5
    go_wp2_with (first | (go_at_call 8; ((with_reducible refine (A16.out _).mono ?_); rintro e w1 ⟨rfl, hb1⟩)))
    go_ret
    exact ⟨rfl, hb1⟩
  · by_cases hk0 : k = 0
    · subst hk0
      have q1 : m ≤ 100 := by omega
      have q2 : ¬ 100 < m := h100
      clear hm hat hin
      go_enter Tryz.func5, Tryz.ntmps5
      go_wp2_with (first | (go_at_call 8; ((with_reducible refine (A16.out _).mono ?_); rintro e w1 ⟨rfl, hb1⟩)))
      go_ret
      exact ⟨rfl, hb1⟩
    · have HM := Lib.hid hm
      have HAT := Lib.hid hat
      have HIN := Lib.hid hin
      have q2 : decide ((100 : Int) < (m : Int)) = false := by rw [decide_eq_false_iff_not]; omega
      have q3 : ((k : Int) == 0) = false := by rw [beq_eq_false_iff_ne]; omega
      clear hm hat hin
      go_enter Tryz.func5, Tryz.ntmps5
      go_upto_region 8 with (first | (go_at_call 8; ((with_reducible refine (A16.out _).mono ?_); rintro e w1 ⟨rfl, hb1⟩; have HB1 := Lib.hid hb1; clear hb1)))
      have HLB : Hid (LBx ((w1.alloc (.cells #[.slice none 0 0] 28)).alloc (.cells #[.int .u8 200, .int .u8 0, .int .u8 0, .int .u8 0, .int .u8 0, .int .u8 0, .int .u8 0, .int .u8 0, .int .u8 0, .int .u8 0, .int .u8 0, .int .u8 0, .int .u8 0, .int .u8 0, .int .u8 0, .int .u8 0] 24)) w1.heap.size []) := Lib.hid (LBx.later ⟨⟨none, 0, by simp, Or.inl ⟨rfl, rfl⟩⟩, by simp, fun j hj => one_new w1 _ _ _ (Below.refl _ _) j hj, by simp⟩ (alloc_below _ _))
      have hsz1 : (w1.alloc (.cells #[.slice none 0 0] 28)).heap.size = w1.heap.size + 1 := by simp
      have HPB : Hid (((w1.alloc (.cells #[.slice none 0 0] 28)).alloc (.cells #[.int .u8 200, .int .u8 0, .int .u8 0, .int .u8 0, .int .u8 0, .int .u8 0, .int .u8 0, .int .u8 0, .int .u8 0, .int .u8 0, .int .u8 0, .int .u8 0, .int .u8 0, .int .u8 0, .int .u8 0, .int .u8 0] 24)).rangeAt (w1.heap.size + 1) 0 (pc (kk 8))) := Lib.hid (by
        have e := pc_first 200 (by omega)
        have h := range_alloc (w := w1.alloc (.cells #[.slice none 0 0] 28)) (cs := pc (kk 8)) (t := 24) (w' := (w1.alloc (.cells #[.slice none 0 0] 28)).alloc (.cells (pc (kk 8)).toArray 24)) (Below.refl _ _)
        rw [hsz1] at h
        have e2 : (pc (kk 8)).toArray = #[.int .u8 200, .int .u8 0, .int .u8 0, .int .u8 0, .int .u8 0, .int .u8 0, .int .u8 0, .int .u8 0, .int .u8 0, .int .u8 0, .int .u8 0, .int .u8 0, .int .u8 0, .int .u8 0, .int .u8 0, .int .u8 0] := e
        rw [e2] at h
        exact h)
      have HBW : Hid (Below w.heap.size w ((w1.alloc (.cells #[.slice none 0 0] 28)).alloc (.cells #[.int .u8 200, .int .u8 0, .int .u8 0, .int .u8 0, .int .u8 0, .int .u8 0, .int .u8 0, .int .u8 0, .int .u8 0, .int .u8 0, .int .u8 0, .int .u8 0, .int .u8 0, .int .u8 0, .int .u8 0, .int .u8 0] 24))) := Lib.hid (HB1.out.trans ((bt (alloc_below _ _)).mono HB1.out.size))
      have HW1 : Hid (w.heap.size ≤ w1.heap.size) := Lib.hid HB1.out.size
      clear hsz1
      generalize ((w1.alloc (.cells #[.slice none 0 0] 28)).alloc (.cells #[.int .u8 200, .int .u8 0, .int .u8 0, .int .u8 0, .int .u8 0, .int .u8 0, .int .u8 0, .int .u8 0, .int .u8 0, .int .u8 0, .int .u8 0, .int .u8 0, .int .u8 0, .int .u8 0, .int .u8 0, .int .u8 0] 24)) = W2 at *
      generalize w1.heap.size = b5 at *
      go_wp2
      refine loop_any rfl (by omega) hk hk0 HM.out HAT.out HIN.out HW1 (fun x7 x8 u' wr hb => ?_) HLB HPB HBW
      unfold fw
      go_wp2
      go_ret
      exact ⟨rfl, hb⟩
end Go.Proofs.YtpcmmejlmhbcdaaGreat

namespace Go.Proofs.YtpcmmejlmhbcdaaGreat
open Go.ChangeShapes Go.WideShapes Go.RowKit Go.Deep Go.Maps

theorem cells31 : Tryz.prog.cellsOf 31 = 3 := by kernel_rfl
theorem cells3 : Tryz.prog.cellsOf 3 = 1 := by kernel_rfl
theorem natU8 {n : Int} (h : (Lit.int .u8 n).wf = true) : ∃ a : Nat, n = a ∧ a ≤ 255 := by
  have h0 : 0 ≤ n ∧ n ≤ 255 := by
    simp [Lit.wf, IntKind.min, IntKind.max, IntKind.signed, IntKind.bits] at h; omega
  exact ⟨n.toNat, by omega, by omega⟩
section
variable {H : Type} {enc : TypeId × Value → H} {w : World} {sp : Nat → Bool} {held : Bool}
set_option maxRecDepth 100000 in
theorem trod_ac {fuel : Nat} {cs : List Value} {x : DataW H × List MemPlace} (h : DataW.trod enc Tryz.prog w 0 sp held fuel 31 cs = some x) :
    ∃ (q : Ac), cs = [.int .u8 (q.d : Int), .int .u8 (q.p : Int), .int .i64 q.k] ∧ q.d ≤ 255 ∧ q.p ≤ 255 := by
  obtain ⟨xs, n, _, rfl, hl, hlen, hf⟩ := DataW.trod_struct Tryz.underlying31 h
  rw [cells31] at hl
  match cs, hl with
  | [v0, v1, v2], _ =>
    match xs, hlen with
    | [x0, x1, x2], _ =>
      have f0 := hf 0 _ rfl
      have f1 := hf 1 _ rfl
      have f2 := hf 2 _ rfl
      simp [cells5, cells3] at f0 f1 f2
      obtain ⟨k, e0, _, wk⟩ := DataW.trod_int Tryz.underlying5 f0
      obtain ⟨m, e1, _, wm⟩ := DataW.trod_int Tryz.underlying5 f1
      obtain ⟨bb, e2, _, wb⟩ := DataW.trod_int Tryz.underlying3 f2
      simp at e0 e1 e2
      obtain ⟨k', rfl, hk⟩ := natU8 wk
      obtain ⟨m', rfl, hm⟩ := natU8 wm
      exact ⟨⟨k', m', bb⟩, by rw [e0, e1, e2], hk, hm⟩
set_option maxRecDepth 100000 in
theorem open_acts {fuel : Nat} {at0 : Option Addr} {n cap : Nat} {x : DataW H × List MemPlace} (h : DataW.trod enc Tryz.prog w 0 sp held fuel 22 [.slice at0 n cap] = some x) :
    ∃ (l : List Ac) (b off : Nat), n = l.length ∧ (0 < l.length → at0 = some ⟨b, off, none⟩ ∧ b < w.heap.size) ∧ AcsIn w b off l := by
  rcases open_slice Tryz.underlying22 h with ⟨hcs, _⟩ | ⟨a, len, cap', m, n', D, Pl, hcs, hb, hl, hm, hmm, hx, hi⟩
  · simp only [List.cons.injEq, Value.slice.injEq, and_true] at hcs
    obtain ⟨rfl, rfl, rfl⟩ := hcs
    exact ⟨[], 0, 0, rfl, fun h => absurd h (by simp), fun k h => absurd h (by simp)⟩
  · simp only [List.cons.injEq, Value.slice.injEq, and_true] at hcs
    obtain ⟨rfl, rfl, rfl⟩ := hcs
    have hnm : n ≤ m := by rw [hmm]; split <;> omega
    obtain ⟨b, off, spot⟩ := a
    have each : ∀ i, i < n → ∃ q : Ac, w.cell? (((⟨b, off, spot⟩ : Addr).add (i * 3)).add 0) = some (.int .u8 (q.d : Int)) ∧ w.cell? (((⟨b, off, spot⟩ : Addr).add (i * 3)).add 1) = some (.int .u8 (q.p : Int)) ∧ w.cell? (((⟨b, off, spot⟩ : Addr).add (i * 3)).add 2) = some (.int .i64 q.k) ∧ q.d ≤ 255 ∧ q.p ≤ 255 := by
      intro i hlt
      obtain ⟨cs', h1, h2⟩ := hi i (by omega)
      rw [cells31] at h1
      obtain ⟨_, hlen2, hcell⟩ := World.cells?_some h1
      obtain ⟨q, rfl, h3, h4⟩ := trod_ac h2
      exact ⟨q, hcell 0 (by omega), hcell 1 (by omega), hcell 2 (by omega), h3, h4⟩
    obtain ⟨q, hq⟩ := choose_lt each
    have hspot : 0 < n → spot = none ∧ b < w.heap.size := by
      intro hp
      obtain ⟨h0, _⟩ := hq 0 hp
      have hs := World.cell?_spot h0
      have hbl := World.block_lt_of_cell? w _ h0
      unfold Addr.add at hs hbl
      simp at hs hbl
      exact ⟨hs, hbl⟩
    refine ⟨(List.range n).map q, b, off, by simp, ?_, ?_⟩
    · intro hp
      have h1 := hspot (by simpa using hp)
      exact ⟨by rw [h1.1], h1.2⟩
    · intro k hk
      have hk' : k < n := by simpa using hk
      have hs := (hspot (by omega)).1
      subst hs
      obtain ⟨g0, g1, g2, h3, h4⟩ := hq k hk'
      rw [add_plain, add_plain] at g0 g1 g2
      simp only [List.getElem_map, List.getElem_range]
      exact ⟨by simpa using g0, by simpa [Nat.add_assoc] using g1, by simpa [Nat.add_assoc] using g2, h3, h4⟩
end
end Go.Proofs.YtpcmmejlmhbcdaaGreat
