/- A place's text, by definition, walked. -/
import Derived.Test.YtmflpjgedoopoaaDoorSH
import Derived.Test.YtmflpjgedoopoaaDoorSG
import Derived.Test.YtmflpjgedoopoaaDoorVF
namespace Go.Proofs.YtmflpjgedoopoaaDoor
open Go.RowKit

def pre (a b c d : Nat) : Nat → List UInt8
  | 0 => []
  | 1 => dg a
  | 2 => dg a ++ [46] ++ dg b
  | 3 => dg a ++ [46] ++ dg b ++ [46] ++ dg c
  | _ => dg a ++ [46] ++ dg b ++ [46] ++ dg c ++ [46] ++ dg d
theorem pre_len (a b c d k : Nat) (ha : a < 256) (hb : b < 256) (hc : c < 256) (hd : d < 256) : (pre a b c d k).length ≤ 90 := by
  have z0 := dg_len a (by omega)
  have z1 := dg_len b (by omega)
  have z2 := dg_len c (by omega)
  have z3 := dg_len d (by omega)
  unfold pre
  split <;> simp <;> omega
def sepd (a b c d : Nat) (k : Nat) : List UInt8 := if k = 0 then [] else pre a b c d k ++ [46]
theorem pre_next (a b c d k : Nat) (hk : k < 4) : pre a b c d (k + 1) = sepd a b c d k ++ dg (xv a b c d k) := by
  rcases (show k = 0 ∨ k = 1 ∨ k = 2 ∨ k = 3 by omega) with rfl | rfl | rfl | rfl <;> rfl
set_option maxRecDepth 1000000 in
set_option maxHeartbeats 4000000 in
theorem rtext_any (a b c d p : Nat) (ha : a < 256) (hb : b < 256) (hc : c < 256) (hd : d < 256) (hp : p < 65536) (w : World) :
    Calls Tryd.prog 34 #[plc a b c d p] w fun e w' => e = .returned (.string (str (textN a b c d p))) ∧ Below w.heap.size w w' := by
  have HX : Hid (∀ k, xv a b c d k < 256) := Lib.hid (fun k => by unfold xv; (repeat' split) <;> assumption)
  have HPL : Hid (∀ k, (pre a b c d k).length ≤ 90) := Lib.hid (fun k => pre_len a b c d k ha hb hc hd)
  have HB0 : Blk9 w.heap.size a b c d p (w.alloc (.cells #[.int .u8 a, .int .u8 b, .int .u8 c, .int .u8 d, .int .u16 p] 39)) := heap_alloc_new w _
  have HBB := Lib.hid HB0
  have HB1 : Hid (Below w.heap.size w (w.alloc (.cells #[.int .u8 a, .int .u8 b, .int .u8 c, .int .u8 d, .int .u16 p] 39))) := Lib.hid ((Below.refl _ _).alloc (Nat.le_refl _) _)
  have KP : Hid (∀ w1, Calls Tryd.prog 60 #[.int .u64 (IntKind.u64.wrap (p : Int))] w1 fun e w' => e = .returned (.string (str (dg p))) ∧ Below w1.heap.size w1 w') := Lib.hid (fun w1 => by
    rw [IntWalk.u64_in _ (by omega)]; exact W.rdigits_any p (by omega) w1)
  have hlp : (dg p).length ≤ 20 := dg_len p (by omega)
  have he : textN a b c d p = pre a b c d 4 ++ [58] ++ dg p := by unfold textN joinN pre; simp
  have HLP := Lib.hid hlp
  have hpw : IntKind.u64.wrap (p : Int) = (p : Int) := IntWalk.u64_in _ (by omega)
  rw [hpw] at KP
  have HE := Lib.hid he
  clear HB0 ha hb hc hd hlp he
  unfold plc
  go_enter Tryd.func34, Tryd.ntmps34
  go_wp2
  go_loopw [3, 4] (fun s i wr => ∃ k : Nat, k ≤ 4 ∧ s = .string (str (pre a b c d k)) ∧ i = .int .i64 k ∧ Blk9 w.heap.size a b c d p wr ∧ Below w.heap.size w wr) (fun _ i _ => 4 - (intOf i).toNat)
  case atStart => exact ⟨0, by omega, rfl, rfl, HBB.out, HB1.out⟩
  case round =>
    obtain ⟨k, hk, rfl, rfl, hblk, hbel⟩ := hrel
    by_cases hlt : k < 4
    · have hck : wr.cell? ⟨w.heap.size, k, none⟩ = some (.int .u8 (xv a b c d k)) := by
        obtain ⟨⟨c0, c1, c2, c3, _⟩, _⟩ := hblk.cells
        match k, hlt with
        | 0, _ => exact c0
        | 1, _ => exact c1
        | 2, _ => exact c2
        | 3, _ => exact c3
      have hu : (IntKind.u64.wrap ((xv a b c d k : Nat) : Int)) = ((xv a b c d k : Nat) : Int) := IntWalk.u64_in _ (by have := HX.out k; omega)
      have K1 : Hid (∀ w1, Calls Tryd.prog 60 #[.int .u64 (xv a b c d k)] w1 fun e w' => e = .returned (.string (str (dg (xv a b c d k)))) ∧ Below w1.heap.size w1 w') := Lib.hid (fun w1 => W.rdigits_any (xv a b c d k) (by have := HX.out k; omega) w1)
      have HK := Lib.hid hblk
      have HL := Lib.hid hbel
      clear hblk hbel
      have hl1 := HPL.out k
      have hl2 := dg_len (xv a b c d k) (by have := HX.out k; omega)
      have hA : ∀ w, (Op.stringOp .add (str (pre a b c d k)) ⟨#[46]⟩).run Tryd.prog w = .ok (.string (str (pre a b c d k ++ [46]))) w := fun w => W.run_str_add (pre a b c d k) [46] (by simp; omega) w
      have hB : ∀ w, (Op.stringOp .add (str (sepd a b c d k)) (str (dg (xv a b c d k)))).run Tryd.prog w = .ok (.string (str (pre a b c d (k + 1)))) w := fun w => by
        rw [pre_next a b c d k hlt]
        exact W.run_str_add (sepd a b c d k) (dg (xv a b c d k)) (by unfold sepd; split <;> simp <;> omega) w
      obtain ⟨N, hN⟩ : ∃ x, str (pre a b c d (k + 1)) = x := ⟨_, rfl⟩
      rw [hN] at hB
      have HN := Lib.hid hN
      clear hl1 hl2 hN
      by_cases h0 : k = 0
      · subst h0
        rw [show str (sepd a b c d 0) = str (pre a b c d 0) from rfl] at hB
        generalize str (pre a b c d 0) = S0 at *
        generalize str (dg (xv a b c d 0)) = D0 at *
        go_wp2_with fail
        refine (K1.out _).mono ?_
        rintro e w1 ⟨rfl, hb1⟩
        have HK1 := Lib.hid (HK.out.later (hb1.mono (Nat.le_refl _)))
        have HL1 := Lib.hid (HL.out.trans (hb1.mono HL.out.size))
        clear hb1
        go_wp2
        go_roundw
        case rel => exact ⟨1, by omega, by rw [HN.out], by go_num, HK1.out, HL1.out⟩
        case measure => simp [intOf]
      · rw [show str (sepd a b c d k) = str (pre a b c d k ++ [46]) by unfold sepd; rw [if_neg h0]] at hB
        generalize str (pre a b c d k ++ [46]) = S1 at *
        generalize str (pre a b c d k) = S0 at *
        generalize str (dg (xv a b c d k)) = D0 at *
        have hpos : 0 < k := by omega
        have hpos' : (0 : Int) < k := by omega
        have hpos2 : decide ((0 : Int) < (k : Int)) = true := decide_eq_true hpos'
        go_wp2_with fail
        refine (K1.out _).mono ?_
        rintro e w1 ⟨rfl, hb1⟩
        have HK1 := Lib.hid (HK.out.later (hb1.mono (Nat.le_refl _)))
        have HL1 := Lib.hid (HL.out.trans (hb1.mono HL.out.size))
        clear hb1
        go_wp2
        go_roundw
        case rel => exact ⟨k + 1, by omega, by rw [HN.out], by go_num, HK1.out, HL1.out⟩
        case measure => simp [intOf] <;> omega
    · obtain rfl : k = 4 := by omega
      have hl1 := HPL.out 4
      have hl2 := HLP.out
      have hA : ∀ w, (Op.stringOp .add (str (pre a b c d 4)) ⟨#[58]⟩).run Tryd.prog w = .ok (.string (str (pre a b c d 4 ++ [58]))) w := fun w => W.run_str_add (pre a b c d 4) [58] (by simp; omega) w
      have hB : ∀ w, (Op.stringOp .add (str (pre a b c d 4 ++ [58])) (str (dg p))).run Tryd.prog w = .ok (.string (str (textN a b c d p))) w := fun w => by
        rw [HE.out]
        exact W.run_str_add (pre a b c d 4 ++ [58]) (dg p) (by simp; omega) w
      obtain ⟨⟨c0, c1, c2, c3, c4⟩, _⟩ := hblk.cells
      have HL := Lib.hid hbel
      clear hbel hl1 hl2
      generalize str (pre a b c d 4 ++ [58]) = S1 at *
      generalize str (pre a b c d 4) = S0 at *
      generalize str (dg p) = D0 at *
      obtain ⟨Z, hZ⟩ : ∃ x, str (textN a b c d p) = x := ⟨_, rfl⟩
      rw [hZ] at hB
      have HZ := Lib.hid hZ
      clear hZ
      go_wp2_with fail
      first
        | refine (KP.out _).mono ?_
        | (rw [← hpw]; refine (KP.out _).mono ?_)
      rintro e w1 ⟨rfl, hb1⟩
      have HL1 := Lib.hid (HL.out.trans (hb1.mono HL.out.size))
      clear hb1
      go_wp2
      go_ret
      exact ⟨by rw [HZ.out]; rfl, HL1.out⟩
end Go.Proofs.YtmflpjgedoopoaaDoor
