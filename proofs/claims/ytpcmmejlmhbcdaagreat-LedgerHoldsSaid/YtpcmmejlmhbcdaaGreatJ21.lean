/- Walk of digest.rounds.; DERIVED: THE SHELF's CONTRACTS AT THIS DUMP, IN PLAIN WORDS (tools/lay-plain.mjs out of 'YtpcmmejlmhbcdaaGreatShelfR.lean', which tools/lay-shelf.mjs wrote): THE SAME DECLARATIONS UNDER THE SAME NAMES: 'import', 'namespace', 'open', 'def', 'theorem' AND NOTHING ELSE: no command of the shelf's: FOR A HAND-IN. Each laying: the table of numbers ('.._ren') and one theorem, a field a fact of the dump's own or the kernel's comparison; each contract: ONE APPLICATION.; Walk of word.Short.; Walks of awake, the document's Digits. -/
import Derived.Test.YtpcmmejlmhbcdaaGreatJ20
import Derived.Deep.RegionHeld3
import Derived.Shelf.Strings.Builder1
import Derived.Shelf.Strings.Builder2
import Derived.Shelf.Strings.OnBuilder
import Derived.Shelf.Strings.BuilderF
import Derived.Shelf.Strings.Prefix
import Derived.Shelf.Bits.Mul64
import Derived.Shelf.Strings.Repeat
import Derived.Test.YtpcmmejlmhbcdaaGreatProg
import Derived.Test.YtpcmmejlmhbcdaaGreatJ00
import Derived.Lib.Strings
set_option linter.unusedVariables false
set_option linter.unusedSimpArgs false
namespace Go.Proofs.YtpcmmejlmhbcdaaGreat.Dg
open Go.RowKit

theorem and_nat (a b : Nat) (ha : a < 4294967296) (hb : b < 4294967296) : bits BinOp.and IntKind.u32 (a : Int) (b : Int) = ((a &&& b : Nat) : Int) ∧ a &&& b < 4294967296 :=
  ⟨u32_and_nat a b ha hb, Nat.lt_of_le_of_lt Nat.and_le_left ha⟩
theorem not_nat (a : Nat) (ha : a < 4294967296) : bits BinOp.xor IntKind.u32 4294967295 (a : Int) = ((4294967295 ^^^ a : Nat) : Int) ∧ 4294967295 ^^^ a < 4294967296 :=
  ⟨u32_xor_nat 4294967295 a (by omega) ha, Nat.xor_lt_two_pow (n := 32) (by omega) ha⟩

theorem gen_wp {P : Program} {c : Code} {Q : Exit → Act → World → Prop} {a : Act} {wz : World} {S : World → Prop} (h : S wz) (k : ∀ wz, S wz → c.wp P Q a wz) : c.wp P Q a wz := k _ h
def zs8 : List Nat := List.replicate 8 0
theorem zs8_is : (#[.int .u32 0, .int .u32 0, .int .u32 0, .int .u32 0, .int .u32 0, .int .u32 0, .int .u32 0, .int .u32 0] : Array Value) = u32c zs8 := by kernel_rfl
/-- The four blocks that a call makes. -/
def RW (w : World) (W K l : List Nat) (wr : World) : Prop := UB w.heap.size 178 l wr ∧ UB (w.heap.size + 1) 176 W wr ∧ UB (w.heap.size + 1 + 1) 176 K wr ∧ UB (w.heap.size + 1 + 1 + 1) 178 zs8 wr ∧ Below w.heap.size w wr
section
variable {w wr w1 : World} {W K l : List Nat}
theorem RW.later (h : RW w W K l wr) (hb : Below wr.heap.size wr w1) : RW w W K l w1 :=
  ⟨h.1.later hb, h.2.1.later hb, h.2.2.1.later hb, h.2.2.2.1.later hb, h.2.2.2.2.trans (hb.mono h.2.2.2.2.size)⟩
theorem RW.drewN (h : RW w W K l wr) (n : Nat) : RW w W K l (wr.drewN n) :=
  ⟨h.1, h.2.1, h.2.2.1, h.2.2.2.1, ⟨h.2.2.2.2.os, h.2.2.2.2.tape, h.2.2.2.2.output, h.2.2.2.2.size, h.2.2.2.2.block⟩⟩
theorem RW.drew (h : RW w W K l wr) : RW w W K l wr.drew := ⟨h.1, h.2.1, h.2.2.1, h.2.2.2.1, ⟨h.2.2.2.2.os, h.2.2.2.2.tape, h.2.2.2.2.output, h.2.2.2.2.size, h.2.2.2.2.block⟩⟩
theorem RW.undrew (h : RW w W K l wr.drew) : RW w W K l wr := ⟨h.1, h.2.1, h.2.2.1, h.2.2.2.1, ⟨h.2.2.2.2.os, h.2.2.2.2.tape, h.2.2.2.2.output, h.2.2.2.2.size, h.2.2.2.2.block⟩⟩
theorem RW.alloc (h : RW w W K l wr) (o : Obj) : RW w W K l (wr.alloc o) := h.later ((Below.refl _ _).alloc (Nat.le_refl _) _)
theorem RW.copied {l2 : List Nat} (h : RW w W K l wr) (h1 : UB w.heap.size 178 l2 w1) (h2 : ∀ x, x ≠ w.heap.size → w1.heap[x]? = wr.heap[x]?) (h3 : w1.heap.size = wr.heap.size) (h4 : w1.os = wr.os) (h5 : w1.tape = wr.tape) (h6 : w1.output = wr.output) : RW w W K l2 w1 :=
  ⟨h1, (h2 _ (by omega)).trans h.2.1, (h2 _ (by omega)).trans h.2.2.1, (h2 _ (by omega)).trans h.2.2.2.1, ⟨h4.trans h.2.2.2.2.os, h5.trans h.2.2.2.2.tape, h6.trans h.2.2.2.2.output, by rw [h3]; exact h.2.2.2.2.size, fun b hb => (h2 b (by omega)).trans (h.2.2.2.2.block b hb)⟩⟩
theorem RW.put (h : RW w W K l wr) (j x : Nat) : RW w W K (l.set j x) (wr.setCell ⟨w.heap.size, j, none⟩ (.int .u32 (x : Int))) :=
  ⟨h.1.put j x, h.2.1.other _ (by simp), h.2.2.1.other _ (by show w.heap.size + 1 + 1 ≠ w.heap.size; omega), h.2.2.2.1.other _ (by show w.heap.size + 1 + 1 + 1 ≠ w.heap.size; omega), h.2.2.2.2.setCell (Nat.le_refl _) _⟩
end
theorem rw_start (w : World) (W K l : List Nat) : RW w W K l ((((w.alloc (.cells (u32c l) 178)).alloc (.cells (u32c W) 176)).alloc (.cells (u32c K) 176)).alloc (.cells (u32c zs8) 178)) := by
  have s1 : (w.alloc (.cells (u32c l) 178)).heap.size = w.heap.size + 1 := by simp
  have s2 : ((w.alloc (.cells (u32c l) 178)).alloc (.cells (u32c W) 176)).heap.size = w.heap.size + 1 + 1 := by simp
  have s3 : (((w.alloc (.cells (u32c l) 178)).alloc (.cells (u32c W) 176)).alloc (.cells (u32c K) 176)).heap.size = w.heap.size + 1 + 1 + 1 := by simp
  have u1 := ub_new w l 178
  have u2 := ub_new (w.alloc (.cells (u32c l) 178)) W 176
  have u3 := ub_new ((w.alloc (.cells (u32c l) 178)).alloc (.cells (u32c W) 176)) K 176
  have u4 := ub_new (((w.alloc (.cells (u32c l) 178)).alloc (.cells (u32c W) 176)).alloc (.cells (u32c K) 176)) zs8 178
  rw [s1] at u2
  rw [s2] at u3
  rw [s3] at u4
  have st : ∀ (wx : World) (o : Obj), Below wx.heap.size wx (wx.alloc o) := fun wx o => (Below.refl _ _).alloc (Nat.le_refl _) _
  exact ⟨((u1.later (st _ _)).later (st _ _)).later (st _ _), (u2.later (st _ _)).later (st _ _), u3.later (st _ _), u4, ((((Below.refl _ _).alloc (Nat.le_refl _) _).alloc (by simp) _).alloc (by simp; omega) _).alloc (by simp; omega) _⟩
theorem small_get {l : List Nat} (h : small l) (j : Nat) (hj : j < l.length) : l[j] < 4294967296 := h _ (List.getElem_mem hj)

set_option maxRecDepth 1000000 in
set_option maxHeartbeats 4000000 in
theorem rounds_any (l0 W K : List Nat) (h8 : l0.length = 8) (hs0 : small l0) (hW : W.length = 64) (hK : K.length = 64) (hsW : small W) (hsK : small K) (w : World) :
    Calls Tryz.prog 123 #[.agg (u32c l0), .agg (u32c W), .agg (u32c K)] w fun e w' => e = .returned (.agg (u32c (rds K W l0))) ∧ Below w.heap.size w w' := by
  obtain ⟨R, hR⟩ : ∃ R, rds K W l0 = R := ⟨_, rfl⟩
  rw [hR]
  have HR := Lib.hid hR
  have H8 := Lib.hid h8
  have HS0 := Lib.hid hs0
  have HW := Lib.hid hW
  have HK := Lib.hid hK
  have HSW := Lib.hid hsW
  have HSK := Lib.hid hsK
  clear hR h8 hs0 hW hK hsW hsK
  have RW0 := Lib.hid (rw_start w W K l0)
  go_enter Tryz.func123, Tryz.ntmps123
  go_wp2
  rw [zs8_is]
  generalize (((w.alloc (.cells (u32c l0) 178)).alloc (.cells (u32c W) 176)).alloc (.cells (u32c K) 176)).alloc (.cells (u32c zs8) 178) = W0 at *
  go_loopw [16] (fun i wr => ∃ (k : Nat) (l : List Nat), k ≤ 64 ∧ i = .int .i64 k ∧ Hid (RW w W K l wr) ∧ Hid (l.length = 8 ∧ small l) ∧ Hid (rds (K.drop k) (W.drop k) l = R)) (fun i _ => 64 - (intOf i).toNat)
  case atStart => exact ⟨0, l0, by omega, rfl, RW0, Lib.hid ⟨H8.out, HS0.out⟩, HR⟩
  case round =>
    obtain ⟨k, l, hk, rfl, hRW, hl, hD⟩ := hrel
    by_cases hlt : k < 64
    · have hkK : k < K.length := by rw [HK.out]; exact hlt
      have hkW : k < W.length := by rw [HW.out]; exact hlt
      have hd := hD.out
      rw [List.drop_eq_getElem_cons hkK, List.drop_eq_getElem_cons hkW] at hd
      have hd2 : rds (K.drop (k + 1)) (W.drop (k + 1)) (stp K[k] W[k] l) = R := hd
      have HD2 := Lib.hid hd2
      have HL2 := Lib.hid (stp_ok K[k] W[k] l hl.out.1 hl.out.2)
      obtain ⟨kx, hkx⟩ : ∃ x, K[k] = x := ⟨_, rfl⟩
      obtain ⟨wx, hwx⟩ : ∃ x, W[k] = x := ⟨_, rfl⟩
      have ck : ∀ wz, Hid (RW w W K l wz) → wz.cell? ⟨w.heap.size + 1 + 1, k, none⟩ = some (.int .u32 (kx : Int)) := fun wz h7 => by rw [h7.out.2.2.1.cell k hkK, hkx]
      have cw : ∀ wz, Hid (RW w W K l wz) → wz.cell? ⟨w.heap.size + 1, k, none⟩ = some (.int .u32 (wx : Int)) := fun wz h7 => by rw [h7.out.2.1.cell k hkW, hwx]
      have CK := Lib.hid ck
      have CW := Lib.hid cw
      rw [hkx, hwx] at HD2 HL2
      clear hd hd2 hD ck cw hkx hwx hkK hkW
      obtain ⟨a, b, c, d, e, f, g, h7, rfl⟩ : ∃ a b c d e f g h7, l = [a, b, c, d, e, f, g, h7] := by
        match l, hl.out.1 with
        | [a, b, c, d, e, f, g, h7], _ => exact ⟨a, b, c, d, e, f, g, h7, rfl⟩
      have ba : a < 4294967296 := hl.out.2 a (by simp)
      have bb : b < 4294967296 := hl.out.2 b (by simp)
      have bc : c < 4294967296 := hl.out.2 c (by simp)
      have be : e < 4294967296 := hl.out.2 e (by simp)
      have bf : f < 4294967296 := hl.out.2 f (by simp)
      have bg : g < 4294967296 := hl.out.2 g (by simp)
      obtain ⟨e1, b1⟩ := and_nat e f be bf
      obtain ⟨e2, b2⟩ := not_nat e be
      have e2m : bits BinOp.xor IntKind.u32 IntKind.u32.max (e : Int) = ((4294967295 ^^^ e : Nat) : Int) := e2
      obtain ⟨e3, b3⟩ := and_nat _ g b2 bg
      obtain ⟨e4, b4⟩ := xor_nat _ _ b1 b3
      obtain ⟨e5, b5⟩ := and_nat a b ba bb
      obtain ⟨e6, b6⟩ := and_nat a c ba bc
      obtain ⟨e7, b7⟩ := and_nat b c bb bc
      obtain ⟨e8, b8⟩ := xor_nat _ _ b5 b6
      obtain ⟨e9, b9⟩ := xor_nat _ _ b8 b7
      have KT1 : Hid (∀ q wz, wz.cell? ⟨q, 0, none⟩ = some (.int .i64 6) → wz.cell? ⟨q, 1, none⟩ = some (.int .i64 11) → wz.cell? ⟨q, 2, none⟩ = some (.int .i64 25) → Calls Tryz.prog 135 #[.int .u32 (e : Int), .slice (some ⟨q, 0, none⟩) 3 3] wz fun x w' => x = .returned (.int .u32 (bs1 e : Nat)) ∧ wz = w') := Lib.hid (fun q wz => turned3 e 6 11 25 be (by omega) (by omega) (by omega) q wz)
      have KT2 : Hid (∀ q wz, wz.cell? ⟨q, 0, none⟩ = some (.int .i64 2) → wz.cell? ⟨q, 1, none⟩ = some (.int .i64 13) → wz.cell? ⟨q, 2, none⟩ = some (.int .i64 22) → Calls Tryz.prog 135 #[.int .u32 (a : Int), .slice (some ⟨q, 0, none⟩) 3 3] wz fun x w' => x = .returned (.int .u32 (bs0 a : Nat)) ∧ wz = w') := Lib.hid (fun q wz => turned3 a 2 13 22 ba (by omega) (by omega) (by omega) q wz)
      have s1 := add_mod32 h7 (bs1 e)
      have s2 := add_mod32 ((h7 + bs1 e) % 4294967296) (chN e f g)
      have s3 := add_mod32 (((h7 + bs1 e) % 4294967296 + chN e f g) % 4294967296) kx
      have s4 := add_mod32 ((((h7 + bs1 e) % 4294967296 + chN e f g) % 4294967296 + kx) % 4294967296) wx
      have s5 := add_mod32 (bs0 a) (majN a b c)
      have s6 := add_mod32 (t1N e f g h7 kx wx) (t2N a b c)
      have s7 := add_mod32 d (t1N e f g h7 kx wx)
      have hch : ((e &&& f) ^^^ ((4294967295 ^^^ e) &&& g)) = chN e f g := rfl
      have hmj : ((a &&& b) ^^^ (a &&& c) ^^^ (b &&& c)) = majN a b c := rfl
      have ht1 : ((((h7 + bs1 e) % 4294967296 + chN e f g) % 4294967296 + kx) % 4294967296 + wx) % 4294967296 = t1N e f g h7 kx wx := rfl
      have ht2 : (bs0 a + majN a b c) % 4294967296 = t2N a b c := rfl
      have hstp : stp kx wx [a, b, c, d, e, f, g, h7] = [(t1N e f g h7 kx wx + t2N a b c) % 4294967296, a, b, c, (d + t1N e f g h7 kx wx) % 4294967296, e, f, g] := rfl
      rw [hstp] at HD2 HL2
      rw [hch] at e4
      rw [hmj] at e9
      rw [ht1] at s4
      rw [ht2] at s5
      clear hstp hch hmj ht1 ht2 b1 b2 b3 b4 b5 b6 b7 b8 b9 ba bb bc be bf bg hl
      generalize (t1N e f g h7 kx wx + t2N a b c) % 4294967296 = y0 at *
      generalize (d + t1N e f g h7 kx wx) % 4294967296 = y4 at *
      generalize t1N e f g h7 kx wx = t1 at *
      generalize t2N a b c = t2 at *
      generalize (((h7 + bs1 e) % 4294967296 + chN e f g) % 4294967296 + kx) % 4294967296 = n3 at *
      generalize ((h7 + bs1 e) % 4294967296 + chN e f g) % 4294967296 = n2 at *
      generalize (h7 + bs1 e) % 4294967296 = n1 at *
      generalize chN e f g = ch at *
      generalize majN a b c = mj at *
      generalize bs1 e = z1 at *
      generalize bs0 a = z0 at *
      generalize (a &&& b) ^^^ (a &&& c) = ab2 at *
      generalize (4294967295 ^^^ e) &&& g = ng at *
      generalize 4294967295 ^^^ e = ne at *
      generalize e &&& f = ef at *
      generalize a &&& b = ab at *
      generalize a &&& c = ac at *
      generalize b &&& c = bc at *
      have hk64 : (k : Int) < 64 := by omega
      have hk0 : (0 : Int) ≤ k := by omega
      have c0 := hRW.out.1.cell 0 (by show 0 < 8; omega)
      have c1 := hRW.out.1.cell 1 (by show 1 < 8; omega)
      have c2 := hRW.out.1.cell 2 (by show 2 < 8; omega)
      have c4 := hRW.out.1.cell 4 (by show 4 < 8; omega)
      have c5 := hRW.out.1.cell 5 (by show 5 < 8; omega)
      have c6 := hRW.out.1.cell 6 (by show 6 < 8; omega)
      replace c0 : wr.cell? ⟨w.heap.size, 0, none⟩ = some (.int .u32 (a : Int)) := c0
      replace c1 : wr.cell? ⟨w.heap.size, 1, none⟩ = some (.int .u32 (b : Int)) := c1
      replace c2 : wr.cell? ⟨w.heap.size, 2, none⟩ = some (.int .u32 (c : Int)) := c2
      replace c4 : wr.cell? ⟨w.heap.size, 4, none⟩ = some (.int .u32 (e : Int)) := c4
      replace c5 : wr.cell? ⟨w.heap.size, 5, none⟩ = some (.int .u32 (f : Int)) := c5
      replace c6 : wr.cell? ⟨w.heap.size, 6, none⟩ = some (.int .u32 (g : Int)) := c6
      go_wp2
      go_quiet (fail)
      simp only [Exit.then]
      apply_assumption
      clear c0 c1 c2 c4 c5 c6
      replace hRW := Lib.hid (hRW.out.drewN nq)
      generalize wr.drewN nq = W1 at *
      have mk : Hid (∀ wz, RW w W K [a, b, c, d, e, f, g, h7] wz → wz.cell? ⟨w.heap.size, 7, none⟩ = some (.int .u32 (h7 : Int)) ∧ wz.cell? ⟨w.heap.size + 1 + 1, k, none⟩ = some (.int .u32 (kx : Int)) ∧ wz.cell? ⟨w.heap.size + 1, k, none⟩ = some (.int .u32 (wx : Int)) ∧ Hid (RW w W K [a, b, c, d, e, f, g, h7] wz)) := Lib.hid (fun wz q => ⟨q.1.cell 7 (by show 7 < 8; omega), CK.out wz (Lib.hid q), CW.out wz (Lib.hid q), Lib.hid q⟩)
      have hst := Lib.hid (RW.drew hRW.out)
      apply wp_seq_k
      intro K5 hK5
      go_region_held3 (fun wz => wz.cell? ⟨w.heap.size, 7, none⟩ = some (.int .u32 (h7 : Int)) ∧ wz.cell? ⟨w.heap.size + 1 + 1, k, none⟩ = some (.int .u32 (kx : Int)) ∧ wz.cell? ⟨w.heap.size + 1, k, none⟩ = some (.int .u32 (wx : Int)) ∧ Hid (RW w W K [a, b, c, d, e, f, g, h7] wz))
          (first
            | exact mk.out _ hst.out
            | (refine mk.out _ (RW.drew (RW.alloc ?_ _)); go_split_ands; (first | (refine Hid.out ?_; assumption) | (refine RW.undrew (Hid.out ?_); assumption)))
            | (refine mk.out _ (RW.alloc ?_ _); go_split_ands; (first | (refine Hid.out ?_; assumption) | (refine RW.undrew (Hid.out ?_); assumption)))
            | (refine mk.out _ ?_; go_split_ands; (first | (refine Hid.out ?_; assumption) | (refine RW.undrew (Hid.out ?_); assumption)))
            | (refine mk.out _ (RW.drew ?_); go_split_ands; (first | (refine Hid.out ?_; assumption) | (refine RW.undrew (Hid.out ?_); assumption))))
          (first
            | (go_at_call 135; ((with_reducible refine (KT1.out _ _ ?_ ?_ ?_).mono ?_); (simp [go_sem]); (simp [go_sem]); (simp [go_sem]); rintro e w1 ⟨rfl, rfl⟩)))
      simp only [Exit.then]
      apply hK5
      refine gen_wp (S := fun wz => Hid (RW w W K [a, b, c, d, e, f, g, h7] wz)) (Lib.hid (RW.drew (RW.alloc hRW.out _))) ?_
      intro W5 hRW5
      clear mk hst hK5 hRW e1 e2 e2m e3 e4 s1 s2 s3 s4 KT1 CK CW
      go_upto_region 7 with (first | (go_at_call 135; ((with_reducible refine (KT2.out _ _ ?_ ?_ ?_).mono ?_); (simp [go_sem]); (simp [go_sem]); (simp [go_sem]); rintro e w1 ⟨rfl, rfl⟩)))
      refine gen_wp (S := fun wz => Hid (RW w W K [a, b, c, d, e, f, g, h7] wz)) (Lib.hid (RW.alloc hRW5.out _)) ?_
      intro W6 hRW6
      clear hRW5 e5 e6 e7 e8 e9 s5 KT2
      obtain ⟨W7, hcp, r1, r2, r3, r4, r5, r6⟩ := rounds_copy w.heap.size a b c d e f g h7 W6.drew (RW.drew hRW6.out).1 3
      have hRW7 := Lib.hid ((RW.drew hRW6.out).copied r1 r2 r3 r4 r5 r6)
      have c0 := hRW7.out.1.cell 0 (by show 0 < 8; omega)
      have c4 := hRW7.out.1.cell 4 (by show 4 < 8; omega)
      replace c0 : W7.cell? ⟨w.heap.size, 0, none⟩ = some (.int .u32 (a : Int)) := c0
      replace c4 : W7.cell? ⟨w.heap.size, 4, none⟩ = some (.int .u32 (d : Int)) := c4
      have f0 := hRW7.out.1.frozen 0
      have f4 := hRW7.out.1.frozen 4
      have HEND := Lib.hid ((hRW7.out.put 0 y0).put 4 y4)
      clear r1 r2 r3 r4 r5 r6 hRW6 hRW7
      go_region_held3 (fun _ => True) (first | exact True.intro) (first | fail)
      simp only [Exit.then]
      apply_assumption
      go_wp2
      go_roundw
      case rel => exact ⟨k + 1, _, by omega, by go_num, HEND, HL2, HD2⟩
      case measure => simp [intOf]; omega
    · obtain rfl : k = 64 := by omega
      have hd := hD.out
      rw [List.drop_of_length_le (by rw [HK.out]; omega), List.drop_of_length_le (by rw [HW.out]; omega)] at hd
      obtain rfl : l = R := hd
      have hU := Lib.hid hRW.out.1
      have hZ := Lib.hid hRW.out.2.2.2.1
      have HB3 := Lib.hid (below_row hRW.out.2.2.2.2 (show w.heap.size ≤ w.heap.size + 1 + 1 + 1 by omega) (u32c l))
      have HU3 := Lib.hid (hZ.out.row l)
      have hln : (Tryz.prog.info? 178).map (·.size) = some l.length := by rw [hl.out.1]; kernel_rfl
      have HLN := Lib.hid hln
      have HLL : Hid (zs8.length = l.length) := Lib.hid (by rw [hl.out.1]; rfl)
      clear hlt hln hRW
      go_wp2_with (first
        | (refine wpList_load_ub rfl 178 (.tmp 3) rfl hU.out Tryz.underlying178 HLN.out rfl ?_)
        | (refine wpList_store_ub rfl 178 (.tmp 6) (.tmp 82) rfl hZ.out (l2 := l) HLN.out HLL.out rfl rfl ?_))
      refine bodyPost_ret (v := .agg (u32c l)) ?_ rfl ⟨rfl, HB3.out⟩
      exact results_cell_row rfl _ _ (w.heap.size + 1 + 1 + 1) 178 (u32c l) (0, 0) _ rfl HU3.out Tryz.underlying178 rfl (by rw [u32c_size]; exact HLN.out)
end Go.Proofs.YtpcmmejlmhbcdaaGreat.Dg

namespace Go.Proofs
open Go.Shelf
def Tryz.lays105_ren : Go.Shelf.Ren := ⟨fun | 105 => 129 | 212 => 148 | 99 => 116 | 165 => 130 | 166 => 131 | 170 => 149 | 169 => 132 | 263 => 161 | 264 => 162 | 206 => 128 | 240 => 150 | 241 => 151 | 276 => 163 | 277 => 164 | n => n, fun | 9 => 9 | 3 => 3 | 4 => 4 | 20 => 20 | 0 => 0 | 46 => 138 | 109 => 208 | 5 => 5 | 72 => 188 | 76 => 191 | 51 => 175 | 146 => 220 | 53 => 78 | 148 => 222 | 70 => 186 | 37 => 117 | 75 => 190 | 127 => 173 | 164 => 224 | 80 => 45 | n => n, fun | n => n⟩
theorem Tryz.lays105 : Go.Proofs.Lays.n105 Tryz.prog Tryz.lays105_ren := {
  mixed := by kernel_rfl
  f99 := Tryz.func116.trans (congrArg some (by kernel_rfl))
  f105 := Tryz.func129.trans (congrArg some (by kernel_rfl))
  f165 := Tryz.func130.trans (congrArg some (by kernel_rfl))
  f166 := Tryz.func131.trans (congrArg some (by kernel_rfl))
  f169 := Tryz.func132.trans (congrArg some (by kernel_rfl))
  f170 := Tryz.func149.trans (congrArg some (by kernel_rfl))
  f206 := Tryz.func128.trans (congrArg some (by kernel_rfl))
  f212 := Tryz.func148.trans (congrArg some (by kernel_rfl))
  f240 := Tryz.func150.trans (congrArg some (by kernel_rfl))
  f241 := Tryz.func151.trans (congrArg some (by kernel_rfl))
  f263 := Tryz.func161.trans (congrArg some (by kernel_rfl))
  f264 := Tryz.func162.trans (congrArg some (by kernel_rfl))
  f276 := Tryz.func163.trans (congrArg some (by kernel_rfl))
  f277 := Tryz.func164.trans (congrArg some (by kernel_rfl))
  t0 := Tryz.underlying0
  a0 := Tryz.isAgg0
  z0 := Tryz.sizeOf0
  v0 := Tryz.zeroValue0
  t3 := Tryz.underlying3
  a3 := Tryz.isAgg3
  z3 := Tryz.sizeOf3
  v3 := Tryz.zeroValue3
  t4 := Tryz.underlying4
  a4 := Tryz.isAgg4
  z4 := Tryz.sizeOf4
  v4 := Tryz.zeroValue4
  t5 := Tryz.underlying5
  a5 := Tryz.isAgg5
  z5 := Tryz.sizeOf5
  v5 := Tryz.zeroValue5
  t9 := Tryz.underlying9
  a9 := Tryz.isAgg9
  z9 := Tryz.sizeOf9
  v9 := Tryz.zeroValue9
  t20 := Tryz.underlying20
  a20 := Tryz.isAgg20
  z20 := Tryz.sizeOf20
  v20 := Tryz.zeroValue20
  t37 := Tryz.underlying117
  a37 := Tryz.isAgg117
  z37 := Tryz.sizeOf117
  v37 := Tryz.zeroValue117
  t46 := Tryz.underlying138
  a46 := Tryz.isAgg138
  z46 := Tryz.sizeOf138
  v46 := Tryz.zeroValue138
  t51 := Tryz.underlying175
  a51 := Tryz.isAgg175
  z51 := Tryz.sizeOf175
  v51 := Tryz.zeroValue175
  t53 := Tryz.underlying78
  a53 := Tryz.isAgg78
  z53 := Tryz.sizeOf78
  v53 := Tryz.zeroValue78
  t70 := Tryz.underlying186
  a70 := Tryz.isAgg186
  z70 := Tryz.sizeOf186
  v70 := Tryz.zeroValue186
  t72 := Tryz.underlying188
  a72 := Tryz.isAgg188
  z72 := Tryz.sizeOf188
  v72 := Tryz.zeroValue188
  t75 := Tryz.underlying190
  a75 := Tryz.isAgg190
  z75 := Tryz.sizeOf190
  v75 := Tryz.zeroValue190
  t76 := Tryz.underlying191
  a76 := Tryz.isAgg191
  z76 := Tryz.sizeOf191
  v76 := Tryz.zeroValue191
  t109 := Tryz.underlying208
  a109 := Tryz.isAgg208
  z109 := Tryz.sizeOf208
  v109 := Tryz.zeroValue208
  t127 := Tryz.underlying173
  a127 := Tryz.isAgg173
  z127 := Tryz.sizeOf173
  v127 := Tryz.zeroValue173
  t146 := Tryz.underlying220
  a146 := Tryz.isAgg220
  z146 := Tryz.sizeOf220
  v146 := Tryz.zeroValue220
  t148 := Tryz.underlying222
  a148 := Tryz.isAgg222
  z148 := Tryz.sizeOf222
  v148 := Tryz.zeroValue222
  t164 := Tryz.underlying224
  a164 := Tryz.isAgg224
  z164 := Tryz.sizeOf224
  v164 := Tryz.zeroValue224 }
theorem Tryz.Builder_Extra_105 : Builder.Extra Tryz.prog Tryz.lays105_ren := {
  sizeBuilder := by kernel_rfl
  liesBuilder := by kernel_rfl
  t5 := Tryz.underlying5
  a5 := Tryz.isAgg5
  z5 := Tryz.sizeOf5
  v5 := Tryz.zeroValue5
  infoByte := by kernel_rfl
  cellsByte := by kernel_rfl
  sizeByte := by kernel_rfl
  neB5 := by decide }
open Go.RowKit Go.Lib in
/-- THE MAIN CASE: at least two copies of a string that is not empty. (LAID: no walk: one application.) -/
theorem Tryz.strings_Repeat_main (s : ByteArray) (c : Nat) (w : World) (hc2 : 2 ≤ c) (hc : c ≤ 9223372036854775807) (hlen : s.size * c ≤ 140737488355328) (h0 : 0 < s.size) :
    Calls Tryz.prog 129 #[.string s, .int .i64 c] w fun e w' => e = .returned (.string ⟨(Lib.repeatL s.data.toList c).toArray⟩) ∧ Below w.heap.size w w' := Any.strings_Repeat_main Tryz.lays105 Tryz.Builder_Extra_105 s c w hc2 hc hlen h0
open Go.RowKit Go.Lib in
theorem Tryz.strings_Repeat_zero (s : ByteArray) (w : World) :
    Calls Tryz.prog 129 #[.string s, .int .i64 0] w fun e w' => e = .returned (.string ⟨#[]⟩) ∧ w' = w := Any.strings_Repeat_zero Tryz.lays105 s w
open Go.RowKit Go.Lib in
theorem Tryz.strings_Repeat_one (s : ByteArray) (w : World) :
    Calls Tryz.prog 129 #[.string s, .int .i64 1] w fun e w' => e = .returned (.string s) ∧ w' = w := Any.strings_Repeat_one Tryz.lays105 s w
open Go.RowKit Go.Lib in
/-- Copies of the empty string. (LAID: no walk: one application.) -/
theorem Tryz.strings_Repeat_empty (s : ByteArray) (c : Nat) (w : World) (hc2 : 2 ≤ c) (hc : c ≤ 9223372036854775807) (h0 : s.size = 0) :
    Calls Tryz.prog 129 #[.string s, .int .i64 c] w fun e w' => e = .returned (.string ⟨#[]⟩) ∧ w' = w := Any.strings_Repeat_empty Tryz.lays105 s c w hc2 hc h0
open Go.RowKit Go.Lib in
/-- **strings.Repeat: count ≥ 0, the result within one allocation: count copies of s.** (LAID: no walk: one application.) -/
theorem Tryz.strings_Repeat (s : ByteArray) (c : Nat) (w : World) (hc : c ≤ 9223372036854775807) (hlen : s.size * c ≤ 140737488355328) :
    Calls Tryz.prog 129 #[.string s, .int .i64 c] w fun e w' => e = .returned (.string ⟨(Lib.repeatL s.data.toList c).toArray⟩) ∧ Below w.heap.size w w' := Any.strings_Repeat Tryz.lays105 Tryz.Builder_Extra_105 s c w hc hlen
end Go.Proofs

namespace Go.Proofs.YtpcmmejlmhbcdaaGreat.W
open Go.RowKit

theorem sh_more (m : Nat) (h : 127 < m) : sh m = UInt8.ofNat (m % 128 + 128) :: sh (m / 128) := by rw [sh, dif_pos h]
theorem sh_last (m : Nat) (h : ¬ 127 < m) : sh m = [UInt8.ofNat m] := by rw [sh, dif_neg h]
theorem sh_pos (m : Nat) : 1 ≤ (sh m).length := by rw [sh]; split <;> simp
theorem sh_len (k : Nat) : ∀ m, m < 128 ^ (k + 1) → (sh m).length ≤ k + 1 := by
  induction k with
  | zero => intro m hm; rw [sh_last m (by omega)]; simp
  | succ k ih =>
    intro m hm
    by_cases h : 127 < m
    · rw [sh_more m h]
      have := ih (m / 128) (by rw [Nat.pow_succ] at hm; omega)
      simp; omega
    · rw [sh_last m h]; simp
theorem sh_ten (n : Nat) (hn : n ≤ 18446744073709551615) : (sh n).length ≤ 10 := sh_len 9 n (by omega)

/-- What holds at each jump back. -/
def ShortJ (n : Nat) (w : World) (a' : Act) (w' : World) : Prop :=
  Below w.heap.size w w' ∧ ∃ (m k : Nat) (acc : List UInt8) (v u4 u5 u6 u7 u8 u9 u10 u11 u12 u13 u14 u15 u16 u17 u18 u19 u20 u1 u2 : Value), a' = { tmps := #[.int .u64 m, u1, u2, v, u4, u5, u6, u7, u8, u9, u10, u11, u12, u13, u14, u15, u16, u17, u18, u19, u20], defers := [] } ∧ m ≤ n ∧ acc ++ sh m = sh n ∧ w'.ownsRow w.heap.size 5 1 v k (bcells acc)

theorem bit7 (m : Nat) (h : m ≤ 18446744073709551615) : bits BinOp.and IntKind.u64 (m : Int) 127 = ((m % 128 : Nat) : Int) := by
  have := u64_and_nat m 127 (by omega) (by omega)
  rw [nat_mask7] at this
  exact this

set_option maxRecDepth 1000000 in
theorem short_any (n : Nat) (hn : n ≤ 18446744073709551615) (w : World) :
    Calls Tryz.prog 94 #[.int .u64 n] w fun e w' => e = .returned (.string (str (sh n))) ∧ Below w.heap.size w w' := by
  have HN := Lib.hid hn
  clear hn
  go_enter Tryz.func94, Tryz.ntmps94
  go_wp2
  refine wp_scope_jumps 0 (ShortJ n w) (fun a' _ => (intOf (a'.tmps.getD 0 undef)).toNat) rfl ?_ ?_
  · have hown := World.ownsRow_nil w w.heap.size 5 1
    have hbit := bit7 n HN.out
    obtain ⟨r, hr⟩ : ∃ r, r = n % 128 := ⟨_, rfl⟩
    rw [← hr] at hbit
    have hr2 : r ≤ 127 := by omega
    have HR := Lib.hid hr
    clear hr
    by_cases hm : 127 < n
    · go_wp2
      go_step3
      go_wp2_with (first
        | (at_builtin; go_must (refine wpList_append_byte w rfl (.tmp 6) (.tmp 11) rfl w.heap.size (.slice none 0 0) 0 [] rfl hown _ (r + 128) (by omega) (by omega) rfl (by omega) (by omega) ?_); intro v1 w1 hown1 hb1))
      go_step3
      refine ⟨rfl, hb1, n / 128, 0 + 1, _, v1, _, _, _, _, _, _, _, _, _, _, _, _, _, _, _, _, _, _, _, rfl, ?_, ?_, hown1⟩
      · omega
      · rw [sh_more n hm, HR.out]; rfl
    · go_wp2
      go_step3
      go_wp2_with (first
        | (at_builtin; go_must (refine wpList_append_byte w rfl (.tmp 15) (.tmp 18) rfl w.heap.size (.slice none 0 0) 0 [] rfl hown _ n (by omega) (by omega) rfl (by omega) (by omega) ?_); intro v1 w1 hown1 hb1; have hcv := own_string hown1))
      simp only [Exit.jump]
      go_ret
      refine ⟨?_, hb1⟩
      rw [sh_last n hm]; rfl
  · rintro a' w' ⟨hb, m, k, acc, v, u4, u5, u6, u7, u8, u9, u10, u11, u12, u13, u14, u15, u16, u17, u18, u19, u20, u1, u2, rfl, hmn, hacc, hown⟩
    have hk : k ≤ 9 := by
      have h1 := congrArg List.length hacc
      have h2 := sh_pos m
      have h3 := sh_ten n HN.out
      have h4 := hown.1
      simp [bcells] at h1 h4
      omega
    have hbs := hb.size
    have hbit := bit7 m (by have := HN.out; omega)
    obtain ⟨r, hr⟩ : ∃ r, r = m % 128 := ⟨_, rfl⟩
    rw [← hr] at hbit
    have hr2 : r ≤ 127 := by omega
    have HR := Lib.hid hr
    have HA := Lib.hid hacc
    have HM := Lib.hid hmn
    clear hmn hacc hr
    by_cases hm : 127 < m
    · go_wp2_with (first
        | (at_builtin; go_must (refine wpList_append_byte w' rfl (.tmp 6) (.tmp 11) rfl w.heap.size v k acc rfl hown _ (r + 128) (by omega) (by omega) rfl (by omega) (by omega) ?_); intro v1 w1 hown1 hb1))
      go_step3
      refine ⟨rfl, ⟨hb.trans hb1, m / 128, k + 1, _, v1, _, _, _, _, _, _, _, _, _, _, _, _, _, _, _, _, _, _, _, rfl, ?_, ?_, hown1⟩, ?_⟩
      · have := HM.out; omega
      · rw [← HA.out, sh_more m hm, HR.out]; simp
      · simp [intOf]; omega
    · go_wp2_with (first
        | (at_builtin; go_must (refine wpList_append_byte w' rfl (.tmp 15) (.tmp 18) rfl w.heap.size v k acc rfl hown _ m (by omega) (by omega) rfl (by omega) (by omega) ?_); intro v1 w1 hown1 hb1; have hcv := own_string hown1))
      simp only [Exit.jump]
      go_ret
      refine ⟨?_, hb.trans hb1⟩
      rw [← HA.out, sh_last m hm]; rfl
end Go.Proofs.YtpcmmejlmhbcdaaGreat.W

namespace Go.Proofs.YtpcmmejlmhbcdaaGreat.W
open Go.RowKit

theorem toList_str (l : List UInt8) : (str l).toList = l := ByteArray.toList_mk l
theorem awake_any (w : World) : Calls Tryz.prog 107 #[] w fun e w' => e = .returned (.bool true) ∧ Below w.heap.size w w' := by
  have h1 : (str (sh 300)).toList = [172, 2] := by
    rw [toList_str, sh_more 300 (by omega), sh_last _ (by omega)]
    rfl
  have h2 : ((str (be 258 (clip 2))).toList == [1, 2]) = true := by
    rw [toList_str]
    rfl
  go_enter Tryz.func107, Tryz.ntmps107
  go_wp2_with (first
    | (go_at_call 94; go_must (refine (short_any 300 (by omega) _).mono ?_); rintro e w1 ⟨rfl, hb1⟩)
    | (go_at_call 93; go_must (refine (put_any 258 2 (by omega) _).mono ?_); rintro e w2 ⟨rfl, hb2⟩))
  go_ret
  exact ⟨rfl, hb1.trans (hb2.mono hb1.size)⟩

/-- 'string([]byte{c})' of a slice just laid. -/
theorem run_one_byte (W : World) (c : Int) (n : Nat) (hc : c = (n : Int)) (hn : n < 256) :
    (convert 117 9 (.slice (some ⟨W.heap.size, 0, none⟩) 1 1)).run Tryz.prog (W.alloc (.cells #[.int .u8 c] 5)) = .ok (.string (str [UInt8.ofNat n])) (W.alloc (.cells #[.int .u8 c] 5)) := by
  subst hc
  refine run_convert_bytes_back (P := Tryz.prog) (W.alloc (.cells #[.int .u8 (n : Int)] 5)) 117 9 5 ⟨W.heap.size, 0, none⟩ 1 [UInt8.ofNat n] Tryz.underlying117 Tryz.underlying5 Tryz.underlying9 ?_
  intro j hj
  match j, hj with
  | 0, _ => simp [Addr.add, Nat.mod_eq_of_lt hn]
theorem str_append (a b : List UInt8) : str a ++ str b = str (a ++ b) := by
  apply ByteArray.ext
  simp [str]
theorem size_str (a : List UInt8) : (str a).size = a.length := by simp [str, ByteArray.size]
theorem run_str_add (a b : List UInt8) (h : a.length + b.length ≤ 1000000000) (W : World) : (Op.stringOp .add (str a) (str b)).run Tryz.prog W = .ok (.string (str (a ++ b))) W := by
  rw [run_string_add_sum W (str a) (str b) (by rw [size_str, size_str]; omega), str_append]

end Go.Proofs.YtpcmmejlmhbcdaaGreat.W
