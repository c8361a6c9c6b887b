/- The law: what is sure lasts.; The law DiskLasts where its arguments are too long. -/
import Derived.Test.YtjkpopdjmmgbbaaJ11
set_option linter.unusedVariables false
set_option linter.unusedSimpArgs false
namespace Go.Proofs.Ytjkpopdjmmgbbaa
open Go.RowKit Go.Maps Go.Sort

def sureN : ByteArray := ⟨#[115, 117, 114, 101]⟩
theorem sure_lit : sureN = ⟨#[115, 117, 114, 101]⟩ := rfl
/-- The first three acts: a file is sure. -/
theorem k7 (w : World) (wy : World) (hb : Below w.heap.size w wy) : Calls Try.prog 7 #[.int .i64 65536] wy fun e w' => ∃ D, e = .returned (.tuple #[.pointer (some ⟨D, 0, none⟩), .int .i64 0]) ∧ Hid (Dz w.heap.size w' D 0 (St.fresh 65536)) ∧ Hid (Below w.heap.size w w') :=
  (Dz.new 65536 (by omega) wy).mono fun e w' ⟨D, he, ⟨K, g, h1, h2, h3⟩, hb'⟩ => ⟨D, he, Lib.hid ⟨K, g, h1, fun b hb2 => Nat.le_trans hb.size (h2 b hb2), h3⟩, Lib.hid (hb.trans (hb'.mono hb.size))⟩
theorem k8 (w : World) (text : ByteArray) (ht : text.size ≤ 3000) (w1 : World) (D : Nat) (h : Dz w.heap.size w1 D 0 (St.fresh 65536)) (hb : Below w.heap.size w w1) : Calls Try.prog 8 #[.pointer (some ⟨D, 0, none⟩), .string ⟨#[115, 117, 114, 101]⟩, .string text] w1 fun e w' => e = .returned (.int .i64 0) ∧ (∃ c, Hid (Dz w.heap.size w' D 1 (stA 65536 sureN text c))) ∧ Hid (Below w.heap.size w w') :=
  (h.write (by omega) (by show 0 < 1000000000; omega) (by show 0 + 1 ≤ 1000000; omega) sureN text (by decide) (by omega)).mono fun e w' ⟨he, ⟨nf, _, hd⟩, hb'⟩ => by
    obtain ⟨e1, e2⟩ := write_fresh 65536 sureN text rfl (by omega) nf
    rw [e1] at he
    rw [e2] at hd
    exact ⟨he, ⟨nf, Lib.hid hd⟩, Lib.hid (hb.trans hb')⟩
theorem k9 (w : World) (text : ByteArray) (w1 : World) (D c : Nat) (h : Dz w.heap.size w1 D 1 (stA 65536 sureN text c)) (hb : Below w.heap.size w w1) : Calls Try.prog 9 #[.pointer (some ⟨D, 0, none⟩), .string ⟨#[115, 117, 114, 101]⟩] w1 fun e w' => e = .returned (.int .i64 0) ∧ Hid (Dz w.heap.size w' D 1 (stB 65536 sureN text c)) ∧ Hid (Below w.heap.size w w') :=
  (h.sync (by show 1 < 1000000000; omega) sureN (by decide)).mono fun e w' ⟨he, hd, hb'⟩ => by
    obtain ⟨e1, e2⟩ := sync_fresh 65536 sureN text c
    rw [e1] at he
    rw [e2] at hd
    exact ⟨he, Lib.hid hd, Lib.hid (hb.trans hb')⟩
theorem k10 (w : World) (text : ByteArray) (w1 : World) (D c : Nat) (h : Dz w.heap.size w1 D 1 (stB 65536 sureN text c)) (hb : Below w.heap.size w w1) : Calls Try.prog 10 #[.pointer (some ⟨D, 0, none⟩)] w1 fun e w' => e = .returned (.int .i64 0) ∧ Hid (Gd w.heap.size w' D c sureN text 3) ∧ Hid (Below w.heap.size w w') :=
  (h.dir (by show 2 < 1000000000; omega)).mono fun e w' ⟨he, ⟨K, g, h1, h2, h3⟩, hb'⟩ => by
    obtain ⟨e1, e2⟩ := sd_fresh 65536 sureN text c
    rw [e1] at he
    rw [e2] at h1
    exact ⟨he, Lib.hid ⟨K, g, _, h1, h2, las_fresh 65536 sureN text c, by omega, by show 0 ≤ 3; omega, by show 3 ≤ 3; omega, by omega⟩, Lib.hid (hb.trans hb')⟩
/-- What an act is to the loop. -/
def OkA (a t : ByteArray) (n1 n2 : Nat) : Prop := a.size ≤ 60 ∧ t.size ≤ 60 ∧ n1 ≤ 60 ∧ n2 ≤ 60 ∧ a ≠ sureN ∧ t ≠ sureN
theorem str_ne {a : ByteArray} (h : a ≠ sureN) : (a.toList == [115, 117, 114, 101]) = false := by
  rw [beq_eq_false_iff_ne]
  intro e
  rw [Lib.toList_data] at e
  exact h (ByteArray.ext (Array.ext' e))
theorem str_is {a : ByteArray} (h : a = sureN) : (a.toList == [115, 117, 114, 101]) = true := by
  rw [h, beq_iff_eq, Lib.toList_data]
  rfl
theorem chain {w wr w6 : World} {o : Obj} (h : Hid (Below w.heap.size w wr)) (h6 : Hid (Below (wr.alloc o).heap.size (wr.alloc o) w6)) : Hid (Below wr.heap.size wr w6) ∧ Hid (Below w.heap.size w w6) := by
  have h1 : Below wr.heap.size wr w6 := (alloc_below wr o).trans (h6.out.mono (Nat.le_of_lt (alloc_lt wr o)))
  exact ⟨Lib.hid h1, Lib.hid (h.out.trans (h1.mono h.out.size))⟩
theorem Gd.le {B : Nat} {w : World} {D c : Nat} {s text : ByteArray} {k : Nat} (h : Gd B w D c s text k) (k' : Nat) (h1 : k ≤ k') (h2 : k' ≤ 100) : Gd B w D c s text k' := by
  obtain ⟨K, g, st, a1, a2, a3, a4, a5, a6, a7⟩ := h
  exact ⟨K, g, st, a1, a2, a3, by omega, by omega, by omega, h2⟩
def Fin (w : World) (D c : Nat) (text : ByteArray) : Prop := ∃ (K : Nat → Prop) (g : Gh) (st : St), DW w K D g st ∧ Las st c sureN text ∧ st.P = [] ∧ st.down = false
theorem fin_read {w : World} {D c : Nat} {text : ByteArray} (h : Fin w D c text) : Calls Try.prog 17 #[.pointer (some ⟨D, 0, none⟩), .string ⟨#[115, 117, 114, 101]⟩] w fun e w' => e = .returned (.tuple #[.string text, .int .i64 0]) ∧ Hid (Fin w' D c text) ∧ Hid (Below w.heap.size w w') := by
  obtain ⟨K, g, st, h1, h2, h3, h4⟩ := h
  refine (read_any h1 sureN (by decide)).mono fun e w' ⟨he, hb⟩ => ?_
  have hf : findE st sureN = 0 := by unfold findE; rw [if_neg (by rw [h4]; simp), if_pos (show hasN st.N sureN = true from h2.n.1)]
  have hr : readS st sureN = text := by unfold readS; rw [if_pos hf, at_of_leads h2.n, h2.f]
  rw [hf, hr] at he
  exact ⟨he, Lib.hid ⟨K, g, st, h1.later hb, h2, h3, h4⟩, Lib.hid hb⟩
theorem fin_pending {w : World} {D c : Nat} {text : ByteArray} (h : Fin w D c text) : Calls Try.prog 18 #[.pointer (some ⟨D, 0, none⟩)] w fun e w' => e = .returned (.int .i64 0) ∧ w' = w := by
  obtain ⟨K, g, st, h1, h2, h3, h4⟩ := h
  refine (pending_any h1).mono fun e w' ⟨he, hw⟩ => ⟨by rw [he, h3]; rfl, hw⟩
def OpH (B D c : Nat) (text : ByteArray) (k : Nat) (w : World) (w' : World) : Prop := Hid (Gd B w' D c sureN text (k + 1)) ∧ Hid (Below B w w')
theorem opq {B D c : Nat} {text : ByteArray} {k : Nat} {w : World} {e : Ending} {w' : World} (h : OpQ B D c sureN text k w e w') : (∃ n : Nat, e = .returned (.int .i64 (n : Int))) ∧ Hid (Gd B w' D c sureN text (k + 1)) ∧ Hid (Below B w w') := ⟨h.1, Lib.hid h.2.1, Lib.hid h.2.2⟩
set_option maxRecDepth 100000 in
set_option maxHeartbeats 8000000 in
theorem lasts_any (text : ByteArray) (htl : text.size ≤ 3000) (l : List Ac) (hll : l.length ≤ 30) (oa : Option Addr) (cap b off : Nat) (w : World) (ho : 0 < l.length → oa = some ⟨b, off, none⟩ ∧ b < w.heap.size) (hin : AcsIn w b off l)
    (ns : List Bool) (o1 : Option Addr) (cap1 b1 off1 : Nat) (h1 : 0 < ns.length → o1 = some ⟨b1, off1, none⟩ ∧ b1 < w.heap.size) (h1b : BoolsIn w ns b1 off1)
    (ss : List Nat) (o2 : Option Addr) (cap2 b2 off2 : Nat) (h2 : 0 < ss.length → o2 = some ⟨b2, off2, none⟩ ∧ b2 < w.heap.size) (h2b : U64sIn w ss b2 off2) :
    Calls Try.prog 3 #[.string text, .slice oa l.length cap, .slice o1 ns.length cap1, .slice o2 ss.length cap2] w fun e w' => e = .returned (.bool true) ∧ Below w.heap.size w w' := by
  have K6 := Lib.hid (awake_any w)
  have K7 := Lib.hid (k7 w)
  have K8 := Lib.hid (k8 w text htl)
  have K9 := Lib.hid (k9 w text)
  have K10 := Lib.hid (k10 w text)
  obtain ⟨m, hm⟩ : ∃ m, m = l.length := ⟨_, rfl⟩
  have HO := Lib.hid ho
  have HIN := Lib.hid hin
  have HM := Lib.hid hm
  have H1 := Lib.hid (And.intro h1 h1b)
  have H2 := Lib.hid (And.intro h2 h2b)
  have q30 : (m : Int) ≤ 30 := by omega
  rw [← hm]
  clear ho hin hm h1 h1b h2 h2b hll
  go_enter Try.func3, Try.ntmps3
  go_wp2_with (first
    | (go_at_call 6; ((with_reducible refine (K6.out).mono ?_); rintro e w1 ⟨rfl, hb1⟩; have HB1 := Lib.hid hb1; clear hb1))
    | (go_at_call 7; ((with_reducible refine (K7.out _ HB1.out).mono ?_); rintro e w2 ⟨D, rfl, HD2, HB2⟩))
    | (go_at_call 8; ((with_reducible refine (K8.out _ _ HD2.out HB2.out).mono ?_); rintro e w3 ⟨rfl, ⟨c, HD3⟩, HB3⟩))
    | (go_at_call 9; ((with_reducible refine (K9.out _ _ _ HD3.out HB3.out).mono ?_); rintro e w4 ⟨rfl, HD4, HB4⟩))
    | (go_at_call 10; ((with_reducible refine (K10.out _ _ _ HD4.out HB4.out).mono ?_); rintro e w5 ⟨rfl, HG5, HB5⟩)))
  clear K6 K7 K8 K9 K10 HB1 HD2 HB2 HD3 HB3 HD4 HB4
  go_loopw [45] (fun v wr => ∃ i : Nat, i ≤ m ∧ v = .int .i64 (i : Int) ∧ Hid (Gd w.heap.size wr D c sureN text (3 + i)) ∧ Hid (Below w.heap.size w wr)) (fun v _ => m - (intOf v).toNat)
  case atStart => exact ⟨0, by omega, rfl, HG5, HB5⟩
  case round =>
    obtain ⟨i, hi, rfl, HG, HB⟩ := hrel
    by_cases hlt : i < m
    · have hil : i < l.length := by rw [← HM.out]; exact hlt
      obtain ⟨q, hq⟩ : ∃ q, q = l[i] := ⟨_, rfl⟩
      obtain ⟨c0, c1, c2, c3, c4, c5, c6, g0, g1, g2, g3, g4, g5, g6, hac⟩ := HIN.out i hil
      rw [← hq] at hac
      obtain ⟨eo, hbl⟩ := HO.out (by omega)
      obtain ⟨d, a, t, n, bb, qs, us⟩ := q
      unfold AcIn SlB SlU at hac
      obtain ⟨rfl, hd, rfl, rfl, rfl, hn, rfl, hbb, ⟨o5, cap5, b5, off5, rfl, p5, p5b⟩, ⟨o6, cap6, b6, off6, rfl, p6, p6b⟩⟩ := hac
      simp only at g0 g1 g2 g3 g4 g5 g6 hd hn hbb p5 p5b p6 p6b
      have k0 := (HB.out.cell (p := ⟨b, off + i * 7, none⟩) hbl).trans g0
      have k1 := (HB.out.cell (p := ⟨b, off + i * 7 + 1, none⟩) hbl).trans g1
      have k2 := (HB.out.cell (p := ⟨b, off + i * 7 + 2, none⟩) hbl).trans g2
      have k3 := (HB.out.cell (p := ⟨b, off + i * 7 + 3, none⟩) hbl).trans g3
      have k4 := (HB.out.cell (p := ⟨b, off + i * 7 + 4, none⟩) hbl).trans g4
      have k5 := (HB.out.cell (p := ⟨b, off + i * 7 + 5, none⟩) hbl).trans g5
      have k6 := (HB.out.cell (p := ⟨b, off + i * 7 + 6, none⟩) hbl).trans g6
      have P5 := Lib.hid (And.intro p5 p5b)
      have P6 := Lib.hid (And.intro p6 p6b)
      have HNB := Lib.hid (And.intro hd (And.intro hn hbb))
      have q1 : (0 : Int) ≤ (i : Int) := by omega
      have q2 : (i : Int) < (m : Int) := by omega
      subst eo
      clear g0 g1 g2 g3 g4 g5 g6 p5 p5b p6 p6b hd hn hbb hq
      have K11 := Lib.hid (light_at wr.heap.size d a t n bb o5 qs.length cap5 o6 us.length cap6)
      cases hL : lightB a t qs.length us.length
      · rw [hL] at K11
        clear hL
        go_wp2_with (first
          | (go_at_call 11; ((with_reducible refine (K11.out _ (acb_new wr _ _ _ _ _ _ _)).mono ?_); rintro e w6 ⟨rfl, HA6, HB6⟩; obtain ⟨z0, z1, z2, z3, z4, z5, z6⟩ := HA6.out.cells)))
        go_ret
        exact ⟨rfl, (chain HB HB6).2.out⟩
      · rw [hL] at K11
        have hla := of_decide_eq_true hL
        by_cases ha : a = sureN
        · have s1 := str_is ha
          clear hL ha hla
          go_wp2_with (first
            | (go_at_call 11; ((with_reducible refine (K11.out _ (acb_new wr _ _ _ _ _ _ _)).mono ?_); rintro e w6 ⟨rfl, HA6, HB6⟩; obtain ⟨z0, z1, z2, z3, z4, z5, z6⟩ := HA6.out.cells)))
          go_ret
          exact ⟨rfl, (chain HB HB6).2.out⟩
        · by_cases hts : t = sureN
          · have s1 := str_ne ha
            have s2 := str_is hts
            clear hL ha hla hts
            go_wp2_with (first
              | (go_at_call 11; ((with_reducible refine (K11.out _ (acb_new wr _ _ _ _ _ _ _)).mono ?_); rintro e w6 ⟨rfl, HA6, HB6⟩; obtain ⟨z0, z1, z2, z3, z4, z5, z6⟩ := HA6.out.cells)))
            go_ret
            exact ⟨rfl, (chain HB HB6).2.out⟩
          · have s1 := str_ne ha
            have s2 := str_ne hts
            obtain ⟨x, hx⟩ : ∃ x, x = d % 8 := ⟨_, rfl⟩
            have hx8 : x < 8 := by omega
            have hxd : (d : Int) % 8 = (x : Int) := by omega
            have hi100 : 3 + i + 1 ≤ 100 := by omega
            have HN3 := Lib.hid (fun (y : Int) (h : y = (n : Int) % 40) => show -1000000 ≤ y ∧ y ≤ 1000000 by omega)
            have K9 : Hid (∀ w6, Hid (Below wr.heap.size wr w6) → Calls Try.prog 9 #[.pointer (some ⟨D, 0, none⟩), .string a] w6 fun e w' => (∃ n : Nat, e = .returned (.int .i64 (n : Int))) ∧ Hid (Gd w.heap.size w' D c sureN text (3 + i + 1)) ∧ Hid (Below w.heap.size w6 w')) := Lib.hid (fun w6 h => ((HG.out.later h.out).sync hi100 a (by omega) ha).mono fun e w' => opq)
            have K13 : Hid (∀ w6, Hid (Below wr.heap.size wr w6) → Calls Try.prog 13 #[.pointer (some ⟨D, 0, none⟩), .string a, .string t] w6 fun e w' => (∃ n : Nat, e = .returned (.int .i64 (n : Int))) ∧ Hid (Gd w.heap.size w' D c sureN text (3 + i + 1)) ∧ Hid (Below w.heap.size w6 w')) := Lib.hid (fun w6 h => ((HG.out.later h.out).rename hi100 a t (by omega) (by omega) ha hts).mono fun e w' => opq)
            have K14 : Hid (∀ w6, Hid (Below wr.heap.size wr w6) → Calls Try.prog 14 #[.pointer (some ⟨D, 0, none⟩), .string a] w6 fun e w' => (∃ n : Nat, e = .returned (.int .i64 (n : Int))) ∧ Hid (Gd w.heap.size w' D c sureN text (3 + i + 1)) ∧ Hid (Below w.heap.size w6 w')) := Lib.hid (fun w6 h => ((HG.out.later h.out).remove hi100 a (by omega) ha (by decide)).mono fun e w' => opq)
            have K10 : Hid (∀ w6, Hid (Below wr.heap.size wr w6) → Calls Try.prog 10 #[.pointer (some ⟨D, 0, none⟩)] w6 fun e w' => (∃ n : Nat, e = .returned (.int .i64 (n : Int))) ∧ Hid (Gd w.heap.size w' D c sureN text (3 + i + 1)) ∧ Hid (Below w.heap.size w6 w')) := Lib.hid (fun w6 h => ((HG.out.later h.out).dir hi100).mono fun e w' => opq)
            have K15 : Hid (∀ w6 (y : Int), Hid (Below wr.heap.size wr w6) → y = (n : Int) % 40 → Calls Try.prog 15 #[.pointer (some ⟨D, 0, none⟩), .int .i64 y] w6 fun e w' => e = .returned (.tuple #[]) ∧ Hid (Gd w.heap.size w' D c sureN text (3 + i + 1)) ∧ Hid (Below w.heap.size w6 w')) := Lib.hid (fun w6 y h hy => ((HG.out.later h.out).fuse hi100 y (HN3.out y hy)).mono fun e w' ⟨he, h1, h2⟩ => ⟨he, Lib.hid h1, Lib.hid h2⟩)
            have K16 : Hid (∀ w6, Hid (Below wr.heap.size wr w6) → Calls Try.prog 16 #[.pointer (some ⟨D, 0, none⟩), .slice o5 qs.length cap5, .slice o6 us.length cap6] w6 fun e w' => e = .returned (.tuple #[]) ∧ Hid (Gd w.heap.size w' D c sureN text (3 + i + 1)) ∧ Hid (Below w.heap.size w6 w')) := Lib.hid (fun w6 h => ((HG.out.later h.out).crash hi100 qs o5 cap5 b5 off5 P5.out.1 (bools_later P5.out.2 (HB.out.trans (h.out.mono HB.out.size)) (fun hp => (P5.out.1 hp).2)) us o6 cap6 b6 off6 P6.out.1 (u64s_later P6.out.2 (HB.out.trans (h.out.mono HB.out.size)) (fun hp => (P6.out.1 hp).2))).mono fun e w' ⟨he, h1, h2, _⟩ => ⟨he, Lib.hid h1, Lib.hid h2⟩)
            have K12 := Lib.hid (text_at wr.heap.size d a t n bb HNB.out.2.1 HNB.out.2.2 o5 qs.length cap5 o6 us.length cap6)
            have K8 : Hid (∀ w6 x, Hid (Below wr.heap.size wr w6) → Hid (x.size ≤ 3000) → Hid (AcB w6 wr.heap.size (.int .u8 (d : Int)) (.string a) (.string t) (.int .u16 (n : Int)) (.int .u8 (bb : Int)) (.slice o5 qs.length cap5) (.slice o6 us.length cap6)) → Calls Try.prog 8 #[.pointer (some ⟨D, 0, none⟩), .string a, .string x] w6 fun e w' => (∃ n : Nat, e = .returned (.int .i64 (n : Int))) ∧ Hid (AcB w' wr.heap.size (.int .u8 (d : Int)) (.string a) (.string t) (.int .u16 (n : Int)) (.int .u8 (bb : Int)) (.slice o5 qs.length cap5) (.slice o6 us.length cap6)) ∧ Hid (Gd w.heap.size w' D c sureN text (3 + i + 1)) ∧ Hid (Below w.heap.size w6 w')) := Lib.hid (fun w6 x h hx hA => (HG.out.write_na h.out wr.heap.size ⟨Nat.le_refl _, lt_of_heap hA.out⟩ hi100 a x (by omega) (by have := hx.out; omega) ha).mono fun e w' ⟨h1, h2⟩ => ⟨h1.1, Lib.hid (h2.trans hA.out), Lib.hid h1.2.1, Lib.hid h1.2.2⟩)
            have HR : Hid (∀ w1, Hid (AcB w1 wr.heap.size (.int .u8 (d : Int)) (.string a) (.string t) (.int .u16 (n : Int)) (.int .u8 (bb : Int)) (.slice o5 qs.length cap5) (.slice o6 us.length cap6)) → (w1.cell? ⟨wr.heap.size, 0, none⟩ = some (.int .u8 (d : Int)) ∧ w1.cell? ⟨wr.heap.size, 1, none⟩ = some (.string a) ∧ w1.cell? ⟨wr.heap.size, 2, none⟩ = some (.string t) ∧ w1.cell? ⟨wr.heap.size, 3, none⟩ = some (.int .u16 (n : Int)) ∧ w1.cell? ⟨wr.heap.size, 4, none⟩ = some (.int .u8 (bb : Int)) ∧ w1.cell? ⟨wr.heap.size, 5, none⟩ = some (.slice o5 qs.length cap5) ∧ w1.cell? ⟨wr.heap.size, 6, none⟩ = some (.slice o6 us.length cap6)) ∧ Hid (AcB w1 wr.heap.size (.int .u8 (d : Int)) (.string a) (.string t) (.int .u16 (n : Int)) (.int .u8 (bb : Int)) (.slice o5 qs.length cap5) (.slice o6 us.length cap6))) := Lib.hid (fun w1 h => ⟨h.out.cells, h⟩)
            have HHA := Lib.hid (And.intro ha hla)
            clear hL ha hts hx hla
            go_wp2_with (first
              | (go_at_call 11; ((with_reducible refine (K11.out _ (acb_new wr _ _ _ _ _ _ _)).mono ?_); rintro e w6 ⟨rfl, HA6, HB6⟩; obtain ⟨z0, z1, z2, z3, z4, z5, z6⟩ := HA6.out.cells; obtain ⟨HC6, HD6⟩ := chain HB HB6))
              | (go_at_call 9; ((with_reducible refine (K9.out _ HC6).mono ?_); rintro e w7 ⟨⟨r, rfl⟩, HG7, HB7⟩))
              | (go_at_call 13; ((with_reducible refine (K13.out _ HC6).mono ?_); rintro e w7 ⟨⟨r, rfl⟩, HG7, HB7⟩))
              | (go_at_call 14; ((with_reducible refine (K14.out _ HC6).mono ?_); rintro e w7 ⟨⟨r, rfl⟩, HG7, HB7⟩))
              | (go_at_call 10; ((with_reducible refine (K10.out _ HC6).mono ?_); rintro e w7 ⟨⟨r, rfl⟩, HG7, HB7⟩))
              | (go_at_call 15; ((with_reducible refine (K15.out _ _ HC6 rfl).mono ?_); rintro e w7 ⟨rfl, HG7, HB7⟩))
              | (go_at_call 16; ((with_reducible refine (K16.out _ HC6).mono ?_); rintro e w7 ⟨rfl, HG7, HB7⟩)))
            · go_region_held3 (fun wz => (wz.cell? ⟨wr.heap.size, 0, none⟩ = some (.int .u8 (d : Int)) ∧ wz.cell? ⟨wr.heap.size, 1, none⟩ = some (.string a) ∧ wz.cell? ⟨wr.heap.size, 2, none⟩ = some (.string t) ∧ wz.cell? ⟨wr.heap.size, 3, none⟩ = some (.int .u16 (n : Int)) ∧ wz.cell? ⟨wr.heap.size, 4, none⟩ = some (.int .u8 (bb : Int)) ∧ wz.cell? ⟨wr.heap.size, 5, none⟩ = some (.slice o5 qs.length cap5) ∧ wz.cell? ⟨wr.heap.size, 6, none⟩ = some (.slice o6 us.length cap6)) ∧ Hid (AcB wz wr.heap.size (.int .u8 (d : Int)) (.string a) (.string t) (.int .u16 (n : Int)) (.int .u8 (bb : Int)) (.slice o5 qs.length cap5) (.slice o6 us.length cap6)))
                (first | exact HR.out _ (by assumption) | exact HR.out _ HA6 | go_keep)
                (first
                  | (go_at_call 12; ((with_reducible refine (K12.out _ (Hid.out ?_)).mono ?_); (first | assumption | exact HA6); rintro e w7 ⟨⟨xt, rfl, HX⟩, HA7, HB7⟩))
                  | (go_at_call 8; ((with_reducible refine (K8.out _ _ ?_ HX ?_).mono ?_); (first | exact Lib.hid (HC6.out.drew.trans (HB7.out.mono HC6.out.size))); (first | assumption | exact HA7); rintro e w8 ⟨⟨r, rfl⟩, HA8, HG8, HB8⟩)))
              all_goals
                simp only [Exit.inBlock, Exit.then]
                apply_assumption
                go_wp2
                go_roundw
                case rel => exact ⟨i + 1, by omega, by go_num, HG8, Lib.hid ((HD6.out.drew.trans (HB7.out.mono HD6.out.size)).trans HB8.out)⟩
                case measure => simp [intOf]; omega
            all_goals
              go_roundw
              case rel =>
                first
                  | exact ⟨i + 1, by omega, by go_num, HG7, Lib.hid (HD6.out.trans HB7.out)⟩
                  | exact ⟨i + 1, by omega, by go_num, Lib.hid ((HG.out.later HC6.out).le _ (by omega) (by omega)), HD6⟩
              case measure => simp [intOf]; omega
    · have hjm : i = m := by omega
      subst hjm
      have K16 : Hid (Calls Try.prog 16 #[.pointer (some ⟨D, 0, none⟩), .slice o1 ns.length cap1, .slice o2 ss.length cap2] wr fun e w' => e = .returned (.tuple #[]) ∧ Hid (Fin w' D c text) ∧ Hid (Below w.heap.size wr w')) := Lib.hid ((HG.out.crash (by omega) ns o1 cap1 b1 off1 H1.out.1 (bools_later H1.out.2 HB.out (fun hp => (H1.out.1 hp).2)) ss o2 cap2 b2 off2 H2.out.1 (u64s_later H2.out.2 HB.out (fun hp => (H2.out.1 hp).2))).mono fun e w' ⟨he, _, h2, h3⟩ => ⟨he, Lib.hid h3, Lib.hid h2⟩)
      have K17 : Hid (∀ w7, Hid (Fin w7 D c text) → Calls Try.prog 17 #[.pointer (some ⟨D, 0, none⟩), .string ⟨#[115, 117, 114, 101]⟩] w7 fun e w' => e = .returned (.tuple #[.string text, .int .i64 0]) ∧ Hid (Fin w' D c text) ∧ Hid (Below w7.heap.size w7 w')) := Lib.hid (fun w7 h => fin_read h.out)
      have K18 : Hid (∀ w7, Hid (Fin w7 D c text) → Calls Try.prog 18 #[.pointer (some ⟨D, 0, none⟩)] w7 fun e w' => e = .returned (.int .i64 0) ∧ w' = w7) := Lib.hid (fun w7 h => fin_pending h.out)
      go_wp2_with (first
        | (go_at_call 16; ((with_reducible refine (K16.out).mono ?_); rintro e w7 ⟨rfl, HF7, HB7⟩))
        | (go_at_call 17; ((with_reducible refine (K17.out _ HF7).mono ?_); rintro e w8 ⟨rfl, HF8, HB8⟩))
        | (go_at_call 18; ((with_reducible refine (K18.out _ HF8).mono ?_); rintro e w9 ⟨rfl, rfl⟩)))
      go_ret
      exact ⟨rfl, (HB.out.trans HB7.out).trans (HB8.out.mono (Nat.le_trans HB.out.size HB7.out.size))⟩
end Go.Proofs.Ytjkpopdjmmgbbaa

namespace Go.Proofs.Ytjkpopdjmmgbbaa
open Go.RowKit Go.Maps Go.Sort
set_option maxRecDepth 100000 in
theorem lasts_great (text : ByteArray) (n : Nat) (oa : Option Addr) (cap : Nat) (v2 v3 : Value) (hg : 30 < n ∨ 3000 < text.size) (w : World) :
    Calls Try.prog 3 #[.string text, .slice oa n cap, v2, v3] w fun e w' => e = .returned (.bool true) ∧ Below w.heap.size w w' := by
  have K6 := Lib.hid (awake_any w)
  rcases Nat.lt_or_ge 30 n with h | h
  · have h1 : (n : Int) > 30 := by omega
    clear hg
    go_enter Try.func3, Try.ntmps3
    go_wp2_with (first | (go_at_call 6; ((with_reducible refine (K6.out).mono ?_); rintro e w1 ⟨rfl, hb1⟩; have HB1 := Lib.hid hb1; clear hb1)))
    go_ret
    exact ⟨rfl, HB1.out⟩
  · have h1 : ¬ (n : Int) > 30 := by omega
    have h2 : (text.size : Int) > 3000 := by omega
    clear hg
    go_enter Try.func3, Try.ntmps3
    go_wp2_with (first | (go_at_call 6; ((with_reducible refine (K6.out).mono ?_); rintro e w1 ⟨rfl, hb1⟩; have HB1 := Lib.hid hb1; clear hb1)))
    go_ret
    exact ⟨rfl, HB1.out⟩
/-- The law DiskLasts, for any arguments. -/
theorem lasts_walk (text : ByteArray) (l : List Ac) (oa : Option Addr) (cap b off : Nat) (w : World) (ho : 0 < l.length → oa = some ⟨b, off, none⟩ ∧ b < w.heap.size) (hin : AcsIn w b off l)
    (ns : List Bool) (v2 : Value) (h2 : SlB w ns v2) (ss : List Nat) (v3 : Value) (h3 : SlU w ss v3) :
    Calls Try.prog 3 #[.string text, .slice oa l.length cap, v2, v3] w fun e w' => e = .returned (.bool true) ∧ Below w.heap.size w w' := by
  obtain ⟨o1, cap1, b1, off1, rfl, e1, e2⟩ := h2
  obtain ⟨o2, cap2, b2, off2, rfl, e3, e4⟩ := h3
  by_cases hg : 30 < l.length ∨ 3000 < text.size
  · exact lasts_great text l.length oa cap _ _ hg w
  · exact lasts_any text (by omega) l (by omega) oa cap b off w ho hin ns o1 cap1 b1 off1 e1 e2 ss o2 cap2 b2 off2 e3 e4
end Go.Proofs.Ytjkpopdjmmgbbaa
