/- config: ConfigFinds, over awake. -/
import Derived.Test.YtjfjliobencppaaGreatDoorJ30
import Derived.Test.YtjfjliobencppaaGreatDoorJ31
set_option linter.unusedVariables false
set_option linter.unusedSimpArgs false
namespace Go.Proofs.YtjfjliobencppaaGreatDoor.Cf
open Go.RowKit

/-- The first from k on. -/
def FF (n : Nat) (p : Nat → Bool) (k : Nat) (r : Int) : Prop := (r = -1 ∧ ∀ i, k ≤ i → i < n → p i = false) ∨ ∃ m : Nat, r = (m : Int) ∧ k ≤ m ∧ m < n ∧ p m = true ∧ ∀ j, k ≤ j → j < m → p j = false
theorem FF.start (n : Nat) (p : Nat → Bool) : FF n p n (-1) := Or.inl ⟨rfl, fun i h1 h2 => absurd h2 (by omega)⟩
theorem FF.no {n k : Nat} {p : Nat → Bool} {r : Int} (h : FF n p (k + 1) r) (hp : p k = false) : FF n p k r := by
  rcases h with ⟨h1, h2⟩ | ⟨m, h1, h2, h3, h4, h5⟩
  · refine Or.inl ⟨h1, fun i hi hn => ?_⟩
    by_cases e : i = k
    · rw [e]; exact hp
    · exact h2 i (by omega) hn
  · refine Or.inr ⟨m, h1, by omega, h3, h4, fun j hj hm => ?_⟩
    by_cases e : j = k
    · rw [e]; exact hp
    · exact h5 j (by omega) hm
theorem FF.yes {n k : Nat} {p : Nat → Bool} {r : Int} (_ : FF n p (k + 1) r) (hk : k < n) (hp : p k = true) : FF n p k (k : Int) := Or.inr ⟨k, rfl, Nat.le_refl _, hk, hp, fun j h1 h2 => absurd h2 (by omega)⟩
theorem FF.done {n : Nat} {p : Nat → Bool} {r : Int} (h : FF n p 0 r) : FirstP n p r := by
  rcases h with ⟨h1, h2⟩ | ⟨m, h1, h2, h3, h4, h5⟩
  · exact Or.inl ⟨h1, fun i hi => h2 i (Nat.zero_le _) hi⟩
  · exact Or.inr ⟨m, h1, h3, h4, fun j hj => h5 j (Nat.zero_le _) hj⟩

/-- What holds while the clone is written to. -/
structure Iv (w : World) (g15 g16 : Nat) (A3 : Array Value) (V K V2 K2 : Value) (a : Co) (PL : List (Ls × Value)) (PK : List (Cl × Value)) (T : Nat) (wz : World) : Prop where
  x0 : Bk wz w.heap.size A3 26
  x15 : Bk wz g15 #[.int .u64 (a.v : Int), V, K] 26
  x16 : Bk wz g16 #[.int .u64 (a.v : Int), V2, K2] 37
  wl : LlR wz 0 V2 a.l
  wc : CcR wz 0 K2 a.c
  pl : wz.ownsRow w.heap.size 52 7 V PL.length (PL.flatMap llcs)
  pk : wz.ownsRow w.heap.size 57 2 K PK.length (PK.flatMap cccs)
  st : ∀ p ∈ PL, StrRow w.heap.size wz p.2 p.1.r.length T
  it : ∀ p ∈ PK, IntRow w.heap.size wz p.2 p.1.e.length
  b : Below w.heap.size w wz
theorem size23 (W : World) : (sizeOf (Tryz.prog.elem 23)).run Tryz.prog W = .ok 7 W := by rw [show Tryz.prog.elem 23 = 52 by kernel_rfl]; go_simp
theorem size24 (W : World) : (sizeOf (Tryz.prog.elem 24)).run Tryz.prog W = .ok 2 W := by rw [show Tryz.prog.elem 24 = 57 by kernel_rfl]; go_simp
theorem LlR.mono {w : World} {B B' : Nat} {V : Value} {L : List Ls} (h : LlR w B V L) (hb : B' ≤ B) : LlR w B' V L := by
  obtain ⟨PL, h1, h2, h3⟩ := h
  exact ⟨PL, h1, own_mono h2 hb, fun p hp => own_mono (h3 p hp) hb⟩
theorem CcR.mono {w : World} {B B' : Nat} {V : Value} {L : List Cl} (h : CcR w B V L) (hb : B' ≤ B) : CcR w B' V L := by
  obtain ⟨PL, h1, h2, h3⟩ := h
  exact ⟨PL, h1, own_mono h2 hb, fun p hp => own_mono (h3 p hp) hb⟩
theorem StrRow.mono {B n T T' : Nat} {w : World} {v : Value} (h : StrRow B w v n T) (hT : T ≤ T') : StrRow B w v n T' := by
  obtain ⟨o, c, rfl, h⟩ := h
  refine ⟨o, c, rfl, fun hp => ?_⟩
  obtain ⟨g, cur, h1, h2, h3, h4⟩ := h hp
  exact ⟨g, cur, h1, h2, h3, fun j hj => by obtain ⟨s, k1, k2⟩ := h4 j hj; exact ⟨s, k1, by omega⟩⟩
theorem Iv.mono {w : World} {g15 g16 : Nat} {A3 : Array Value} {V K V2 K2 : Value} {a : Co} {PL : List (Ls × Value)} {PK : List (Cl × Value)} {T T' : Nat} {wz : World} (h : Iv w g15 g16 A3 V K V2 K2 a PL PK T wz) (hT : T ≤ T') : Iv w g15 g16 A3 V K V2 K2 a PL PK T' wz :=
  ⟨h.x0, h.x15, h.x16, h.wl, h.wc, h.pl, h.pk, fun p hp => (h.st p hp).mono hT, h.it, h.b⟩
theorem Iv.rowL {w : World} {g15 g16 i n : Nat} {A3 : Array Value} {o : Option Addr} {C : Nat} {K V2 K2 : Value} {a : Co} {PL : List (Ls × Value)} {PK : List (Cl × Value)} {T : Nat} {wz : World} (h : Iv w g15 g16 A3 (.slice o n C) K V2 K2 a PL PK T wz) (hi : i < PL.length) : ∃ g, o = some ⟨g, 0, none⟩ ∧ wz.cell? ⟨g, i * 7 + 6, none⟩ = some PL[i].2 := by
  rcases h.pl.2 with ⟨e, hn⟩ | ⟨g, cap, cur, e, h0, hg, h1, h2, h3, h4⟩
  · omega
  · cases e
    refine ⟨g, rfl, ?_⟩
    have k1 := h.pl.cells (g := g) rfl (i * 7 + 6) PL[i].2 (flat_at (fun p _ => ll_len p) hi 6 _ rfl)
    rwa [Addr.add_mid, Nat.zero_add] at k1
theorem Iv.rowK {w : World} {g15 g16 i n : Nat} {A3 : Array Value} {o : Option Addr} {C : Nat} {V V2 K2 : Value} {a : Co} {PL : List (Ls × Value)} {PK : List (Cl × Value)} {T : Nat} {wz : World} (h : Iv w g15 g16 A3 V (.slice o n C) V2 K2 a PL PK T wz) (hi : i < PK.length) : ∃ g, o = some ⟨g, 0, none⟩ ∧ wz.cell? ⟨g, i * 2 + 1, none⟩ = some PK[i].2 := by
  rcases h.pk.2 with ⟨e, hn⟩ | ⟨g, cap, cur, e, h0, hg, h1, h2, h3, h4⟩
  · omega
  · cases e
    refine ⟨g, rfl, ?_⟩
    have k1 := h.pk.cells (g := g) rfl (i * 2 + 1) PK[i].2 (flat_at (fun p _ => cc_len p) hi 1 _ rfl)
    rwa [Addr.add_mid, Nat.zero_add] at k1
theorem Iv.host {w : World} {g15 g16 j n C : Nat} {A3 : Array Value} {V K V2 K2 : Value} {a : Co} {PL : List (Ls × Value)} {PK : List (Cl × Value)} {T : Nat} {wz : World} {p : Ls × Value} {o : Option Addr} (h : Iv w g15 g16 A3 V K V2 K2 a PL PK T wz) (hp : p ∈ PL) (hv : p.2 = .slice o n C) (hj : j < p.1.r.length) : ∃ g s, o = some ⟨g, 0, none⟩ ∧ wz.cell? ⟨g, j * 4, none⟩ = some (.string s) ∧ wz.frozen? ⟨g, j * 4, none⟩ = false ∧ s.size ≤ T ∧ ∀ (s' : ByteArray) (T' : Nat), T ≤ T' → s'.size ≤ T' → Iv w g15 g16 A3 V K V2 K2 a PL PK T' (wz.setCell ⟨g, j * 4, none⟩ (.string s')) := by
  obtain ⟨o2, c2, e, hE⟩ := h.st p hp
  obtain ⟨g, cur, rfl, hB, hk, hc⟩ := hE (by omega)
  obtain ⟨s, h1, h2⟩ := hc j hj
  rw [hv] at e
  cases e
  refine ⟨g, s, rfl, (cell_of_row _ _ _ _ _ _ hk).trans h1, frozen_of_row _ _ _ _ _ hk, h2, fun s' T' hT hs => ?_⟩
  exact ⟨h.x0.away (bk_ne h.x0 hk (by decide)) _ _, h.x15.away (bk_ne h.x15 hk (by decide)) _ _, h.x16.away (bk_ne h.x16 hk (by decide)) _ _, h.wl.set hk (by decide) (by decide) _ _, h.wc.set hk (by decide) (by decide) _ _,
    own_set h.pl hk (by decide) _ _, own_set h.pk hk (by decide) _ _, fun q hq => (h.st q hq).set hk hT hs, fun q hq => (h.it q hq).away hk (by decide) _, h.b.setCell (p := ⟨g, j * 4, none⟩) hB _⟩
theorem Iv.weight {w : World} {g15 g16 j n C : Nat} {A3 : Array Value} {V K V2 K2 : Value} {a : Co} {PL : List (Ls × Value)} {PK : List (Cl × Value)} {T : Nat} {wz : World} {p : Cl × Value} {o : Option Addr} (h : Iv w g15 g16 A3 V K V2 K2 a PL PK T wz) (hp : p ∈ PK) (hv : p.2 = .slice o n C) (hj : j < p.1.e.length) : ∃ (g : Nat) (s : Int), o = some ⟨g, 0, none⟩ ∧ wz.cell? ⟨g, j * 6 + 5, none⟩ = some (.int .i64 s) ∧ wz.frozen? ⟨g, j * 6 + 5, none⟩ = false ∧ ∀ (s' : Int), Iv w g15 g16 A3 V K V2 K2 a PL PK T (wz.setCell ⟨g, j * 6 + 5, none⟩ (.int .i64 s')) := by
  obtain ⟨o2, c2, e, hE⟩ := h.it p hp
  obtain ⟨g, cur, rfl, hB, hk, hc⟩ := hE (by omega)
  obtain ⟨s, h1⟩ := hc j hj
  rw [hv] at e
  cases e
  refine ⟨g, s, rfl, (cell_of_row _ _ _ _ _ _ hk).trans h1, frozen_of_row _ _ _ _ _ hk, fun s' => ?_⟩
  exact ⟨h.x0.away (bk_ne h.x0 hk (by decide)) _ _, h.x15.away (bk_ne h.x15 hk (by decide)) _ _, h.x16.away (bk_ne h.x16 hk (by decide)) _ _, h.wl.set hk (by decide) (by decide) _ _, h.wc.set hk (by decide) (by decide) _ _,
    own_set h.pl hk (by decide) _ _, own_set h.pk hk (by decide) _ _, fun q hq => (h.st q hq).away hk (by decide) _, fun q hq => (h.it q hq).set hk, h.b.setCell (p := ⟨g, j * 6 + 5, none⟩) hB _⟩

set_option maxRecDepth 100000 in
set_option maxHeartbeats 4000000 in
theorem finds_any {w : World} {c0 c1 c2 d0 d1 d2 : Value} {a b : Co} (ha : CoIn w c0 c1 c2 a) (hb : CoIn w d0 d1 d2 b) (nm : ByteArray) (hc1 : Cap c1) (hc2 : Cap c2) (hw : ∀ wz, Below w.heap.size w wz → Calls Tryz.prog 7 #[] wz (TrP true wz)) :
    Calls Tryz.prog 5 #[.agg #[c0, c1, c2], .agg #[d0, d1, d2], .string nm] w (TrP true w) := by
  have HA := Lib.hid ha
  have HBB := Lib.hid hb
  have KW := Lib.hid hw
  obtain ⟨rfl, hv, ⟨o1, C1, B1, F1, rfl, ho1, hE1⟩, ⟨o2, C2, B2, F2, rfl, ho2, hE2⟩⟩ := ha
  have HC1 := Lib.hid (hc1 _ _ _ rfl)
  have HC2 := Lib.hid (hc2 _ _ _ rfl)
  have HN1 : Hid (∀ wz, Below w.heap.size w wz → ∀ i (hi : i < a.l.length), o1 = some ⟨B1, F1, none⟩ ∧ wz.cell? ⟨B1, F1 + i * 7, none⟩ = some (.string a.l[i].name)) := Lib.hid (fun wz hz i hi => by
    obtain ⟨cs, hr, u, rfl, _⟩ := hE1 i hi
    exact ⟨(ho1 (by omega)).1, rng_later hr hz 0 _ rfl⟩)
  have HN2 : Hid (∀ wz, Below w.heap.size w wz → ∀ i (hi : i < a.c.length), o2 = some ⟨B2, F2, none⟩ ∧ wz.cell? ⟨B2, F2 + i * 2, none⟩ = some (.string a.c[i].name)) := Lib.hid (fun wz hz i hi => by
    obtain ⟨cs, hr, u, rfl, _⟩ := hE2 i hi
    exact ⟨(ho2 (by omega)).1, rng_later hr hz 0 _ rfl⟩)
  have HR1 : Hid (∀ wz, Below w.heap.size w wz → Rw 7 LsIn wz (.slice o1 a.l.length C1) a.l) := Lib.hid (fun wz hz => (show Rw 7 LsIn w (.slice o1 a.l.length C1) a.l from ⟨o1, C1, B1, F1, rfl, ho1, hE1⟩).later hz fun _ _ h => h.later hz)
  have HR2 : Hid (∀ wz, Below w.heap.size w wz → Rw 2 ClIn wz (.slice o2 a.c.length C2) a.c) := Lib.hid (fun wz hz => (show Rw 2 ClIn w (.slice o2 a.c.length C2) a.c from ⟨o2, C2, B2, F2, rfl, ho2, hE2⟩).later hz fun _ _ h => h.later hz)
  clear hE1 hE2 ho1 ho2 hc1 hc2 hb hw
  have HV := Lib.hid hv
  clear hv
  have HB0 := Lib.hid (show Below w.heap.size w ((w.alloc (.cells #[.int .u64 (a.v : Int), .slice o1 a.l.length C1, .slice o2 a.c.length C2] 26)).alloc (.cells #[d0, d1, d2] 26)) from (alloc_below _ _).trans ((alloc_below _ _).mono (by simp)))
  have HX0 := Lib.hid (show Bk ((w.alloc (.cells #[.int .u64 (a.v : Int), .slice o1 a.l.length C1, .slice o2 a.c.length C2] 26)).alloc (.cells #[d0, d1, d2] 26)) w.heap.size #[.int .u64 (a.v : Int), .slice o1 a.l.length C1, .slice o2 a.c.length C2] 26 from ((alloc_below _ _).block _ (by simp)).trans (heap_alloc_new w _))
  have HY0 : Hid (Bk ((w.alloc (.cells #[.int .u64 (a.v : Int), .slice o1 a.l.length C1, .slice o2 a.c.length C2] 26)).alloc (.cells #[d0, d1, d2] 26)) (w.heap.size + 1) #[d0, d1, d2] 26) := Lib.hid (by
    have h := heap_alloc_new (w.alloc (.cells #[.int .u64 (a.v : Int), .slice o1 a.l.length C1, .slice o2 a.c.length C2] 26)) (.cells #[d0, d1, d2] 26)
    rw [show (w.alloc (.cells #[.int .u64 (a.v : Int), .slice o1 a.l.length C1, .slice o2 a.c.length C2] 26)).heap.size = w.heap.size + 1 by simp] at h
    exact h)
  obtain ⟨w0, hw0⟩ : ∃ w0, w0 = ((w.alloc (.cells #[.int .u64 (a.v : Int), .slice o1 a.l.length C1, .slice o2 a.c.length C2] 26)).alloc (.cells #[d0, d1, d2] 26)) := ⟨_, rfl⟩
  rw [← hw0] at HB0 HX0 HY0
  have f0 : w0.cell? ⟨w.heap.size, 0, none⟩ = some (.int .u64 (a.v : Int)) := (cell_of_row _ _ 0 _ _ _ HX0.out).trans rfl
  have f1 : w0.cell? ⟨w.heap.size, 1, none⟩ = some (.slice o1 a.l.length C1) := (cell_of_row _ _ 1 _ _ _ HX0.out).trans rfl
  have f2 : w0.cell? ⟨w.heap.size, 2, none⟩ = some (.slice o2 a.c.length C2) := (cell_of_row _ _ 2 _ _ _ HX0.out).trans rfl
  have g0 : w0.cell? ⟨w.heap.size + 1, 0, none⟩ = some (d0) := (cell_of_row _ _ 0 _ _ _ HY0.out).trans rfl
  have g1 : w0.cell? ⟨w.heap.size + 1, 1, none⟩ = some (d1) := (cell_of_row _ _ 1 _ _ _ HY0.out).trans rfl
  have g2 : w0.cell? ⟨w.heap.size + 1, 2, none⟩ = some (d2) := (cell_of_row _ _ 2 _ _ _ HY0.out).trans rfl
  have KL1 : Hid (∀ wz, Below w.heap.size w wz → Calls Tryz.prog 8 #[.agg #[.int .u64 (a.v : Int), .slice o1 a.l.length C1, .slice o2 a.c.length C2]] wz (LiP a.lit wz)) := Lib.hid (fun wz h => light_any (HA.out.later h))
  have KL2 : Hid (∀ wz, Below w.heap.size w wz → Calls Tryz.prog 8 #[.agg #[d0, d1, d2]] wz (LiP b.lit wz)) := Lib.hid (fun wz h => light_any (HBB.out.later h))
  go_enter Tryz.func5, Tryz.ntmps5
  go_upto_region 1 with fail
  rw [← hw0]
  clear hw0
  go_wp2_with fail
  refine (KW.out _ HB0.out).mono ?_
  rintro e w1 ⟨rfl, hb⟩
  have HX1 := Lib.hid (Bk.later HX0.out hb)
  have HY1 := Lib.hid (Bk.later HY0.out hb)
  have HB1 := Lib.hid (HB0.out.trans (hb.mono HB0.out.size))
  clear hb f0 f1 f2 g0 g1 g2
  obtain ⟨f0, f1, f2⟩ := bk3 HX1.out
  obtain ⟨g0, g1, g2⟩ := bk3 HY1.out
  go_wp2_with fail
  refine (KL1.out _ HB1.out).mono ?_
  rintro e w2 ⟨l1, rfl, hl1, hb⟩
  have HX2 := Lib.hid (Bk.later HX1.out hb)
  have HY2 := Lib.hid (Bk.later HY1.out hb)
  have HB2 := Lib.hid (HB1.out.trans (hb.mono HB1.out.size))
  clear hb f0 f1 f2 g0 g1 g2
  obtain ⟨f0, f1, f2⟩ := bk3 HX2.out
  obtain ⟨g0, g1, g2⟩ := bk3 HY2.out
  cases l1 with
  | false =>
    go_wp2_with fail
    go_ret
    exact ⟨rfl, HB2.out⟩
  | true =>
    go_wp2_with fail
    refine (KL2.out _ HB2.out).mono ?_
    rintro e w3 ⟨l2, rfl, hl2, hb⟩
    have HX3 := Lib.hid (Bk.later HX2.out hb)
    have HY3 := Lib.hid (Bk.later HY2.out hb)
    have HB3 := Lib.hid (HB2.out.trans (hb.mono HB2.out.size))
    clear hb f0 f1 f2 g0 g1 g2
    obtain ⟨f0, f1, f2⟩ := bk3 HX3.out
    obtain ⟨g0, g1, g2⟩ := bk3 HY3.out
    cases l2 with
    | false =>
      go_wp2_with fail
      go_ret
      exact ⟨rfl, HB3.out⟩
    | true =>
      have HLA : Hid a.lit := Lib.hid (by first | exact hl1 rfl | exact hl1 trivial | assumption)
      have HLB : Hid b.lit := Lib.hid (by first | exact hl2 rfl | exact hl2 trivial | assumption)
      try clear hl1 hl2
      have n1 : (a.l.length : Int) ≤ 12 := by have := HLA.out.1; omega
      have n2 : (a.c.length : Int) ≤ 12 := by have := HLA.out.2.1; omega
      by_cases hs : nm.size ≤ 300
      · have s1 : decide ((300 : Int) < (nm.size : Int)) = false := by rw [decide_eq_false_iff_not]; omega
        have K17 : Hid (∀ wz, Below w.heap.size w wz → Calls Tryz.prog 17 #[.agg #[.int .u64 (a.v : Int), .slice o1 a.l.length C1, .slice o2 a.c.length C2], .string nm] wz (FlP a.l nm wz)) := Lib.hid (fun wz h => find_ls (HA.out.later h) HLA.out.sized nm)
        have K18 : Hid (∀ wz, Below w.heap.size w wz → Calls Tryz.prog 18 #[.agg #[.int .u64 (a.v : Int), .slice o1 a.l.length C1, .slice o2 a.c.length C2], .string nm] wz (FcP a.c nm wz)) := Lib.hid (fun wz h => find_cl (HA.out.later h) HLA.out.sized nm)
        go_wp2_with fail
        refine (K17.out _ HB3.out).mono ?_
        rintro e w4 ⟨r1, x, ox, cx, rfl, hx, hb⟩
        have HX4 := Lib.hid (Bk.later HX3.out hb)
        have HY4 := Lib.hid (Bk.later HY3.out hb)
        have HB4 := Lib.hid (HB3.out.trans (hb.mono HB3.out.size))
        have HFX := Lib.hid hx
        clear hx
        clear hb f0 f1 f2 g0 g1 g2
        obtain ⟨f0, f1, f2⟩ := bk3 HX4.out
        obtain ⟨g0, g1, g2⟩ := bk3 HY4.out
        go_upto_region 6 with fail
        have hb := alloc_below w4 (.cells #[.string x.name, .int .u8 (x.p.a : Int), .int .u8 (x.p.b : Int), .int .u8 (x.p.c : Int), .int .u8 (x.p.d : Int), .int .u16 (x.p.port : Int), .slice ox x.r.length cx] 52)
        have HX5 := Lib.hid (Bk.later HX4.out hb)
        have HY5 := Lib.hid (Bk.later HY4.out hb)
        have HB5 := Lib.hid (HB4.out.trans (hb.mono HB4.out.size))
        have HQ5 := Lib.hid (alloc_at (w := w4) (g := w4.heap.size) #[.string x.name, .int .u8 (x.p.a : Int), .int .u8 (x.p.b : Int), .int .u8 (x.p.c : Int), .int .u8 (x.p.d : Int), .int .u16 (x.p.port : Int), .slice ox x.r.length cx] 52 rfl)
        have HRX5 := Lib.hid (HFX.out.2.1.later hb fun _ _ h => h)
        clear hb f0 f1 f2 g0 g1 g2
        generalize w4.alloc (.cells #[.string x.name, .int .u8 (x.p.a : Int), .int .u8 (x.p.b : Int), .int .u8 (x.p.c : Int), .int .u8 (x.p.d : Int), .int .u16 (x.p.port : Int), .slice ox x.r.length cx] 52) = w5 at *
        generalize w4.heap.size = g7 at *
        obtain ⟨f0, f1, f2⟩ := bk3 HX5.out
        obtain ⟨g0, g1, g2⟩ := bk3 HY5.out
        go_wp2_with fail
        refine (K18.out _ HB5.out).mono ?_
        rintro e w6 ⟨r2, y, oy, cy, rfl, hy, hb⟩
        have HX6 := Lib.hid (Bk.later HX5.out hb)
        have HY6 := Lib.hid (Bk.later HY5.out hb)
        have HB6 := Lib.hid (HB5.out.trans (hb.mono HB5.out.size))
        have HFY := Lib.hid hy
        have HQ6 := Lib.hid (HQ5.out.later hb)
        have HRX6 := Lib.hid (HRX5.out.later hb fun _ _ h => h)
        clear hy
        clear hb f0 f1 f2 g0 g1 g2
        obtain ⟨f0, f1, f2⟩ := bk3 HX6.out
        obtain ⟨g0, g1, g2⟩ := bk3 HY6.out
        go_upto_region 7 with fail
        have hb := alloc_below w6 (.cells #[.string y.name, .slice oy y.e.length cy] 57)
        have HX7 := Lib.hid (Bk.later HX6.out hb)
        have HY7 := Lib.hid (Bk.later HY6.out hb)
        have HB7 := Lib.hid (HB6.out.trans (hb.mono HB6.out.size))
        have HP7 := Lib.hid (alloc_at (w := w6) (g := w6.heap.size) #[.string y.name, .slice oy y.e.length cy] 57 rfl)
        have HRY7 := Lib.hid (HFY.out.2.1.later hb fun _ _ h => h)
        have HQ7 := Lib.hid (HQ6.out.later hb)
        have HRX7 := Lib.hid (HRX6.out.later hb fun _ _ h => h)
        clear hb f0 f1 f2 g0 g1 g2
        generalize w6.alloc (.cells #[.string y.name, .slice oy y.e.length cy] 57) = w7 at *
        generalize w6.heap.size = g9 at *
        obtain ⟨f0, f1, f2⟩ := bk3 HX7.out
        obtain ⟨g0, g1, g2⟩ := bk3 HY7.out
        obtain ⟨b1, hb1⟩ : ∃ b1, decide (0 ≤ r1) = b1 := ⟨_, rfl⟩
        obtain ⟨b2, hb2⟩ : ∃ b2, decide (0 ≤ r2) = b2 := ⟨_, rfl⟩
        have HD1 := Lib.hid hb1
        have HD2 := Lib.hid hb2
        rw [hb1, hb2]
        clear hb1 hb2
        have ew1 : IntKind.i64.wrap ((a.l.length : Int) - 1) = (a.l.length : Int) - 1 := IntWalk.i64_in _ (by omega)
        have ew2 : IntKind.i64.wrap ((a.c.length : Int) - 1) = (a.c.length : Int) - 1 := IntWalk.i64_in _ (by omega)
        go_wp2_with fail
        go_loopw [11, 13] (fun y z wz => ∃ (k : Nat) (r : Int), z = .int .i64 ((k : Int) - 1) ∧ y = .int .i64 r ∧ k ≤ a.l.length ∧ Hid (FF a.l.length (pLs a.l nm) k r) ∧ w7 = wz) (fun y z _ => (intOf z + 1).toNat)
        case atStart => exact ⟨a.l.length, -1, rfl, rfl, Nat.le_refl _, Lib.hid (FF.start _ _), rfl⟩
        case round =>
          obtain ⟨k, r, rfl, rfl, hk, HFF, rfl⟩ := hrel
          cases k with
          | succ m =>
            have hm : m < a.l.length := by omega
            have e1 : ((m + 1 : Nat) : Int) - 1 = (m : Int) := by omega
            have ew : IntKind.i64.wrap ((m : Int) - 1) = (m : Int) - 1 := IntWalk.i64_in _ (by omega)
            have q1 : (m : Int) < (a.l.length : Int) := by omega
            have q2 : decide ((0 : Int) ≤ (m : Int)) = true := by rw [decide_eq_true_iff]; omega
            obtain ⟨ho', hcell⟩ := HN1.out _ HB7.out m hm
            subst ho'
            have HM := Lib.hid hm
            have HPM := Lib.hid (pLs_at (nm := nm) hm)
            rw [e1]
            cases hp : ((a.l[m]'hm).name.toList == nm.toList) with
            | true =>
              rw [hp] at HPM
              have hp' : (a.l[m]'hm).name.toList = nm.toList := by rwa [beq_iff_eq] at hp
              generalize (a.l[m]'hm).name = sx at *
              clear e1
              go_wp2_with fail
              go_roundw
              case rel => exact ⟨m, (m : Int), rfl, rfl, by omega, Lib.hid (HFF.out.yes HM.out HPM.out), (by first | rfl | trivial)⟩
              case measure => first | (simp [intOf]; done) | (simp [intOf]; omega)
            | false =>
              rw [hp] at HPM
              have hp' : ¬ (a.l[m]'hm).name.toList = nm.toList := by rwa [beq_eq_false_iff_ne] at hp
              generalize (a.l[m]'hm).name = sx at *
              clear e1
              go_wp2_with fail
              go_roundw
              case rel => exact ⟨m, r, rfl, rfl, by omega, Lib.hid (HFF.out.no HPM.out), (by first | rfl | trivial)⟩
              case measure => first | (simp [intOf]; done) | (simp [intOf]; omega)
          | zero =>
            obtain rfl := FirstP.one HFX.out.1 HFF.out.done
            rw [show (((0 : Nat) : Int) - 1 : Int) = -1 from rfl]
            clear HFF hk
            go_wp2_with fail
            go_loopw [12, 14] (fun y z wz => ∃ (k : Nat) (r : Int), z = .int .i64 ((k : Int) - 1) ∧ y = .int .i64 r ∧ k ≤ a.c.length ∧ Hid (FF a.c.length (pCl a.c nm) k r) ∧ w7 = wz) (fun y z _ => (intOf z + 1).toNat)
            case atStart => exact ⟨a.c.length, -1, rfl, rfl, Nat.le_refl _, Lib.hid (FF.start _ _), rfl⟩
            case round =>
              obtain ⟨k, r, rfl, rfl, hk, HFF, rfl⟩ := hrel
              cases k with
              | succ m =>
                have hm : m < a.c.length := by omega
                have e1 : ((m + 1 : Nat) : Int) - 1 = (m : Int) := by omega
                have ew : IntKind.i64.wrap ((m : Int) - 1) = (m : Int) - 1 := IntWalk.i64_in _ (by omega)
                have q1 : (m : Int) < (a.c.length : Int) := by omega
                have q2 : decide ((0 : Int) ≤ (m : Int)) = true := by rw [decide_eq_true_iff]; omega
                obtain ⟨ho', hcell⟩ := HN2.out _ HB7.out m hm
                subst ho'
                have HM := Lib.hid hm
                have HPM := Lib.hid (pCl_at (nm := nm) hm)
                rw [e1]
                cases hp : ((a.c[m]'hm).name.toList == nm.toList) with
                | true =>
                  rw [hp] at HPM
                  have hp' : (a.c[m]'hm).name.toList = nm.toList := by rwa [beq_iff_eq] at hp
                  generalize (a.c[m]'hm).name = sx at *
                  clear e1
                  go_wp2_with fail
                  go_roundw
                  case rel => exact ⟨m, (m : Int), rfl, rfl, by omega, Lib.hid (HFF.out.yes HM.out HPM.out), (by first | rfl | trivial)⟩
                  case measure => first | (simp [intOf]; done) | (simp [intOf]; omega)
                | false =>
                  rw [hp] at HPM
                  have hp' : ¬ (a.c[m]'hm).name.toList = nm.toList := by rwa [beq_eq_false_iff_ne] at hp
                  generalize (a.c[m]'hm).name = sx at *
                  clear e1
                  go_wp2_with fail
                  go_roundw
                  case rel => exact ⟨m, r, rfl, rfl, by omega, Lib.hid (HFF.out.no HPM.out), (by first | rfl | trivial)⟩
                  case measure => first | (simp [intOf]; done) | (simp [intOf]; omega)
              | zero =>
                obtain rfl := FirstP.one HFY.out.1 HFF.out.done
                rw [show (((0 : Nat) : Int) - 1 : Int) = -1 from rfl]
                clear HFF hk
                go_upto_region 18 with fail
                rename_i K1 hK1 K hK
                have HREST : ∀ (v0 v1 v2 v5 v6 v7 v8 v9 v10 v11 v12 v13 v14 v15 v16 v17 v18 v19 v20 v21 v22 v23 v24 v25 v26 v27 v28 v29 v30 v31 v32 v33 v34 v35 v36 v37 v38 v39 v40 v41 v42 v43 v44 v45 v46 v47 v48 v49 v50 v51 v52 v53 v54 v55 v56 v57 v58 v59 v60 v61 v62 v63 v64 v65 v66 v67 v68 v69 v70 v71 v72 v73 v74 v75 v76 v77 v78 v79 v80 v81 v82 v83 v84 v85 v86 v87 v88 v89 v90 v91 v92 v93 v94 v95 v96 v97 v98 v99 v100 v101 v102 v103 v104 v105 v106 v107 v108 v109 v110 v111 v112 v113 v114 v115 v116 v117 v118 v119 v120 v121 v122 v123 v124 : Value) (wz : World), Hid (Bk wz w.heap.size #[.int .u64 (a.v : Int), .slice o1 a.l.length C1, .slice o2 a.c.length C2] 26) → Hid (Bk wz (w.heap.size + 1) #[d0, d1, d2] 26) → Hid (Below w.heap.size w wz) → K { tmps := #[v0, v1, v2, .pointer (some ⟨w.heap.size, 0, none⟩), .pointer (some ⟨w.heap.size + 1, 0, none⟩), v5, v6, v7, v8, v9, v10, v11, v12, v13, v14, v15, v16, v17, v18, v19, v20, v21, v22, v23, v24, v25, v26, v27, v28, v29, v30, v31, v32, v33, v34, v35, v36, v37, v38, v39, v40, v41, v42, v43, v44, v45, v46, v47, v48, v49, v50, v51, v52, v53, v54, v55, v56, v57, v58, v59, v60, v61, v62, v63, v64, v65, v66, v67, v68, v69, v70, v71, v72, v73, v74, v75, v76, v77, v78, v79, v80, v81, v82, v83, v84, v85, v86, v87, v88, v89, v90, v91, v92, v93, v94, v95, v96, v97, v98, v99, v100, v101, v102, v103, v104, v105, v106, v107, v108, v109, v110, v111, v112, v113, v114, v115, v116, v117, v118, v119, v120, v121, v122, v123, v124, .bool false, undef, undef, undef, undef, undef, undef, undef, undef, undef, undef, undef, undef, undef, undef, undef, undef, undef, undef, undef, undef, undef, undef, undef, undef, undef, undef, undef, undef, undef, undef, undef, undef, undef, undef, undef, undef, undef, undef, undef, undef, undef, undef, undef, undef, undef, undef, undef, undef, undef, undef, undef, undef, undef, undef, undef, undef, undef, undef, undef, undef, undef, undef, undef, undef, undef, undef, undef, undef, undef, undef, undef, undef, undef, undef, undef, undef, undef, undef, undef, undef, undef, undef, undef, undef, undef], defers := [] } wz := by
                  as_aux_lemma =>
                    intro v0 v1 v2 v5 v6 v7 v8 v9 v10 v11 v12 v13 v14 v15 v16 v17 v18 v19 v20 v21 v22 v23 v24 v25 v26 v27 v28 v29 v30 v31 v32 v33 v34 v35 v36 v37 v38 v39 v40 v41 v42 v43 v44 v45 v46 v47 v48 v49 v50 v51 v52 v53 v54 v55 v56 v57 v58 v59 v60 v61 v62 v63 v64 v65 v66 v67 v68 v69 v70 v71 v72 v73 v74 v75 v76 v77 v78 v79 v80 v81 v82 v83 v84 v85 v86 v87 v88 v89 v90 v91 v92 v93 v94 v95 v96 v97 v98 v99 v100 v101 v102 v103 v104 v105 v106 v107 v108 v109 v110 v111 v112 v113 v114 v115 v116 v117 v118 v119 v120 v121 v122 v123 v124 w8 HX8 HY8 HB8
                    apply hK
                    clear KL1 KL2 KW K17 K18 HFX HFY HQ5 HRX5 HQ6 HRX6 HP7 HRY7 HQ7 HRX7 HX7 HY7 HB7 f0 f1 f2 g0 g1 g2
                    obtain ⟨f0, f1, f2⟩ := bk3 HX8.out
                    obtain ⟨g0, g1, g2⟩ := bk3 HY8.out
                    have K19 : Hid (∀ wz, Below w.heap.size w wz → Calls Tryz.prog 19 #[.agg #[.int .u64 (a.v : Int), .slice o1 a.l.length C1, .slice o2 a.c.length C2]] wz fun e w' => ∃ oV cV oK cK, e = .returned (.agg #[.int .u64 (a.v : Int), .slice oV a.l.length cV, .slice oK a.c.length cK]) ∧ LcR w' wz.heap.size (.slice oV a.l.length cV) a.l ∧ KcR w' wz.heap.size (.slice oK a.c.length cK) a.c ∧ Below wz.heap.size wz w') := Lib.hid (fun wz h => clone_co (HA.out.later h) HLA.out.sized)
                    go_wp2_with fail
                    refine (K19.out _ HB8.out).mono ?_
                    rintro e w9 ⟨oV, cV, oK, cK, rfl, hL, hKK, hb⟩
                    have HX9 := Lib.hid (Bk.later HX8.out hb)
                    have HY9 := Lib.hid (Bk.later HY8.out hb)
                    have HB9 := Lib.hid (HB8.out.trans (hb.mono HB8.out.size))
                    have HL9 := Lib.hid (hL.mono (B' := w.heap.size) HB8.out.size)
                    have HK9 := Lib.hid (hKK.mono (B' := w.heap.size) HB8.out.size)
                    clear hL hKK
                    clear hb f0 f1 f2 g0 g1 g2
                    obtain ⟨f0, f1, f2⟩ := bk3 HX9.out
                    obtain ⟨g0, g1, g2⟩ := bk3 HY9.out
                    go_upto_region 21 with fail
                    have hb := alloc_below w9 (.cells #[.int .u64 (a.v : Int), .slice oV a.l.length cV, .slice oK a.c.length cK] 26)
                    have HX10 := Lib.hid (Bk.later HX9.out hb)
                    have HY10 := Lib.hid (Bk.later HY9.out hb)
                    have HB10 := Lib.hid (HB9.out.trans (hb.mono HB9.out.size))
                    have HC10 := Lib.hid (alloc_at (w := w9) (g := w9.heap.size) #[.int .u64 (a.v : Int), .slice oV a.l.length cV, .slice oK a.c.length cK] 26 rfl)
                    have HL10 := Lib.hid (HL9.out.later hb)
                    have HK10 := Lib.hid (HK9.out.later hb)
                    clear hb f0 f1 f2 g0 g1 g2
                    generalize w9.alloc (.cells #[.int .u64 (a.v : Int), .slice oV a.l.length cV, .slice oK a.c.length cK] 26) = w10 at *
                    generalize w9.heap.size = g15 at *
                    obtain ⟨f0, f1, f2⟩ := bk3 HX10.out
                    obtain ⟨g0, g1, g2⟩ := bk3 HY10.out
                    have KCA : Hid (∀ wz, Below w.heap.size w wz → LcR wz w.heap.size (.slice oV a.l.length cV) a.l → KcR wz w.heap.size (.slice oK a.c.length cK) a.c → Calls Tryz.prog 14 #[.agg #[.int .u64 (a.v : Int), .slice oV a.l.length cV, .slice oK a.c.length cK], .agg #[.int .u64 (a.v : Int), .slice o1 a.l.length C1, .slice o2 a.c.length C2]] wz (TrP true wz)) := Lib.hid (fun wz h h1 h2 => by
                      have k := same_co (a := a) (b := a) ⟨rfl, HV.out, h1.rows HA.out.okL, h2.rows HA.out.okC⟩ (HA.out.later h) HLA.out.sized
                      rwa [decide_eq_true (rfl : a = a)] at k)
                    obtain ⟨D, hD⟩ : ∃ D, decide (a = b) = D := ⟨_, rfl⟩
                    have KAB : Hid (∀ wz, Below w.heap.size w wz → Calls Tryz.prog 14 #[.agg #[.int .u64 (a.v : Int), .slice o1 a.l.length C1, .slice o2 a.c.length C2], .agg #[d0, d1, d2]] wz (TrP D wz)) := Lib.hid (fun wz h => by
                      have k := same_co (HA.out.later h) (HBB.out.later h) HLA.out.sized
                      rwa [hD] at k)
                    have KTA : Hid (∀ wz, Below w.heap.size w wz → Calls Tryz.prog 11 #[.agg #[.int .u64 (a.v : Int), .slice o1 a.l.length C1, .slice o2 a.c.length C2]] wz fun e w' => (∃ t1 t2, e = .returned (.agg #[.int .u64 (a.v : Int), t1, t2]) ∧ CoIn w' (.int .u64 (a.v : Int)) t1 t2 a) ∧ Below wz.heap.size wz w') := Lib.hid (fun wz h => to_any (HA.out.later h) HLA.out.sized)
                    have KTB : Hid (∀ wz, Below w.heap.size w wz → Calls Tryz.prog 11 #[.agg #[d0, d1, d2]] wz fun e w' => (∃ t1 t2, e = .returned (.agg #[.int .u64 (b.v : Int), t1, t2]) ∧ CoIn w' (.int .u64 (b.v : Int)) t1 t2 b) ∧ Below wz.heap.size wz w') := Lib.hid (fun wz h => to_any (HBB.out.later h) HLB.out.sized)
                    have KRS : Hid (∀ wz t1 t2 s1 s2, CoIn wz (.int .u64 (a.v : Int)) t1 t2 a → CoIn wz (.int .u64 (b.v : Int)) s1 s2 b → Calls Tryz.prog 15 #[.agg #[.int .u64 (a.v : Int), t1, t2], .agg #[.int .u64 (b.v : Int), s1, s2]] wz (TrP D wz)) := Lib.hid (fun wz t1 t2 s1 s2 h1 h2 => by
                      have k := rsame_co h1 h2 HLA.out.sized HLB.out.sized
                      rwa [hD] at k)
                    clear hD
                    have hDD : (D != D) = false := bne_self_eq_false D
                    clear f0 f1 f2 g0 g1 g2
                    have HX11 := Lib.hid (show Bk w10.drew w.heap.size #[.int .u64 (a.v : Int), .slice o1 a.l.length C1, .slice o2 a.c.length C2] 26 from HX10.out)
                    have HY11 := Lib.hid (show Bk w10.drew (w.heap.size + 1) #[d0, d1, d2] 26 from HY10.out)
                    have HC11 := Lib.hid (show Bk w10.drew g15 #[.int .u64 (a.v : Int), .slice oV a.l.length cV, .slice oK a.c.length cK] 26 from HC10.out)
                    have HL11 := Lib.hid (HL10.out.later (w' := w10.drew) ⟨rfl, rfl, rfl, Nat.le_refl _, fun _ _ => rfl⟩)
                    have HK11 := Lib.hid (HK10.out.later (w' := w10.drew) ⟨rfl, rfl, rfl, Nat.le_refl _, fun _ _ => rfl⟩)
                    have HB11 := Lib.hid HB10.out.drew
                    have mkS : Hid (∀ wz, Bk wz w.heap.size #[.int .u64 (a.v : Int), .slice o1 a.l.length C1, .slice o2 a.c.length C2] 26 → Bk wz (w.heap.size + 1) #[d0, d1, d2] 26 → Bk wz g15 #[.int .u64 (a.v : Int), .slice oV a.l.length cV, .slice oK a.c.length cK] 26 → wz.cell? ⟨w.heap.size, 0, none⟩ = some (.int .u64 (a.v : Int)) ∧ wz.cell? ⟨w.heap.size, 1, none⟩ = some (.slice o1 a.l.length C1) ∧ wz.cell? ⟨w.heap.size, 2, none⟩ = some (.slice o2 a.c.length C2) ∧ wz.cell? ⟨w.heap.size + 1, 0, none⟩ = some (d0) ∧ wz.cell? ⟨w.heap.size + 1, 1, none⟩ = some (d1) ∧ wz.cell? ⟨w.heap.size + 1, 2, none⟩ = some (d2) ∧ wz.cell? ⟨g15, 0, none⟩ = some (.int .u64 (a.v : Int)) ∧ wz.cell? ⟨g15, 1, none⟩ = some (.slice oV a.l.length cV) ∧ wz.cell? ⟨g15, 2, none⟩ = some (.slice oK a.c.length cK)) := Lib.hid (fun wz h k m => ⟨(bk3 h).1, (bk3 h).2.1, (bk3 h).2.2, (bk3 k).1, (bk3 k).2.1, (bk3 k).2.2, (bk3 m).1, (bk3 m).2.1, (bk3 m).2.2⟩)
                    refine wp_region_held_drew (S := fun wz => wz.cell? ⟨w.heap.size, 0, none⟩ = some (.int .u64 (a.v : Int)) ∧ wz.cell? ⟨w.heap.size, 1, none⟩ = some (.slice o1 a.l.length C1) ∧ wz.cell? ⟨w.heap.size, 2, none⟩ = some (.slice o2 a.c.length C2) ∧ wz.cell? ⟨w.heap.size + 1, 0, none⟩ = some (d0) ∧ wz.cell? ⟨w.heap.size + 1, 1, none⟩ = some (d1) ∧ wz.cell? ⟨w.heap.size + 1, 2, none⟩ = some (d2) ∧ wz.cell? ⟨g15, 0, none⟩ = some (.int .u64 (a.v : Int)) ∧ wz.cell? ⟨g15, 1, none⟩ = some (.slice oV a.l.length cV) ∧ wz.cell? ⟨g15, 2, none⟩ = some (.slice oK a.c.length cK)) (by kernel_rfl) (mkS.out _ HX11.out HY11.out HC11.out) (fun hHeld => ?_)
                    generalize w10.drew = wc11 at *
                    refine wpAnyH_take (i := 0) (oi := ⟨some 128, _, _, _, _, _⟩) (v := ?_) rfl (by kernel_rfl) (by kernel_rfl) (by kernel_rfl) (fun _ _ _ h => h) (Or.inl ⟨by rfl, by (intro w hSw; (try dsimp only at hSw); go_simp; try with_reducible rfl)⟩) hHeld ?_
                    try simp only [Act.put, List.setIfInBounds_toArray, List.set_cons_zero, List.set_cons_succ]
                    refine wpAnyH_take (i := 1) (oi := ⟨some 129, _, _, _, _, _⟩) (v := ?_) rfl (by kernel_rfl) (by kernel_rfl) (by kernel_rfl) (fun _ _ _ h => h) (Or.inl ⟨by rfl, by (intro w hSw; (try dsimp only at hSw); go_simp; try with_reducible rfl)⟩) hHeld ?_
                    try simp only [Act.put, List.setIfInBounds_toArray, List.set_cons_zero, List.set_cons_succ]
                    refine wpAnyH_ready (rs := [2]) (by kernel_rfl) (by simp) ?_
                    refine AllReadyH.cons (o := ⟨some 130, _, _, _, _, _⟩) rfl (fun K hK => ?_) ?_
                    · go_simp
                      refine (KCA.out _ HB11.out HL11.out HK11.out).mono ?_
                      rintro ze wc12 ⟨rfl, hbn⟩
                      try go_simp
                      have HX12 := Lib.hid (Bk.later HX11.out hbn)
                      have HY12 := Lib.hid (Bk.later HY11.out hbn)
                      have HC12 := Lib.hid (Bk.later HC11.out hbn)
                      have HL12 := Lib.hid (HL11.out.later hbn)
                      have HK12 := Lib.hid (HK11.out.later hbn)
                      have HB12 := Lib.hid (HB11.out.trans (hbn.mono HB11.out.size))
                      refine hK.out _ _ (mkS.out _ HX12.out HY12.out HC12.out) (fun hHeld2 => ?_)
                      clear hK K hHeld
                      have hHeld := hHeld2
                      clear hHeld2
                      clear hbn
                      try simp only [Act.put, List.setIfInBounds_toArray, List.set_cons_zero, List.set_cons_succ]
                      refine wpAnyH_take (i := 3) (oi := ⟨some 131, _, _, _, _, _⟩) (v := ?_) rfl (by kernel_rfl) (by kernel_rfl) (by kernel_rfl) (fun _ _ _ h => h) (Or.inl ⟨by rfl, by (intro w hSw; (try dsimp only at hSw); go_simp; try with_reducible rfl)⟩) hHeld ?_
                      try simp only [Act.put, List.setIfInBounds_toArray, List.set_cons_zero, List.set_cons_succ]
                      refine wpAnyH_take (i := 4) (oi := ⟨some 132, _, _, _, _, _⟩) (v := ?_) rfl (by kernel_rfl) (by kernel_rfl) (by kernel_rfl) (fun _ _ _ h => h) (Or.inl ⟨by rfl, by (intro w hSw; (try dsimp only at hSw); go_simp; try with_reducible rfl)⟩) hHeld ?_
                      try simp only [Act.put, List.setIfInBounds_toArray, List.set_cons_zero, List.set_cons_succ]
                      refine wpAnyH_take (i := 5) (oi := ⟨some 133, _, _, _, _, _⟩) (v := ?_) rfl (by kernel_rfl) (by kernel_rfl) (by kernel_rfl) (fun _ _ _ h => h) (Or.inl ⟨by rfl, by (intro w hSw; (try dsimp only at hSw); go_simp; try with_reducible rfl)⟩) hHeld ?_
                      try simp only [Act.put, List.setIfInBounds_toArray, List.set_cons_zero, List.set_cons_succ]
                      refine wpAnyH_take (i := 6) (oi := ⟨some 134, _, _, _, _, _⟩) (v := ?_) rfl (by kernel_rfl) (by kernel_rfl) (by kernel_rfl) (fun _ _ _ h => h) (Or.inl ⟨by rfl, by (intro w hSw; (try dsimp only at hSw); go_simp; try with_reducible rfl)⟩) hHeld ?_
                      try simp only [Act.put, List.setIfInBounds_toArray, List.set_cons_zero, List.set_cons_succ]
                      refine wpAnyH_take (i := 8) (oi := ⟨some 136, _, _, _, _, _⟩) (v := ?_) rfl (by kernel_rfl) (by kernel_rfl) (by kernel_rfl) (fun _ _ _ h => h) (Or.inl ⟨by rfl, by (intro w hSw; (try dsimp only at hSw); go_simp; try with_reducible rfl)⟩) hHeld ?_
                      try simp only [Act.put, List.setIfInBounds_toArray, List.set_cons_zero, List.set_cons_succ]
                      refine wpAnyH_take (i := 10) (oi := ⟨some 138, _, _, _, _, _⟩) (v := ?_) rfl (by kernel_rfl) (by kernel_rfl) (by kernel_rfl) (fun _ _ _ h => h) (Or.inl ⟨by rfl, by (intro w hSw; (try dsimp only at hSw); go_simp; try with_reducible rfl)⟩) hHeld ?_
                      try simp only [Act.put, List.setIfInBounds_toArray, List.set_cons_zero, List.set_cons_succ]
                      refine wpAnyH_ready (rs := [7]) (by kernel_rfl) (by simp) ?_
                      refine AllReadyH.cons (o := ⟨some 135, _, _, _, _, _⟩) rfl (fun K hK => ?_) ?_
                      · go_simp
                        refine (KAB.out _ HB12.out).mono ?_
                        rintro ze wc13 ⟨rfl, hbn⟩
                        try go_simp
                        have HX13 := Lib.hid (Bk.later HX12.out hbn)
                        have HY13 := Lib.hid (Bk.later HY12.out hbn)
                        have HC13 := Lib.hid (Bk.later HC12.out hbn)
                        have HL13 := Lib.hid (HL12.out.later hbn)
                        have HK13 := Lib.hid (HK12.out.later hbn)
                        have HB13 := Lib.hid (HB12.out.trans (hbn.mono HB12.out.size))
                        refine hK.out _ _ (mkS.out _ HX13.out HY13.out HC13.out) (fun hHeld2 => ?_)
                        clear hK K hHeld
                        have hHeld := hHeld2
                        clear hHeld2
                        clear hbn
                        try simp only [Act.put, List.setIfInBounds_toArray, List.set_cons_zero, List.set_cons_succ]
                        refine wpAnyH_ready (rs := [9]) (by kernel_rfl) (by simp) ?_
                        refine AllReadyH.cons (o := ⟨some 137, _, _, _, _, _⟩) rfl (fun K hK => ?_) ?_
                        · go_simp
                          refine (KTA.out _ HB13.out).mono ?_
                          rintro ze wc14 ⟨⟨t1, t2, rfl, hta⟩, hbn⟩
                          try go_simp
                          have HX14 := Lib.hid (Bk.later HX13.out hbn)
                          have HY14 := Lib.hid (Bk.later HY13.out hbn)
                          have HC14 := Lib.hid (Bk.later HC13.out hbn)
                          have HL14 := Lib.hid (HL13.out.later hbn)
                          have HK14 := Lib.hid (HK13.out.later hbn)
                          have HB14 := Lib.hid (HB13.out.trans (hbn.mono HB13.out.size))
                          have HTA14 := Lib.hid hta
                          obtain ⟨ot1, ct1, hft1⟩ := hta.2.2.1.form
                          obtain ⟨ot2, ct2, hft2⟩ := hta.2.2.2.form
                          subst hft1
                          subst hft2
                          clear hta
                          refine hK.out _ _ (mkS.out _ HX14.out HY14.out HC14.out) (fun hHeld2 => ?_)
                          clear hK K hHeld
                          have hHeld := hHeld2
                          clear hHeld2
                          clear hbn
                          try simp only [Act.put, List.setIfInBounds_toArray, List.set_cons_zero, List.set_cons_succ]
                          refine wpAnyH_ready (rs := [11]) (by kernel_rfl) (by simp) ?_
                          refine AllReadyH.cons (o := ⟨some 139, _, _, _, _, _⟩) rfl (fun K hK => ?_) ?_
                          · go_simp
                            refine (KTB.out _ HB14.out).mono ?_
                            rintro ze wc15 ⟨⟨s1, s2, rfl, htb⟩, hbn⟩
                            try go_simp
                            have HX15 := Lib.hid (Bk.later HX14.out hbn)
                            have HY15 := Lib.hid (Bk.later HY14.out hbn)
                            have HC15 := Lib.hid (Bk.later HC14.out hbn)
                            have HL15 := Lib.hid (HL14.out.later hbn)
                            have HK15 := Lib.hid (HK14.out.later hbn)
                            have HTA15 := Lib.hid (HTA14.out.later hbn)
                            have HB15 := Lib.hid (HB14.out.trans (hbn.mono HB14.out.size))
                            have HTB15 := Lib.hid htb
                            obtain ⟨os1, cs1, hfs1⟩ := htb.2.2.1.form
                            obtain ⟨os2, cs2, hfs2⟩ := htb.2.2.2.form
                            subst hfs1
                            subst hfs2
                            clear htb
                            refine hK.out _ _ (mkS.out _ HX15.out HY15.out HC15.out) (fun hHeld2 => ?_)
                            clear hK K hHeld
                            have hHeld := hHeld2
                            clear hHeld2
                            clear hbn
                            try simp only [Act.put, List.setIfInBounds_toArray, List.set_cons_zero, List.set_cons_succ]
                            refine wpAnyH_ready (rs := [12]) (by kernel_rfl) (by simp) ?_
                            refine AllReadyH.cons (o := ⟨some 140, _, _, _, _, _⟩) rfl (fun K hK => ?_) ?_
                            · go_simp
                              refine (KRS.out _ _ _ _ _ HTA15.out HTB15.out).mono ?_
                              rintro ze wc16 ⟨rfl, hbn⟩
                              try go_simp
                              have HX16 := Lib.hid (Bk.later HX15.out hbn)
                              have HY16 := Lib.hid (Bk.later HY15.out hbn)
                              have HC16 := Lib.hid (Bk.later HC15.out hbn)
                              have HL16 := Lib.hid (HL15.out.later hbn)
                              have HK16 := Lib.hid (HK15.out.later hbn)
                              have HTA16 := Lib.hid (HTA15.out.later hbn)
                              have HTB16 := Lib.hid (HTB15.out.later hbn)
                              have HB16 := Lib.hid (HB15.out.trans (hbn.mono HB15.out.size))
                              refine hK.out _ _ (mkS.out _ HX16.out HY16.out HC16.out) (fun hHeld2 => ?_)
                              clear hK K hHeld
                              have hHeld := hHeld2
                              clear hHeld2
                              clear hbn
                              try simp only [Act.put, List.setIfInBounds_toArray, List.set_cons_zero, List.set_cons_succ]
                              refine wpAnyH_take (i := 13) (oi := ⟨some 141, _, _, _, _, _⟩) (v := ?_) rfl (by kernel_rfl) (by kernel_rfl) (by kernel_rfl) (fun _ _ _ h => h) (Or.inl ⟨by rfl, by (intro w hSw; (try dsimp only at hSw); go_simp; try with_reducible rfl)⟩) hHeld ?_
                              try simp only [Act.put, List.setIfInBounds_toArray, List.set_cons_zero, List.set_cons_succ]
                              refine wpAnyH_take (i := 14) (oi := ⟨some 142, _, _, _, _, _⟩) (v := ?_) rfl (by kernel_rfl) (by kernel_rfl) (by kernel_rfl) (fun _ _ _ h => h) (Or.inl ⟨by rfl, by (intro w hSw; (try dsimp only at hSw); go_simp; try with_reducible rfl)⟩) hHeld ?_
                              try simp only [Act.put, List.setIfInBounds_toArray, List.set_cons_zero, List.set_cons_succ]
                              refine wpAnyH_done (by kernel_rfl) ?_ _
                              simp only [Exit.then]
                              apply_assumption
                              obtain ⟨f0, f1, f2⟩ := bk3 HX16.out
                              have KTO : Hid (∀ wz, Below w.heap.size w wz → Calls Tryz.prog 11 #[.agg #[.int .u64 (a.v : Int), .slice o1 a.l.length C1, .slice o2 a.c.length C2]] wz fun e w' => (∃ d1 d2, e = .returned (.agg #[.int .u64 (a.v : Int), d1, d2]) ∧ LlR w' (wz.heap.size + 3) d1 a.l ∧ CcR w' (wz.heap.size + 3) d2 a.c) ∧ Below wz.heap.size wz w') := Lib.hid (fun wz h => to_own (HA.out.later h) HLA.out.sized)
                              go_wp2_with fail
                              refine (KTO.out _ HB16.out).mono ?_
                              rintro e w17 ⟨⟨u1, u2, rfl, hwl, hwc⟩, hb⟩
                              obtain ⟨oW, nW, cW, hfw⟩ := hwl.form
                              subst hfw
                              obtain ⟨oX, nX, cX, hfx⟩ := hwc.form
                              subst hfx
                              have HX17 := Lib.hid (Bk.later HX16.out hb)
                              have HC17 := Lib.hid (Bk.later HC16.out hb)
                              have HL17 := Lib.hid (HL16.out.later hb)
                              have HK17 := Lib.hid (HK16.out.later hb)
                              have HB17 := Lib.hid (HB16.out.trans (hb.mono HB16.out.size))
                              have HWL17 := Lib.hid (hwl.mono (Nat.zero_le _))
                              have HWC17 := Lib.hid (hwc.mono (Nat.zero_le _))
                              clear hb f0 f1 f2 hwl hwc
                              go_upto_region 24 with fail
                              have hb := alloc_below w17 (.cells #[.int .u64 (a.v : Int), .slice oW nW cW, .slice oX nX cX] 37)
                              have HX18 := Lib.hid (Bk.later HX17.out hb)
                              have HC18 := Lib.hid (Bk.later HC17.out hb)
                              have HL18 := Lib.hid (HL17.out.later hb)
                              have HK18 := Lib.hid (HK17.out.later hb)
                              have HB18 := Lib.hid (HB17.out.trans (hb.mono HB17.out.size))
                              have HWL18 := Lib.hid (HWL17.out.later hb)
                              have HWC18 := Lib.hid (HWC17.out.later hb)
                              have HD18 := Lib.hid (alloc_at (w := w17) (g := w17.heap.size) #[.int .u64 (a.v : Int), .slice oW nW cW, .slice oX nX cX] 37 rfl)
                              clear hb
                              generalize w17.alloc (.cells #[.int .u64 (a.v : Int), .slice oW nW cW, .slice oX nX cX] 37) = w18 at *
                              generalize w17.heap.size = g16 at *
                              obtain ⟨PL, hPL, hrow, hin⟩ := HL18.out
                              obtain ⟨PK, hPK, hrok, hik⟩ := HK18.out
                              have HPL := Lib.hid hPL
                              have HPK := Lib.hid hPK
                              have HPLn : Hid (PL.length = a.l.length) := Lib.hid (by rw [← hPL, List.length_map])
                              have HPKn : Hid (PK.length = a.c.length) := Lib.hid (by rw [← hPK, List.length_map])
                              have HI0 : Hid (Iv w g15 g16 #[.int .u64 (a.v : Int), .slice o1 a.l.length C1, .slice o2 a.c.length C2] (.slice oV a.l.length cV) (.slice oK a.c.length cK) (.slice oW nW cW) (.slice oX nX cX) a PL PK (300 + 12 * 0) w18) := Lib.hid ⟨HX18.out, HC18.out, HD18.out, HWL18.out, HWC18.out, hrow, hrok, fun p hp => StrRow.of (hin p hp) (fun r hr => ((HLA.out.2.2.1 p.1 (by rw [← hPL]; exact List.mem_map.2 ⟨p, hp, rfl⟩)).2.2 r hr).1), fun p hp => IntRow.of (hik p hp), HB18.out⟩
                              clear hPL hPK hrow hrok hin hik HX18 HC18 HD18 HWL18 HWC18 HL18 HK18 HB18 HX17 HC17 HL17 HK17 HB17 HWL17 HWC17
                              obtain ⟨x0, x1, x2⟩ := bk3 HI0.out.x15
                              go_wp2
                              go_loopw [148] (fun y wz => ∃ (i : Nat), y = .int .i64 i ∧ i ≤ a.l.length ∧ Hid (Iv w g15 g16 #[.int .u64 (a.v : Int), .slice o1 a.l.length C1, .slice o2 a.c.length C2] (.slice oV a.l.length cV) (.slice oK a.c.length cK) (.slice oW nW cW) (.slice oX nX cX) a PL PK (300 + 12 * i) wz)) (fun y _ => a.l.length - (intOf y).toNat)
                              case atStart => exact ⟨0, rfl, Nat.zero_le _, HI0⟩
                              case round =>
                                rename World => wo
                                clear x0 x1 x2
                                obtain ⟨i, rfl, hi, HI⟩ := hrel
                                obtain ⟨x0, x1, x2⟩ := bk3 HI.out.x15
                                by_cases hlt : i < a.l.length
                                · have hlp : i < PL.length := by rw [HPLn.out]; exact hlt
                                  obtain ⟨gV, hgV, hcV⟩ := HI.out.rowL hlp
                                  subst hgV
                                  have HROW0 : Hid (∀ T wz, Iv w g15 g16 #[.int .u64 (a.v : Int), .slice o1 a.l.length C1, .slice o2 a.c.length C2] (.slice (some ⟨gV, 0, none⟩) a.l.length cV) (.slice oK a.c.length cK) (.slice oW nW cW) (.slice oX nX cX) a PL PK (T) wz → wz.cell? ⟨gV, i * 7 + 6, none⟩ = some (PL[i]'hlp).2) := Lib.hid (fun T wz h => by
                                    obtain ⟨g', h1, h2⟩ := h.rowL hlp
                                    cases h1
                                    exact h2)
                                  have HMEM : Hid ((PL[i]'hlp) ∈ PL) := Lib.hid (List.getElem_mem hlp)
                                  have HTW : Hid ((PL[i]'hlp).1.r.length ≤ 12) := Lib.hid (HLA.out.2.2.1 _ (by rw [← HPL.out]; exact List.mem_map.2 ⟨_, HMEM.out, rfl⟩)).2.1
                                  obtain ⟨oS, cS, hpS, _⟩ := HI.out.st _ HMEM.out
                                  generalize (PL[i]'hlp) = p at *
                                  obtain ⟨q, v⟩ := p
                                  simp only at hpS HROW0 HMEM HTW hcV
                                  subst hpS
                                  clear hcV hlp
                                  have hcV := HROW0.out _ _ HI.out
                                  have q1 : (i : Int) < (a.l.length : Int) := by omega
                                  have q0 : (a.l.length : Int) ≤ 12 := by have := HLA.out.1; omega
                                  have q2 : (q.r.length : Int) ≤ 12 := by have := HTW.out; omega
                                  go_wp2
                                  go_loopw [158] (fun y wz => ∃ (j : Nat), y = .int .i64 j ∧ j ≤ q.r.length ∧ Hid (Iv w g15 g16 #[.int .u64 (a.v : Int), .slice o1 a.l.length C1, .slice o2 a.c.length C2] (.slice (some ⟨gV, 0, none⟩) a.l.length cV) (.slice oK a.c.length cK) (.slice oW nW cW) (.slice oX nX cX) a PL PK (300 + 12 * i + j) wz)) (fun y _ => q.r.length - (intOf y).toNat)
                                  case atStart => exact ⟨0, rfl, Nat.zero_le _, HI⟩
                                  case round =>
                                    clear x0 x1 x2 hcV
                                    obtain ⟨j, rfl, hj, HJ⟩ := hrel
                                    obtain ⟨x0, x1, x2⟩ := bk3 HJ.out.x15
                                    have hcV := HROW0.out _ _ HJ.out
                                    by_cases hlj : j < q.r.length
                                    · obtain ⟨g, s, hg, hc, hf, hsz, hset⟩ := HJ.out.host HMEM.out rfl hlj
                                      subst hg
                                      have q3 : (j : Int) < (q.r.length : Int) := by omega
                                      have HSET := Lib.hid hset
                                      have HSZ := Lib.hid hsz
                                      have hs2 : s.size + 1 ≤ 281474976710656 := by omega
                                      clear hset hsz
                                      go_wp2
                                      go_roundw
                                      case rel => exact ⟨j + 1, by go_num, by omega, Lib.hid (HSET.out _ _ (by omega) (by have := HSZ.out; rw [ByteArray.size_append]; show s.size + 1 ≤ _; omega))⟩
                                      case measure => simp [intOf]; omega
                                    · have q3 : ¬ (j : Int) < (q.r.length : Int) := by omega
                                      go_wp2
                                      go_roundw
                                      case rel => exact ⟨i + 1, by go_num, by omega, Lib.hid (HJ.out.mono (by have := HTW.out; omega))⟩
                                      case measure => simp [intOf]; omega
                                · have q1 : ¬ (i : Int) < (a.l.length : Int) := by omega
                                  go_wp2
                                  go_loopw [179] (fun y wz => ∃ (i : Nat), y = .int .i64 i ∧ i ≤ a.c.length ∧ Hid (Iv w g15 g16 #[.int .u64 (a.v : Int), .slice o1 a.l.length C1, .slice o2 a.c.length C2] (.slice oV a.l.length cV) (.slice oK a.c.length cK) (.slice oW nW cW) (.slice oX nX cX) a PL PK (300 + 12 * 12) wz)) (fun y _ => a.c.length - (intOf y).toNat)
                                  case atStart => exact ⟨0, rfl, Nat.zero_le _, Lib.hid (HI.out.mono (by have := HLA.out.1; omega))⟩
                                  case round =>
                                    clear x0 x1 x2 HI hlt q1
                                    rename World => wp
                                    obtain ⟨i, rfl, hi, HI⟩ := hrel
                                    obtain ⟨x0, x1, x2⟩ := bk3 HI.out.x15
                                    by_cases hlt : i < a.c.length
                                    · have hlp : i < PK.length := by rw [HPKn.out]; exact hlt
                                      obtain ⟨gV, hgV, hcV⟩ := HI.out.rowK hlp
                                      subst hgV
                                      have HROW0 : Hid (∀ T wz, Iv w g15 g16 #[.int .u64 (a.v : Int), .slice o1 a.l.length C1, .slice o2 a.c.length C2] (.slice oV a.l.length cV) (.slice (some ⟨gV, 0, none⟩) a.c.length cK) (.slice oW nW cW) (.slice oX nX cX) a PL PK (T) wz → wz.cell? ⟨gV, i * 2 + 1, none⟩ = some (PK[i]'hlp).2) := Lib.hid (fun T wz h => by
                                        obtain ⟨g', h1, h2⟩ := h.rowK hlp
                                        cases h1
                                        exact h2)
                                      have HMEM : Hid ((PK[i]'hlp) ∈ PK) := Lib.hid (List.getElem_mem hlp)
                                      have HTW : Hid ((PK[i]'hlp).1.e.length ≤ 12) := Lib.hid (HLA.out.2.2.2 _ (by rw [← HPK.out]; exact List.mem_map.2 ⟨_, HMEM.out, rfl⟩)).2
                                      obtain ⟨oS, cS, hpS, _⟩ := HI.out.it _ HMEM.out
                                      generalize (PK[i]'hlp) = p at *
                                      obtain ⟨q, v⟩ := p
                                      simp only at hpS HROW0 HMEM HTW hcV
                                      subst hpS
                                      clear hcV hlp
                                      have hcV := HROW0.out _ _ HI.out
                                      have q1 : (i : Int) < (a.c.length : Int) := by omega
                                      have q0 : (a.c.length : Int) ≤ 12 := by have := HLA.out.2.1; omega
                                      have q2 : (q.e.length : Int) ≤ 12 := by have := HTW.out; omega
                                      go_wp2
                                      go_loopw [189] (fun y wz => ∃ (j : Nat), y = .int .i64 j ∧ j ≤ q.e.length ∧ Hid (Iv w g15 g16 #[.int .u64 (a.v : Int), .slice o1 a.l.length C1, .slice o2 a.c.length C2] (.slice oV a.l.length cV) (.slice (some ⟨gV, 0, none⟩) a.c.length cK) (.slice oW nW cW) (.slice oX nX cX) a PL PK (300 + 12 * 12) wz)) (fun y _ => q.e.length - (intOf y).toNat)
                                      case atStart => exact ⟨0, rfl, Nat.zero_le _, HI⟩
                                      case round =>
                                        clear x0 x1 x2 hcV
                                        obtain ⟨j, rfl, hj, HJ⟩ := hrel
                                        obtain ⟨x0, x1, x2⟩ := bk3 HJ.out.x15
                                        have hcV := HROW0.out _ _ HJ.out
                                        by_cases hlj : j < q.e.length
                                        · obtain ⟨g, s, hg, hc, hf, hset⟩ := HJ.out.weight HMEM.out rfl hlj
                                          subst hg
                                          have q3 : (j : Int) < (q.e.length : Int) := by omega
                                          have HSET := Lib.hid hset
                                          clear hset
                                          go_wp2
                                          go_roundw
                                          case rel => exact ⟨j + 1, by go_num, by omega, Lib.hid (HSET.out _)⟩
                                          case measure => simp [intOf]; omega
                                        · have q3 : ¬ (j : Int) < (q.e.length : Int) := by omega
                                          go_wp2
                                          go_roundw
                                          case rel => exact ⟨i + 1, by go_num, by omega, HJ⟩
                                          case measure => simp [intOf]; omega
                                    · have q1 : ¬ (i : Int) < (a.c.length : Int) := by omega
                                      go_upto_region 42 with fail
                                      clear x0 x1 x2 mkS
                                      have HX20 := Lib.hid (show Bk wp.drew w.heap.size #[.int .u64 (a.v : Int), .slice o1 a.l.length C1, .slice o2 a.c.length C2] 26 from HI.out.x0)
                                      have HD20 := Lib.hid (show Bk wp.drew g16 #[.int .u64 (a.v : Int), .slice oW nW cW, .slice oX nX cX] 37 from HI.out.x16)
                                      have HW20 : Hid (CoIn wp.drew (.int .u64 (a.v : Int)) (.slice oW nW cW) (.slice oX nX cX) a) := Lib.hid ((show CoIn wp (.int .u64 (a.v : Int)) (.slice oW nW cW) (.slice oX nX cX) a from ⟨rfl, HV.out, HI.out.wl.rows HA.out.okL, HI.out.wc.rows HA.out.okC⟩).later ⟨rfl, rfl, rfl, Nat.le_refl _, fun _ _ => rfl⟩)
                                      have HB20 := Lib.hid HI.out.b.drew
                                      have KAW : Hid (∀ wz t1 t2, CoIn wz (.int .u64 (a.v : Int)) t1 t2 a → CoIn wz (.int .u64 (a.v : Int)) (.slice oW nW cW) (.slice oX nX cX) a → Calls Tryz.prog 15 #[.agg #[.int .u64 (a.v : Int), t1, t2], .agg #[.int .u64 (a.v : Int), .slice oW nW cW, .slice oX nX cX]] wz (TrP true wz)) := Lib.hid (fun wz t1 t2 h1 h2 => by
                                        have k := rsame_co h1 h2 HLA.out.sized HLA.out.sized
                                        rwa [decide_eq_true (rfl : a = a)] at k)
                                      have mkS : Hid (∀ wz, Bk wz w.heap.size #[.int .u64 (a.v : Int), .slice o1 a.l.length C1, .slice o2 a.c.length C2] 26 → Bk wz g16 #[.int .u64 (a.v : Int), .slice oW nW cW, .slice oX nX cX] 37 → wz.cell? ⟨w.heap.size, 0, none⟩ = some (.int .u64 (a.v : Int)) ∧ wz.cell? ⟨w.heap.size, 1, none⟩ = some (.slice o1 a.l.length C1) ∧ wz.cell? ⟨w.heap.size, 2, none⟩ = some (.slice o2 a.c.length C2) ∧ wz.cell? ⟨g16, 0, none⟩ = some (.int .u64 (a.v : Int)) ∧ wz.cell? ⟨g16, 1, none⟩ = some (.slice oW nW cW) ∧ wz.cell? ⟨g16, 2, none⟩ = some (.slice oX nX cX)) := Lib.hid (fun wz h k => ⟨(bk3 h).1, (bk3 h).2.1, (bk3 h).2.2, (bk3 k).1, (bk3 k).2.1, (bk3 k).2.2⟩)
                                      refine wp_region_held_drew (S := fun wz => wz.cell? ⟨w.heap.size, 0, none⟩ = some (.int .u64 (a.v : Int)) ∧ wz.cell? ⟨w.heap.size, 1, none⟩ = some (.slice o1 a.l.length C1) ∧ wz.cell? ⟨w.heap.size, 2, none⟩ = some (.slice o2 a.c.length C2) ∧ wz.cell? ⟨g16, 0, none⟩ = some (.int .u64 (a.v : Int)) ∧ wz.cell? ⟨g16, 1, none⟩ = some (.slice oW nW cW) ∧ wz.cell? ⟨g16, 2, none⟩ = some (.slice oX nX cX)) (by kernel_rfl) (mkS.out _ HX20.out HD20.out) (fun hHeld => ?_)
                                      generalize wp.drew = wc20 at *
                                      refine wpAnyH_take (i := 0) (oi := ⟨some 207, _, _, _, _, _⟩) (v := ?_) rfl (by kernel_rfl) (by kernel_rfl) (by kernel_rfl) (fun _ _ _ h => h) (Or.inl ⟨by rfl, by (intro w hSw; (try dsimp only at hSw); go_simp; try with_reducible rfl)⟩) hHeld ?_
                                      try simp only [Act.put, List.setIfInBounds_toArray, List.set_cons_zero, List.set_cons_succ]
                                      refine wpAnyH_take (i := 2) (oi := ⟨some 209, _, _, _, _, _⟩) (v := ?_) rfl (by kernel_rfl) (by kernel_rfl) (by kernel_rfl) (fun _ _ _ h => h) (Or.inl ⟨by rfl, by (intro w hSw; (try dsimp only at hSw); go_simp; try with_reducible rfl)⟩) hHeld ?_
                                      try simp only [Act.put, List.setIfInBounds_toArray, List.set_cons_zero, List.set_cons_succ]
                                      refine wpAnyH_ready (rs := [1]) (by kernel_rfl) (by simp) ?_
                                      refine AllReadyH.cons (o := ⟨some 208, _, _, _, _, _⟩) rfl (fun K hK => ?_) ?_
                                      · go_simp
                                        refine (KTA.out _ HB20.out).mono ?_
                                        rintro ze wc21 ⟨⟨t1, t2, rfl, hta⟩, hbn⟩
                                        try go_simp
                                        have HX21 := Lib.hid (Bk.later HX20.out hbn)
                                        have HD21 := Lib.hid (Bk.later HD20.out hbn)
                                        have HW21 := Lib.hid (HW20.out.later hbn)
                                        have HB21 := Lib.hid (HB20.out.trans (hbn.mono HB20.out.size))
                                        have HTA21 := Lib.hid hta
                                        obtain ⟨ot1, ct1, hft1⟩ := hta.2.2.1.form
                                        obtain ⟨ot2, ct2, hft2⟩ := hta.2.2.2.form
                                        subst hft1
                                        subst hft2
                                        clear hta
                                        refine hK.out _ _ (mkS.out _ HX21.out HD21.out) (fun hHeld2 => ?_)
                                        clear hK K hHeld
                                        have hHeld := hHeld2
                                        clear hHeld2
                                        clear hbn
                                        try simp only [Act.put, List.setIfInBounds_toArray, List.set_cons_zero, List.set_cons_succ]
                                        refine wpAnyH_ready (rs := [3]) (by kernel_rfl) (by simp) ?_
                                        refine AllReadyH.cons (o := ⟨some 210, _, _, _, _, _⟩) rfl (fun K hK => ?_) ?_
                                        · go_simp
                                          refine (KAW.out _ _ _ HTA21.out HW21.out).mono ?_
                                          rintro ze wc22 ⟨rfl, hbn⟩
                                          try go_simp
                                          have HX22 := Lib.hid (Bk.later HX21.out hbn)
                                          have HD22 := Lib.hid (Bk.later HD21.out hbn)
                                          have HW22 := Lib.hid (HW21.out.later hbn)
                                          have HB22 := Lib.hid (HB21.out.trans (hbn.mono HB21.out.size))
                                          refine hK.out _ _ (mkS.out _ HX22.out HD22.out) (fun hHeld2 => ?_)
                                          clear hK K hHeld
                                          have hHeld := hHeld2
                                          clear hHeld2
                                          clear hbn
                                          try simp only [Act.put, List.setIfInBounds_toArray, List.set_cons_zero, List.set_cons_succ]
                                          refine wpAnyH_take (i := 4) (oi := ⟨some 6, _, _, _, _, _⟩) (v := ?_) rfl (by kernel_rfl) (by kernel_rfl) (by kernel_rfl) (fun _ _ _ h => h) (Or.inl ⟨by rfl, by (intro w hSw; (try dsimp only at hSw); go_simp; try with_reducible rfl)⟩) hHeld ?_
                                          try simp only [Act.put, List.setIfInBounds_toArray, List.set_cons_zero, List.set_cons_succ]
                                          refine wpAnyH_done (by kernel_rfl) ?_ _
                                          simp only [Exit.then]
                                          apply_assumption
                                          try go_wp2
                                          go_ret
                                          exact ⟨rfl, HB22.out⟩
                                        · exact AllReadyH.nil
                                      · exact AllReadyH.nil
                            · exact AllReadyH.nil
                          · exact AllReadyH.nil
                        · exact AllReadyH.nil
                      · exact AllReadyH.nil
                    · exact AllReadyH.nil
                clear hK hK1
                clear f0 f1 f2 g0 g1 g2
                have HX20 := Lib.hid (show Bk w7.drew w.heap.size #[.int .u64 (a.v : Int), .slice o1 a.l.length C1, .slice o2 a.c.length C2] 26 from HX7.out)
                have HY20 := Lib.hid (show Bk w7.drew (w.heap.size + 1) #[d0, d1, d2] 26 from HY7.out)
                have HB20 := Lib.hid HB7.out.drew
                have HQ20 := Lib.hid (show Bk w7.drew g7 #[.string x.name, .int .u8 (x.p.a : Int), .int .u8 (x.p.b : Int), .int .u8 (x.p.c : Int), .int .u8 (x.p.d : Int), .int .u16 (x.p.port : Int), .slice ox x.r.length cx] 52 from HQ7.out)
                have HP20 := Lib.hid (show Bk w7.drew g9 #[.string y.name, .slice oy y.e.length cy] 57 from HP7.out)
                have HRX20 := Lib.hid (HRX7.out.later (w' := w7.drew) ⟨rfl, rfl, rfl, Nat.le_refl _, fun _ _ => rfl⟩ fun _ _ h => h)
                have HRY20 := Lib.hid (HRY7.out.later (w' := w7.drew) ⟨rfl, rfl, rfl, Nat.le_refl _, fun _ _ => rfl⟩ fun _ _ h => h)
                have mkS : Hid (∀ wz, Bk wz w.heap.size #[.int .u64 (a.v : Int), .slice o1 a.l.length C1, .slice o2 a.c.length C2] 26 → Bk wz g7 #[.string x.name, .int .u8 (x.p.a : Int), .int .u8 (x.p.b : Int), .int .u8 (x.p.c : Int), .int .u8 (x.p.d : Int), .int .u16 (x.p.port : Int), .slice ox x.r.length cx] 52 → Bk wz g9 #[.string y.name, .slice oy y.e.length cy] 57 → wz.cell? ⟨w.heap.size, 0, none⟩ = some (.int .u64 (a.v : Int)) ∧ wz.cell? ⟨w.heap.size, 1, none⟩ = some (.slice o1 a.l.length C1) ∧ wz.cell? ⟨w.heap.size, 2, none⟩ = some (.slice o2 a.c.length C2) ∧ wz.cell? ⟨g7, 0, none⟩ = some (.string x.name) ∧ wz.cell? ⟨g7, 1, none⟩ = some (.int .u8 (x.p.a : Int)) ∧ wz.cell? ⟨g7, 2, none⟩ = some (.int .u8 (x.p.b : Int)) ∧ wz.cell? ⟨g7, 3, none⟩ = some (.int .u8 (x.p.c : Int)) ∧ wz.cell? ⟨g7, 4, none⟩ = some (.int .u8 (x.p.d : Int)) ∧ wz.cell? ⟨g7, 5, none⟩ = some (.int .u16 (x.p.port : Int)) ∧ wz.cell? ⟨g7, 6, none⟩ = some (.slice ox x.r.length cx) ∧ wz.cell? ⟨g9, 0, none⟩ = some (.string y.name) ∧ wz.cell? ⟨g9, 1, none⟩ = some (.slice oy y.e.length cy)) := Lib.hid (fun wz h k m => ⟨(cell_of_row _ _ 0 _ _ _ h).trans rfl, (cell_of_row _ _ 1 _ _ _ h).trans rfl, (cell_of_row _ _ 2 _ _ _ h).trans rfl, (cell_of_row _ _ 0 _ _ _ k).trans rfl, (cell_of_row _ _ 1 _ _ _ k).trans rfl, (cell_of_row _ _ 2 _ _ _ k).trans rfl, (cell_of_row _ _ 3 _ _ _ k).trans rfl, (cell_of_row _ _ 4 _ _ _ k).trans rfl, (cell_of_row _ _ 5 _ _ _ k).trans rfl, (cell_of_row _ _ 6 _ _ _ k).trans rfl, (cell_of_row _ _ 0 _ _ _ m).trans rfl, (cell_of_row _ _ 1 _ _ _ m).trans rfl⟩)
                rcases HFX.out.1 with ⟨hk1, _⟩ | ⟨k1, hk1, hlt1, _⟩
                · subst hk1
                  obtain rfl : b1 = false := by rw [← HD1.out]; rfl
                  rcases HFY.out.1 with ⟨hk2, _⟩ | ⟨k2, hk2, hlt2, _⟩
                  · subst hk2
                    obtain rfl : b2 = false := by rw [← HD2.out]; rfl
                    refine wp_region_held_drew (S := fun wz => wz.cell? ⟨w.heap.size, 0, none⟩ = some (.int .u64 (a.v : Int)) ∧ wz.cell? ⟨w.heap.size, 1, none⟩ = some (.slice o1 a.l.length C1) ∧ wz.cell? ⟨w.heap.size, 2, none⟩ = some (.slice o2 a.c.length C2) ∧ wz.cell? ⟨g7, 0, none⟩ = some (.string x.name) ∧ wz.cell? ⟨g7, 1, none⟩ = some (.int .u8 (x.p.a : Int)) ∧ wz.cell? ⟨g7, 2, none⟩ = some (.int .u8 (x.p.b : Int)) ∧ wz.cell? ⟨g7, 3, none⟩ = some (.int .u8 (x.p.c : Int)) ∧ wz.cell? ⟨g7, 4, none⟩ = some (.int .u8 (x.p.d : Int)) ∧ wz.cell? ⟨g7, 5, none⟩ = some (.int .u16 (x.p.port : Int)) ∧ wz.cell? ⟨g7, 6, none⟩ = some (.slice ox x.r.length cx) ∧ wz.cell? ⟨g9, 0, none⟩ = some (.string y.name) ∧ wz.cell? ⟨g9, 1, none⟩ = some (.slice oy y.e.length cy)) (by kernel_rfl) (mkS.out _ HX20.out HQ20.out HP20.out) (fun hHeld => ?_)
                    generalize w7.drew = wc20 at *
                    refine wpAnyH_take (i := 0) (oi := ⟨some 82, _, _, _, _, _⟩) (v := ?_) rfl (by kernel_rfl) (by kernel_rfl) (by kernel_rfl) (fun _ _ _ h => h) (Or.inl ⟨by rfl, by (intro w hSw; (try dsimp only at hSw); go_simp; try with_reducible rfl)⟩) hHeld ?_
                    try simp only [Act.put, List.setIfInBounds_toArray, List.set_cons_zero, List.set_cons_succ]
                    refine wpAnyH_take (i := 1) (oi := ⟨some 83, _, _, _, _, _⟩) (v := ?_) rfl (by kernel_rfl) (by kernel_rfl) (by kernel_rfl) (fun _ _ _ h => h) (Or.inl ⟨by rfl, by (intro w hSw; (try dsimp only at hSw); go_simp; try with_reducible rfl)⟩) hHeld ?_
                    try simp only [Act.put, List.setIfInBounds_toArray, List.set_cons_zero, List.set_cons_succ]
                    refine wpAnyH_take (i := 2) (oi := ⟨some 84, _, _, _, _, _⟩) (v := ?_) rfl (by kernel_rfl) (by kernel_rfl) (by kernel_rfl) (fun _ _ _ h => h) (Or.inl ⟨by rfl, by (intro w hSw; (try dsimp only at hSw); go_simp; try with_reducible rfl)⟩) hHeld ?_
                    try simp only [Act.put, List.setIfInBounds_toArray, List.set_cons_zero, List.set_cons_succ]
                    refine wpAnyH_take (i := 3) (oi := ⟨some 85, _, _, _, _, _⟩) (v := ?_) rfl (by kernel_rfl) (by kernel_rfl) (by kernel_rfl) (fun _ _ _ h => h) (Or.inl ⟨by rfl, by (intro w hSw; (try dsimp only at hSw); go_simp; try with_reducible rfl)⟩) hHeld ?_
                    try simp only [Act.put, List.setIfInBounds_toArray, List.set_cons_zero, List.set_cons_succ]
                    refine wpAnyH_take (i := 4) (oi := ⟨some 86, _, _, _, _, _⟩) (v := ?_) rfl (by kernel_rfl) (by kernel_rfl) (by kernel_rfl) (fun _ _ _ h => h) (Or.inl ⟨by rfl, by (intro w hSw; (try dsimp only at hSw); go_simp; try with_reducible rfl)⟩) hHeld ?_
                    try simp only [Act.put, List.setIfInBounds_toArray, List.set_cons_zero, List.set_cons_succ]
                    refine wpAnyH_take (i := 5) (oi := ⟨some 87, _, _, _, _, _⟩) (v := ?_) rfl (by kernel_rfl) (by kernel_rfl) (by kernel_rfl) (fun _ _ _ h => h) (Or.inl ⟨by rfl, by (intro w hSw; (try dsimp only at hSw); go_simp; try with_reducible rfl)⟩) hHeld ?_
                    try simp only [Act.put, List.setIfInBounds_toArray, List.set_cons_zero, List.set_cons_succ]
                    refine wpAnyH_take (i := 6) (oi := ⟨some 88, _, _, _, _, _⟩) (v := ?_) rfl (by kernel_rfl) (by kernel_rfl) (by kernel_rfl) (fun _ _ _ h => h) (Or.inl ⟨by rfl, by (intro w hSw; (try dsimp only at hSw); go_simp; try with_reducible rfl)⟩) hHeld ?_
                    try simp only [Act.put, List.setIfInBounds_toArray, List.set_cons_zero, List.set_cons_succ]
                    refine wpAnyH_take (i := 7) (oi := ⟨some 89, _, _, _, _, _⟩) (v := ?_) rfl (by kernel_rfl) (by kernel_rfl) (by kernel_rfl) (fun _ _ _ h => h) (Or.inl ⟨by rfl, by (intro w hSw; (try dsimp only at hSw); go_simp; try with_reducible rfl)⟩) hHeld ?_
                    try simp only [Act.put, List.setIfInBounds_toArray, List.set_cons_zero, List.set_cons_succ]
                    refine wpAnyH_take (i := 8) (oi := ⟨some 90, _, _, _, _, _⟩) (v := ?_) rfl (by kernel_rfl) (by kernel_rfl) (by kernel_rfl) (fun _ _ _ h => h) (Or.inl ⟨by rfl, by (intro w hSw; (try dsimp only at hSw); go_simp; try with_reducible rfl)⟩) hHeld ?_
                    try simp only [Act.put, List.setIfInBounds_toArray, List.set_cons_zero, List.set_cons_succ]
                    refine wpAnyH_take (i := 9) (oi := ⟨some 91, _, _, _, _, _⟩) (v := ?_) rfl (by kernel_rfl) (by kernel_rfl) (by kernel_rfl) (fun _ _ _ h => h) (Or.inl ⟨by rfl, by (intro w hSw; (try dsimp only at hSw); go_simp; try with_reducible rfl)⟩) hHeld ?_
                    try simp only [Act.put, List.setIfInBounds_toArray, List.set_cons_zero, List.set_cons_succ]
                    refine wpAnyH_take (i := 10) (oi := ⟨some 92, _, _, _, _, _⟩) (v := ?_) rfl (by kernel_rfl) (by kernel_rfl) (by kernel_rfl) (fun _ _ _ h => h) (Or.inl ⟨by rfl, by (intro w hSw; (try dsimp only at hSw); go_simp; try with_reducible rfl)⟩) hHeld ?_
                    try simp only [Act.put, List.setIfInBounds_toArray, List.set_cons_zero, List.set_cons_succ]
                    refine wpAnyH_take (i := 11) (oi := ⟨some 93, _, _, _, _, _⟩) (v := ?_) rfl (by kernel_rfl) (by kernel_rfl) (by kernel_rfl) (fun _ _ _ h => h) (Or.inl ⟨by rfl, by (intro w hSw; (try dsimp only at hSw); go_simp; try with_reducible rfl)⟩) hHeld ?_
                    try simp only [Act.put, List.setIfInBounds_toArray, List.set_cons_zero, List.set_cons_succ]
                    refine wpAnyH_take (i := 12) (oi := ⟨some 94, _, _, _, _, _⟩) (v := ?_) rfl (by kernel_rfl) (by kernel_rfl) (by kernel_rfl) (fun _ _ _ h => h) (Or.inl ⟨by rfl, by (intro w hSw; (try dsimp only at hSw); go_simp; try with_reducible rfl)⟩) hHeld ?_
                    try simp only [Act.put, List.setIfInBounds_toArray, List.set_cons_zero, List.set_cons_succ]
                    refine wpAnyH_take (i := 13) (oi := ⟨some 95, _, _, _, _, _⟩) (v := undef) rfl (by kernel_rfl) (by kernel_rfl) (by kernel_rfl) (fun _ _ _ h => h) (Or.inr ⟨by rfl, rfl⟩) hHeld ?_
                    try simp only [Act.put, List.setIfInBounds_toArray, List.set_cons_zero, List.set_cons_succ]
                    refine wpAnyH_take (i := 14) (oi := ⟨some 96, _, _, _, _, _⟩) (v := undef) rfl (by kernel_rfl) (by kernel_rfl) (by kernel_rfl) (fun _ _ _ h => h) (Or.inr ⟨by rfl, rfl⟩) hHeld ?_
                    try simp only [Act.put, List.setIfInBounds_toArray, List.set_cons_zero, List.set_cons_succ]
                    refine wpAnyH_take (i := 15) (oi := ⟨some 97, _, _, _, _, _⟩) (v := undef) rfl (by kernel_rfl) (by kernel_rfl) (by kernel_rfl) (fun _ _ _ h => h) (Or.inr ⟨by rfl, rfl⟩) hHeld ?_
                    try simp only [Act.put, List.setIfInBounds_toArray, List.set_cons_zero, List.set_cons_succ]
                    refine wpAnyH_take (i := 16) (oi := ⟨some 98, _, _, _, _, _⟩) (v := undef) rfl (by kernel_rfl) (by kernel_rfl) (by kernel_rfl) (fun _ _ _ h => h) (Or.inr ⟨by rfl, rfl⟩) hHeld ?_
                    try simp only [Act.put, List.setIfInBounds_toArray, List.set_cons_zero, List.set_cons_succ]
                    refine wpAnyH_take (i := 17) (oi := ⟨some 99, _, _, _, _, _⟩) (v := undef) rfl (by kernel_rfl) (by kernel_rfl) (by kernel_rfl) (fun _ _ _ h => h) (Or.inr ⟨by rfl, rfl⟩) hHeld ?_
                    try simp only [Act.put, List.setIfInBounds_toArray, List.set_cons_zero, List.set_cons_succ]
                    refine wpAnyH_take (i := 18) (oi := ⟨some 100, _, _, _, _, _⟩) (v := undef) rfl (by kernel_rfl) (by kernel_rfl) (by kernel_rfl) (fun _ _ _ h => h) (Or.inr ⟨by rfl, rfl⟩) hHeld ?_
                    try simp only [Act.put, List.setIfInBounds_toArray, List.set_cons_zero, List.set_cons_succ]
                    refine wpAnyH_take (i := 19) (oi := ⟨some 101, _, _, _, _, _⟩) (v := undef) rfl (by kernel_rfl) (by kernel_rfl) (by kernel_rfl) (fun _ _ _ h => h) (Or.inr ⟨by rfl, rfl⟩) hHeld ?_
                    try simp only [Act.put, List.setIfInBounds_toArray, List.set_cons_zero, List.set_cons_succ]
                    refine wpAnyH_take (i := 20) (oi := ⟨some 102, _, _, _, _, _⟩) (v := undef) rfl (by kernel_rfl) (by kernel_rfl) (by kernel_rfl) (fun _ _ _ h => h) (Or.inr ⟨by rfl, rfl⟩) hHeld ?_
                    try simp only [Act.put, List.setIfInBounds_toArray, List.set_cons_zero, List.set_cons_succ]
                    refine wpAnyH_take (i := 21) (oi := ⟨some 103, _, _, _, _, _⟩) (v := undef) rfl (by kernel_rfl) (by kernel_rfl) (by kernel_rfl) (fun _ _ _ h => h) (Or.inr ⟨by rfl, rfl⟩) hHeld ?_
                    try simp only [Act.put, List.setIfInBounds_toArray, List.set_cons_zero, List.set_cons_succ]
                    refine wpAnyH_take (i := 22) (oi := ⟨some 104, _, _, _, _, _⟩) (v := undef) rfl (by kernel_rfl) (by kernel_rfl) (by kernel_rfl) (fun _ _ _ h => h) (Or.inr ⟨by rfl, rfl⟩) hHeld ?_
                    try simp only [Act.put, List.setIfInBounds_toArray, List.set_cons_zero, List.set_cons_succ]
                    refine wpAnyH_take (i := 23) (oi := ⟨some 105, _, _, _, _, _⟩) (v := undef) rfl (by kernel_rfl) (by kernel_rfl) (by kernel_rfl) (fun _ _ _ h => h) (Or.inr ⟨by rfl, rfl⟩) hHeld ?_
                    try simp only [Act.put, List.setIfInBounds_toArray, List.set_cons_zero, List.set_cons_succ]
                    refine wpAnyH_take (i := 24) (oi := ⟨some 106, _, _, _, _, _⟩) (v := undef) rfl (by kernel_rfl) (by kernel_rfl) (by kernel_rfl) (fun _ _ _ h => h) (Or.inr ⟨by rfl, rfl⟩) hHeld ?_
                    try simp only [Act.put, List.setIfInBounds_toArray, List.set_cons_zero, List.set_cons_succ]
                    refine wpAnyH_take (i := 25) (oi := ⟨some 107, _, _, _, _, _⟩) (v := ?_) rfl (by kernel_rfl) (by kernel_rfl) (by kernel_rfl) (fun _ _ _ h => h) (Or.inl ⟨by rfl, by (intro w hSw; (try dsimp only at hSw); go_simp; try with_reducible rfl)⟩) hHeld ?_
                    try simp only [Act.put, List.setIfInBounds_toArray, List.set_cons_zero, List.set_cons_succ]
                    refine wpAnyH_take (i := 26) (oi := ⟨some 108, _, _, _, _, _⟩) (v := ?_) rfl (by kernel_rfl) (by kernel_rfl) (by kernel_rfl) (fun _ _ _ h => h) (Or.inl ⟨by rfl, by (intro w hSw; (try dsimp only at hSw); go_simp; try with_reducible rfl)⟩) hHeld ?_
                    try simp only [Act.put, List.setIfInBounds_toArray, List.set_cons_zero, List.set_cons_succ]
                    refine wpAnyH_take (i := 27) (oi := ⟨some 109, _, _, _, _, _⟩) (v := ?_) rfl (by kernel_rfl) (by kernel_rfl) (by kernel_rfl) (fun _ _ _ h => h) (Or.inl ⟨by rfl, by (intro w hSw; (try dsimp only at hSw); go_simp; try with_reducible rfl)⟩) hHeld ?_
                    try simp only [Act.put, List.setIfInBounds_toArray, List.set_cons_zero, List.set_cons_succ]
                    refine wpAnyH_take (i := 28) (oi := ⟨some 110, _, _, _, _, _⟩) (v := ?_) rfl (by kernel_rfl) (by kernel_rfl) (by kernel_rfl) (fun _ _ _ h => h) (Or.inl ⟨by rfl, by (intro w hSw; (try dsimp only at hSw); go_simp; try with_reducible rfl)⟩) hHeld ?_
                    try simp only [Act.put, List.setIfInBounds_toArray, List.set_cons_zero, List.set_cons_succ]
                    refine wpAnyH_take (i := 29) (oi := ⟨some 111, _, _, _, _, _⟩) (v := ?_) rfl (by kernel_rfl) (by kernel_rfl) (by kernel_rfl) (fun _ _ _ h => h) (Or.inl ⟨by rfl, by (intro w hSw; (try dsimp only at hSw); go_simp; try with_reducible rfl)⟩) hHeld ?_
                    try simp only [Act.put, List.setIfInBounds_toArray, List.set_cons_zero, List.set_cons_succ]
                    refine wpAnyH_take (i := 30) (oi := ⟨some 112, _, _, _, _, _⟩) (v := undef) rfl (by kernel_rfl) (by kernel_rfl) (by kernel_rfl) (fun _ _ _ h => h) (Or.inr ⟨by rfl, rfl⟩) hHeld ?_
                    try simp only [Act.put, List.setIfInBounds_toArray, List.set_cons_zero, List.set_cons_succ]
                    refine wpAnyH_take (i := 31) (oi := ⟨some 113, _, _, _, _, _⟩) (v := undef) rfl (by kernel_rfl) (by kernel_rfl) (by kernel_rfl) (fun _ _ _ h => h) (Or.inr ⟨by rfl, rfl⟩) hHeld ?_
                    try simp only [Act.put, List.setIfInBounds_toArray, List.set_cons_zero, List.set_cons_succ]
                    refine wpAnyH_take (i := 32) (oi := ⟨some 114, _, _, _, _, _⟩) (v := undef) rfl (by kernel_rfl) (by kernel_rfl) (by kernel_rfl) (fun _ _ _ h => h) (Or.inr ⟨by rfl, rfl⟩) hHeld ?_
                    try simp only [Act.put, List.setIfInBounds_toArray, List.set_cons_zero, List.set_cons_succ]
                    refine wpAnyH_take (i := 33) (oi := ⟨some 115, _, _, _, _, _⟩) (v := undef) rfl (by kernel_rfl) (by kernel_rfl) (by kernel_rfl) (fun _ _ _ h => h) (Or.inr ⟨by rfl, rfl⟩) hHeld ?_
                    try simp only [Act.put, List.setIfInBounds_toArray, List.set_cons_zero, List.set_cons_succ]
                    refine wpAnyH_take (i := 34) (oi := ⟨some 116, _, _, _, _, _⟩) (v := undef) rfl (by kernel_rfl) (by kernel_rfl) (by kernel_rfl) (fun _ _ _ h => h) (Or.inr ⟨by rfl, rfl⟩) hHeld ?_
                    try simp only [Act.put, List.setIfInBounds_toArray, List.set_cons_zero, List.set_cons_succ]
                    refine wpAnyH_take (i := 35) (oi := ⟨some 117, _, _, _, _, _⟩) (v := undef) rfl (by kernel_rfl) (by kernel_rfl) (by kernel_rfl) (fun _ _ _ h => h) (Or.inr ⟨by rfl, rfl⟩) hHeld ?_
                    try simp only [Act.put, List.setIfInBounds_toArray, List.set_cons_zero, List.set_cons_succ]
                    refine wpAnyH_take (i := 36) (oi := ⟨some 118, _, _, _, _, _⟩) (v := undef) rfl (by kernel_rfl) (by kernel_rfl) (by kernel_rfl) (fun _ _ _ h => h) (Or.inr ⟨by rfl, rfl⟩) hHeld ?_
                    try simp only [Act.put, List.setIfInBounds_toArray, List.set_cons_zero, List.set_cons_succ]
                    refine wpAnyH_take (i := 37) (oi := ⟨some 119, _, _, _, _, _⟩) (v := undef) rfl (by kernel_rfl) (by kernel_rfl) (by kernel_rfl) (fun _ _ _ h => h) (Or.inr ⟨by rfl, rfl⟩) hHeld ?_
                    try simp only [Act.put, List.setIfInBounds_toArray, List.set_cons_zero, List.set_cons_succ]
                    refine wpAnyH_take (i := 38) (oi := ⟨some 120, _, _, _, _, _⟩) (v := undef) rfl (by kernel_rfl) (by kernel_rfl) (by kernel_rfl) (fun _ _ _ h => h) (Or.inr ⟨by rfl, rfl⟩) hHeld ?_
                    try simp only [Act.put, List.setIfInBounds_toArray, List.set_cons_zero, List.set_cons_succ]
                    refine wpAnyH_take (i := 39) (oi := ⟨some 121, _, _, _, _, _⟩) (v := undef) rfl (by kernel_rfl) (by kernel_rfl) (by kernel_rfl) (fun _ _ _ h => h) (Or.inr ⟨by rfl, rfl⟩) hHeld ?_
                    try simp only [Act.put, List.setIfInBounds_toArray, List.set_cons_zero, List.set_cons_succ]
                    refine wpAnyH_take (i := 40) (oi := ⟨some 122, _, _, _, _, _⟩) (v := undef) rfl (by kernel_rfl) (by kernel_rfl) (by kernel_rfl) (fun _ _ _ h => h) (Or.inr ⟨by rfl, rfl⟩) hHeld ?_
                    try simp only [Act.put, List.setIfInBounds_toArray, List.set_cons_zero, List.set_cons_succ]
                    refine wpAnyH_take (i := 41) (oi := ⟨some 123, _, _, _, _, _⟩) (v := undef) rfl (by kernel_rfl) (by kernel_rfl) (by kernel_rfl) (fun _ _ _ h => h) (Or.inr ⟨by rfl, rfl⟩) hHeld ?_
                    try simp only [Act.put, List.setIfInBounds_toArray, List.set_cons_zero, List.set_cons_succ]
                    refine wpAnyH_take (i := 42) (oi := ⟨some 124, _, _, _, _, _⟩) (v := ?_) rfl (by kernel_rfl) (by kernel_rfl) (by kernel_rfl) (fun _ _ _ h => h) (Or.inl ⟨by rfl, by (intro w hSw; (try dsimp only at hSw); go_simp; try with_reducible rfl)⟩) hHeld ?_
                    try simp only [Act.put, List.setIfInBounds_toArray, List.set_cons_zero, List.set_cons_succ]
                    refine wpAnyH_take (i := 43) (oi := ⟨some 125, _, _, _, _, _⟩) (v := ?_) rfl (by kernel_rfl) (by kernel_rfl) (by kernel_rfl) (fun _ _ _ h => h) (Or.inl ⟨by rfl, by (intro w hSw; (try dsimp only at hSw); go_simp; try with_reducible rfl)⟩) hHeld ?_
                    try simp only [Act.put, List.setIfInBounds_toArray, List.set_cons_zero, List.set_cons_succ]
                    refine wpAnyH_done (by kernel_rfl) ?_ _
                    simp only [Exit.then]
                    apply_assumption
                    exact HX20
                    exact HY20
                    exact HB20
                  · subst hk2
                    obtain rfl : b2 = true := by rw [← HD2.out, decide_eq_true_iff]; omega
                    have ho2 := (HN2.out w (Below.refl _ _) k2 hlt2).1
                    obtain ⟨hkk2, hxx2⟩ := HFY.out.2.2 k2 rfl
                    have hcc2 := HC2.out
                    have hmn2 : y ∈ a.c := by rw [hxx2]; exact List.getElem_mem _
                    have hsl2 : ∀ W, (Instr.sliceAt 24 (.slice o2 a.c.length C2) (some (.int .i64 (k2 : Int))) (some (.int .i64 ((k2 : Int) + 1))) none).run Tryz.prog W = .ok (.slice (some ⟨B2, F2 + k2 * 2, none⟩) 1 (C2 - k2)) W := fun W => by
                      rw [run_sliceAt_slice (w := W) 24 _ _ _ _ Tryz.underlying24, run_slice_lh (w := W) 24 _ _ _ Tryz.underlying24 .i64 .i64 _ _ (by omega) (by omega) (by omega), size24, ho2]
                      simp [Result.andThen, sliced, Addr.add_mid]
                      omega
                    have ew2 : IntKind.i64.wrap ((k2 : Int) + 1) = (k2 : Int) + 1 := IntWalk.i64_in _ (by omega)
                    have eg2 : decide ((0 : Int) ≤ (k2 : Int)) = true := by rw [decide_eq_true_iff]; omega
                    have K14b : Hid (∀ wz g, Below w.heap.size w wz → Bk wz g #[.string y.name, .slice oy y.e.length cy] 57 → Rw 6 EpIn wz (.slice oy y.e.length cy) y.e → Calls Tryz.prog 14 #[.agg #[.int .u64 0, .slice none 0 0, .slice (some ⟨g, 0, none⟩) 1 1], .agg #[.int .u64 0, .slice none 0 0, .slice (some ⟨B2, F2 + k2 * 2, none⟩) 1 (C2 - k2)]] wz (TrP true wz)) := Lib.hid (fun wz g h1 h2 h3 => by
                      have hr := HR2.out wz h1
                      rw [ho2] at hr
                      have hr2 := hr.cut hlt2 (C' := C2 - k2)
                      rw [← hxx2] at hr2
                      have k := same_co (w := wz) (c0 := .int .u64 0) (d0 := .int .u64 0) (a := ⟨0, [], [y]⟩) (b := ⟨0, [], [y]⟩) ⟨rfl, Nat.zero_le _, Rw.nil _, Rw.one (C := 1) (cs := [.string y.name, .slice oy y.e.length cy]) h2 ⟨_, rfl, (HA.out.okC _ hmn2).1, h3⟩⟩ ⟨rfl, Nat.zero_le _, Rw.nil _, hr2⟩ ⟨by simp, by simp, fun l hl => absurd hl (by simp), fun l hl => by obtain rfl := List.mem_singleton.1 hl; exact HLA.out.sized.2.2.2 _ hmn2⟩
                      rwa [decide_eq_true (rfl : (⟨0, [], [y]⟩ : Co) = ⟨0, [], [y]⟩)] at k)
                    clear hxx2 hcc2 ho2
                    refine wp_region_held_drew (S := fun wz => wz.cell? ⟨w.heap.size, 0, none⟩ = some (.int .u64 (a.v : Int)) ∧ wz.cell? ⟨w.heap.size, 1, none⟩ = some (.slice o1 a.l.length C1) ∧ wz.cell? ⟨w.heap.size, 2, none⟩ = some (.slice o2 a.c.length C2) ∧ wz.cell? ⟨g7, 0, none⟩ = some (.string x.name) ∧ wz.cell? ⟨g7, 1, none⟩ = some (.int .u8 (x.p.a : Int)) ∧ wz.cell? ⟨g7, 2, none⟩ = some (.int .u8 (x.p.b : Int)) ∧ wz.cell? ⟨g7, 3, none⟩ = some (.int .u8 (x.p.c : Int)) ∧ wz.cell? ⟨g7, 4, none⟩ = some (.int .u8 (x.p.d : Int)) ∧ wz.cell? ⟨g7, 5, none⟩ = some (.int .u16 (x.p.port : Int)) ∧ wz.cell? ⟨g7, 6, none⟩ = some (.slice ox x.r.length cx) ∧ wz.cell? ⟨g9, 0, none⟩ = some (.string y.name) ∧ wz.cell? ⟨g9, 1, none⟩ = some (.slice oy y.e.length cy)) (by kernel_rfl) (mkS.out _ HX20.out HQ20.out HP20.out) (fun hHeld => ?_)
                    generalize w7.drew = wc20 at *
                    refine wpAnyH_take (i := 0) (oi := ⟨some 82, _, _, _, _, _⟩) (v := ?_) rfl (by kernel_rfl) (by kernel_rfl) (by kernel_rfl) (fun _ _ _ h => h) (Or.inl ⟨by rfl, by (intro w hSw; (try dsimp only at hSw); go_simp; try with_reducible rfl)⟩) hHeld ?_
                    try simp only [Act.put, List.setIfInBounds_toArray, List.set_cons_zero, List.set_cons_succ]
                    refine wpAnyH_take (i := 1) (oi := ⟨some 83, _, _, _, _, _⟩) (v := ?_) rfl (by kernel_rfl) (by kernel_rfl) (by kernel_rfl) (fun _ _ _ h => h) (Or.inl ⟨by rfl, by (intro w hSw; (try dsimp only at hSw); go_simp; try with_reducible rfl)⟩) hHeld ?_
                    try simp only [Act.put, List.setIfInBounds_toArray, List.set_cons_zero, List.set_cons_succ]
                    refine wpAnyH_take (i := 2) (oi := ⟨some 84, _, _, _, _, _⟩) (v := ?_) rfl (by kernel_rfl) (by kernel_rfl) (by kernel_rfl) (fun _ _ _ h => h) (Or.inl ⟨by rfl, by (intro w hSw; (try dsimp only at hSw); go_simp; try with_reducible rfl)⟩) hHeld ?_
                    try simp only [Act.put, List.setIfInBounds_toArray, List.set_cons_zero, List.set_cons_succ]
                    refine wpAnyH_take (i := 3) (oi := ⟨some 85, _, _, _, _, _⟩) (v := ?_) rfl (by kernel_rfl) (by kernel_rfl) (by kernel_rfl) (fun _ _ _ h => h) (Or.inl ⟨by rfl, by (intro w hSw; (try dsimp only at hSw); go_simp; try with_reducible rfl)⟩) hHeld ?_
                    try simp only [Act.put, List.setIfInBounds_toArray, List.set_cons_zero, List.set_cons_succ]
                    refine wpAnyH_take (i := 4) (oi := ⟨some 86, _, _, _, _, _⟩) (v := ?_) rfl (by kernel_rfl) (by kernel_rfl) (by kernel_rfl) (fun _ _ _ h => h) (Or.inl ⟨by rfl, by (intro w hSw; (try dsimp only at hSw); go_simp; try with_reducible rfl)⟩) hHeld ?_
                    try simp only [Act.put, List.setIfInBounds_toArray, List.set_cons_zero, List.set_cons_succ]
                    refine wpAnyH_take (i := 5) (oi := ⟨some 87, _, _, _, _, _⟩) (v := ?_) rfl (by kernel_rfl) (by kernel_rfl) (by kernel_rfl) (fun _ _ _ h => h) (Or.inl ⟨by rfl, by (intro w hSw; (try dsimp only at hSw); go_simp; try with_reducible rfl)⟩) hHeld ?_
                    try simp only [Act.put, List.setIfInBounds_toArray, List.set_cons_zero, List.set_cons_succ]
                    refine wpAnyH_take (i := 6) (oi := ⟨some 88, _, _, _, _, _⟩) (v := ?_) rfl (by kernel_rfl) (by kernel_rfl) (by kernel_rfl) (fun _ _ _ h => h) (Or.inl ⟨by rfl, by (intro w hSw; (try dsimp only at hSw); go_simp; try with_reducible rfl)⟩) hHeld ?_
                    try simp only [Act.put, List.setIfInBounds_toArray, List.set_cons_zero, List.set_cons_succ]
                    refine wpAnyH_take (i := 7) (oi := ⟨some 89, _, _, _, _, _⟩) (v := ?_) rfl (by kernel_rfl) (by kernel_rfl) (by kernel_rfl) (fun _ _ _ h => h) (Or.inl ⟨by rfl, by (intro w hSw; (try dsimp only at hSw); go_simp; try with_reducible rfl)⟩) hHeld ?_
                    try simp only [Act.put, List.setIfInBounds_toArray, List.set_cons_zero, List.set_cons_succ]
                    refine wpAnyH_take (i := 8) (oi := ⟨some 90, _, _, _, _, _⟩) (v := ?_) rfl (by kernel_rfl) (by kernel_rfl) (by kernel_rfl) (fun _ _ _ h => h) (Or.inl ⟨by rfl, by (intro w hSw; (try dsimp only at hSw); go_simp; try with_reducible rfl)⟩) hHeld ?_
                    try simp only [Act.put, List.setIfInBounds_toArray, List.set_cons_zero, List.set_cons_succ]
                    refine wpAnyH_take (i := 9) (oi := ⟨some 91, _, _, _, _, _⟩) (v := ?_) rfl (by kernel_rfl) (by kernel_rfl) (by kernel_rfl) (fun _ _ _ h => h) (Or.inl ⟨by rfl, by (intro w hSw; (try dsimp only at hSw); go_simp; try with_reducible rfl)⟩) hHeld ?_
                    try simp only [Act.put, List.setIfInBounds_toArray, List.set_cons_zero, List.set_cons_succ]
                    refine wpAnyH_take (i := 10) (oi := ⟨some 92, _, _, _, _, _⟩) (v := ?_) rfl (by kernel_rfl) (by kernel_rfl) (by kernel_rfl) (fun _ _ _ h => h) (Or.inl ⟨by rfl, by (intro w hSw; (try dsimp only at hSw); go_simp; try with_reducible rfl)⟩) hHeld ?_
                    try simp only [Act.put, List.setIfInBounds_toArray, List.set_cons_zero, List.set_cons_succ]
                    refine wpAnyH_take (i := 11) (oi := ⟨some 93, _, _, _, _, _⟩) (v := ?_) rfl (by kernel_rfl) (by kernel_rfl) (by kernel_rfl) (fun _ _ _ h => h) (Or.inl ⟨by rfl, by (intro w hSw; (try dsimp only at hSw); go_simp; try with_reducible rfl)⟩) hHeld ?_
                    try simp only [Act.put, List.setIfInBounds_toArray, List.set_cons_zero, List.set_cons_succ]
                    refine wpAnyH_take (i := 12) (oi := ⟨some 94, _, _, _, _, _⟩) (v := ?_) rfl (by kernel_rfl) (by kernel_rfl) (by kernel_rfl) (fun _ _ _ h => h) (Or.inl ⟨by rfl, by (intro w hSw; (try dsimp only at hSw); go_simp; try with_reducible rfl)⟩) hHeld ?_
                    try simp only [Act.put, List.setIfInBounds_toArray, List.set_cons_zero, List.set_cons_succ]
                    refine wpAnyH_take (i := 13) (oi := ⟨some 95, _, _, _, _, _⟩) (v := undef) rfl (by kernel_rfl) (by kernel_rfl) (by kernel_rfl) (fun _ _ _ h => h) (Or.inr ⟨by rfl, rfl⟩) hHeld ?_
                    try simp only [Act.put, List.setIfInBounds_toArray, List.set_cons_zero, List.set_cons_succ]
                    refine wpAnyH_take (i := 14) (oi := ⟨some 96, _, _, _, _, _⟩) (v := undef) rfl (by kernel_rfl) (by kernel_rfl) (by kernel_rfl) (fun _ _ _ h => h) (Or.inr ⟨by rfl, rfl⟩) hHeld ?_
                    try simp only [Act.put, List.setIfInBounds_toArray, List.set_cons_zero, List.set_cons_succ]
                    refine wpAnyH_take (i := 15) (oi := ⟨some 97, _, _, _, _, _⟩) (v := undef) rfl (by kernel_rfl) (by kernel_rfl) (by kernel_rfl) (fun _ _ _ h => h) (Or.inr ⟨by rfl, rfl⟩) hHeld ?_
                    try simp only [Act.put, List.setIfInBounds_toArray, List.set_cons_zero, List.set_cons_succ]
                    refine wpAnyH_take (i := 16) (oi := ⟨some 98, _, _, _, _, _⟩) (v := undef) rfl (by kernel_rfl) (by kernel_rfl) (by kernel_rfl) (fun _ _ _ h => h) (Or.inr ⟨by rfl, rfl⟩) hHeld ?_
                    try simp only [Act.put, List.setIfInBounds_toArray, List.set_cons_zero, List.set_cons_succ]
                    refine wpAnyH_take (i := 17) (oi := ⟨some 99, _, _, _, _, _⟩) (v := undef) rfl (by kernel_rfl) (by kernel_rfl) (by kernel_rfl) (fun _ _ _ h => h) (Or.inr ⟨by rfl, rfl⟩) hHeld ?_
                    try simp only [Act.put, List.setIfInBounds_toArray, List.set_cons_zero, List.set_cons_succ]
                    refine wpAnyH_take (i := 18) (oi := ⟨some 100, _, _, _, _, _⟩) (v := undef) rfl (by kernel_rfl) (by kernel_rfl) (by kernel_rfl) (fun _ _ _ h => h) (Or.inr ⟨by rfl, rfl⟩) hHeld ?_
                    try simp only [Act.put, List.setIfInBounds_toArray, List.set_cons_zero, List.set_cons_succ]
                    refine wpAnyH_take (i := 19) (oi := ⟨some 101, _, _, _, _, _⟩) (v := undef) rfl (by kernel_rfl) (by kernel_rfl) (by kernel_rfl) (fun _ _ _ h => h) (Or.inr ⟨by rfl, rfl⟩) hHeld ?_
                    try simp only [Act.put, List.setIfInBounds_toArray, List.set_cons_zero, List.set_cons_succ]
                    refine wpAnyH_take (i := 20) (oi := ⟨some 102, _, _, _, _, _⟩) (v := undef) rfl (by kernel_rfl) (by kernel_rfl) (by kernel_rfl) (fun _ _ _ h => h) (Or.inr ⟨by rfl, rfl⟩) hHeld ?_
                    try simp only [Act.put, List.setIfInBounds_toArray, List.set_cons_zero, List.set_cons_succ]
                    refine wpAnyH_take (i := 21) (oi := ⟨some 103, _, _, _, _, _⟩) (v := undef) rfl (by kernel_rfl) (by kernel_rfl) (by kernel_rfl) (fun _ _ _ h => h) (Or.inr ⟨by rfl, rfl⟩) hHeld ?_
                    try simp only [Act.put, List.setIfInBounds_toArray, List.set_cons_zero, List.set_cons_succ]
                    refine wpAnyH_take (i := 22) (oi := ⟨some 104, _, _, _, _, _⟩) (v := undef) rfl (by kernel_rfl) (by kernel_rfl) (by kernel_rfl) (fun _ _ _ h => h) (Or.inr ⟨by rfl, rfl⟩) hHeld ?_
                    try simp only [Act.put, List.setIfInBounds_toArray, List.set_cons_zero, List.set_cons_succ]
                    refine wpAnyH_take (i := 23) (oi := ⟨some 105, _, _, _, _, _⟩) (v := undef) rfl (by kernel_rfl) (by kernel_rfl) (by kernel_rfl) (fun _ _ _ h => h) (Or.inr ⟨by rfl, rfl⟩) hHeld ?_
                    try simp only [Act.put, List.setIfInBounds_toArray, List.set_cons_zero, List.set_cons_succ]
                    refine wpAnyH_take (i := 24) (oi := ⟨some 106, _, _, _, _, _⟩) (v := undef) rfl (by kernel_rfl) (by kernel_rfl) (by kernel_rfl) (fun _ _ _ h => h) (Or.inr ⟨by rfl, rfl⟩) hHeld ?_
                    try simp only [Act.put, List.setIfInBounds_toArray, List.set_cons_zero, List.set_cons_succ]
                    refine wpAnyH_take (i := 25) (oi := ⟨some 107, _, _, _, _, _⟩) (v := ?_) rfl (by kernel_rfl) (by kernel_rfl) (by kernel_rfl) (fun _ _ _ h => h) (Or.inl ⟨by rfl, by (intro w hSw; (try dsimp only at hSw); go_simp; try with_reducible rfl)⟩) hHeld ?_
                    try simp only [Act.put, List.setIfInBounds_toArray, List.set_cons_zero, List.set_cons_succ]
                    refine wpAnyH_take (i := 26) (oi := ⟨some 108, _, _, _, _, _⟩) (v := ?_) rfl (by kernel_rfl) (by kernel_rfl) (by kernel_rfl) (fun _ _ _ h => h) (Or.inl ⟨by rfl, by (intro w hSw; (try dsimp only at hSw); go_simp; try with_reducible rfl)⟩) hHeld ?_
                    try simp only [Act.put, List.setIfInBounds_toArray, List.set_cons_zero, List.set_cons_succ]
                    refine wpAnyH_take (i := 27) (oi := ⟨some 109, _, _, _, _, _⟩) (v := ?_) rfl (by kernel_rfl) (by kernel_rfl) (by kernel_rfl) (fun _ _ _ h => h) (Or.inl ⟨by rfl, by (intro w hSw; (try dsimp only at hSw); go_simp; try with_reducible rfl)⟩) hHeld ?_
                    try simp only [Act.put, List.setIfInBounds_toArray, List.set_cons_zero, List.set_cons_succ]
                    refine wpAnyH_take (i := 28) (oi := ⟨some 110, _, _, _, _, _⟩) (v := ?_) rfl (by kernel_rfl) (by kernel_rfl) (by kernel_rfl) (fun _ _ _ h => h) (Or.inl ⟨by rfl, by (intro w hSw; (try dsimp only at hSw); go_simp; try with_reducible rfl)⟩) hHeld ?_
                    try simp only [Act.put, List.setIfInBounds_toArray, List.set_cons_zero, List.set_cons_succ]
                    refine wpAnyH_take (i := 29) (oi := ⟨some 111, _, _, _, _, _⟩) (v := ?_) rfl (by kernel_rfl) (by kernel_rfl) (by kernel_rfl) (fun _ _ _ h => h) (Or.inl ⟨by rfl, by (intro w hSw; (try dsimp only at hSw); go_simp; try with_reducible rfl)⟩) hHeld ?_
                    try simp only [Act.put, List.setIfInBounds_toArray, List.set_cons_zero, List.set_cons_succ]
                    refine wpAnyH_take (i := 30) (oi := ⟨some 112, _, _, _, _, _⟩) (v := ?_) rfl (by kernel_rfl) (by kernel_rfl) (by kernel_rfl) (fun _ _ _ h => h) (Or.inl ⟨by rfl, by (intro w hSw; (try dsimp only at hSw); go_simp; try with_reducible rfl)⟩) hHeld ?_
                    try simp only [Act.put, List.setIfInBounds_toArray, List.set_cons_zero, List.set_cons_succ]
                    refine wpAnyH_take (i := 33) (oi := ⟨some 115, _, _, _, _, _⟩) (v := ?_) rfl (by kernel_rfl) (by kernel_rfl) (by kernel_rfl) (fun _ _ _ h => h) (Or.inl ⟨by rfl, by (intro w hSw; (try dsimp only at hSw); go_simp; try with_reducible rfl)⟩) hHeld ?_
                    try simp only [Act.put, List.setIfInBounds_toArray, List.set_cons_zero, List.set_cons_succ]
                    refine wpAnyH_take (i := 34) (oi := ⟨some 116, _, _, _, _, _⟩) (v := ?_) rfl (by kernel_rfl) (by kernel_rfl) (by kernel_rfl) (fun _ _ _ h => h) (Or.inl ⟨by rfl, by (intro w hSw; (try dsimp only at hSw); go_simp; try with_reducible rfl)⟩) hHeld ?_
                    try simp only [Act.put, List.setIfInBounds_toArray, List.set_cons_zero, List.set_cons_succ]
                    refine wpAnyH_take (i := 35) (oi := ⟨some 117, _, _, _, _, _⟩) (v := ?_) rfl (by kernel_rfl) (by kernel_rfl) (by kernel_rfl) (fun _ _ _ h => h) (Or.inl ⟨by rfl, by (intro w hSw; (try dsimp only at hSw); go_simp; try with_reducible rfl)⟩) hHeld ?_
                    try simp only [Act.put, List.setIfInBounds_toArray, List.set_cons_zero, List.set_cons_succ]
                    refine wpAnyH_take (i := 36) (oi := ⟨some 118, _, _, _, _, _⟩) (v := ?_) rfl (by kernel_rfl) (by kernel_rfl) (by kernel_rfl) (fun _ _ _ h => h) (Or.inl ⟨by rfl, by (intro w hSw; (try dsimp only at hSw); go_simp; try with_reducible rfl)⟩) hHeld ?_
                    try simp only [Act.put, List.setIfInBounds_toArray, List.set_cons_zero, List.set_cons_succ]
                    refine wpAnyH_take (i := 37) (oi := ⟨some 119, _, _, _, _, _⟩) (v := ?_) rfl (by kernel_rfl) (by kernel_rfl) (by kernel_rfl) (fun _ _ _ h => h) (Or.inl ⟨by rfl, by (intro w hSw; (try dsimp only at hSw); go_simp; try with_reducible rfl)⟩) hHeld ?_
                    try simp only [Act.put, List.setIfInBounds_toArray, List.set_cons_zero, List.set_cons_succ]
                    refine wpAnyH_take (i := 38) (oi := ⟨some 120, _, _, _, _, _⟩) (v := ?_) rfl (by kernel_rfl) (by kernel_rfl) (by kernel_rfl) (fun _ _ _ h => h) (Or.inl ⟨by rfl, by (intro w hSw; (try dsimp only at hSw); go_simp; try with_reducible rfl)⟩) hHeld ?_
                    try simp only [Act.put, List.setIfInBounds_toArray, List.set_cons_zero, List.set_cons_succ]
                    refine wpAnyH_take (i := 39) (oi := ⟨some 121, _, _, _, _, _⟩) (v := ?_) rfl (by kernel_rfl) (by kernel_rfl) (by kernel_rfl) (fun _ _ _ h => h) (Or.inl ⟨by rfl, by (intro w hSw; (try dsimp only at hSw); go_simp; try with_reducible rfl)⟩) hHeld ?_
                    try simp only [Act.put, List.setIfInBounds_toArray, List.set_cons_zero, List.set_cons_succ]
                    refine wpAnyH_ready (rs := [31]) (by kernel_rfl) (by simp) ?_
                    refine AllReadyH.cons (o := ⟨some 113, _, _, _, _, _⟩) rfl (fun K hK => ?_) ?_
                    · go_simp
                      have hbn := alloc_below wc20 (.cells #[.string y.name, .slice oy y.e.length cy] 57)
                      have HX21 := Lib.hid (Bk.later HX20.out hbn)
                      have HY21 := Lib.hid (Bk.later HY20.out hbn)
                      have HB21 := Lib.hid (HB20.out.trans (hbn.mono HB20.out.size))
                      have HQ21 := Lib.hid (Bk.later HQ20.out hbn)
                      have HP21 := Lib.hid (Bk.later HP20.out hbn)
                      have HRX21 := Lib.hid (HRX20.out.later hbn fun _ _ h => h)
                      have HRY21 := Lib.hid (HRY20.out.later hbn fun _ _ h => h)
                      have HSK21 := Lib.hid (alloc_at (w := wc20) (g := wc20.heap.size) #[.string y.name, .slice oy y.e.length cy] 57 rfl)
                      refine hK.out _ _ (mkS.out _ HX21.out HQ21.out HP21.out) (fun hHeld2 => ?_)
                      clear hK K hHeld
                      have hHeld := hHeld2
                      clear hHeld2
                      clear hbn
                      try simp only [Act.put, List.setIfInBounds_toArray, List.set_cons_zero, List.set_cons_succ]
                      generalize wc20.alloc (.cells #[.string y.name, .slice oy y.e.length cy] 57) = wc21 at *
                      generalize wc20.heap.size = gHSK at *
                      refine wpAnyH_take (i := 32) (oi := ⟨some 114, _, _, _, _, _⟩) (v := ?_) rfl (by kernel_rfl) (by kernel_rfl) (by kernel_rfl) (fun _ _ _ h => h) (Or.inl ⟨by rfl, by (intro w hSw; (try dsimp only at hSw); go_simp; try with_reducible rfl)⟩) hHeld ?_
                      try simp only [Act.put, List.setIfInBounds_toArray, List.set_cons_zero, List.set_cons_succ]
                      refine wpAnyH_ready (rs := [40]) (by kernel_rfl) (by simp) ?_
                      refine AllReadyH.cons (o := ⟨some 122, _, _, _, _, _⟩) rfl (fun K hK => ?_) ?_
                      · go_simp
                        refine (K14b.out _ _ HB21.out HSK21.out HRY21.out).mono ?_
                        rintro ze wc22 ⟨rfl, hbn⟩
                        try go_simp
                        have HX22 := Lib.hid (Bk.later HX21.out hbn)
                        have HY22 := Lib.hid (Bk.later HY21.out hbn)
                        have HB22 := Lib.hid (HB21.out.trans (hbn.mono HB21.out.size))
                        have HQ22 := Lib.hid (Bk.later HQ21.out hbn)
                        have HP22 := Lib.hid (Bk.later HP21.out hbn)
                        have HRX22 := Lib.hid (HRX21.out.later hbn fun _ _ h => h)
                        have HRY22 := Lib.hid (HRY21.out.later hbn fun _ _ h => h)
                        refine hK.out _ _ (mkS.out _ HX22.out HQ22.out HP22.out) (fun hHeld2 => ?_)
                        clear hK K hHeld
                        have hHeld := hHeld2
                        clear hHeld2
                        clear hbn
                        try simp only [Act.put, List.setIfInBounds_toArray, List.set_cons_zero, List.set_cons_succ]
                        refine wpAnyH_take (i := 41) (oi := ⟨some 123, _, _, _, _, _⟩) (v := ?_) rfl (by kernel_rfl) (by kernel_rfl) (by kernel_rfl) (fun _ _ _ h => h) (Or.inl ⟨by rfl, by (intro w hSw; (try dsimp only at hSw); go_simp; try with_reducible rfl)⟩) hHeld ?_
                        try simp only [Act.put, List.setIfInBounds_toArray, List.set_cons_zero, List.set_cons_succ]
                        refine wpAnyH_take (i := 42) (oi := ⟨some 124, _, _, _, _, _⟩) (v := ?_) rfl (by kernel_rfl) (by kernel_rfl) (by kernel_rfl) (fun _ _ _ h => h) (Or.inl ⟨by rfl, by (intro w hSw; (try dsimp only at hSw); go_simp; try with_reducible rfl)⟩) hHeld ?_
                        try simp only [Act.put, List.setIfInBounds_toArray, List.set_cons_zero, List.set_cons_succ]
                        refine wpAnyH_take (i := 43) (oi := ⟨some 125, _, _, _, _, _⟩) (v := ?_) rfl (by kernel_rfl) (by kernel_rfl) (by kernel_rfl) (fun _ _ _ h => h) (Or.inl ⟨by rfl, by (intro w hSw; (try dsimp only at hSw); go_simp; try with_reducible rfl)⟩) hHeld ?_
                        try simp only [Act.put, List.setIfInBounds_toArray, List.set_cons_zero, List.set_cons_succ]
                        refine wpAnyH_done (by kernel_rfl) ?_ _
                        simp only [Exit.then]
                        apply_assumption
                        exact HX22
                        exact HY22
                        exact HB22
                      · exact AllReadyH.nil
                    · exact AllReadyH.nil
                · subst hk1
                  obtain rfl : b1 = true := by rw [← HD1.out, decide_eq_true_iff]; omega
                  have ho1 := (HN1.out w (Below.refl _ _) k1 hlt1).1
                  obtain ⟨hkk1, hxx1⟩ := HFX.out.2.2 k1 rfl
                  have hcc1 := HC1.out
                  have hmn1 : x ∈ a.l := by rw [hxx1]; exact List.getElem_mem _
                  have hsl1 : ∀ W, (Instr.sliceAt 23 (.slice o1 a.l.length C1) (some (.int .i64 (k1 : Int))) (some (.int .i64 ((k1 : Int) + 1))) none).run Tryz.prog W = .ok (.slice (some ⟨B1, F1 + k1 * 7, none⟩) 1 (C1 - k1)) W := fun W => by
                    rw [run_sliceAt_slice (w := W) 23 _ _ _ _ Tryz.underlying23, run_slice_lh (w := W) 23 _ _ _ Tryz.underlying23 .i64 .i64 _ _ (by omega) (by omega) (by omega), size23, ho1]
                    simp [Result.andThen, sliced, Addr.add_mid]
                    omega
                  have ew1 : IntKind.i64.wrap ((k1 : Int) + 1) = (k1 : Int) + 1 := IntWalk.i64_in _ (by omega)
                  have eg1 : decide ((0 : Int) ≤ (k1 : Int)) = true := by rw [decide_eq_true_iff]; omega
                  have K14a : Hid (∀ wz g, Below w.heap.size w wz → Bk wz g #[.string x.name, .int .u8 (x.p.a : Int), .int .u8 (x.p.b : Int), .int .u8 (x.p.c : Int), .int .u8 (x.p.d : Int), .int .u16 (x.p.port : Int), .slice ox x.r.length cx] 52 → Rw 4 RtIn wz (.slice ox x.r.length cx) x.r → Calls Tryz.prog 14 #[.agg #[.int .u64 0, .slice (some ⟨g, 0, none⟩) 1 1, .slice none 0 0], .agg #[.int .u64 0, .slice (some ⟨B1, F1 + k1 * 7, none⟩) 1 (C1 - k1), .slice none 0 0]] wz (TrP true wz)) := Lib.hid (fun wz g h1 h2 h3 => by
                    have hr := HR1.out wz h1
                    rw [ho1] at hr
                    have hr2 := hr.cut hlt1 (C' := C1 - k1)
                    rw [← hxx1] at hr2
                    have k := same_co (w := wz) (c0 := .int .u64 0) (d0 := .int .u64 0) (a := ⟨0, [x], []⟩) (b := ⟨0, [x], []⟩) ⟨rfl, Nat.zero_le _, Rw.one (C := 1) (cs := [.string x.name, .int .u8 (x.p.a : Int), .int .u8 (x.p.b : Int), .int .u8 (x.p.c : Int), .int .u8 (x.p.d : Int), .int .u16 (x.p.port : Int), .slice ox x.r.length cx]) h2 ⟨_, rfl, (HA.out.okL _ hmn1).1, (HA.out.okL _ hmn1).2.1, h3⟩, Rw.nil _⟩ ⟨rfl, Nat.zero_le _, hr2, Rw.nil _⟩ ⟨by simp, by simp, fun l hl => by obtain rfl := List.mem_singleton.1 hl; exact HLA.out.sized.2.2.1 _ hmn1, fun l hl => absurd hl (by simp)⟩
                    rwa [decide_eq_true (rfl : (⟨0, [x], []⟩ : Co) = ⟨0, [x], []⟩)] at k)
                  clear hxx1 hcc1 ho1
                  rcases HFY.out.1 with ⟨hk2, _⟩ | ⟨k2, hk2, hlt2, _⟩
                  · subst hk2
                    obtain rfl : b2 = false := by rw [← HD2.out]; rfl
                    refine wp_region_held_drew (S := fun wz => wz.cell? ⟨w.heap.size, 0, none⟩ = some (.int .u64 (a.v : Int)) ∧ wz.cell? ⟨w.heap.size, 1, none⟩ = some (.slice o1 a.l.length C1) ∧ wz.cell? ⟨w.heap.size, 2, none⟩ = some (.slice o2 a.c.length C2) ∧ wz.cell? ⟨g7, 0, none⟩ = some (.string x.name) ∧ wz.cell? ⟨g7, 1, none⟩ = some (.int .u8 (x.p.a : Int)) ∧ wz.cell? ⟨g7, 2, none⟩ = some (.int .u8 (x.p.b : Int)) ∧ wz.cell? ⟨g7, 3, none⟩ = some (.int .u8 (x.p.c : Int)) ∧ wz.cell? ⟨g7, 4, none⟩ = some (.int .u8 (x.p.d : Int)) ∧ wz.cell? ⟨g7, 5, none⟩ = some (.int .u16 (x.p.port : Int)) ∧ wz.cell? ⟨g7, 6, none⟩ = some (.slice ox x.r.length cx) ∧ wz.cell? ⟨g9, 0, none⟩ = some (.string y.name) ∧ wz.cell? ⟨g9, 1, none⟩ = some (.slice oy y.e.length cy)) (by kernel_rfl) (mkS.out _ HX20.out HQ20.out HP20.out) (fun hHeld => ?_)
                    generalize w7.drew = wc20 at *
                    refine wpAnyH_take (i := 0) (oi := ⟨some 82, _, _, _, _, _⟩) (v := ?_) rfl (by kernel_rfl) (by kernel_rfl) (by kernel_rfl) (fun _ _ _ h => h) (Or.inl ⟨by rfl, by (intro w hSw; (try dsimp only at hSw); go_simp; try with_reducible rfl)⟩) hHeld ?_
                    try simp only [Act.put, List.setIfInBounds_toArray, List.set_cons_zero, List.set_cons_succ]
                    refine wpAnyH_take (i := 1) (oi := ⟨some 83, _, _, _, _, _⟩) (v := ?_) rfl (by kernel_rfl) (by kernel_rfl) (by kernel_rfl) (fun _ _ _ h => h) (Or.inl ⟨by rfl, by (intro w hSw; (try dsimp only at hSw); go_simp; try with_reducible rfl)⟩) hHeld ?_
                    try simp only [Act.put, List.setIfInBounds_toArray, List.set_cons_zero, List.set_cons_succ]
                    refine wpAnyH_take (i := 2) (oi := ⟨some 84, _, _, _, _, _⟩) (v := ?_) rfl (by kernel_rfl) (by kernel_rfl) (by kernel_rfl) (fun _ _ _ h => h) (Or.inl ⟨by rfl, by (intro w hSw; (try dsimp only at hSw); go_simp; try with_reducible rfl)⟩) hHeld ?_
                    try simp only [Act.put, List.setIfInBounds_toArray, List.set_cons_zero, List.set_cons_succ]
                    refine wpAnyH_take (i := 3) (oi := ⟨some 85, _, _, _, _, _⟩) (v := ?_) rfl (by kernel_rfl) (by kernel_rfl) (by kernel_rfl) (fun _ _ _ h => h) (Or.inl ⟨by rfl, by (intro w hSw; (try dsimp only at hSw); go_simp; try with_reducible rfl)⟩) hHeld ?_
                    try simp only [Act.put, List.setIfInBounds_toArray, List.set_cons_zero, List.set_cons_succ]
                    refine wpAnyH_take (i := 4) (oi := ⟨some 86, _, _, _, _, _⟩) (v := ?_) rfl (by kernel_rfl) (by kernel_rfl) (by kernel_rfl) (fun _ _ _ h => h) (Or.inl ⟨by rfl, by (intro w hSw; (try dsimp only at hSw); go_simp; try with_reducible rfl)⟩) hHeld ?_
                    try simp only [Act.put, List.setIfInBounds_toArray, List.set_cons_zero, List.set_cons_succ]
                    refine wpAnyH_take (i := 5) (oi := ⟨some 87, _, _, _, _, _⟩) (v := ?_) rfl (by kernel_rfl) (by kernel_rfl) (by kernel_rfl) (fun _ _ _ h => h) (Or.inl ⟨by rfl, by (intro w hSw; (try dsimp only at hSw); go_simp; try with_reducible rfl)⟩) hHeld ?_
                    try simp only [Act.put, List.setIfInBounds_toArray, List.set_cons_zero, List.set_cons_succ]
                    refine wpAnyH_take (i := 6) (oi := ⟨some 88, _, _, _, _, _⟩) (v := ?_) rfl (by kernel_rfl) (by kernel_rfl) (by kernel_rfl) (fun _ _ _ h => h) (Or.inl ⟨by rfl, by (intro w hSw; (try dsimp only at hSw); go_simp; try with_reducible rfl)⟩) hHeld ?_
                    try simp only [Act.put, List.setIfInBounds_toArray, List.set_cons_zero, List.set_cons_succ]
                    refine wpAnyH_take (i := 7) (oi := ⟨some 89, _, _, _, _, _⟩) (v := ?_) rfl (by kernel_rfl) (by kernel_rfl) (by kernel_rfl) (fun _ _ _ h => h) (Or.inl ⟨by rfl, by (intro w hSw; (try dsimp only at hSw); go_simp; try with_reducible rfl)⟩) hHeld ?_
                    try simp only [Act.put, List.setIfInBounds_toArray, List.set_cons_zero, List.set_cons_succ]
                    refine wpAnyH_take (i := 8) (oi := ⟨some 90, _, _, _, _, _⟩) (v := ?_) rfl (by kernel_rfl) (by kernel_rfl) (by kernel_rfl) (fun _ _ _ h => h) (Or.inl ⟨by rfl, by (intro w hSw; (try dsimp only at hSw); go_simp; try with_reducible rfl)⟩) hHeld ?_
                    try simp only [Act.put, List.setIfInBounds_toArray, List.set_cons_zero, List.set_cons_succ]
                    refine wpAnyH_take (i := 9) (oi := ⟨some 91, _, _, _, _, _⟩) (v := ?_) rfl (by kernel_rfl) (by kernel_rfl) (by kernel_rfl) (fun _ _ _ h => h) (Or.inl ⟨by rfl, by (intro w hSw; (try dsimp only at hSw); go_simp; try with_reducible rfl)⟩) hHeld ?_
                    try simp only [Act.put, List.setIfInBounds_toArray, List.set_cons_zero, List.set_cons_succ]
                    refine wpAnyH_take (i := 10) (oi := ⟨some 92, _, _, _, _, _⟩) (v := ?_) rfl (by kernel_rfl) (by kernel_rfl) (by kernel_rfl) (fun _ _ _ h => h) (Or.inl ⟨by rfl, by (intro w hSw; (try dsimp only at hSw); go_simp; try with_reducible rfl)⟩) hHeld ?_
                    try simp only [Act.put, List.setIfInBounds_toArray, List.set_cons_zero, List.set_cons_succ]
                    refine wpAnyH_take (i := 11) (oi := ⟨some 93, _, _, _, _, _⟩) (v := ?_) rfl (by kernel_rfl) (by kernel_rfl) (by kernel_rfl) (fun _ _ _ h => h) (Or.inl ⟨by rfl, by (intro w hSw; (try dsimp only at hSw); go_simp; try with_reducible rfl)⟩) hHeld ?_
                    try simp only [Act.put, List.setIfInBounds_toArray, List.set_cons_zero, List.set_cons_succ]
                    refine wpAnyH_take (i := 12) (oi := ⟨some 94, _, _, _, _, _⟩) (v := ?_) rfl (by kernel_rfl) (by kernel_rfl) (by kernel_rfl) (fun _ _ _ h => h) (Or.inl ⟨by rfl, by (intro w hSw; (try dsimp only at hSw); go_simp; try with_reducible rfl)⟩) hHeld ?_
                    try simp only [Act.put, List.setIfInBounds_toArray, List.set_cons_zero, List.set_cons_succ]
                    refine wpAnyH_take (i := 13) (oi := ⟨some 95, _, _, _, _, _⟩) (v := ?_) rfl (by kernel_rfl) (by kernel_rfl) (by kernel_rfl) (fun _ _ _ h => h) (Or.inl ⟨by rfl, by (intro w hSw; (try dsimp only at hSw); go_simp; try with_reducible rfl)⟩) hHeld ?_
                    try simp only [Act.put, List.setIfInBounds_toArray, List.set_cons_zero, List.set_cons_succ]
                    refine wpAnyH_take (i := 16) (oi := ⟨some 98, _, _, _, _, _⟩) (v := ?_) rfl (by kernel_rfl) (by kernel_rfl) (by kernel_rfl) (fun _ _ _ h => h) (Or.inl ⟨by rfl, by (intro w hSw; (try dsimp only at hSw); go_simp; try with_reducible rfl)⟩) hHeld ?_
                    try simp only [Act.put, List.setIfInBounds_toArray, List.set_cons_zero, List.set_cons_succ]
                    refine wpAnyH_take (i := 17) (oi := ⟨some 99, _, _, _, _, _⟩) (v := ?_) rfl (by kernel_rfl) (by kernel_rfl) (by kernel_rfl) (fun _ _ _ h => h) (Or.inl ⟨by rfl, by (intro w hSw; (try dsimp only at hSw); go_simp; try with_reducible rfl)⟩) hHeld ?_
                    try simp only [Act.put, List.setIfInBounds_toArray, List.set_cons_zero, List.set_cons_succ]
                    refine wpAnyH_take (i := 18) (oi := ⟨some 100, _, _, _, _, _⟩) (v := ?_) rfl (by kernel_rfl) (by kernel_rfl) (by kernel_rfl) (fun _ _ _ h => h) (Or.inl ⟨by rfl, by (intro w hSw; (try dsimp only at hSw); go_simp; try with_reducible rfl)⟩) hHeld ?_
                    try simp only [Act.put, List.setIfInBounds_toArray, List.set_cons_zero, List.set_cons_succ]
                    refine wpAnyH_take (i := 19) (oi := ⟨some 101, _, _, _, _, _⟩) (v := ?_) rfl (by kernel_rfl) (by kernel_rfl) (by kernel_rfl) (fun _ _ _ h => h) (Or.inl ⟨by rfl, by (intro w hSw; (try dsimp only at hSw); go_simp; try with_reducible rfl)⟩) hHeld ?_
                    try simp only [Act.put, List.setIfInBounds_toArray, List.set_cons_zero, List.set_cons_succ]
                    refine wpAnyH_take (i := 20) (oi := ⟨some 102, _, _, _, _, _⟩) (v := ?_) rfl (by kernel_rfl) (by kernel_rfl) (by kernel_rfl) (fun _ _ _ h => h) (Or.inl ⟨by rfl, by (intro w hSw; (try dsimp only at hSw); go_simp; try with_reducible rfl)⟩) hHeld ?_
                    try simp only [Act.put, List.setIfInBounds_toArray, List.set_cons_zero, List.set_cons_succ]
                    refine wpAnyH_take (i := 21) (oi := ⟨some 103, _, _, _, _, _⟩) (v := ?_) rfl (by kernel_rfl) (by kernel_rfl) (by kernel_rfl) (fun _ _ _ h => h) (Or.inl ⟨by rfl, by (intro w hSw; (try dsimp only at hSw); go_simp; try with_reducible rfl)⟩) hHeld ?_
                    try simp only [Act.put, List.setIfInBounds_toArray, List.set_cons_zero, List.set_cons_succ]
                    refine wpAnyH_take (i := 22) (oi := ⟨some 104, _, _, _, _, _⟩) (v := ?_) rfl (by kernel_rfl) (by kernel_rfl) (by kernel_rfl) (fun _ _ _ h => h) (Or.inl ⟨by rfl, by (intro w hSw; (try dsimp only at hSw); go_simp; try with_reducible rfl)⟩) hHeld ?_
                    try simp only [Act.put, List.setIfInBounds_toArray, List.set_cons_zero, List.set_cons_succ]
                    refine wpAnyH_ready (rs := [14]) (by kernel_rfl) (by simp) ?_
                    refine AllReadyH.cons (o := ⟨some 96, _, _, _, _, _⟩) rfl (fun K hK => ?_) ?_
                    · go_simp
                      have hbn := alloc_below wc20 (.cells #[.string x.name, .int .u8 (x.p.a : Int), .int .u8 (x.p.b : Int), .int .u8 (x.p.c : Int), .int .u8 (x.p.d : Int), .int .u16 (x.p.port : Int), .slice ox x.r.length cx] 52)
                      have HX21 := Lib.hid (Bk.later HX20.out hbn)
                      have HY21 := Lib.hid (Bk.later HY20.out hbn)
                      have HB21 := Lib.hid (HB20.out.trans (hbn.mono HB20.out.size))
                      have HQ21 := Lib.hid (Bk.later HQ20.out hbn)
                      have HP21 := Lib.hid (Bk.later HP20.out hbn)
                      have HRX21 := Lib.hid (HRX20.out.later hbn fun _ _ h => h)
                      have HRY21 := Lib.hid (HRY20.out.later hbn fun _ _ h => h)
                      have HSL21 := Lib.hid (alloc_at (w := wc20) (g := wc20.heap.size) #[.string x.name, .int .u8 (x.p.a : Int), .int .u8 (x.p.b : Int), .int .u8 (x.p.c : Int), .int .u8 (x.p.d : Int), .int .u16 (x.p.port : Int), .slice ox x.r.length cx] 52 rfl)
                      refine hK.out _ _ (mkS.out _ HX21.out HQ21.out HP21.out) (fun hHeld2 => ?_)
                      clear hK K hHeld
                      have hHeld := hHeld2
                      clear hHeld2
                      clear hbn
                      try simp only [Act.put, List.setIfInBounds_toArray, List.set_cons_zero, List.set_cons_succ]
                      generalize wc20.alloc (.cells #[.string x.name, .int .u8 (x.p.a : Int), .int .u8 (x.p.b : Int), .int .u8 (x.p.c : Int), .int .u8 (x.p.d : Int), .int .u16 (x.p.port : Int), .slice ox x.r.length cx] 52) = wc21 at *
                      generalize wc20.heap.size = gHSL at *
                      refine wpAnyH_take (i := 15) (oi := ⟨some 97, _, _, _, _, _⟩) (v := ?_) rfl (by kernel_rfl) (by kernel_rfl) (by kernel_rfl) (fun _ _ _ h => h) (Or.inl ⟨by rfl, by (intro w hSw; (try dsimp only at hSw); go_simp; try with_reducible rfl)⟩) hHeld ?_
                      try simp only [Act.put, List.setIfInBounds_toArray, List.set_cons_zero, List.set_cons_succ]
                      refine wpAnyH_ready (rs := [23]) (by kernel_rfl) (by simp) ?_
                      refine AllReadyH.cons (o := ⟨some 105, _, _, _, _, _⟩) rfl (fun K hK => ?_) ?_
                      · go_simp
                        refine (K14a.out _ _ HB21.out HSL21.out HRX21.out).mono ?_
                        rintro ze wc22 ⟨rfl, hbn⟩
                        try go_simp
                        have HX22 := Lib.hid (Bk.later HX21.out hbn)
                        have HY22 := Lib.hid (Bk.later HY21.out hbn)
                        have HB22 := Lib.hid (HB21.out.trans (hbn.mono HB21.out.size))
                        have HQ22 := Lib.hid (Bk.later HQ21.out hbn)
                        have HP22 := Lib.hid (Bk.later HP21.out hbn)
                        have HRX22 := Lib.hid (HRX21.out.later hbn fun _ _ h => h)
                        have HRY22 := Lib.hid (HRY21.out.later hbn fun _ _ h => h)
                        refine hK.out _ _ (mkS.out _ HX22.out HQ22.out HP22.out) (fun hHeld2 => ?_)
                        clear hK K hHeld
                        have hHeld := hHeld2
                        clear hHeld2
                        clear hbn
                        try simp only [Act.put, List.setIfInBounds_toArray, List.set_cons_zero, List.set_cons_succ]
                        refine wpAnyH_take (i := 24) (oi := ⟨some 106, _, _, _, _, _⟩) (v := ?_) rfl (by kernel_rfl) (by kernel_rfl) (by kernel_rfl) (fun _ _ _ h => h) (Or.inl ⟨by rfl, by (intro w hSw; (try dsimp only at hSw); go_simp; try with_reducible rfl)⟩) hHeld ?_
                        try simp only [Act.put, List.setIfInBounds_toArray, List.set_cons_zero, List.set_cons_succ]
                        refine wpAnyH_take (i := 25) (oi := ⟨some 107, _, _, _, _, _⟩) (v := ?_) rfl (by kernel_rfl) (by kernel_rfl) (by kernel_rfl) (fun _ _ _ h => h) (Or.inl ⟨by rfl, by (intro w hSw; (try dsimp only at hSw); go_simp; try with_reducible rfl)⟩) hHeld ?_
                        try simp only [Act.put, List.setIfInBounds_toArray, List.set_cons_zero, List.set_cons_succ]
                        refine wpAnyH_take (i := 26) (oi := ⟨some 108, _, _, _, _, _⟩) (v := ?_) rfl (by kernel_rfl) (by kernel_rfl) (by kernel_rfl) (fun _ _ _ h => h) (Or.inl ⟨by rfl, by (intro w hSw; (try dsimp only at hSw); go_simp; try with_reducible rfl)⟩) hHeld ?_
                        try simp only [Act.put, List.setIfInBounds_toArray, List.set_cons_zero, List.set_cons_succ]
                        refine wpAnyH_take (i := 27) (oi := ⟨some 109, _, _, _, _, _⟩) (v := ?_) rfl (by kernel_rfl) (by kernel_rfl) (by kernel_rfl) (fun _ _ _ h => h) (Or.inl ⟨by rfl, by (intro w hSw; (try dsimp only at hSw); go_simp; try with_reducible rfl)⟩) hHeld ?_
                        try simp only [Act.put, List.setIfInBounds_toArray, List.set_cons_zero, List.set_cons_succ]
                        refine wpAnyH_take (i := 28) (oi := ⟨some 110, _, _, _, _, _⟩) (v := ?_) rfl (by kernel_rfl) (by kernel_rfl) (by kernel_rfl) (fun _ _ _ h => h) (Or.inl ⟨by rfl, by (intro w hSw; (try dsimp only at hSw); go_simp; try with_reducible rfl)⟩) hHeld ?_
                        try simp only [Act.put, List.setIfInBounds_toArray, List.set_cons_zero, List.set_cons_succ]
                        refine wpAnyH_take (i := 29) (oi := ⟨some 111, _, _, _, _, _⟩) (v := ?_) rfl (by kernel_rfl) (by kernel_rfl) (by kernel_rfl) (fun _ _ _ h => h) (Or.inl ⟨by rfl, by (intro w hSw; (try dsimp only at hSw); go_simp; try with_reducible rfl)⟩) hHeld ?_
                        try simp only [Act.put, List.setIfInBounds_toArray, List.set_cons_zero, List.set_cons_succ]
                        refine wpAnyH_take (i := 30) (oi := ⟨some 112, _, _, _, _, _⟩) (v := undef) rfl (by kernel_rfl) (by kernel_rfl) (by kernel_rfl) (fun _ _ _ h => h) (Or.inr ⟨by rfl, rfl⟩) hHeld ?_
                        try simp only [Act.put, List.setIfInBounds_toArray, List.set_cons_zero, List.set_cons_succ]
                        refine wpAnyH_take (i := 31) (oi := ⟨some 113, _, _, _, _, _⟩) (v := undef) rfl (by kernel_rfl) (by kernel_rfl) (by kernel_rfl) (fun _ _ _ h => h) (Or.inr ⟨by rfl, rfl⟩) hHeld ?_
                        try simp only [Act.put, List.setIfInBounds_toArray, List.set_cons_zero, List.set_cons_succ]
                        refine wpAnyH_take (i := 32) (oi := ⟨some 114, _, _, _, _, _⟩) (v := undef) rfl (by kernel_rfl) (by kernel_rfl) (by kernel_rfl) (fun _ _ _ h => h) (Or.inr ⟨by rfl, rfl⟩) hHeld ?_
                        try simp only [Act.put, List.setIfInBounds_toArray, List.set_cons_zero, List.set_cons_succ]
                        refine wpAnyH_take (i := 33) (oi := ⟨some 115, _, _, _, _, _⟩) (v := undef) rfl (by kernel_rfl) (by kernel_rfl) (by kernel_rfl) (fun _ _ _ h => h) (Or.inr ⟨by rfl, rfl⟩) hHeld ?_
                        try simp only [Act.put, List.setIfInBounds_toArray, List.set_cons_zero, List.set_cons_succ]
                        refine wpAnyH_take (i := 34) (oi := ⟨some 116, _, _, _, _, _⟩) (v := undef) rfl (by kernel_rfl) (by kernel_rfl) (by kernel_rfl) (fun _ _ _ h => h) (Or.inr ⟨by rfl, rfl⟩) hHeld ?_
                        try simp only [Act.put, List.setIfInBounds_toArray, List.set_cons_zero, List.set_cons_succ]
                        refine wpAnyH_take (i := 35) (oi := ⟨some 117, _, _, _, _, _⟩) (v := undef) rfl (by kernel_rfl) (by kernel_rfl) (by kernel_rfl) (fun _ _ _ h => h) (Or.inr ⟨by rfl, rfl⟩) hHeld ?_
                        try simp only [Act.put, List.setIfInBounds_toArray, List.set_cons_zero, List.set_cons_succ]
                        refine wpAnyH_take (i := 36) (oi := ⟨some 118, _, _, _, _, _⟩) (v := undef) rfl (by kernel_rfl) (by kernel_rfl) (by kernel_rfl) (fun _ _ _ h => h) (Or.inr ⟨by rfl, rfl⟩) hHeld ?_
                        try simp only [Act.put, List.setIfInBounds_toArray, List.set_cons_zero, List.set_cons_succ]
                        refine wpAnyH_take (i := 37) (oi := ⟨some 119, _, _, _, _, _⟩) (v := undef) rfl (by kernel_rfl) (by kernel_rfl) (by kernel_rfl) (fun _ _ _ h => h) (Or.inr ⟨by rfl, rfl⟩) hHeld ?_
                        try simp only [Act.put, List.setIfInBounds_toArray, List.set_cons_zero, List.set_cons_succ]
                        refine wpAnyH_take (i := 38) (oi := ⟨some 120, _, _, _, _, _⟩) (v := undef) rfl (by kernel_rfl) (by kernel_rfl) (by kernel_rfl) (fun _ _ _ h => h) (Or.inr ⟨by rfl, rfl⟩) hHeld ?_
                        try simp only [Act.put, List.setIfInBounds_toArray, List.set_cons_zero, List.set_cons_succ]
                        refine wpAnyH_take (i := 39) (oi := ⟨some 121, _, _, _, _, _⟩) (v := undef) rfl (by kernel_rfl) (by kernel_rfl) (by kernel_rfl) (fun _ _ _ h => h) (Or.inr ⟨by rfl, rfl⟩) hHeld ?_
                        try simp only [Act.put, List.setIfInBounds_toArray, List.set_cons_zero, List.set_cons_succ]
                        refine wpAnyH_take (i := 40) (oi := ⟨some 122, _, _, _, _, _⟩) (v := undef) rfl (by kernel_rfl) (by kernel_rfl) (by kernel_rfl) (fun _ _ _ h => h) (Or.inr ⟨by rfl, rfl⟩) hHeld ?_
                        try simp only [Act.put, List.setIfInBounds_toArray, List.set_cons_zero, List.set_cons_succ]
                        refine wpAnyH_take (i := 41) (oi := ⟨some 123, _, _, _, _, _⟩) (v := undef) rfl (by kernel_rfl) (by kernel_rfl) (by kernel_rfl) (fun _ _ _ h => h) (Or.inr ⟨by rfl, rfl⟩) hHeld ?_
                        try simp only [Act.put, List.setIfInBounds_toArray, List.set_cons_zero, List.set_cons_succ]
                        refine wpAnyH_take (i := 42) (oi := ⟨some 124, _, _, _, _, _⟩) (v := ?_) rfl (by kernel_rfl) (by kernel_rfl) (by kernel_rfl) (fun _ _ _ h => h) (Or.inl ⟨by rfl, by (intro w hSw; (try dsimp only at hSw); go_simp; try with_reducible rfl)⟩) hHeld ?_
                        try simp only [Act.put, List.setIfInBounds_toArray, List.set_cons_zero, List.set_cons_succ]
                        refine wpAnyH_take (i := 43) (oi := ⟨some 125, _, _, _, _, _⟩) (v := ?_) rfl (by kernel_rfl) (by kernel_rfl) (by kernel_rfl) (fun _ _ _ h => h) (Or.inl ⟨by rfl, by (intro w hSw; (try dsimp only at hSw); go_simp; try with_reducible rfl)⟩) hHeld ?_
                        try simp only [Act.put, List.setIfInBounds_toArray, List.set_cons_zero, List.set_cons_succ]
                        refine wpAnyH_done (by kernel_rfl) ?_ _
                        simp only [Exit.then]
                        apply_assumption
                        exact HX22
                        exact HY22
                        exact HB22
                      · exact AllReadyH.nil
                    · exact AllReadyH.nil
                  · subst hk2
                    obtain rfl : b2 = true := by rw [← HD2.out, decide_eq_true_iff]; omega
                    have ho2 := (HN2.out w (Below.refl _ _) k2 hlt2).1
                    obtain ⟨hkk2, hxx2⟩ := HFY.out.2.2 k2 rfl
                    have hcc2 := HC2.out
                    have hmn2 : y ∈ a.c := by rw [hxx2]; exact List.getElem_mem _
                    have hsl2 : ∀ W, (Instr.sliceAt 24 (.slice o2 a.c.length C2) (some (.int .i64 (k2 : Int))) (some (.int .i64 ((k2 : Int) + 1))) none).run Tryz.prog W = .ok (.slice (some ⟨B2, F2 + k2 * 2, none⟩) 1 (C2 - k2)) W := fun W => by
                      rw [run_sliceAt_slice (w := W) 24 _ _ _ _ Tryz.underlying24, run_slice_lh (w := W) 24 _ _ _ Tryz.underlying24 .i64 .i64 _ _ (by omega) (by omega) (by omega), size24, ho2]
                      simp [Result.andThen, sliced, Addr.add_mid]
                      omega
                    have ew2 : IntKind.i64.wrap ((k2 : Int) + 1) = (k2 : Int) + 1 := IntWalk.i64_in _ (by omega)
                    have eg2 : decide ((0 : Int) ≤ (k2 : Int)) = true := by rw [decide_eq_true_iff]; omega
                    have K14b : Hid (∀ wz g, Below w.heap.size w wz → Bk wz g #[.string y.name, .slice oy y.e.length cy] 57 → Rw 6 EpIn wz (.slice oy y.e.length cy) y.e → Calls Tryz.prog 14 #[.agg #[.int .u64 0, .slice none 0 0, .slice (some ⟨g, 0, none⟩) 1 1], .agg #[.int .u64 0, .slice none 0 0, .slice (some ⟨B2, F2 + k2 * 2, none⟩) 1 (C2 - k2)]] wz (TrP true wz)) := Lib.hid (fun wz g h1 h2 h3 => by
                      have hr := HR2.out wz h1
                      rw [ho2] at hr
                      have hr2 := hr.cut hlt2 (C' := C2 - k2)
                      rw [← hxx2] at hr2
                      have k := same_co (w := wz) (c0 := .int .u64 0) (d0 := .int .u64 0) (a := ⟨0, [], [y]⟩) (b := ⟨0, [], [y]⟩) ⟨rfl, Nat.zero_le _, Rw.nil _, Rw.one (C := 1) (cs := [.string y.name, .slice oy y.e.length cy]) h2 ⟨_, rfl, (HA.out.okC _ hmn2).1, h3⟩⟩ ⟨rfl, Nat.zero_le _, Rw.nil _, hr2⟩ ⟨by simp, by simp, fun l hl => absurd hl (by simp), fun l hl => by obtain rfl := List.mem_singleton.1 hl; exact HLA.out.sized.2.2.2 _ hmn2⟩
                      rwa [decide_eq_true (rfl : (⟨0, [], [y]⟩ : Co) = ⟨0, [], [y]⟩)] at k)
                    clear hxx2 hcc2 ho2
                    refine wp_region_held_drew (S := fun wz => wz.cell? ⟨w.heap.size, 0, none⟩ = some (.int .u64 (a.v : Int)) ∧ wz.cell? ⟨w.heap.size, 1, none⟩ = some (.slice o1 a.l.length C1) ∧ wz.cell? ⟨w.heap.size, 2, none⟩ = some (.slice o2 a.c.length C2) ∧ wz.cell? ⟨g7, 0, none⟩ = some (.string x.name) ∧ wz.cell? ⟨g7, 1, none⟩ = some (.int .u8 (x.p.a : Int)) ∧ wz.cell? ⟨g7, 2, none⟩ = some (.int .u8 (x.p.b : Int)) ∧ wz.cell? ⟨g7, 3, none⟩ = some (.int .u8 (x.p.c : Int)) ∧ wz.cell? ⟨g7, 4, none⟩ = some (.int .u8 (x.p.d : Int)) ∧ wz.cell? ⟨g7, 5, none⟩ = some (.int .u16 (x.p.port : Int)) ∧ wz.cell? ⟨g7, 6, none⟩ = some (.slice ox x.r.length cx) ∧ wz.cell? ⟨g9, 0, none⟩ = some (.string y.name) ∧ wz.cell? ⟨g9, 1, none⟩ = some (.slice oy y.e.length cy)) (by kernel_rfl) (mkS.out _ HX20.out HQ20.out HP20.out) (fun hHeld => ?_)
                    generalize w7.drew = wc20 at *
                    refine wpAnyH_take (i := 0) (oi := ⟨some 82, _, _, _, _, _⟩) (v := ?_) rfl (by kernel_rfl) (by kernel_rfl) (by kernel_rfl) (fun _ _ _ h => h) (Or.inl ⟨by rfl, by (intro w hSw; (try dsimp only at hSw); go_simp; try with_reducible rfl)⟩) hHeld ?_
                    try simp only [Act.put, List.setIfInBounds_toArray, List.set_cons_zero, List.set_cons_succ]
                    refine wpAnyH_take (i := 1) (oi := ⟨some 83, _, _, _, _, _⟩) (v := ?_) rfl (by kernel_rfl) (by kernel_rfl) (by kernel_rfl) (fun _ _ _ h => h) (Or.inl ⟨by rfl, by (intro w hSw; (try dsimp only at hSw); go_simp; try with_reducible rfl)⟩) hHeld ?_
                    try simp only [Act.put, List.setIfInBounds_toArray, List.set_cons_zero, List.set_cons_succ]
                    refine wpAnyH_take (i := 2) (oi := ⟨some 84, _, _, _, _, _⟩) (v := ?_) rfl (by kernel_rfl) (by kernel_rfl) (by kernel_rfl) (fun _ _ _ h => h) (Or.inl ⟨by rfl, by (intro w hSw; (try dsimp only at hSw); go_simp; try with_reducible rfl)⟩) hHeld ?_
                    try simp only [Act.put, List.setIfInBounds_toArray, List.set_cons_zero, List.set_cons_succ]
                    refine wpAnyH_take (i := 3) (oi := ⟨some 85, _, _, _, _, _⟩) (v := ?_) rfl (by kernel_rfl) (by kernel_rfl) (by kernel_rfl) (fun _ _ _ h => h) (Or.inl ⟨by rfl, by (intro w hSw; (try dsimp only at hSw); go_simp; try with_reducible rfl)⟩) hHeld ?_
                    try simp only [Act.put, List.setIfInBounds_toArray, List.set_cons_zero, List.set_cons_succ]
                    refine wpAnyH_take (i := 4) (oi := ⟨some 86, _, _, _, _, _⟩) (v := ?_) rfl (by kernel_rfl) (by kernel_rfl) (by kernel_rfl) (fun _ _ _ h => h) (Or.inl ⟨by rfl, by (intro w hSw; (try dsimp only at hSw); go_simp; try with_reducible rfl)⟩) hHeld ?_
                    try simp only [Act.put, List.setIfInBounds_toArray, List.set_cons_zero, List.set_cons_succ]
                    refine wpAnyH_take (i := 5) (oi := ⟨some 87, _, _, _, _, _⟩) (v := ?_) rfl (by kernel_rfl) (by kernel_rfl) (by kernel_rfl) (fun _ _ _ h => h) (Or.inl ⟨by rfl, by (intro w hSw; (try dsimp only at hSw); go_simp; try with_reducible rfl)⟩) hHeld ?_
                    try simp only [Act.put, List.setIfInBounds_toArray, List.set_cons_zero, List.set_cons_succ]
                    refine wpAnyH_take (i := 6) (oi := ⟨some 88, _, _, _, _, _⟩) (v := ?_) rfl (by kernel_rfl) (by kernel_rfl) (by kernel_rfl) (fun _ _ _ h => h) (Or.inl ⟨by rfl, by (intro w hSw; (try dsimp only at hSw); go_simp; try with_reducible rfl)⟩) hHeld ?_
                    try simp only [Act.put, List.setIfInBounds_toArray, List.set_cons_zero, List.set_cons_succ]
                    refine wpAnyH_take (i := 7) (oi := ⟨some 89, _, _, _, _, _⟩) (v := ?_) rfl (by kernel_rfl) (by kernel_rfl) (by kernel_rfl) (fun _ _ _ h => h) (Or.inl ⟨by rfl, by (intro w hSw; (try dsimp only at hSw); go_simp; try with_reducible rfl)⟩) hHeld ?_
                    try simp only [Act.put, List.setIfInBounds_toArray, List.set_cons_zero, List.set_cons_succ]
                    refine wpAnyH_take (i := 8) (oi := ⟨some 90, _, _, _, _, _⟩) (v := ?_) rfl (by kernel_rfl) (by kernel_rfl) (by kernel_rfl) (fun _ _ _ h => h) (Or.inl ⟨by rfl, by (intro w hSw; (try dsimp only at hSw); go_simp; try with_reducible rfl)⟩) hHeld ?_
                    try simp only [Act.put, List.setIfInBounds_toArray, List.set_cons_zero, List.set_cons_succ]
                    refine wpAnyH_take (i := 9) (oi := ⟨some 91, _, _, _, _, _⟩) (v := ?_) rfl (by kernel_rfl) (by kernel_rfl) (by kernel_rfl) (fun _ _ _ h => h) (Or.inl ⟨by rfl, by (intro w hSw; (try dsimp only at hSw); go_simp; try with_reducible rfl)⟩) hHeld ?_
                    try simp only [Act.put, List.setIfInBounds_toArray, List.set_cons_zero, List.set_cons_succ]
                    refine wpAnyH_take (i := 10) (oi := ⟨some 92, _, _, _, _, _⟩) (v := ?_) rfl (by kernel_rfl) (by kernel_rfl) (by kernel_rfl) (fun _ _ _ h => h) (Or.inl ⟨by rfl, by (intro w hSw; (try dsimp only at hSw); go_simp; try with_reducible rfl)⟩) hHeld ?_
                    try simp only [Act.put, List.setIfInBounds_toArray, List.set_cons_zero, List.set_cons_succ]
                    refine wpAnyH_take (i := 11) (oi := ⟨some 93, _, _, _, _, _⟩) (v := ?_) rfl (by kernel_rfl) (by kernel_rfl) (by kernel_rfl) (fun _ _ _ h => h) (Or.inl ⟨by rfl, by (intro w hSw; (try dsimp only at hSw); go_simp; try with_reducible rfl)⟩) hHeld ?_
                    try simp only [Act.put, List.setIfInBounds_toArray, List.set_cons_zero, List.set_cons_succ]
                    refine wpAnyH_take (i := 12) (oi := ⟨some 94, _, _, _, _, _⟩) (v := ?_) rfl (by kernel_rfl) (by kernel_rfl) (by kernel_rfl) (fun _ _ _ h => h) (Or.inl ⟨by rfl, by (intro w hSw; (try dsimp only at hSw); go_simp; try with_reducible rfl)⟩) hHeld ?_
                    try simp only [Act.put, List.setIfInBounds_toArray, List.set_cons_zero, List.set_cons_succ]
                    refine wpAnyH_take (i := 13) (oi := ⟨some 95, _, _, _, _, _⟩) (v := ?_) rfl (by kernel_rfl) (by kernel_rfl) (by kernel_rfl) (fun _ _ _ h => h) (Or.inl ⟨by rfl, by (intro w hSw; (try dsimp only at hSw); go_simp; try with_reducible rfl)⟩) hHeld ?_
                    try simp only [Act.put, List.setIfInBounds_toArray, List.set_cons_zero, List.set_cons_succ]
                    refine wpAnyH_take (i := 16) (oi := ⟨some 98, _, _, _, _, _⟩) (v := ?_) rfl (by kernel_rfl) (by kernel_rfl) (by kernel_rfl) (fun _ _ _ h => h) (Or.inl ⟨by rfl, by (intro w hSw; (try dsimp only at hSw); go_simp; try with_reducible rfl)⟩) hHeld ?_
                    try simp only [Act.put, List.setIfInBounds_toArray, List.set_cons_zero, List.set_cons_succ]
                    refine wpAnyH_take (i := 17) (oi := ⟨some 99, _, _, _, _, _⟩) (v := ?_) rfl (by kernel_rfl) (by kernel_rfl) (by kernel_rfl) (fun _ _ _ h => h) (Or.inl ⟨by rfl, by (intro w hSw; (try dsimp only at hSw); go_simp; try with_reducible rfl)⟩) hHeld ?_
                    try simp only [Act.put, List.setIfInBounds_toArray, List.set_cons_zero, List.set_cons_succ]
                    refine wpAnyH_take (i := 18) (oi := ⟨some 100, _, _, _, _, _⟩) (v := ?_) rfl (by kernel_rfl) (by kernel_rfl) (by kernel_rfl) (fun _ _ _ h => h) (Or.inl ⟨by rfl, by (intro w hSw; (try dsimp only at hSw); go_simp; try with_reducible rfl)⟩) hHeld ?_
                    try simp only [Act.put, List.setIfInBounds_toArray, List.set_cons_zero, List.set_cons_succ]
                    refine wpAnyH_take (i := 19) (oi := ⟨some 101, _, _, _, _, _⟩) (v := ?_) rfl (by kernel_rfl) (by kernel_rfl) (by kernel_rfl) (fun _ _ _ h => h) (Or.inl ⟨by rfl, by (intro w hSw; (try dsimp only at hSw); go_simp; try with_reducible rfl)⟩) hHeld ?_
                    try simp only [Act.put, List.setIfInBounds_toArray, List.set_cons_zero, List.set_cons_succ]
                    refine wpAnyH_take (i := 20) (oi := ⟨some 102, _, _, _, _, _⟩) (v := ?_) rfl (by kernel_rfl) (by kernel_rfl) (by kernel_rfl) (fun _ _ _ h => h) (Or.inl ⟨by rfl, by (intro w hSw; (try dsimp only at hSw); go_simp; try with_reducible rfl)⟩) hHeld ?_
                    try simp only [Act.put, List.setIfInBounds_toArray, List.set_cons_zero, List.set_cons_succ]
                    refine wpAnyH_take (i := 21) (oi := ⟨some 103, _, _, _, _, _⟩) (v := ?_) rfl (by kernel_rfl) (by kernel_rfl) (by kernel_rfl) (fun _ _ _ h => h) (Or.inl ⟨by rfl, by (intro w hSw; (try dsimp only at hSw); go_simp; try with_reducible rfl)⟩) hHeld ?_
                    try simp only [Act.put, List.setIfInBounds_toArray, List.set_cons_zero, List.set_cons_succ]
                    refine wpAnyH_take (i := 22) (oi := ⟨some 104, _, _, _, _, _⟩) (v := ?_) rfl (by kernel_rfl) (by kernel_rfl) (by kernel_rfl) (fun _ _ _ h => h) (Or.inl ⟨by rfl, by (intro w hSw; (try dsimp only at hSw); go_simp; try with_reducible rfl)⟩) hHeld ?_
                    try simp only [Act.put, List.setIfInBounds_toArray, List.set_cons_zero, List.set_cons_succ]
                    refine wpAnyH_ready (rs := [14]) (by kernel_rfl) (by simp) ?_
                    refine AllReadyH.cons (o := ⟨some 96, _, _, _, _, _⟩) rfl (fun K hK => ?_) ?_
                    · go_simp
                      have hbn := alloc_below wc20 (.cells #[.string x.name, .int .u8 (x.p.a : Int), .int .u8 (x.p.b : Int), .int .u8 (x.p.c : Int), .int .u8 (x.p.d : Int), .int .u16 (x.p.port : Int), .slice ox x.r.length cx] 52)
                      have HX21 := Lib.hid (Bk.later HX20.out hbn)
                      have HY21 := Lib.hid (Bk.later HY20.out hbn)
                      have HB21 := Lib.hid (HB20.out.trans (hbn.mono HB20.out.size))
                      have HQ21 := Lib.hid (Bk.later HQ20.out hbn)
                      have HP21 := Lib.hid (Bk.later HP20.out hbn)
                      have HRX21 := Lib.hid (HRX20.out.later hbn fun _ _ h => h)
                      have HRY21 := Lib.hid (HRY20.out.later hbn fun _ _ h => h)
                      have HSL21 := Lib.hid (alloc_at (w := wc20) (g := wc20.heap.size) #[.string x.name, .int .u8 (x.p.a : Int), .int .u8 (x.p.b : Int), .int .u8 (x.p.c : Int), .int .u8 (x.p.d : Int), .int .u16 (x.p.port : Int), .slice ox x.r.length cx] 52 rfl)
                      refine hK.out _ _ (mkS.out _ HX21.out HQ21.out HP21.out) (fun hHeld2 => ?_)
                      clear hK K hHeld
                      have hHeld := hHeld2
                      clear hHeld2
                      clear hbn
                      try simp only [Act.put, List.setIfInBounds_toArray, List.set_cons_zero, List.set_cons_succ]
                      generalize wc20.alloc (.cells #[.string x.name, .int .u8 (x.p.a : Int), .int .u8 (x.p.b : Int), .int .u8 (x.p.c : Int), .int .u8 (x.p.d : Int), .int .u16 (x.p.port : Int), .slice ox x.r.length cx] 52) = wc21 at *
                      generalize wc20.heap.size = gHSL at *
                      refine wpAnyH_take (i := 15) (oi := ⟨some 97, _, _, _, _, _⟩) (v := ?_) rfl (by kernel_rfl) (by kernel_rfl) (by kernel_rfl) (fun _ _ _ h => h) (Or.inl ⟨by rfl, by (intro w hSw; (try dsimp only at hSw); go_simp; try with_reducible rfl)⟩) hHeld ?_
                      try simp only [Act.put, List.setIfInBounds_toArray, List.set_cons_zero, List.set_cons_succ]
                      refine wpAnyH_ready (rs := [23]) (by kernel_rfl) (by simp) ?_
                      refine AllReadyH.cons (o := ⟨some 105, _, _, _, _, _⟩) rfl (fun K hK => ?_) ?_
                      · go_simp
                        refine (K14a.out _ _ HB21.out HSL21.out HRX21.out).mono ?_
                        rintro ze wc22 ⟨rfl, hbn⟩
                        try go_simp
                        have HX22 := Lib.hid (Bk.later HX21.out hbn)
                        have HY22 := Lib.hid (Bk.later HY21.out hbn)
                        have HB22 := Lib.hid (HB21.out.trans (hbn.mono HB21.out.size))
                        have HQ22 := Lib.hid (Bk.later HQ21.out hbn)
                        have HP22 := Lib.hid (Bk.later HP21.out hbn)
                        have HRX22 := Lib.hid (HRX21.out.later hbn fun _ _ h => h)
                        have HRY22 := Lib.hid (HRY21.out.later hbn fun _ _ h => h)
                        refine hK.out _ _ (mkS.out _ HX22.out HQ22.out HP22.out) (fun hHeld2 => ?_)
                        clear hK K hHeld
                        have hHeld := hHeld2
                        clear hHeld2
                        clear hbn
                        try simp only [Act.put, List.setIfInBounds_toArray, List.set_cons_zero, List.set_cons_succ]
                        refine wpAnyH_take (i := 24) (oi := ⟨some 106, _, _, _, _, _⟩) (v := ?_) rfl (by kernel_rfl) (by kernel_rfl) (by kernel_rfl) (fun _ _ _ h => h) (Or.inl ⟨by rfl, by (intro w hSw; (try dsimp only at hSw); go_simp; try with_reducible rfl)⟩) hHeld ?_
                        try simp only [Act.put, List.setIfInBounds_toArray, List.set_cons_zero, List.set_cons_succ]
                        refine wpAnyH_take (i := 25) (oi := ⟨some 107, _, _, _, _, _⟩) (v := ?_) rfl (by kernel_rfl) (by kernel_rfl) (by kernel_rfl) (fun _ _ _ h => h) (Or.inl ⟨by rfl, by (intro w hSw; (try dsimp only at hSw); go_simp; try with_reducible rfl)⟩) hHeld ?_
                        try simp only [Act.put, List.setIfInBounds_toArray, List.set_cons_zero, List.set_cons_succ]
                        refine wpAnyH_take (i := 26) (oi := ⟨some 108, _, _, _, _, _⟩) (v := ?_) rfl (by kernel_rfl) (by kernel_rfl) (by kernel_rfl) (fun _ _ _ h => h) (Or.inl ⟨by rfl, by (intro w hSw; (try dsimp only at hSw); go_simp; try with_reducible rfl)⟩) hHeld ?_
                        try simp only [Act.put, List.setIfInBounds_toArray, List.set_cons_zero, List.set_cons_succ]
                        refine wpAnyH_take (i := 27) (oi := ⟨some 109, _, _, _, _, _⟩) (v := ?_) rfl (by kernel_rfl) (by kernel_rfl) (by kernel_rfl) (fun _ _ _ h => h) (Or.inl ⟨by rfl, by (intro w hSw; (try dsimp only at hSw); go_simp; try with_reducible rfl)⟩) hHeld ?_
                        try simp only [Act.put, List.setIfInBounds_toArray, List.set_cons_zero, List.set_cons_succ]
                        refine wpAnyH_take (i := 28) (oi := ⟨some 110, _, _, _, _, _⟩) (v := ?_) rfl (by kernel_rfl) (by kernel_rfl) (by kernel_rfl) (fun _ _ _ h => h) (Or.inl ⟨by rfl, by (intro w hSw; (try dsimp only at hSw); go_simp; try with_reducible rfl)⟩) hHeld ?_
                        try simp only [Act.put, List.setIfInBounds_toArray, List.set_cons_zero, List.set_cons_succ]
                        refine wpAnyH_take (i := 29) (oi := ⟨some 111, _, _, _, _, _⟩) (v := ?_) rfl (by kernel_rfl) (by kernel_rfl) (by kernel_rfl) (fun _ _ _ h => h) (Or.inl ⟨by rfl, by (intro w hSw; (try dsimp only at hSw); go_simp; try with_reducible rfl)⟩) hHeld ?_
                        try simp only [Act.put, List.setIfInBounds_toArray, List.set_cons_zero, List.set_cons_succ]
                        refine wpAnyH_take (i := 30) (oi := ⟨some 112, _, _, _, _, _⟩) (v := ?_) rfl (by kernel_rfl) (by kernel_rfl) (by kernel_rfl) (fun _ _ _ h => h) (Or.inl ⟨by rfl, by (intro w hSw; (try dsimp only at hSw); go_simp; try with_reducible rfl)⟩) hHeld ?_
                        try simp only [Act.put, List.setIfInBounds_toArray, List.set_cons_zero, List.set_cons_succ]
                        refine wpAnyH_take (i := 33) (oi := ⟨some 115, _, _, _, _, _⟩) (v := ?_) rfl (by kernel_rfl) (by kernel_rfl) (by kernel_rfl) (fun _ _ _ h => h) (Or.inl ⟨by rfl, by (intro w hSw; (try dsimp only at hSw); go_simp; try with_reducible rfl)⟩) hHeld ?_
                        try simp only [Act.put, List.setIfInBounds_toArray, List.set_cons_zero, List.set_cons_succ]
                        refine wpAnyH_take (i := 34) (oi := ⟨some 116, _, _, _, _, _⟩) (v := ?_) rfl (by kernel_rfl) (by kernel_rfl) (by kernel_rfl) (fun _ _ _ h => h) (Or.inl ⟨by rfl, by (intro w hSw; (try dsimp only at hSw); go_simp; try with_reducible rfl)⟩) hHeld ?_
                        try simp only [Act.put, List.setIfInBounds_toArray, List.set_cons_zero, List.set_cons_succ]
                        refine wpAnyH_take (i := 35) (oi := ⟨some 117, _, _, _, _, _⟩) (v := ?_) rfl (by kernel_rfl) (by kernel_rfl) (by kernel_rfl) (fun _ _ _ h => h) (Or.inl ⟨by rfl, by (intro w hSw; (try dsimp only at hSw); go_simp; try with_reducible rfl)⟩) hHeld ?_
                        try simp only [Act.put, List.setIfInBounds_toArray, List.set_cons_zero, List.set_cons_succ]
                        refine wpAnyH_take (i := 36) (oi := ⟨some 118, _, _, _, _, _⟩) (v := ?_) rfl (by kernel_rfl) (by kernel_rfl) (by kernel_rfl) (fun _ _ _ h => h) (Or.inl ⟨by rfl, by (intro w hSw; (try dsimp only at hSw); go_simp; try with_reducible rfl)⟩) hHeld ?_
                        try simp only [Act.put, List.setIfInBounds_toArray, List.set_cons_zero, List.set_cons_succ]
                        refine wpAnyH_take (i := 37) (oi := ⟨some 119, _, _, _, _, _⟩) (v := ?_) rfl (by kernel_rfl) (by kernel_rfl) (by kernel_rfl) (fun _ _ _ h => h) (Or.inl ⟨by rfl, by (intro w hSw; (try dsimp only at hSw); go_simp; try with_reducible rfl)⟩) hHeld ?_
                        try simp only [Act.put, List.setIfInBounds_toArray, List.set_cons_zero, List.set_cons_succ]
                        refine wpAnyH_take (i := 38) (oi := ⟨some 120, _, _, _, _, _⟩) (v := ?_) rfl (by kernel_rfl) (by kernel_rfl) (by kernel_rfl) (fun _ _ _ h => h) (Or.inl ⟨by rfl, by (intro w hSw; (try dsimp only at hSw); go_simp; try with_reducible rfl)⟩) hHeld ?_
                        try simp only [Act.put, List.setIfInBounds_toArray, List.set_cons_zero, List.set_cons_succ]
                        refine wpAnyH_take (i := 39) (oi := ⟨some 121, _, _, _, _, _⟩) (v := ?_) rfl (by kernel_rfl) (by kernel_rfl) (by kernel_rfl) (fun _ _ _ h => h) (Or.inl ⟨by rfl, by (intro w hSw; (try dsimp only at hSw); go_simp; try with_reducible rfl)⟩) hHeld ?_
                        try simp only [Act.put, List.setIfInBounds_toArray, List.set_cons_zero, List.set_cons_succ]
                        refine wpAnyH_ready (rs := [31]) (by kernel_rfl) (by simp) ?_
                        refine AllReadyH.cons (o := ⟨some 113, _, _, _, _, _⟩) rfl (fun K hK => ?_) ?_
                        · go_simp
                          have hbn := alloc_below wc22 (.cells #[.string y.name, .slice oy y.e.length cy] 57)
                          have HX23 := Lib.hid (Bk.later HX22.out hbn)
                          have HY23 := Lib.hid (Bk.later HY22.out hbn)
                          have HB23 := Lib.hid (HB22.out.trans (hbn.mono HB22.out.size))
                          have HQ23 := Lib.hid (Bk.later HQ22.out hbn)
                          have HP23 := Lib.hid (Bk.later HP22.out hbn)
                          have HRX23 := Lib.hid (HRX22.out.later hbn fun _ _ h => h)
                          have HRY23 := Lib.hid (HRY22.out.later hbn fun _ _ h => h)
                          have HSK23 := Lib.hid (alloc_at (w := wc22) (g := wc22.heap.size) #[.string y.name, .slice oy y.e.length cy] 57 rfl)
                          refine hK.out _ _ (mkS.out _ HX23.out HQ23.out HP23.out) (fun hHeld2 => ?_)
                          clear hK K hHeld
                          have hHeld := hHeld2
                          clear hHeld2
                          clear hbn
                          try simp only [Act.put, List.setIfInBounds_toArray, List.set_cons_zero, List.set_cons_succ]
                          generalize wc22.alloc (.cells #[.string y.name, .slice oy y.e.length cy] 57) = wc23 at *
                          generalize wc22.heap.size = gHSK at *
                          refine wpAnyH_take (i := 32) (oi := ⟨some 114, _, _, _, _, _⟩) (v := ?_) rfl (by kernel_rfl) (by kernel_rfl) (by kernel_rfl) (fun _ _ _ h => h) (Or.inl ⟨by rfl, by (intro w hSw; (try dsimp only at hSw); go_simp; try with_reducible rfl)⟩) hHeld ?_
                          try simp only [Act.put, List.setIfInBounds_toArray, List.set_cons_zero, List.set_cons_succ]
                          refine wpAnyH_ready (rs := [40]) (by kernel_rfl) (by simp) ?_
                          refine AllReadyH.cons (o := ⟨some 122, _, _, _, _, _⟩) rfl (fun K hK => ?_) ?_
                          · go_simp
                            refine (K14b.out _ _ HB23.out HSK23.out HRY23.out).mono ?_
                            rintro ze wc24 ⟨rfl, hbn⟩
                            try go_simp
                            have HX24 := Lib.hid (Bk.later HX23.out hbn)
                            have HY24 := Lib.hid (Bk.later HY23.out hbn)
                            have HB24 := Lib.hid (HB23.out.trans (hbn.mono HB23.out.size))
                            have HQ24 := Lib.hid (Bk.later HQ23.out hbn)
                            have HP24 := Lib.hid (Bk.later HP23.out hbn)
                            have HRX24 := Lib.hid (HRX23.out.later hbn fun _ _ h => h)
                            have HRY24 := Lib.hid (HRY23.out.later hbn fun _ _ h => h)
                            refine hK.out _ _ (mkS.out _ HX24.out HQ24.out HP24.out) (fun hHeld2 => ?_)
                            clear hK K hHeld
                            have hHeld := hHeld2
                            clear hHeld2
                            clear hbn
                            try simp only [Act.put, List.setIfInBounds_toArray, List.set_cons_zero, List.set_cons_succ]
                            refine wpAnyH_take (i := 41) (oi := ⟨some 123, _, _, _, _, _⟩) (v := ?_) rfl (by kernel_rfl) (by kernel_rfl) (by kernel_rfl) (fun _ _ _ h => h) (Or.inl ⟨by rfl, by (intro w hSw; (try dsimp only at hSw); go_simp; try with_reducible rfl)⟩) hHeld ?_
                            try simp only [Act.put, List.setIfInBounds_toArray, List.set_cons_zero, List.set_cons_succ]
                            refine wpAnyH_take (i := 42) (oi := ⟨some 124, _, _, _, _, _⟩) (v := ?_) rfl (by kernel_rfl) (by kernel_rfl) (by kernel_rfl) (fun _ _ _ h => h) (Or.inl ⟨by rfl, by (intro w hSw; (try dsimp only at hSw); go_simp; try with_reducible rfl)⟩) hHeld ?_
                            try simp only [Act.put, List.setIfInBounds_toArray, List.set_cons_zero, List.set_cons_succ]
                            refine wpAnyH_take (i := 43) (oi := ⟨some 125, _, _, _, _, _⟩) (v := ?_) rfl (by kernel_rfl) (by kernel_rfl) (by kernel_rfl) (fun _ _ _ h => h) (Or.inl ⟨by rfl, by (intro w hSw; (try dsimp only at hSw); go_simp; try with_reducible rfl)⟩) hHeld ?_
                            try simp only [Act.put, List.setIfInBounds_toArray, List.set_cons_zero, List.set_cons_succ]
                            refine wpAnyH_done (by kernel_rfl) ?_ _
                            simp only [Exit.then]
                            apply_assumption
                            exact HX24
                            exact HY24
                            exact HB24
                          · exact AllReadyH.nil
                        · exact AllReadyH.nil
                      · exact AllReadyH.nil
                    · exact AllReadyH.nil
      · have s1 : decide ((300 : Int) < (nm.size : Int)) = true := by rw [decide_eq_true_iff]; omega
        go_wp2_with fail
        go_ret
        exact ⟨rfl, HB3.out⟩
end Go.Proofs.YtjfjliobencppaaGreatDoor.Cf
