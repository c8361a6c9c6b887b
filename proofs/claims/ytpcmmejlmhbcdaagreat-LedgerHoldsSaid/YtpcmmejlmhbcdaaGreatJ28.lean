/- turnNames walked.; Remove.; New, Steps, Names.; Rows of bytes; what is copied into them. -/
import Derived.Test.YtpcmmejlmhbcdaaGreatJ27
set_option linter.unusedVariables false
set_option linter.unusedSimpArgs false
namespace Go.Proofs.YtpcmmejlmhbcdaaGreat.Dk
open Go.RowKit Go.Maps Go.Sort
def KLt (K : Nat → Prop) (w : World) : Prop := ∀ b, K b → b < w.heap.size
set_option maxRecDepth 100000 in
set_option maxHeartbeats 4000000 in
theorem turn_any {w : World} {K : Nat → Prop} {D : Nat} {g : Gh} {st : St} (h : DW w K D g st) (t : Tn) (v2 : Value)
    (hfile : w.heap[t.file]? = some (.cells #[.string (st.F t.file).1, .string (st.F t.file).2] 111 (0, 0))) (hsz : (st.F t.file).1.size ≤ 100000 ∧ (st.F t.file).2.size ≤ 100000) (hK : K t.file) (hrow : StrRow w t.frm v2)
    (hs : (∀ s ∈ t.frm, s.size ≤ maxLen) ∧ t.dest.size ≤ maxLen) (hl : t.frm.length ≤ 1000000) (hk2 : t.kind ≤ 2) (hfew : g.nn + 1 ≤ 900000 ∧ st.P.length + 1 ≤ 1000000) :
    Calls Tryz.prog 99 #[.pointer (some ⟨D, 0, none⟩), .agg #[.int .i64 (t.kind : Int), .pointer (some ⟨t.file, 0, none⟩), v2, .string t.dest]] w fun e w' => e = .returned (.tuple #[]) ∧ (∃ g', DW w' (Kn K w w') D g' (turnS st t) ∧ g'.nn = g.nn + 1) ∧ Kp K w w' := by
  have H := Lib.hid h
  have hal := alloc_below w (.cells #[.int .i64 (t.kind : Int), .pointer (some ⟨t.file, 0, none⟩), v2, .string t.dest] 105)
  have H0 := Lib.hid (h.later hal)
  have c1 := H0.out.c1
  have HD := Lib.hid (h.later (hal.drew))
  have K32 := Lib.hid (do_any t v2 g.bn g.nn st.N h.filN (w.alloc (.cells #[.int .i64 (t.kind : Int), .pointer (some ⟨t.file, 0, none⟩), v2, .string t.dest] 105)).drew HD.out.names (by omega) (fun s hs => HD.out.isf _ (live_N h.filN s hs)) (IsF.keep ⟨_, hfile⟩ hal.drew) (hrow.keep (fun b cur hb => (hal.drew.block b (lt_of_heap hb)).trans hb)) hs hl)
  have HFD := Lib.hid ((hal.drew.block _ (lt_of_heap hfile)).trans hfile)
  have HRD := Lib.hid (hrow.keep (w' := (w.alloc (.cells #[.int .i64 (t.kind : Int), .pointer (some ⟨t.file, 0, none⟩), v2, .string t.dest] 105)).drew) (fun b cur hb => (hal.drew.block b (lt_of_heap hb)).trans hb))
  have HFX := Lib.hid (And.intro hsz (And.intro hK (And.intro hs (And.intro (And.intro hk2 hl) hfew))))
  have HKL := Lib.hid (show KLt K w from h.own.2.2.2.2.2)
  have HKP := Lib.hid (show Kp K w (w.alloc (.cells #[.int .i64 (t.kind : Int), .pointer (some ⟨t.file, 0, none⟩), v2, .string t.dest] 105)).drew from Kp.of_below hal.drew)
  have HBL := Lib.hid (show g.bn < w.heap.size ∧ D < w.heap.size ∧ (∀ b, K b → b < w.heap.size) from ⟨h.names.lt, h.lt, h.own.2.2.2.2.2⟩)
  obtain ⟨ov, lv, cv, hv2⟩ : ∃ o l c, v2 = .slice o l c := by obtain ⟨o, cap, _, _, e, _⟩ := hrow; exact ⟨o, _, cap, e⟩
  subst hv2
  clear h hal hfile hsz hrow hs hl
  have HB4 := Lib.hid (four_cells w (.int .i64 (t.kind : Int)) (.pointer (some ⟨t.file, 0, none⟩)) (.slice ov lv cv) (.string t.dest) 105)
  clear c1
  obtain ⟨w0, hw0⟩ : ∃ w0, w0 = w.alloc (.cells #[.int .i64 (t.kind : Int), .pointer (some ⟨t.file, 0, none⟩), .slice ov lv cv, .string t.dest] 105) := ⟨_, rfl⟩
  have HAL := Lib.hid (show Below w.heap.size w w0 ∧ w.heap.size < w0.heap.size from by rw [hw0]; exact ⟨alloc_below _ _, alloc_lt _ _⟩)
  have HB5 : Hid (BxT w.heap.size t (.slice ov lv cv) w0) := Lib.hid (by rw [hw0]; exact HB4.out)
  rw [← hw0] at H0 HD K32 HFD HRD HKP
  have HW0 := Lib.hid hw0
  clear HB4 hw0
  go_enter Tryz.func99, Tryz.ntmps99
  go_wp2
  rw [← HW0.out]
  clear HW0
  generalize w.heap.size = X at *
  have c1 := H0.out.c1
  obtain ⟨x0, x1, x2, x3⟩ := HB5.out
  have HBd := Lib.hid (show BxT X t (.slice ov lv cv) w0.drew ∧ X < w0.drew.heap.size from ⟨HB5.out, HAL.out.2⟩)
  have HALd := Lib.hid (show Below X w w0.drew from HAL.out.1.drew)
  go_still_tail 5, (by kernel_rfl)
  change wpList _ _ _ _ _ w0.drew
  generalize w0.drew = wd at *
  go_wp2_with (first
    | (go_at_call 47; ((with_reducible refine (K32.out).mono ?_); rintro e w3 ⟨rfl, hown3, hk3⟩; have HO3 := Lib.hid hown3; have HK3 := Lib.hid hk3; clear hown3 hk3)))
  clear c1 x0 x1 x2 x3
  have hDb : D ≠ g.bn := fun e => by obtain ⟨es, cl, he, _⟩ := HD.out.names; have hb := HD.out.blk; rw [← e, hb] at he; cases he
  have hXb : X ≠ g.bn := by have := HBL.out.1; omega
  have HSS3 := Lib.hid (show SS D X t (.slice ov lv cv) (.slice g.o st.P.length g.cap) w3 from (SS.mk HD.out.c3 (HD.out.fz 3) HBd.out.1 HD.out.lt HBd.out.2 : SS D X t (.slice ov lv cv) (.slice g.o st.P.length g.cap) wd).blocks HK3.out.size (HK3.out.block D HD.out.lt hDb) (HK3.out.block X HBd.out.2 hXb))
  have HND : Hid (g.ρ ≠ some D ∧ g.ρ ≠ some X) := Lib.hid ⟨fun e => by
      rcases HD.out.row.2 with hh | ⟨r, cur, h1, _, h4, _⟩
      · rw [hh.2.2.1] at e; cases e
      · rw [h1] at e; cases e; rw [HD.out.blk] at h4; simp at h4, fun e => by
      have hKr := HBL.out.2.2 X (HD.out.own.2.2.2.1 X e); omega⟩
  have HRX : Hid (PRow 105 4 g.ρ g.o g.cap st.P.length g.xs (w3.alloc (.cells #[.int .i64 (t.kind : Int), .pointer (some ⟨t.file, 0, none⟩), .slice ov lv cv, .string t.dest] 105)).drew) := Lib.hid (by
    have hrb : g.ρ ≠ some g.bn := fun e => by
      rcases HD.out.row.2 with hh | ⟨r, cur, h1, _, h4, _⟩
      · rw [hh.2.2.1] at e; cases e
      · rw [h1] at e; cases e; obtain ⟨es, cl, he, _⟩ := HD.out.names; rw [h4] at he; cases he
    have hlt : ∀ r, g.ρ = some r → r < wd.heap.size := fun r hr => HD.out.own.2.2.2.2.2 r (HD.out.own.2.2.2.1 r hr)
    have r3 : PRow 105 4 g.ρ g.o g.cap st.P.length g.xs w3 := HD.out.row.keep (fun r hr => HK3.out.block r (hlt r hr) (fun e => hrb (by have e' : r = g.bn := e; rw [hr, e'])))
    exact r3.keep (fun r hr => (alloc_below w3 _).drew.block r (Nat.lt_of_lt_of_le (hlt r hr) HK3.out.size)))
  have x3 := HSS3.out.c
  have y3 := HSS3.out.f
  obtain ⟨b0, b1, b2, b3⟩ := HSS3.out.b
  have HSA := Lib.hid (show SS D X t (.slice ov lv cv) (.slice g.o st.P.length g.cap) (w3.alloc (.cells #[.int .i64 (t.kind : Int), .pointer (some ⟨t.file, 0, none⟩), .slice ov lv cv, .string t.dest] 105)).drew from (HSS3.out.alloc _).blocks (Nat.le_refl _) rfl rfl)
  have z3 := HSA.out.c
  clear hDb hXb
  go_region_law
    (first
      | (refine wp_prow (.tmp 14) (.tmp 16) 98 105 rfl Tryz.underlying98 (.agg #[.int .i64 0, .pointer none, .slice none 0 0, .string ⟨#[]⟩]) 4 56 info60 rfl (by omega) (by omega) g.ρ g.o g.cap st.P.length g.xs HRX.out (by have := HFX.out.2.2.2.2; omega) ⟨w3.heap.size, 0, none⟩ [.int .i64 (t.kind : Int), .pointer (some ⟨t.file, 0, none⟩), .slice ov lv cv, .string t.dest] rfl (fun j u hj => four_news w3 _ _ _ _ 105 j u hj) (by intro u hu; simp at hu; rcases hu with rfl | rfl | rfl | rfl <;> rfl) rfl rfl ?_; intro o2 cap2 w5 ρ2 hrow2 hnx2 hk2; have z3 := (HSA.out.kp hk2 HND.out.1 HND.out.2).c; have zf := (HSA.out.kp hk2 HND.out.1 HND.out.2).f))
  all_goals
    try simp only [Exit.then]
    try apply_assumption
    have hrr : PRow 105 4 ρ2 o2 cap2 (st.P.length + 1) (g.xs ++ [.int .i64 (t.kind : Int), .pointer (some ⟨t.file, 0, none⟩), .slice ov lv cv, .string t.dest]) w5 := hrow2
    have hfin := HD.out.turned (w := w) HKP.out.size t (.slice ov lv cv) HFD.out HFX.out.1 HFX.out.2.1 HRD.out HFX.out.2.2.1 HFX.out.2.2.2.1 HFX.out.2.2.2.2 HKL.out HO3.out HK3.out (alloc_below w3 _).drew ρ2 o2 cap2 hrr hnx2 hk2 rfl
    go_wp2
    exact bodyPost_end (v := .tuple #[]) (by simp [results, Tryz.results99, go_sem]) rfl ⟨rfl, ⟨_, hfin.1, rfl⟩, HKP.out.trans hfin.2⟩
end Go.Proofs.YtpcmmejlmhbcdaaGreat.Dk

namespace Go.Proofs.YtpcmmejlmhbcdaaGreat.Dk
open Go.RowKit Go.Maps Go.Sort

noncomputable def rmS (st : St) (s : ByteArray) : St := if onE st s = 0 then turnS (onS st s) ⟨2, atN st.N s, [s], ⟨#[]⟩⟩ else onS st s
theorem onE_zero {st : St} {s : ByteArray} (h0 : onE st s = 0) : findE st s = 0 := by
  unfold onE at h0
  split at h0
  · assumption
  · exact h0
theorem strow_one (w : World) (s : ByteArray) : StrRow (w.alloc (.cells #[.string s] 9)) [s] (.slice (some ⟨w.heap.size, 0, none⟩) 1 1) :=
  ⟨some ⟨w.heap.size, 0, none⟩, 1, w.heap.size, #[.string s], rfl, fun _ => ⟨rfl, heap_alloc_new _ _⟩, fun j hj => by
    match j, hj with
    | 0, _ => rfl⟩
theorem remove_nil (s : ByteArray) (w : World) : Calls Tryz.prog 81 #[.pointer none, .string s] w fun e w' => e = .returned (.int .i64 1) ∧ w' = w := by
  have K1 := Lib.hid (fun w => on_nil s w)
  go_enter Tryz.func81, Tryz.ntmps81
  go_wp2_with (first | (go_at_call 101; ((with_reducible refine (K1.out _).mono ?_); rintro e w' ⟨rfl, rfl⟩)))
  go_ret
  exact ⟨rfl, rfl⟩
set_option maxRecDepth 100000 in
set_option maxHeartbeats 2000000 in
theorem remove_any {w : World} {K : Nat → Prop} {D : Nat} {g : Gh} {st : St} (h : DW w K D g st) (hst : st.steps < 1000000000) (s : ByteArray) (hs : s.size ≤ 1000000000) (hfew : g.nn + 1 ≤ 900000 ∧ st.P.length + 1 ≤ 1000000) :
    Calls Tryz.prog 81 #[.pointer (some ⟨D, 0, none⟩), .string s] w fun e w' => e = .returned (.int .i64 (onE st s : Nat)) ∧ (∃ g', DW w' (Kn K w w') D g' (rmS st s) ∧ g'.nn ≤ g.nn + 1) ∧ Kp K w w' := by
  have K1 := Lib.hid (on_any h hst s hs)
  have HK := Lib.hid h.own
  unfold rmS
  by_cases h0 : onE st s = 0
  · rw [if_pos h0, h0]
    rw [h0] at K1
    have h1 := onE_zero h0
    obtain ⟨_, hh⟩ := findE_zero h1
    have hl := Lib.hid (h.filN.live hh)
    rw [findV_zero h1] at K1
    have HS : Hid (onS st s = stepS st) := Lib.hid (if_pos h1)
    have HFEW : Hid (g.nn + 1 ≤ 900000 ∧ (onS st s).P.length + 1 ≤ 1000000) := Lib.hid (by rw [HS.out, (stepS_N st).2.2.2.1]; exact hfew)
    have K26 := Lib.hid (fun wy => sclone_any s wy hs)
    have HSZ := Lib.hid hs
    have K27 : Hid (∀ wy : World, DW (wy.alloc (.cells #[.string s] 9)) K D g (onS st s) → (onS st s).live (atN st.N s) → Calls Tryz.prog 99 #[.pointer (some ⟨D, 0, none⟩), .agg #[.int .i64 2, .pointer (some ⟨atN st.N s, 0, none⟩), .slice (some ⟨wy.heap.size, 0, none⟩) 1 1, .string ⟨#[]⟩]] (wy.alloc (.cells #[.string s] 9)) fun e w' => e = .returned (.tuple #[]) ∧ (∃ g', DW w' (Kn K (wy.alloc (.cells #[.string s] 9)) w') D g' (turnS (onS st s) ⟨2, atN st.N s, [s], ⟨#[]⟩⟩) ∧ g'.nn = g.nn + 1) ∧ Kp K (wy.alloc (.cells #[.string s] 9)) w') :=
      Lib.hid (fun wy hd hl1 => turn_any hd ⟨2, atN st.N s, [s], ⟨#[]⟩⟩ (.slice (some ⟨wy.heap.size, 0, none⟩) 1 1) (hd.file _ hl1) (hd.size _ hl1) (hd.own.2.2.2.2.1 _ hl1) (strow_one wy s) ⟨fun x hx => (by simp at hx; subst hx; unfold maxLen; omega), (by show (0 : Nat) ≤ maxLen; omega)⟩ (by show (1 : Nat) ≤ 1000000; omega) (by show (2 : Nat) ≤ 2; omega) HFEW.out)
    clear h h0 h1 hh hs hst hfew
    obtain ⟨c, hc⟩ : ∃ c, c = atN st.N s := ⟨_, rfl⟩
    rw [← hc] at K1 K27 hl ⊢
    clear hc
    go_enter Tryz.func81, Tryz.ntmps81
    go_wp2_with (first
      | (go_at_call 101; ((with_reducible refine (K1.out).mono ?_); rintro e w1 ⟨rfl, hd1, hk1⟩; have HD1 := Lib.hid hd1; have HK1 := Lib.hid hk1; clear hd1 hk1))
      | (go_at_call 92; ((with_reducible refine (K26.out _).mono ?_); rintro e w2 ⟨rfl, hb2⟩; have HB2 := Lib.hid hb2; have HDX := Lib.hid ((HD1.out.later hb2).later (alloc_below w2 (.cells #[.string s] 9))); have HL1 : Hid ((onS st s).live c) := Lib.hid (by rw [HS.out]; exact (stepS_live st c).2 hl.out); clear hb2))
      | (go_at_call 99; ((with_reducible refine (K27.out _ HDX.out HL1.out).mono ?_); rintro e w4 ⟨rfl, hd4, hk4⟩; have HD4 := Lib.hid hd4; have HK4 := Lib.hid hk4; clear hd4 hk4)))
    go_ret
    obtain ⟨g', hg, hn⟩ := HD4.out
    have kw1 : Kp K w w1 := HK1.out.mono (fun i _ e => by have e' : i = D := e; rw [e']; exact HK.out.1)
    have kall := ((kw1.trans (Kp.of_below (K := K) HB2.out)).trans (Kp.of_below (K := K) (alloc_below w2 (.cells #[.string s] 9)))).trans HK4.out
    have s1 := kw1.size
    have s2 := HB2.out.size
    have s3 : (w2.alloc (.cells #[.string s] 9)).heap.size = w2.heap.size + 1 := by simp
    refine ⟨rfl, ⟨g', hg.wide (fun b hb => ?_) (fun b hb => ?_), by omega⟩, kall⟩
    · rcases hb with hb | hb
      · exact Or.inl hb
      · exact Or.inr ⟨by omega, hb.2⟩
    · rcases hb with hb | hb
      · exact hg.own.2.2.2.2.2 b (Or.inl hb)
      · exact hb.2
  · rw [if_neg h0]
    have q : (((onE st s : Nat) : Int) != 0) = true := by rw [bne_iff_ne]; omega
    generalize onE st s = e0 at *
    generalize findV st s = v at *
    clear h h0 hs hst hfew
    go_enter Tryz.func81, Tryz.ntmps81
    go_wp2_with (first
      | (go_at_call 101; ((with_reducible refine (K1.out).mono ?_); rintro e w1 ⟨rfl, hd1, hk1⟩; have HD1 := Lib.hid hd1; have HK1 := Lib.hid hk1; clear hd1 hk1)))
    go_ret
    exact ⟨rfl, ⟨g, HD1.out.kn, by omega⟩, HK1.out.mono (fun i _ e => by have e' : i = D := e; rw [e']; exact HK.out.1)⟩
end Go.Proofs.YtpcmmejlmhbcdaaGreat.Dk

namespace Go.Proofs.YtpcmmejlmhbcdaaGreat.Dk
open Go.RowKit Go.Maps Go.Sort

/-- A new disk. -/
def St.fresh (room : Nat) : St := ⟨room, .map [], .map [], [], -1, 0, false, fun _ => (⟨#[]⟩, ⟨#[]⟩)⟩
theorem fil_none : Fil (.map [] : Dm) := fun k hk => by simp [Maps.has] at hk
theorem fresh_live (room c : Nat) : ¬ (St.fresh room).live c := by
  rintro (⟨k, hk, _⟩ | ⟨k, hk, _⟩ | ⟨t, ht, _⟩)
  · exact absurd (fil_none k hk) (by simp [St.fresh, Maps.has] at hk)
  · exact absurd (fil_none k hk) (by simp [St.fresh, Maps.has] at hk)
  · cases ht
theorem new_many (n : Int) (hn : n < 0 ∨ 65536 < n) (w : World) : Calls Tryz.prog 22 #[.int .i64 n] w fun e w' => e = .returned (.tuple #[.pointer none, .int .i64 7]) ∧ w' = w := by
  rcases hn with hn | hn
  · go_enter Tryz.func22, Tryz.ntmps22
    go_wp2
    go_ret2
    exact ⟨rfl, rfl⟩
  · go_enter Tryz.func22, Tryz.ntmps22
    go_wp2
    go_ret2
    exact ⟨rfl, rfl⟩
def NewQ (n : Nat) (w : World) (e : Ending) (w' : World) : Prop :=
  ∃ D g, e = .returned (.tuple #[.pointer (some ⟨D, 0, none⟩), .int .i64 0]) ∧ DW w' (Kn (fun _ => False) w w') D g (St.fresh n) ∧ g.nn = 0 ∧ w.heap.size ≤ D ∧ Below w.heap.size w w'
set_option maxRecDepth 100000 in
set_option maxHeartbeats 2000000 in
theorem new_any (n : Nat) (hn : n ≤ 65536) (w : World) : Calls Tryz.prog 22 #[.int .i64 (n : Int)] w (NewQ n w) := by
  have hmm := @run_makeMap Tryz.prog
  go_enter Tryz.func22, Tryz.ntmps22
  go_wp2
  go_ret2
  have s1 : (w.alloc (.map #[] 0)).heap.size = w.heap.size + 1 := by simp
  have s2 : ((w.alloc (.map #[] 0)).alloc (.map #[] 0)).heap.size = w.heap.size + 1 + 1 := by simp
  obtain ⟨w2, hw2⟩ : ∃ w2, w2 = (w.alloc (.map #[] 0)).alloc (.map #[] 0) := ⟨_, rfl⟩
  have m1 : w2.ownsMap Tryz.prog 9 ptrE w.heap.size 0 (.map []) := by rw [hw2]; exact (World.ownsMap_made w Tryz.prog 9 ptrE).alloc _
  have m2 : w2.ownsMap Tryz.prog 9 ptrE (w.heap.size + 1) 0 (.map []) := by
    have := World.ownsMap_made (w.alloc (.map #[] 0)) Tryz.prog 9 ptrE
    rw [s1] at this
    rw [hw2]; exact this
  have b2 : Below w.heap.size w w2 := by
    rw [hw2]
    exact (alloc_below w _).alloc (by omega) _
  rw [← hw2] at s2 ⊢
  clear hw2
  obtain ⟨o, ho⟩ : ∃ o : Obj, o = .cells #[.int .i64 (n : Int), .map (some w.heap.size), .map (some (w.heap.size + 1)), .slice none 0 0, .int .i64 (-1), .int .i64 0, .bool false] 100 := ⟨_, rfl⟩
  have hnew := heap_new w2 o
  rw [s2] at hnew
  have s3 : (w2.alloc o).heap.size = w.heap.size + 1 + 1 + 1 := by simp [s2]
  rw [← ho]
  refine ⟨w.heap.size + 1 + 1, ⟨w.heap.size, w.heap.size + 1, 0, none, 0, none, []⟩, rfl, ?_, rfl, by omega, b2.alloc (by omega) _⟩
  refine ⟨by rw [hnew, ho]; rfl, m1.alloc _, m2.alloc _, by show w.heap.size ≠ w.heap.size + 1; omega, ⟨rfl, Or.inl ⟨rfl, rfl, rfl, rfl⟩⟩, fun i hi => absurd hi (by show ¬ i < 0; omega), fun c hc => absurd hc (fresh_live n c), fun c hc => absurd hc (fresh_live n c), fil_none, fil_none, ?_, ?_⟩
  · exact ⟨by show (0 : Nat) ≤ 1000000; omega, by show (0 : Nat) ≤ 1000000; omega, by show (0 : Nat) ≤ 1000000000; omega, hn, by show (-1000000 : Int) ≤ -1; omega, by show (-1 : Int) ≤ 1000000; omega⟩
  · refine ⟨Or.inr ⟨by omega, by omega⟩, Or.inr ⟨Nat.le_refl _, by show w.heap.size < _; omega⟩, Or.inr ⟨by show _ ≤ w.heap.size + 1; omega, by show w.heap.size + 1 < _; omega⟩, fun r hr => (by cases hr), fun c hc => absurd hc (fresh_live n c), fun b hb => ?_⟩
    rcases hb with hb | hb
    · exact hb.elim
    · exact hb.2
theorem lnames_nil (w : World) : Calls Tryz.prog 118 #[.pointer none] w fun e w' => e = .returned (.slice none 0 0) ∧ w' = w := by
  have K1 := Lib.hid (fun w => refuses_nil w)
  go_enter Tryz.func118, Tryz.ntmps118
  go_wp2_with (first | (go_at_call 102; ((with_reducible refine (K1.out _).mono ?_); rintro e w' ⟨rfl, rfl⟩)))
  go_ret
  exact ⟨rfl, rfl⟩
theorem set_same {w : World} {b j : Nat} {v : Value} {cur : Array Value} {T : TypeId} (h : w.heap[b]? = some (.cells cur T (0, 0))) (hc : cur[j]? = some v) : (w.setCell ⟨b, j, none⟩ v).heap[b]? = some (.cells cur T (0, 0)) := by
  rw [heap_setCell_same _ _ _ _ _ _ h]
  have e : cur.setIfInBounds j v = cur := by
    apply Array.ext'
    rw [Array.toList_setIfInBounds]
    apply List.ext_getElem?
    intro i
    by_cases hi : i = j
    · subst hi
      rw [List.getElem?_set_self (by have := (Array.getElem?_eq_some_iff.1 hc).1; simpa using this), Array.getElem?_toList, hc]
    · rw [List.getElem?_set_ne (fun e => hi e.symm)]
  rw [e]
/-- A row's cell is written as it was. -/
theorem PRow.same {T : TypeId} {m : Nat} {ρ : Option Nat} {o : Option Addr} {cap n : Nat} {xs : List Value} {w : World} (h : PRow T m ρ o cap n xs w) (r j : Nat) (u : Value) (hr : ρ = some r) (hj : xs[j]? = some u) : PRow T m ρ o cap n xs (w.setCell ⟨r, j, none⟩ u) := by
  have hjl := (List.getElem?_eq_some_iff.1 hj).1
  rcases h.2 with ⟨_, _, h0, _⟩ | ⟨q, cur, h1, h2, h4, h5, h6, h7, htk⟩
  · rw [h0] at hr; cases hr
  · rw [h1] at hr; cases hr
    refine ⟨h.1, Or.inr ⟨r, cur, h1, h2, set_same h4 ?_, h5, h6, h7, htk⟩⟩
    rw [← Array.getElem?_toList]
    have := congrArg (fun l => l[j]?) htk
    simp only [List.getElem?_take] at this
    rw [if_pos (by rw [← h.1]; exact hjl)] at this
    rw [this]; exact hj
def LnQ (l : List (List UInt8)) (w : World) (e : Ending) (w' : World) : Prop :=
  ∃ ρ o cap, e = .returned (.slice o l.length cap) ∧ PRow 9 1 ρ o cap l.length (l.map encStr) w' ∧ (∀ r, ρ = some r → w.heap.size ≤ r) ∧ Below w.heap.size w w'
set_option maxRecDepth 100000 in
set_option maxHeartbeats 2000000 in
theorem lnames_any {w : World} {K : Nat → Prop} {D : Nat} {g : Gh} {st : St} (h : DW w K D g st) (hd : st.down = false) (hsh : ∀ s ∈ keysN st.N, s.length ≤ 1000000000) : Calls Tryz.prog 118 #[.pointer (some ⟨D, 0, none⟩)] w (LnQ (keysN st.N) w) := by
  have K0 := Lib.hid (refuses_any h)
  have hr : refE st = 0 := by unfold refE; rw [hd]; rfl
  rw [hr] at K0
  have K1 := Lib.hid (rising_any g.bn g.nn st.N w h.names h.few.1)
  have c1 := h.c1
  have HMEM := Lib.hid hsh
  have hml' := Nat.le_trans (keys_len h.names) h.few.1
  generalize keysN st.N = ks at *
  obtain ⟨m, hm⟩ : ∃ m, m = ks.length := ⟨_, rfl⟩
  rw [← hm] at K1
  have HM := Lib.hid hm
  have hml : m ≤ 1000000 := by rw [hm]; exact hml'
  have K2 : Hid (Calls Tryz.prog 76 #[.map (some g.bn)] w fun e w' => ∃ ρ o cap, e = .returned (.slice o m cap) ∧ Hid (PRow 9 1 ρ o cap m (ks.map encStr) w' ∧ (∀ r, ρ = some r → w.heap.size ≤ r)) ∧ Hid (Below w.heap.size w w')) := Lib.hid (K1.out.mono (fun e w' ⟨v, he, hr, hb⟩ => by
    obtain ⟨ρ, o, cap, rfl, h1, h2⟩ := row_of_owns hr
    exact ⟨ρ, o, cap, he, Lib.hid ⟨h1, h2⟩, Lib.hid hb⟩))
  clear h hd hr hm hml' K1 hsh
  go_enter Tryz.func118, Tryz.ntmps118
  go_wp2_with (first
    | (go_at_call 102; ((with_reducible refine (K0.out).mono ?_); rintro e w0 ⟨rfl, rfl⟩))
    | (go_at_call 76; ((with_reducible refine (K2.out).mono ?_); rintro e w1 ⟨ρk, ok, capk, rfl, HK, HB⟩)))
  go_loopw [16] (fun i wr => ∃ k : Nat, k ≤ m ∧ i = .int .i64 (k : Int) ∧ Hid (PRow 9 1 ρk ok capk m (ks.map encStr) wr) ∧ Hid (Below w0.heap.size w0 wr)) (fun i _ => m - (intOf i).toNat)
  case atStart => exact ⟨0, by omega, rfl, Lib.hid HK.out.1, HB⟩
  case round =>
    obtain ⟨k, hk, rfl, HR, HBB⟩ := hrel
    by_cases hlt : k < m
    · have hkl : k < ks.length := by rw [← HM.out]; exact hlt
      obtain ⟨s, hs⟩ : ∃ s, s = ks[k] := ⟨_, rfl⟩
      have hxk : (ks.map encStr)[k]? = some (.string (sN s)) := by rw [List.getElem?_map, List.getElem?_eq_getElem hkl, hs]; rfl
      have HXK := Lib.hid hxk
      obtain ⟨r, hρk, ho, hcell⟩ := HR.out.cell k (.string (sN s)) hxk
      have hmem := HMEM.out s (by rw [hs]; exact List.getElem_mem hkl)
      have HRL : Hid (r < wr.heap.size ∧ (∃ cur, wr.heap[r]? = some (.cells cur 9 (0, 0)))) := Lib.hid (by
        rcases HR.out.2 with h | ⟨q, cur, h1, _, h4, _⟩
        · rw [h.2.2.1] at hρk; cases hρk
        · rw [h1] at hρk; cases hρk; exact ⟨lt_of_heap h4, cur, h4⟩)
      have K3 := Lib.hid (fun wy => sclone_any (sN s) wy (by rw [sN_size]; exact hmem))
      have hfz : wr.frozen? ⟨r, k, none⟩ = false := by obtain ⟨cur, hc⟩ := HRL.out.2; exact frozen_of_row wr r k _ _ hc
      have HRB : Hid (w0.heap.size ≤ r) := Lib.hid (HK.out.2 r hρk)
      have HRHO := Lib.hid hρk
      subst ho
      have q1 : (0 : Int) ≤ (k : Int) := by omega
      have q2 : (k : Int) < (m : Int) := by omega
      generalize sN s = ss at hcell HXK K3
      clear hmem hρk hs hkl hxk
      go_wp2_with (first
        | (go_at_call 92; go_loud ((with_reducible refine (K3.out _).mono ?_); rintro e w2 ⟨rfl, hb2⟩; have HB2 := Lib.hid hb2; have hcell2 := (hb2.cell (p := ⟨r, k, none⟩) HRL.out.1).trans hcell; have hfz2 : w2.frozen? ⟨r, k, none⟩ = false := (by obtain ⟨cur, hc⟩ := HRL.out.2; exact frozen_of_row w2 r k _ _ ((hb2.block r HRL.out.1).trans hc)); clear hb2)))
      go_roundw
      case rel =>
        refine ⟨k + 1, by omega, by go_num, Lib.hid ((HR.out.keep (fun q hq => HB2.out.block q (by rw [HRHO.out] at hq; cases hq; exact HRL.out.1))).same r k (.string ss) HRHO.out HXK.out), Lib.hid ((HBB.out.trans (HB2.out.mono HBB.out.size)).setCell (p := ⟨r, k, none⟩) HRB.out _)⟩
      case measure => simp [intOf]; omega
    · have hkm : k = m := by omega
      subst hkm
      have HR' := HR
      go_wp2
      go_ret
      exact ⟨ρk, ok, capk, (by rw [← HM.out]; rfl), (by rw [← HM.out]; exact HR'.out), HK.out.2, HBB.out⟩
end Go.Proofs.YtpcmmejlmhbcdaaGreat.Dk

namespace Go.Proofs.YtpcmmejlmhbcdaaGreat.Dk
open Go.RowKit Go.Maps Go.Sort

def bcl (l : List UInt8) : List Value := l.map fun b => .int .u8 (b.toNat : Int)
/-- A block that holds bytes. -/
def BB (g : Nat) (T : TypeId) (l : List UInt8) (w : World) : Prop := w.heap[g]? = some (.cells (bcl l).toArray T (0, 0))
section
variable {g : Nat} {T : TypeId} {l : List UInt8} {w w' : World}
theorem BB.lt (h : BB g T l w) : g < w.heap.size := lt_of_heap h
theorem BB.later (h : BB g T l w) (hb : Below w.heap.size w w') : BB g T l w' := (hb.block _ h.lt).trans h
theorem BB.cell (h : BB g T l w) (j : Nat) (hj : j < l.length) : w.cell? ⟨g, j, none⟩ = some (.int .u8 (l[j].toNat : Int)) := by
  rw [cell_of_row w g j _ _ _ h]; simp [bcl, hj]
theorem BB.frozen (h : BB g T l w) (j : Nat) : w.frozen? ⟨g, j, none⟩ = false := frozen_of_row w g j _ _ h
theorem BB.put (h : BB g T l w) (j : Nat) (x : UInt8) : BB g T (l.set j x) (w.setCell ⟨g, j, none⟩ (.int .u8 (x.toNat : Int))) := by
  have := heap_setCell_same w g j _ _ (.int .u8 (x.toNat : Int)) h
  rw [show (bcl l).toArray.setIfInBounds j (.int .u8 (x.toNat : Int)) = (bcl (l.set j x)).toArray by apply Array.ext'; simp [bcl, List.map_set]] at this
  exact this
end
theorem bb_new (w : World) (l : List UInt8) (T : TypeId) : BB w.heap.size T l (w.alloc (.cells (bcl l).toArray T)) := heap_alloc_new w _
theorem bb_cells {g : Nat} {T : TypeId} : ∀ (xs : List UInt8) (l : List UInt8) (o : Nat) (w : World), BB g T l w →
    ∃ l', BB g T l' (w.setCells g o (bcl xs)) ∧ l'.length = l.length ∧ (∀ j, j < l.length → l'[j]? = if o ≤ j ∧ j < o + xs.length then xs[j - o]? else l[j]?) ∧ Kp (· = g) w (w.setCells g o (bcl xs))
  | [], l, o, w, h => ⟨l, h, rfl, fun j _ => by rw [if_neg (by simp only [List.length_nil]; omega)], Kp.refl _ _⟩
  | x :: xs, l, o, w, h => by
    obtain ⟨l', h1, h2, h3, h4⟩ := bb_cells xs (l.set o x) (o + 1) _ (h.put o x)
    refine ⟨l', h1, by rw [h2, List.length_set], fun j hj => ?_, (kp_set w g o _).trans h4⟩
    rw [h3 j (by rw [List.length_set]; exact hj)]
    by_cases e : j = o
    · subst e
      rw [if_neg (by omega), if_pos (by simp), List.getElem?_set_self hj]
      simp
    · by_cases e2 : o + 1 ≤ j ∧ j < o + 1 + xs.length
      · rw [if_pos e2, if_pos (by simp only [List.length_cons]; omega)]
        rw [show j - o = (j - (o + 1)) + 1 by omega, List.getElem?_cons_succ]
      · rw [if_neg e2, if_neg (by simp only [List.length_cons]; omega), List.getElem?_set_ne (fun e' => e e'.symm)]
theorem info5 : (Tryz.prog.info? 5).map (fun i => (i.zero, i.size, i.bytes)) = some (some (.int .u8 0), 1, 1) := by kernel_rfl
theorem first_bytes (s : ByteArray) (k : Nat) (hk : k ≤ s.size) (w : World) : (Builtin.firstCells 1 k (.string s)).run Tryz.prog w = .ok (bcl (s.data.toList.take k)).toArray w := by
  simp [Builtin.firstCells, bcl, ByteArray.data_extract]
  apply Array.ext'
  simp [Array.toList_extract, List.extract_eq_take_drop]
/-- 'copy(b[o:..], s)', s a string. -/
theorem copy_str {g : Nat} {T : TypeId} {l : List UInt8} {w : World} (h : BB g T l w) (s : ByteArray) (o dLen dCap : Nat) (ty : TypeId) (hl : o + Nat.min s.size dLen ≤ l.length) :
    ∃ l', (Builtin.copy_ #[117, 9] ty #[.slice (some ⟨g, o, none⟩) dLen dCap, .string s]).run Tryz.prog w = .ok (.int .i64 (Nat.min s.size dLen : Nat)) (w.setCells g o (bcl (s.data.toList.take (Nat.min s.size dLen)))) ∧
      BB g T l' (w.setCells g o (bcl (s.data.toList.take (Nat.min s.size dLen)))) ∧ l'.length = l.length ∧ (∀ j, j < l.length → l'[j]? = if o ≤ j ∧ j < o + Nat.min s.size dLen then s.data.toList[j - o]? else l[j]?) ∧ Kp (· = g) w (w.setCells g o (bcl (s.data.toList.take (Nat.min s.size dLen)))) := by
  obtain ⟨k, hk⟩ : ∃ k, k = Nat.min s.size dLen := ⟨_, rfl⟩
  rw [← hk] at hl ⊢
  have hks : k ≤ s.size := by rw [hk]; exact Nat.min_le_left _ _
  have hlen : (s.data.toList.take k).length = k := by rw [List.length_take, Array.length_toList]; exact Nat.min_eq_left hks
  obtain ⟨l', h1, h2, h3, h4⟩ := bb_cells (s.data.toList.take k) l o w h
  refine ⟨l', ?_, h1, h2, fun j hj => ?_, h4⟩
  · have hst := run_storeCells_cells (P := Tryz.prog) g o (bcl (s.data.toList.take k)) 0 w (by
        intro i hi
        have hi4 : i < k := by simp only [bcl, List.length_map, hlen] at hi; exact hi
        rw [h.cell (o + 0 + i) (by omega)]; rfl) (fun i _ => h.frozen _) (by
        intro v hv
        simp only [bcl, List.mem_map] at hv
        obtain ⟨b, _, rfl⟩ := hv
        rfl)
    have k1 := first_bytes s k hks w
    obtain ⟨i, hi, hz0, hsz, _⟩ := info_parts info5
    simp only [Nat.add_zero] at hst
    generalize bcl (s.data.toList.take k) = vs at *
    simp [Builtin.copy_, run_underlying Tryz.underlying117, Builtin.lenOf, sizeOf, typeInfo, hi, hsz, ← hk, k1, hst]
    rfl
  · rw [h3 j hj, hlen]
    split
    · rename_i hc
      rw [List.getElem?_take, if_pos (by omega)]
    · rfl
theorem conv_bb {g : Nat} {l : List UInt8} {w : World} (h : BB g 5 l w) : (convert 117 9 (.slice (some ⟨g, 0, none⟩) l.length l.length)).run Tryz.prog w = .ok (.string ⟨l.toArray⟩) w := by
  have h2 := run_convert_bytes_back (P := Tryz.prog) w 117 9 5 ⟨g, 0, none⟩ l.length l Tryz.underlying117 Tryz.underlying5 Tryz.underlying9 (fun j hj => by
    rw [plain_add, Nat.zero_add, h.cell j hj])
  exact h2
end Go.Proofs.YtpcmmejlmhbcdaaGreat.Dk
