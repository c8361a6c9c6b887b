/- turnNames.; turnNames walked.; Remove. -/
import Derived.Test.YtjkpopdjmmgbbabGreatJ17
set_option linter.unusedVariables false
set_option linter.unusedSimpArgs false
namespace Go.Proofs.YtjkpopdjmmgbbabGreat.Dk
open Go.RowKit Go.Maps Go.Sort

noncomputable def turnS (st : St) (t : Tn) : St := { st with N := doT st.N t, P := st.P ++ [t] }
/-- What is left of a disk behind a turn, its pieces put together. -/
theorem DW.turned {w wd w3 w4 w5 w9 : World} {K : Nat → Prop} {D : Nat} {g : Gh} {st : St} (h : DW wd K D g st) (hww : w.heap.size ≤ wd.heap.size) (t : Tn) (v2 : Value)
    (hfile : wd.heap[t.file]? = some (.cells #[.string (st.F t.file).1, .string (st.F t.file).2] 67 (0, 0))) (hsz : (st.F t.file).1.size ≤ 100000 ∧ (st.F t.file).2.size ≤ 100000) (hK : K t.file) (hrow : StrRow wd t.frm v2)
    (hs : (∀ s ∈ t.frm, s.size ≤ maxLen) ∧ t.dest.size ≤ maxLen) (hk2 : t.kind ≤ 2 ∧ t.frm.length ≤ 1000000) (hfew : g.nn + 1 ≤ 900000 ∧ st.P.length + 1 ≤ 1000000) (hKw : ∀ b, K b → b < w.heap.size)
    (hown : w3.ownsMap Tryz.prog 9 ptrE g.bn (g.nn + 1) (doT st.N t)) (k3 : Kp (· = g.bn) wd w3) (k4 : Below w3.heap.size w3 w4) (ρ2 : Option Nat) (o2 : Option Addr) (cap2 : Nat)
    (hr : PRow 70 4 ρ2 o2 cap2 (st.P.length + 1) (g.xs ++ [.int .i64 (t.kind : Int), .pointer (some ⟨t.file, 0, none⟩), v2, .string t.dest]) w5) (hn : Nxt g.ρ ρ2 w4) (k5 : Kp (fun b => g.ρ = some b) w4 w5)
    (h9 : w9 = w5.setCell ⟨D, 3, none⟩ (.slice o2 (st.P.length + 1) cap2)) :
    DW w9 (Kn K w w9) D { g with nn := g.nn + 1, o := o2, cap := cap2, ρ := ρ2, xs := g.xs ++ [.int .i64 (t.kind : Int), .pointer (some ⟨t.file, 0, none⟩), v2, .string t.dest] } (turnS st t) ∧ Kp K wd w9 := by
  have k9 : Kp (· = D) w5 w9 := by rw [h9]; exact kp_set _ _ _ _
  have hKD := h.own.1
  have kall : Kp K wd w9 := (((k3.mono (K' := K) (fun i _ e => by have e' : i = g.bn := e; rw [e']; exact h.own.2.1)).trans (Kp.of_below (K := K) k4)).trans (k5.mono (K' := K) (fun i _ e => h.own.2.2.2.1 i e))).trans (k9.mono (K' := K) (fun i _ e => by have e' : i = D := e; rw [e']; exact hKD))
  have s3 := k3.size
  have s4 := k4.size
  have s5 := k5.size
  have s9 := k9.size
  -- whatever is no map, no row of turns, no disk lies there still
  have stay : ∀ (b : Nat) (o : Obj), wd.heap[b]? = some o → b ≠ g.bn → g.ρ ≠ some b → b ≠ D → w9.heap[b]? = some o := fun b o hb h1 h2 h3 =>
    (k9.block b (by have := lt_of_heap hb; omega) h3).trans ((k5.block b (by have := lt_of_heap hb; omega) h2).trans ((k4.block b (by have := lt_of_heap hb; omega)).trans ((k3.block b (lt_of_heap hb) h1).trans hb)))
  have nbn : ∀ (b : Nat) (cs : Array Value) (T : TypeId), wd.heap[b]? = some (.cells cs T (0, 0)) → b ≠ g.bn := fun b cs T hb e => by
    obtain ⟨es, cl, he, _⟩ := h.names
    rw [← e, hb] at he
    cases he
  have nρ : ∀ (b : Nat) (o : Obj), wd.heap[b]? = some o → (∀ cur, o ≠ .cells cur 70 (0, 0)) → g.ρ ≠ some b := fun b o hb hne e => by
    rcases h.row.2 with h1 | ⟨r, cur, h1, _, h4, _⟩
    · rw [h1.2.2.1] at e; cases e
    · rw [h1] at e; cases e; rw [hb] at h4; exact hne cur (Option.some.inj h4)
  have nD : ∀ (b : Nat) (o : Obj), wd.heap[b]? = some o → o ≠ .cells (dcells g st) 47 (0, 0) → b ≠ D := fun b o hb hne e => by
    have hb2 := h.blk
    rw [← e, hb] at hb2
    exact hne (Option.some.inj hb2)
  have hm := h.names.isMap
  have hxl : g.xs.length = st.P.length * 4 := h.row.1
  have live : ∀ c, (turnS st t).live c → st.live c ∨ c = t.file := fun c hc => by
    rcases hc with ⟨k, h1, h2⟩ | hc | ⟨q, hq, rfl⟩
    · rcases leads_doT hm t k c ⟨h1, h2⟩ with hh | hh
      · exact Or.inl (Or.inl ⟨k, hh.1, hh.2⟩)
      · exact Or.inr hh
    · exact Or.inl (Or.inr (Or.inl hc))
    · rcases List.mem_append.1 hq with hq | hq
      · exact Or.inl (Or.inr (Or.inr ⟨q, hq, rfl⟩))
      · simp at hq; subst hq; exact Or.inr rfl
  have fileAt : ∀ c, (turnS st t).live c → wd.heap[c]? = some (.cells #[.string (st.F c).1, .string (st.F c).2] 67 (0, 0)) := fun c hc => by
    rcases live c hc with hh | rfl
    · exact h.file c hh
    · exact hfile
  have strow : ∀ (l : List ByteArray) (v : Value), StrRow wd l v → StrRow w9 l v := fun l v hv => hv.keep (fun b cur hb => stay b _ hb (nbn _ _ _ hb) (nρ _ _ hb (by simp)) (nD _ _ hb (by simp)))
  have hDb : D ≠ g.bn := fun e => nbn _ _ _ h.blk e
  have hDρ : g.ρ ≠ some D := nρ _ _ h.blk (by simp)
  have hD5 : w5.heap[D]? = some (.cells (dcells g st) 47 (0, 0)) := (k5.block D (by have := h.lt; omega) hDρ).trans ((k4.block D (by have := h.lt; omega)).trans ((k3.block D h.lt hDb).trans h.blk))
  refine ⟨⟨?_, ?_, ?_, h.ne, ?_, ?_, ?_, ?_, h.filN.doT hm t, h.filS, ⟨?_, ?_, h.few.2.2⟩, ⟨Or.inl h.own.1, Or.inl h.own.2.1, Or.inl h.own.2.2.1, ?_, ?_, ?_⟩⟩, kall⟩
  · rw [h9, heap_setCell_same _ _ _ _ _ _ hD5]
    simp [dcells, turnS]
  · have hbl := h.names.lt
    have hρb : g.ρ ≠ some g.bn := fun e => by obtain ⟨es, cl, he, _⟩ := h.names; exact nρ _ _ he (by simp) e
    exact own_keep (own_keep (own_keep hown (k4.block g.bn (by omega))) (k5.block g.bn (by omega) hρb)) (k9.block g.bn (by omega) (fun e => hDb e.symm))
  · obtain ⟨es, cl, he, hf, hl2, hD'⟩ := h.sure
    have hne : g.bs ≠ g.bn := fun e => h.ne e.symm
    have hst := stay _ _ he hne (nρ _ _ he (by simp)) (nD _ _ he (by simp))
    exact ⟨es, cl, hst, hf, Nat.le_succ_of_le hl2, hD'⟩
  · have hr9 : PRow 70 4 ρ2 o2 cap2 (st.P.length + 1) (g.xs ++ [.int .i64 (t.kind : Int), .pointer (some ⟨t.file, 0, none⟩), v2, .string t.dest]) w9 := by
      refine ⟨hr.1, ?_⟩
      rcases hr.2 with hh | ⟨r, cur, h1, h2, h4, h5⟩
      · exact Or.inl hh
      · refine Or.inr ⟨r, cur, h1, h2, (k9.block r (lt_of_heap h4) (fun e => ?_)).trans h4, h5⟩
        have e' : r = D := e
        rw [e', hD5] at h4
        simp at h4
    simpa [turnS] using hr9
  · intro i hi
    have hi' : i < st.P.length + 1 := by simpa [turnS] using hi
    by_cases hip : i < st.P.length
    · obtain ⟨c0, c1, c2, c3, e0, e1, e2, e3, t0, t1, t2, t3⟩ := h.turn i hip
      have hget : (turnS st t).P[i] = st.P[i] := by simp [turnS, List.getElem_append_left hip]
      rw [hget]
      have app : ∀ j u, g.xs[j]? = some u → (g.xs ++ [Value.int .i64 (t.kind : Int), .pointer (some ⟨t.file, 0, none⟩), v2, .string t.dest])[j]? = some u := fun j u hj => by rw [List.getElem?_append_left (List.getElem?_eq_some_iff.1 hj).1]; exact hj
      exact ⟨c0, c1, c2, c3, app _ _ e0, app _ _ e1, app _ _ e2, app _ _ e3, t0, t1, strow _ _ t2, t3⟩
    · have hip' : i = st.P.length := by omega
      subst hip'
      have hget : (turnS st t).P[st.P.length]'hi = t := by simp [turnS]
      rw [hget]
      refine ⟨_, _, _, _, ?_, ?_, ?_, ?_, rfl, rfl, strow _ _ hrow, rfl, hs.2, hs.1, hk2⟩
      · rw [List.getElem?_append_right (by omega), hxl]; simp
      · rw [List.getElem?_append_right (by omega), hxl]; simp
      · rw [List.getElem?_append_right (by omega), hxl]; simp
      · rw [List.getElem?_append_right (by omega), hxl]; simp
  · intro c hc
    have hf := fileAt c hc
    exact stay _ _ hf (nbn _ _ _ hf) (nρ _ _ hf (by simp)) (nD _ _ hf (by simp [dcells]))
  · intro c hc
    rcases live c hc with hh | rfl
    · exact h.size c hh
    · exact hsz
  · show g.nn + 1 ≤ 1000000
    omega
  · show (st.P ++ [t]).length ≤ 1000000
    simp
    omega
  · intro r hr2
    rcases hn with e | ⟨q, e, hq⟩
    · exact Or.inl (h.own.2.2.2.1 r (by rw [← e]; exact hr2))
    · have hr2' : ρ2 = some r := hr2
      rw [e] at hr2'
      cases hr2'
      refine Or.inr ⟨by omega, ?_⟩
      rcases hr.2 with hh | ⟨r', cur, h1, h2, h4, h5⟩
      · rw [hh.2.2.1] at e; cases e
      · rw [h1] at e; cases e; have := lt_of_heap h4; omega
  · intro c hc
    rcases live c hc with hh | rfl
    · exact Or.inl (h.own.2.2.2.2.1 c hh)
    · exact Or.inl hK
  · intro b hb
    rcases hb with hb | hb
    · have := h.own.2.2.2.2.2 b hb; omega
    · exact hb.2
end Go.Proofs.YtjkpopdjmmgbbabGreat.Dk

namespace Go.Proofs.YtjkpopdjmmgbbabGreat.Dk
open Go.RowKit Go.Maps Go.Sort
def KLt (K : Nat → Prop) (w : World) : Prop := ∀ b, K b → b < w.heap.size
set_option maxRecDepth 100000 in
set_option maxHeartbeats 4000000 in
theorem turn_any {w : World} {K : Nat → Prop} {D : Nat} {g : Gh} {st : St} (h : DW w K D g st) (t : Tn) (v2 : Value)
    (hfile : w.heap[t.file]? = some (.cells #[.string (st.F t.file).1, .string (st.F t.file).2] 67 (0, 0))) (hsz : (st.F t.file).1.size ≤ 100000 ∧ (st.F t.file).2.size ≤ 100000) (hK : K t.file) (hrow : StrRow w t.frm v2)
    (hs : (∀ s ∈ t.frm, s.size ≤ maxLen) ∧ t.dest.size ≤ maxLen) (hl : t.frm.length ≤ 1000000) (hk2 : t.kind ≤ 2) (hfew : g.nn + 1 ≤ 900000 ∧ st.P.length + 1 ≤ 1000000) :
    Calls Tryz.prog 35 #[.pointer (some ⟨D, 0, none⟩), .agg #[.int .i64 (t.kind : Int), .pointer (some ⟨t.file, 0, none⟩), v2, .string t.dest]] w fun e w' => e = .returned (.tuple #[]) ∧ (∃ g', DW w' (Kn K w w') D g' (turnS st t) ∧ g'.nn = g.nn + 1) ∧ Kp K w w' := by
  have H := Lib.hid h
  have hal := alloc_below w (.cells #[.int .i64 (t.kind : Int), .pointer (some ⟨t.file, 0, none⟩), v2, .string t.dest] 70)
  have H0 := Lib.hid (h.later hal)
  have c1 := H0.out.c1
  have HD := Lib.hid (h.later (hal.drew))
  have K32 := Lib.hid (do_any t v2 g.bn g.nn st.N h.filN (w.alloc (.cells #[.int .i64 (t.kind : Int), .pointer (some ⟨t.file, 0, none⟩), v2, .string t.dest] 70)).drew HD.out.names (by omega) (fun s hs => HD.out.isf _ (live_N h.filN s hs)) (IsF.keep ⟨_, hfile⟩ hal.drew) (hrow.keep (fun b cur hb => (hal.drew.block b (lt_of_heap hb)).trans hb)) hs hl)
  have HFD := Lib.hid ((hal.drew.block _ (lt_of_heap hfile)).trans hfile)
  have HRD := Lib.hid (hrow.keep (w' := (w.alloc (.cells #[.int .i64 (t.kind : Int), .pointer (some ⟨t.file, 0, none⟩), v2, .string t.dest] 70)).drew) (fun b cur hb => (hal.drew.block b (lt_of_heap hb)).trans hb))
  have HFX := Lib.hid (And.intro hsz (And.intro hK (And.intro hs (And.intro (And.intro hk2 hl) hfew))))
  have HKL := Lib.hid (show KLt K w from h.own.2.2.2.2.2)
  have HKP := Lib.hid (show Kp K w (w.alloc (.cells #[.int .i64 (t.kind : Int), .pointer (some ⟨t.file, 0, none⟩), v2, .string t.dest] 70)).drew from Kp.of_below hal.drew)
  have HBL := Lib.hid (show g.bn < w.heap.size ∧ D < w.heap.size ∧ (∀ b, K b → b < w.heap.size) from ⟨h.names.lt, h.lt, h.own.2.2.2.2.2⟩)
  obtain ⟨ov, lv, cv, hv2⟩ : ∃ o l c, v2 = .slice o l c := by obtain ⟨o, cap, _, _, e, _⟩ := hrow; exact ⟨o, _, cap, e⟩
  subst hv2
  clear h hal hfile hsz hrow hs hl
  have HB4 := Lib.hid (four_cells w (.int .i64 (t.kind : Int)) (.pointer (some ⟨t.file, 0, none⟩)) (.slice ov lv cv) (.string t.dest) 70)
  clear c1
  obtain ⟨w0, hw0⟩ : ∃ w0, w0 = w.alloc (.cells #[.int .i64 (t.kind : Int), .pointer (some ⟨t.file, 0, none⟩), .slice ov lv cv, .string t.dest] 70) := ⟨_, rfl⟩
  have HAL := Lib.hid (show Below w.heap.size w w0 ∧ w.heap.size < w0.heap.size from by rw [hw0]; exact ⟨alloc_below _ _, alloc_lt _ _⟩)
  have HB5 : Hid (BxT w.heap.size t (.slice ov lv cv) w0) := Lib.hid (by rw [hw0]; exact HB4.out)
  rw [← hw0] at H0 HD K32 HFD HRD HKP
  have HW0 := Lib.hid hw0
  clear HB4 hw0
  go_enter Tryz.func35, Tryz.ntmps35
  go_wp2
  rw [← HW0.out]
  clear HW0
  generalize w.heap.size = X at *
  have c1 := H0.out.c1
  obtain ⟨x0, x1, x2, x3⟩ := HB5.out
  have HBd := Lib.hid (show BxT X t (.slice ov lv cv) w0.drew ∧ X < w0.drew.heap.size from ⟨HB5.out, HAL.out.2⟩)
  have HALd := Lib.hid (show Below X w w0.drew from HAL.out.1.drew)
  go_still_tail 5, (by kernel_rfl)
  change wpList _ _ _ _ _ w0.drew
  generalize w0.drew = wd at *
  go_wp2_with (first
    | (go_at_call 49; ((with_reducible refine (K32.out).mono ?_); rintro e w3 ⟨rfl, hown3, hk3⟩; have HO3 := Lib.hid hown3; have HK3 := Lib.hid hk3; clear hown3 hk3)))
  clear c1 x0 x1 x2 x3
  have hDb : D ≠ g.bn := fun e => by obtain ⟨es, cl, he, _⟩ := HD.out.names; have hb := HD.out.blk; rw [← e, hb] at he; cases he
  have hXb : X ≠ g.bn := by have := HBL.out.1; omega
  have HSS3 := Lib.hid (show SS D X t (.slice ov lv cv) (.slice g.o st.P.length g.cap) w3 from (SS.mk HD.out.c3 (HD.out.fz 3) HBd.out.1 HD.out.lt HBd.out.2 : SS D X t (.slice ov lv cv) (.slice g.o st.P.length g.cap) wd).blocks HK3.out.size (HK3.out.block D HD.out.lt hDb) (HK3.out.block X HBd.out.2 hXb))
  have HND : Hid (g.ρ ≠ some D ∧ g.ρ ≠ some X) := Lib.hid ⟨fun e => by
      rcases HD.out.row.2 with hh | ⟨r, cur, h1, _, h4, _⟩
      · rw [hh.2.2.1] at e; cases e
      · rw [h1] at e; cases e; rw [HD.out.blk] at h4; simp at h4, fun e => by
      have hKr := HBL.out.2.2 X (HD.out.own.2.2.2.1 X e); omega⟩
  have HRX : Hid (PRow 70 4 g.ρ g.o g.cap st.P.length g.xs (w3.alloc (.cells #[.int .i64 (t.kind : Int), .pointer (some ⟨t.file, 0, none⟩), .slice ov lv cv, .string t.dest] 70)).drew) := Lib.hid (by
    have hrb : g.ρ ≠ some g.bn := fun e => by
      rcases HD.out.row.2 with hh | ⟨r, cur, h1, _, h4, _⟩
      · rw [hh.2.2.1] at e; cases e
      · rw [h1] at e; cases e; obtain ⟨es, cl, he, _⟩ := HD.out.names; rw [h4] at he; cases he
    have hlt : ∀ r, g.ρ = some r → r < wd.heap.size := fun r hr => HD.out.own.2.2.2.2.2 r (HD.out.own.2.2.2.1 r hr)
    have r3 : PRow 70 4 g.ρ g.o g.cap st.P.length g.xs w3 := HD.out.row.keep (fun r hr => HK3.out.block r (hlt r hr) (fun e => hrb (by have e' : r = g.bn := e; rw [hr, e'])))
    exact r3.keep (fun r hr => (alloc_below w3 _).drew.block r (Nat.lt_of_lt_of_le (hlt r hr) HK3.out.size)))
  have x3 := HSS3.out.c
  have y3 := HSS3.out.f
  obtain ⟨b0, b1, b2, b3⟩ := HSS3.out.b
  have HSA := Lib.hid (show SS D X t (.slice ov lv cv) (.slice g.o st.P.length g.cap) (w3.alloc (.cells #[.int .i64 (t.kind : Int), .pointer (some ⟨t.file, 0, none⟩), .slice ov lv cv, .string t.dest] 70)).drew from (HSS3.out.alloc _).blocks (Nat.le_refl _) rfl rfl)
  have z3 := HSA.out.c
  clear hDb hXb
  go_region_law
    (first
      | (refine wp_prow (.tmp 14) (.tmp 16) 45 70 rfl Tryz.underlying45 (.agg #[.int .i64 0, .pointer none, .slice none 0 0, .string ⟨#[]⟩]) 4 56 info60 rfl (by omega) (by omega) g.ρ g.o g.cap st.P.length g.xs HRX.out (by have := HFX.out.2.2.2.2; omega) ⟨w3.heap.size, 0, none⟩ [.int .i64 (t.kind : Int), .pointer (some ⟨t.file, 0, none⟩), .slice ov lv cv, .string t.dest] rfl (fun j u hj => four_news w3 _ _ _ _ 70 j u hj) (by intro u hu; simp at hu; rcases hu with rfl | rfl | rfl | rfl <;> rfl) rfl rfl ?_; intro o2 cap2 w5 ρ2 hrow2 hnx2 hk2; have z3 := (HSA.out.kp hk2 HND.out.1 HND.out.2).c; have zf := (HSA.out.kp hk2 HND.out.1 HND.out.2).f))
  all_goals
    try simp only [Exit.then]
    try apply_assumption
    have hrr : PRow 70 4 ρ2 o2 cap2 (st.P.length + 1) (g.xs ++ [.int .i64 (t.kind : Int), .pointer (some ⟨t.file, 0, none⟩), .slice ov lv cv, .string t.dest]) w5 := hrow2
    have hfin := HD.out.turned (w := w) HKP.out.size t (.slice ov lv cv) HFD.out HFX.out.1 HFX.out.2.1 HRD.out HFX.out.2.2.1 HFX.out.2.2.2.1 HFX.out.2.2.2.2 HKL.out HO3.out HK3.out (alloc_below w3 _).drew ρ2 o2 cap2 hrr hnx2 hk2 rfl
    go_wp2
    exact bodyPost_end (v := .tuple #[]) (by simp [results, Tryz.results35, go_sem]) rfl ⟨rfl, ⟨_, hfin.1, rfl⟩, HKP.out.trans hfin.2⟩
end Go.Proofs.YtjkpopdjmmgbbabGreat.Dk

namespace Go.Proofs.YtjkpopdjmmgbbabGreat.Dk
open Go.RowKit Go.Maps Go.Sort

noncomputable def rmS (st : St) (s : ByteArray) : St := if onE st s = 0 then turnS (onS st s) ⟨2, atN st.N s, [s], ⟨#[]⟩⟩ else onS st s
theorem onE_zero {st : St} {s : ByteArray} (h0 : onE st s = 0) : findE st s = 0 := by
  unfold onE at h0
  split at h0
  · assumption
  · exact h0
theorem strow_one (w : World) (s : ByteArray) : StrRow (w.alloc (.cells #[.string s] 9)) [s] (.slice (some ⟨w.heap.size, 0, none⟩) 1 1) :=
  ⟨some ⟨w.heap.size, 0, none⟩, 1, w.heap.size, #[.string s], rfl, fun _ => ⟨rfl, heap_alloc_new _ _⟩, fun j hj => by
    match j, hj with
    | 0, _ => rfl⟩
end Go.Proofs.YtjkpopdjmmgbbabGreat.Dk
