/- A loss of power: its pieces.; A loss of power, walked.; What is done to other files: a file that is sure lasts; a disk with one file.; A new disk with one file; the chapter's example. -/
import Derived.Test.YtpcmmejlmhbcdaaGreatJ29
set_option linter.unusedVariables false
set_option linter.unusedSimpArgs false
namespace Go.Proofs.YtpcmmejlmhbcdaaGreat.Dk
open Go.RowKit Go.Maps Go.Sort

theorem own_le {w : World} {b n n' : Nat} {D : Dm} (h : w.ownsMap Tryz.prog 9 ptrE b n D) (hn : n ≤ n') : w.ownsMap Tryz.prog 9 ptrE b n' D := World.ownsMap.mono h hn
theorem DW.le {w : World} {K : Nat → Prop} {D : Nat} {g : Gh} {st : St} (h : DW w K D g st) (n : Nat) (hn : g.nn ≤ n) (h2 : n ≤ 1000000) : DW w K D { g with nn := n } st :=
  ⟨h.blk, own_le h.names hn, own_le h.sure hn, h.ne, h.row, h.turn, h.file, h.size, h.filN, h.filS, ⟨h2, h.few.2⟩, h.own⟩
/-- A turn is done to the names that are sure. -/
theorem DW.sure_do {w w' : World} {K : Nat → Prop} {D : Nat} {g : Gh} {st : St} (h : DW w K D g st) (t : Tn) (ht : t ∈ st.P) (hown : w'.ownsMap Tryz.prog 9 ptrE g.bs (g.nn + 1) (doT st.S t)) (hk : Kp (· = g.bs) w w') (hn : g.nn + 1 ≤ 900000) :
    DW w' K D { g with nn := g.nn + 1 } { st with S := doT st.S t } := by
  have nb : ∀ (b : Nat) (cs : Array Value) (T : TypeId), w.heap[b]? = some (.cells cs T (0, 0)) → w'.heap[b]? = some (.cells cs T (0, 0)) := fun b cs T hb =>
    (hk.block b (lt_of_heap hb) (fun e => by
      have e' : b = g.bs := e
      obtain ⟨es, cl, he, _⟩ := h.sure
      rw [e', he] at hb
      cases hb)).trans hb
  have live : ∀ c, ({ st with S := doT st.S t } : St).live c → st.live c := fun c hc => by
    rcases hc with hc | ⟨k, h1, h2⟩ | hc
    · exact Or.inl hc
    · rcases leads_doT h.sure.isMap t k c ⟨h1, h2⟩ with h3 | h3
      · exact Or.inr (Or.inl ⟨k, h3.1, h3.2⟩)
      · exact Or.inr (Or.inr ⟨t, ht, h3.symm⟩)
    · exact Or.inr (Or.inr hc)
  refine ⟨nb _ _ _ h.blk, ?_, hown, h.ne, ?_, ?_, fun c hc => nb _ _ _ (h.file c (live c hc)), fun c hc => h.size c (live c hc), h.filN, h.filS.doT h.sure.isMap t, ⟨by show g.nn + 1 ≤ 1000000; omega, h.few.2⟩, ⟨h.own.1, h.own.2.1, h.own.2.2.1, h.own.2.2.2.1, fun c hc => h.own.2.2.2.2.1 c (live c hc), fun b hb => Nat.lt_of_lt_of_le (h.own.2.2.2.2.2 b hb) hk.size⟩⟩
  · obtain ⟨es, cl, he, hr⟩ := h.names
    exact own_le ⟨es, cl, (hk.block _ (lt_of_heap he) (fun e => h.ne e)).trans he, hr⟩ (Nat.le_succ _)
  · refine ⟨h.row.1, ?_⟩
    rcases h.row.2 with h1 | ⟨r, cur, h1, h2, h4, h5⟩
    · exact Or.inl h1
    · exact Or.inr ⟨r, cur, h1, h2, nb _ _ _ h4, h5⟩
  · intro i hi
    obtain ⟨c0, c1, c2, c3, e0, e1, e2, e3, t0, t1, t2, t3⟩ := h.turn i hi
    exact ⟨c0, c1, c2, c3, e0, e1, e2, e3, t0, t1, t2.keep (fun b cur hbb => nb _ _ _ hbb), t3⟩
/-- The disk's own cells at the end of a loss of power. -/
theorem DW.cr {w w' : World} {K K' : Nat → Prop} {D : Nat} {g : Gh} {st : St} (h : DW w K D g st) (nb : Nat) (hnb : w.ownsMap Tryz.prog 9 ptrE nb g.nn st.S) (hne : nb ≠ g.bs) (hk : ∀ b, K b → K' b) (hn : K' nb) (hl : ∀ b, K' b → b < w.heap.size)
    (kk : Kp (· = D) w w') (hb : w'.heap[D]? = some (.cells #[.int .i64 (st.room : Int), .map (some nb), .map (some g.bs), .slice none 0 0, .int .i64 (-1), .int .i64 (st.steps : Int), .bool false] 100 (0, 0))) :
    DW w' K' D { g with bn := nb, o := none, cap := 0, ρ := none, xs := [] } { st with N := st.S, P := [], fuse := -1, down := false } := by
  have ne : ∀ (b : Nat) (o : Obj), w.heap[b]? = some o → o ≠ .cells (dcells g st) 100 (0, 0) → w'.heap[b]? = some o := fun b o hbo hne =>
    (kk.block b (lt_of_heap hbo) (fun e => hne (by have e' : b = D := e; have hb := h.blk; rw [e', hb] at hbo; exact (Option.some.inj hbo).symm))).trans hbo
  have live : ∀ c, ({ st with N := st.S, P := [], fuse := -1, down := false } : St).live c → st.live c := fun c hc => by
    rcases hc with hc | hc | ⟨t, ht, _⟩
    · exact Or.inr (Or.inl hc)
    · exact Or.inr (Or.inl hc)
    · cases ht
  refine ⟨hb, ?_, ?_, hne, ⟨rfl, Or.inl ⟨rfl, rfl, rfl, rfl⟩⟩, fun i hi => absurd hi (by show ¬ i < 0; omega), ?_, fun c hc => h.size c (live c hc), h.filS, h.filS, ⟨h.few.1, by show (0 : Nat) ≤ 1000000; omega, h.few.2.2.1, h.few.2.2.2.1, by show (-1000000 : Int) ≤ -1; omega, by show (-1 : Int) ≤ 1000000; omega⟩, ⟨hk _ h.own.1, hn, hk _ h.own.2.2.1, fun r hr => (by cases hr), fun c hc => hk _ (h.own.2.2.2.2.1 c (live c hc)), fun b hb => Nat.lt_of_lt_of_le (hl b hb) kk.size⟩⟩
  · obtain ⟨es, cl, he, hr⟩ := hnb
    exact ⟨es, cl, ne _ _ he (by simp), hr⟩
  · obtain ⟨es, cl, he, hr⟩ := h.sure
    exact ⟨es, cl, ne _ _ he (by simp), hr⟩
  · intro c hc
    exact ne _ _ (h.file c (live c hc)) (by simp [dcells])
/-- A row of truths, a row of numbers, as arguments. -/
def BoolsIn (w : World) (l : List Bool) (b off : Nat) : Prop := ∀ j (h : j < l.length), w.cell? ⟨b, off + j, none⟩ = some (.bool l[j])
def U64sIn (w : World) (l : List Nat) (b off : Nat) : Prop := ∀ j (h : j < l.length), w.cell? ⟨b, off + j, none⟩ = some (.int .u64 (l[j] : Int)) ∧ l[j] ≤ 18446744073709551615
/-- What a loss of power leaves. -/
def CrQ (st : St) (ns : List Bool) (K : Nat → Prop) (D : Nat) (g : Gh) (w : World) (e : Ending) (w' : World) : Prop :=
  e = .returned (.tuple #[]) ∧ (∃ F' g', Sv st.F F' (filesN (crN st.S st.P ns st.P.length)) ∧ DW w' (Kn K w w') D g' (crS st ns F') ∧ g'.nn ≤ g.nn + st.P.length) ∧ Kp K w w'
theorem crN_step {S : Dm} {P : List Tn} {ns : List Bool} {i : Nat} (hi : i < P.length) : crN S P ns (i + 1) = if ns[i]? = some true then doT (crN S P ns i) P[i] else crN S P ns i := by
  show (if ns[i]? = some true then (match P[i]? with | some t => doT (crN S P ns i) t | none => crN S P ns i) else crN S P ns i) = _
  rw [List.getElem?_eq_getElem hi]
/-- A turn that is not sure yet, in the row. -/
theorem DW.elem {w : World} {K : Nat → Prop} {D : Nat} {g : Gh} {st : St} (h : DW w K D g st) (i : Nat) (hi : i < st.P.length) (t : Tn) (ht : t = st.P[i]) :
    ∃ (r : Nat) (ov : Option Addr) (lv cv : Nat), g.o = some ⟨r, 0, none⟩ ∧ w.cell? ⟨r, i * 4, none⟩ = some (.int .i64 (t.kind : Int)) ∧ w.cell? ⟨r, i * 4 + 1, none⟩ = some (.pointer (some ⟨t.file, 0, none⟩)) ∧ w.cell? ⟨r, i * 4 + 2, none⟩ = some (.slice ov lv cv) ∧ w.cell? ⟨r, i * 4 + 3, none⟩ = some (.string t.dest) ∧ StrRow w t.frm (.slice ov lv cv) ∧ ((∀ s ∈ t.frm, s.size ≤ maxLen) ∧ t.dest.size ≤ maxLen) ∧ t.kind ≤ 2 ∧ t.frm.length ≤ 1000000 := by
  obtain ⟨y0, y1, y2, y3, e0, e1, e2, e3, t0, t1, t2, t3, t4, t5, t6⟩ := h.turn i hi
  rw [← ht] at t0 t1 t2 t3 t4 t5 t6
  obtain ⟨r, hρ, ho, k0⟩ := h.row.cell (i * 4) y0 e0
  obtain ⟨r1, hρ1, _, k1⟩ := h.row.cell (i * 4 + 1) y1 e1
  obtain ⟨r2, hρ2, _, k2⟩ := h.row.cell (i * 4 + 2) y2 e2
  obtain ⟨r3, hρ3, _, k3⟩ := h.row.cell (i * 4 + 3) y3 e3
  rw [hρ] at hρ1 hρ2 hρ3
  cases hρ1; cases hρ2; cases hρ3
  have t2' := t2
  obtain ⟨o, cap, b, cur, e, _⟩ := t2'
  subst e
  rw [t0] at k0
  rw [t1] at k1
  rw [t3] at k3
  exact ⟨r, o, _, cap, ho, k0, k1, k2, k3, t2, ⟨t5, t4⟩, t6⟩
theorem files_lead {w : World} {b n : Nat} {S1 : Dm} (F : Fil S1) (ho : w.ownsMap Tryz.prog 9 ptrE b n S1) (d : Nat) (hd : d ∈ filesN S1) : ∃ k, Leads S1 k d := by
  have h := live_files (st := ⟨0, S1, S1, [], 0, 0, false, fun _ => (⟨#[]⟩, ⟨#[]⟩)⟩) F ho d hd
  rcases h with ⟨k, h1, h2⟩ | ⟨k, h1, h2⟩ | ⟨t, ht, _⟩
  · exact ⟨k, h1, h2⟩
  · exact ⟨k, h1, h2⟩
  · cases ht
/-- One file's bytes, as they survive. -/
theorem cr_round {w wr w5 : World} {K : Nat → Prop} {D : Nat} {g1 : Gh} {s1 : St} {F' : Nat → ByteArray × ByteArray} {fs : List Nat} {m j d r4 cap4 : Nat} {na nb t : ByteArray} {ρ : Option Nat} {o4 : Option Addr} {xs : List Value}
    (hz : Sv s1.F F' (fs.take j) ∧ DW wr K D g1 { s1 with F := F' } ∧ ({ s1 with F := F' } : St).live d) (htk : fs.take (j + 1) = fs.take j ++ [d]) (hnn : na = (F' d).1 ∧ nb = (F' d).2) (ht : t.size ≤ 100000 ∧ (na = nb → t = na) ∧ Below wr.heap.size wr w5)
    (hf5 : w5.heap[d]? = some (.cells #[.string na, .string nb] 111 (0, 0))) (hrow : ρ = some r4 ∧ PRow 102 1 ρ o4 cap4 m xs wr) (hne : r4 ≠ d) (hK : K d) (hkz : Kp K w wr) :
    (∃ F'', Sv s1.F F'' (fs.take (j + 1)) ∧ DW ((w5.setCell ⟨d, 1, none⟩ (.string t)).setCell ⟨d, 0, none⟩ (.string t)) K D g1 { s1 with F := F'' }) ∧ (∃ ρ, PRow 102 1 ρ o4 cap4 m xs ((w5.setCell ⟨d, 1, none⟩ (.string t)).setCell ⟨d, 0, none⟩ (.string t))) ∧ Kp K w ((w5.setCell ⟨d, 1, none⟩ (.string t)).setCell ⟨d, 0, none⟩ (.string t)) := by
  obtain ⟨hsv, hdz, hlv⟩ := hz
  obtain ⟨htz, hte, hb5⟩ := ht
  have hd5 := hdz.later hb5
  have kk : Kp (· = d) w5 ((w5.setCell ⟨d, 1, none⟩ (.string t)).setCell ⟨d, 0, none⟩ (.string t)) := (kp_file w5 d 1 _).trans (kp_file _ d 0 _)
  have hb : ((w5.setCell ⟨d, 1, none⟩ (.string t)).setCell ⟨d, 0, none⟩ (.string t)).heap[d]? = some (.cells #[.string t, .string t] 111 (0, 0)) := by
    rw [heap_setCell_same _ _ _ _ _ _ (heap_setCell_same _ _ _ _ _ _ hf5)]
    rfl
  refine ⟨⟨setF F' d (t, t), ?_, ?_⟩, ⟨ρ, ?_⟩, ?_⟩
  · rw [htk]
    exact hsv.step d t (fun e => by rw [← hnn.1]; exact hte (by rw [hnn.1, hnn.2]; exact e))
  · exact hd5.file_turn d hlv (t, t) kk hb ⟨htz, htz⟩
  · refine (hrow.2.keep (fun r hr => ?_))
    rw [hrow.1] at hr
    cases hr
    have hlt : r4 < wr.heap.size := by
      rcases hrow.2.2 with h | ⟨q, cur, h1, _, h4, _⟩
      · rw [h.2.2.1] at hrow; cases hrow.1
      · rw [hrow.1] at h1; cases h1; exact lt_of_heap h4
    exact (kk.block r4 (Nat.lt_of_lt_of_le hlt hb5.size) hne).trans (hb5.block r4 hlt)
  · exact (hkz.trans (Kp.of_below (K := K) hb5)).trans (kk.mono (fun i _ e => by have e' : i = d := e; rw [e']; exact hK))
theorem crash_nil (v1 v2 : Value) (w : World) : Calls Tryz.prog 26 #[.pointer none, v1, v2] w fun e w' => e = .returned (.tuple #[]) ∧ w' = w := by
  go_enter Tryz.func26, Tryz.ntmps26
  go_wp2
  exact bodyPost_ret (v := .tuple #[]) (by simp [results, Tryz.results26, go_sem]) rfl ⟨rfl, rfl⟩
end Go.Proofs.YtpcmmejlmhbcdaaGreat.Dk

namespace Go.Proofs.YtpcmmejlmhbcdaaGreat.Dk
open Go.RowKit Go.Maps Go.Sort
set_option maxRecDepth 100000 in
set_option maxHeartbeats 4000000 in
theorem crash_any {w : World} {K : Nat → Prop} {D : Nat} {g : Gh} {st : St} (h : DW w K D g st) (ns : List Bool) (o1 : Option Addr) (cap1 b1 off1 : Nat) (h1 : 0 < ns.length → o1 = some ⟨b1, off1, none⟩ ∧ b1 < w.heap.size ∧ ¬ K b1) (h1b : BoolsIn w ns b1 off1)
    (ss : List Nat) (o2 : Option Addr) (cap2 b2 off2 : Nat) (h2 : 0 < ss.length → o2 = some ⟨b2, off2, none⟩ ∧ b2 < w.heap.size ∧ ¬ K b2) (h2b : U64sIn w ss b2 off2) (hfew : g.nn + st.P.length ≤ 900000) :
    Calls Tryz.prog 26 #[.pointer (some ⟨D, 0, none⟩), .slice o1 ns.length cap1, .slice o2 ss.length cap2] w (CrQ st ns K D g w) := by
  have H := Lib.hid h
  have c3 := h.c3
  have H1 := Lib.hid (And.intro h1 h1b)
  have H2 := Lib.hid (And.intro h2 h2b)
  obtain ⟨np, hnp⟩ : ∃ np, np = st.P.length := ⟨_, rfl⟩
  obtain ⟨n1, hn1⟩ : ∃ n1, n1 = ns.length := ⟨_, rfl⟩
  obtain ⟨n2, hn2⟩ : ∃ n2, n2 = ss.length := ⟨_, rfl⟩
  have HN := Lib.hid (And.intro hnp (And.intro hn1 hn2))
  have hpl : np ≤ 1000000 := by rw [hnp]; exact h.few.2.1
  have HFEW := Lib.hid hfew
  rw [← hnp] at c3
  obtain ⟨go, hgo⟩ : ∃ go, go = g.o := ⟨_, rfl⟩
  rw [← hgo] at c3
  have HGO := Lib.hid hgo
  rw [← hn1, ← hn2]
  clear h h1 h1b h2 h2b hnp hn1 hn2 hfew hgo
  go_enter Tryz.func26, Tryz.ntmps26
  go_wp2
  go_loopw [18] (fun v wr => ∃ i : Nat, i ≤ np ∧ v = .int .i64 (i : Int) ∧ Hid (DW wr K D { g with nn := g.nn + i } { st with S := crN st.S st.P ns i }) ∧ Hid (Kp K w wr)) (fun v _ => np - (intOf v).toNat)
  case atStart => exact ⟨0, by omega, rfl, Lib.hid H.out, Lib.hid (Kp.refl _ _)⟩
  case round =>
    obtain ⟨i, hi, rfl, HD, HK⟩ := hrel
    by_cases hlt : i < np
    · have hip : i < st.P.length := by rw [← HN.out.1]; exact hlt
      obtain ⟨t, ht⟩ : ∃ t, t = st.P[i] := ⟨_, rfl⟩
      obtain ⟨r, ov, lv, cv, ho, k0, k1, k2, k3, hrow, hsz, hkd⟩ := HD.out.elem i hip t ht
      have ho' : go = some ⟨r, 0, none⟩ := HGO.out.trans ho
      have HT := Lib.hid ht
      have HROW := Lib.hid (And.intro hrow (And.intro hsz hkd))
      obtain ⟨kd, hkd'⟩ : ∃ kd, kd = t.kind := ⟨_, rfl⟩
      obtain ⟨fc, hfc⟩ : ∃ fc, fc = t.file := ⟨_, rfl⟩
      obtain ⟨ds, hds⟩ : ∃ ds, ds = t.dest := ⟨_, rfl⟩
      have HTT := Lib.hid (And.intro hkd' (And.intro hfc hds))
      rw [← hkd'] at k0
      rw [← hfc] at k1
      rw [← hds] at k3
      clear ho ht hrow hsz hkd hkd' hfc hds
      have q1 : (0 : Int) ≤ (i : Int) := by omega
      have q2 : (i : Int) < (np : Int) := by omega
      have HSTEP := Lib.hid (crN_step (S := st.S) (ns := ns) hip)
      have HLE : Hid (∀ w9, DW w9 K D { g with nn := g.nn + i } { st with S := crN st.S st.P ns i } → DW w9 K D { g with nn := g.nn + (i + 1) } { st with S := crN st.S st.P ns i }) := Lib.hid (fun w9 h9 => h9.le (g.nn + (i + 1)) (by show g.nn + i ≤ g.nn + (i + 1); omega) (by have := HFEW.out; omega))
      by_cases hin : i < n1
      · obtain ⟨eo1, hb1l, hb1K⟩ := H1.out.1 (by rw [← HN.out.2.1]; omega)
        have hcell := H1.out.2 i (by rw [← HN.out.2.1]; exact hin)
        have hcw : wr.cell? ⟨b1, off1 + i, none⟩ = w.cell? ⟨b1, off1 + i, none⟩ := HK.out.cell (p := ⟨b1, off1 + i, none⟩) hb1l hb1K
        rw [← hcw] at hcell
        have q3 : (i : Int) < (n1 : Int) := by omega
        have hni : ns[i]? = some (ns[i]'(by rw [← HN.out.2.1]; exact hin)) := List.getElem?_eq_getElem _
        obtain ⟨bb, hbb⟩ : ∃ bb, bb = ns[i]'(by rw [← HN.out.2.1]; exact hin) := ⟨_, rfl⟩
        rw [← hbb] at hcell hni
        have HNI := Lib.hid hni
        clear hbb hni hcw
        have hcell2 := ((alloc_below wr (.cells #[.int .i64 (kd : Int), .pointer (some ⟨fc, 0, none⟩), .slice ov lv cv, .string ds] 105)).cell (p := ⟨b1, off1 + i, none⟩) (Nat.lt_of_lt_of_le hb1l HK.out.size)).trans hcell
        clear hcell
        subst eo1
        subst ho'
        cases bb
        · clear HROW HTT
          go_wp2
          go_roundw
          case rel => 
            refine ⟨i + 1, by omega, by go_num, Lib.hid ?_, Lib.hid (HK.out.alloc _)⟩
            rw [HSTEP.out, if_neg (by rw [HNI.out]; simp)]
            exact HLE.out _ (HD.out.later (alloc_below wr _))
          case measure => simp [intOf]; omega
        · have HS : Hid (crN st.S st.P ns (i + 1) = doT (crN st.S st.P ns i) t) := Lib.hid (by rw [HSTEP.out, if_pos HNI.out, HT.out])
          have HMEM : Hid (t ∈ st.P) := Lib.hid (by rw [HT.out]; exact List.getElem_mem hip)
          have hal := alloc_below wr (.cells #[.int .i64 (kd : Int), .pointer (some ⟨fc, 0, none⟩), .slice ov lv cv, .string ds] 105)
          have HDD := Lib.hid (HD.out.later hal.drew)
          have HKD := Lib.hid ((HK.out.trans (Kp.of_below (K := K) hal)).drew)
          have c2 := (HD.out.later hal).c2
          have HB4 := Lib.hid (four_cells wr (.int .i64 (kd : Int)) (.pointer (some ⟨fc, 0, none⟩)) (.slice ov lv cv) (.string ds) 105)
          have K32 : Hid (Calls Tryz.prog 47 #[.agg #[.int .i64 (kd : Int), .pointer (some ⟨fc, 0, none⟩), .slice ov lv cv, .string ds], .map (some g.bs)] (wr.alloc (.cells #[.int .i64 (kd : Int), .pointer (some ⟨fc, 0, none⟩), .slice ov lv cv, .string ds] 105)).drew (DoQ (doT (crN st.S st.P ns i) t) g.bs (g.nn + i + 1) (wr.alloc (.cells #[.int .i64 (kd : Int), .pointer (some ⟨fc, 0, none⟩), .slice ov lv cv, .string ds] 105)).drew)) := Lib.hid (by
            have hd0 := HDD.out
            have hfl : hd0.filS = hd0.filS := rfl
            have hlv : ({ st with S := crN st.S st.P ns i } : St).live t.file := Or.inr (Or.inr ⟨t, HMEM.out, rfl⟩)
            have := do_any t (.slice ov lv cv) g.bs (g.nn + i) (crN st.S st.P ns i) hd0.filS _ hd0.sure (by have := HFEW.out; omega) (fun s hs => hd0.isf _ (Or.inr (Or.inl ⟨nk s, hs, fun z => hd0.filS.at hs z⟩))) (hd0.isf _ hlv) (HROW.out.1.keep (fun b cur hb => (hal.drew.block b (lt_of_heap hb)).trans hb)) HROW.out.2.1 HROW.out.2.2.2
            rw [← HTT.out.1, ← HTT.out.2.1, ← HTT.out.2.2] at this
            exact this)
          obtain ⟨x0, x1, x2, x3⟩ := HB4.out
          clear HROW HTT hal HB4
          obtain ⟨wa, hwa⟩ : ∃ wa, wa = wr.alloc (.cells #[.int .i64 (kd : Int), .pointer (some ⟨fc, 0, none⟩), .slice ov lv cv, .string ds] 105) := ⟨_, rfl⟩
          rw [← hwa] at HDD HKD c2 K32 x0 x1 x2 x3
          have HWA := Lib.hid hwa
          clear hwa
          go_wp2
          rw [← HWA.out]
          go_still_tail 5, (by kernel_rfl)
          change wpList _ _ _ _ _ wa.drew
          generalize wa.drew = wd at *
          go_wp2_with (first
            | (go_at_call 47; ((with_reducible refine (K32.out).mono ?_); rintro e w3 ⟨rfl, hown3, hk3⟩; have HO3 := Lib.hid hown3; have HK3 := Lib.hid hk3; clear hown3 hk3)))
          go_roundw
          case rel =>
            refine ⟨i + 1, by omega, by go_num, Lib.hid ?_, Lib.hid (HKD.out.trans (HK3.out.mono (fun j _ e => by have e' : j = g.bs := e; rw [e']; exact H.out.own.2.2.1)))⟩
            rw [HS.out]
            exact HDD.out.sure_do t HMEM.out HO3.out HK3.out (by have := HFEW.out; show g.nn + i + 1 ≤ 900000; omega)
          case measure => simp [intOf]; omega
      · have hni : ns[i]? = none := List.getElem?_eq_none (by rw [← HN.out.2.1]; omega)
        have HNI := Lib.hid hni
        have q3 : ¬ (i : Int) < (n1 : Int) := by omega
        subst ho'
        clear HROW HTT hni
        go_wp2
        go_roundw
        case rel => 
          refine ⟨i + 1, by omega, by go_num, Lib.hid ?_, Lib.hid (HK.out.alloc _)⟩
          rw [HSTEP.out, if_neg (by rw [HNI.out]; simp)]
          exact HLE.out _ (HD.out.later (alloc_below wr _))
        case measure => simp [intOf]; omega
    · have hin : i = np := by omega
      have ein : i = st.P.length := by rw [hin]; exact HN.out.1
      obtain ⟨S1, hS1⟩ : ∃ S1, S1 = crN st.S st.P ns st.P.length := ⟨_, rfl⟩
      have HS1 := Lib.hid hS1
      obtain ⟨g1, hg1⟩ : ∃ g1 : Gh, g1 = { g with nn := g.nn + st.P.length } := ⟨_, rfl⟩
      obtain ⟨s1, hs1⟩ : ∃ s1 : St, s1 = { st with S := S1 } := ⟨_, rfl⟩
      have HD1 : Hid (DW wr K D g1 s1) := Lib.hid (by
        have := HD.out
        rw [ein, ← hS1] at this
        rw [hg1, hs1]
        exact this)
      have HG1 : Hid (g1.bs = g.bs ∧ g1.nn = g.nn + st.P.length) := Lib.hid (by rw [hg1]; exact ⟨rfl, rfl⟩)
      have HST : Hid (s1.S = S1 ∧ s1.F = st.F) := Lib.hid (by rw [hs1]; exact ⟨rfl, rfl⟩)
      have HSE := Lib.hid hs1
      have c2 := HD1.out.c2
      have HLV : Hid (∀ d ∈ filesN S1, s1.live d) := Lib.hid (fun d hd => by
        obtain ⟨k, h1, h2⟩ := files_lead (by have := HD1.out.filS; rwa [HST.out.1] at this) (by have := HD1.out.sure; rwa [HST.out.1] at this) d hd
        exact Or.inr (Or.inl ⟨k, by rw [HST.out.1]; exact h1, by rw [HST.out.1]; exact h2⟩))
      have K33 : Hid (Calls Tryz.prog 48 #[.map (some g1.bs)] wr (FilesQ (filesN S1) wr)) := Lib.hid (by
        have h0 := HD1.out
        have := files_any g1.bs g1.nn s1.S h0.filS wr h0.sure h0.few.1 (fun s hs => h0.isf _ (Or.inr (Or.inl ⟨nk s, hs, fun z => h0.filS.at hs z⟩)))
        rw [HST.out.1] at this
        exact this)
      obtain ⟨fs, hfs⟩ : ∃ fs, fs = filesN S1 := ⟨_, rfl⟩
      have HFS := Lib.hid hfs
      rw [← hfs] at K33 HLV
      obtain ⟨m, hm⟩ : ∃ m, m = fs.length := ⟨_, rfl⟩
      have HM := Lib.hid hm
      have hml : m ≤ 1000000 := by
        rw [hm, hfs]
        exact Nat.le_trans (files_len (by have := HD1.out.sure; rwa [HST.out.1] at this)) HD1.out.few.1
      have K33b : Hid (Calls Tryz.prog 48 #[.map (some g1.bs)] wr fun e w' => ∃ (o : Option Addr) (cap : Nat), e = .returned (.slice o m cap) ∧ Hid (∃ ρ, PRow 102 1 ρ o cap m (fs.map ptr) w' ∧ (∀ r, ρ = some r → wr.heap.size ≤ r)) ∧ Hid (Below wr.heap.size wr w')) := Lib.hid (K33.out.mono (fun e w' ⟨ρ, o, cap, he, h1, h2, h3⟩ => ⟨o, cap, by rw [hm]; exact he, Lib.hid ⟨ρ, by rw [hm]; exact h1, h2⟩, Lib.hid h3⟩))
      clear hin ein hS1 hg1 hs1 HD hfs hm K33 hi
      go_wp2_with (first
        | (go_at_call 48; ((with_reducible refine (K33b.out).mono ?_); rintro e w4 ⟨o4, cap4, rfl, HR4, HB4⟩)))
      have HD4 := Lib.hid (HD1.out.later HB4.out)
      have HK4 := Lib.hid (HK.out.trans (Kp.of_below (K := K) HB4.out))
      clear HD1 HK c2 K33b
      go_loopw [46] (fun v wr => ∃ j : Nat, j ≤ m ∧ v = .int .i64 (j : Int) ∧ Hid (∃ F', Sv s1.F F' (fs.take j) ∧ DW wr K D g1 { s1 with F := F' }) ∧ Hid (∃ ρ, PRow 102 1 ρ o4 cap4 m (fs.map ptr) wr) ∧ Hid (Kp K w wr)) (fun v _ => m - (intOf v).toNat)
      case atStart => exact ⟨0, by omega, rfl, Lib.hid ⟨s1.F, Sv.start _, HD4.out⟩, Lib.hid (by obtain ⟨ρ, h, _⟩ := HR4.out; exact ⟨ρ, h⟩), HK4⟩
      case round =>
        clear HD4 HR4 HK4
        obtain ⟨j, hj, rfl, HF, HR, HKZ⟩ := hrel
        by_cases hltj : j < m
        · have hjl : j < fs.length := by rw [← HM.out]; exact hltj
          obtain ⟨F', hsv, hdz⟩ := HF.out
          obtain ⟨ρ, hrow⟩ := HR.out
          obtain ⟨d, hd⟩ : ∃ d, d = fs[j] := ⟨_, rfl⟩
          obtain ⟨r4, hρ4, ho4, hc4⟩ := hrow.cell j (ptr d) (by rw [List.getElem?_map, List.getElem?_eq_getElem hjl, hd]; rfl)
          have hlv : ({ s1 with F := F' } : St).live d := HLV.out d (by rw [hd]; exact List.getElem_mem hjl)
          have hfd := hdz.file d hlv
          have hzd := hdz.size d hlv
          have HTK := Lib.hid (show fs.take (j + 1) = fs.take j ++ [d] by rw [List.take_add_one, List.getElem?_eq_getElem hjl, hd]; rfl)
          have HDZ := Lib.hid (And.intro hsv (And.intro hdz hlv))
          have HROW := Lib.hid (And.intro hρ4 hrow)
          have HKd : Hid (K d) := Lib.hid (hdz.own.2.2.2.2.1 d hlv)
          have HNE : Hid (r4 ≠ d) := Lib.hid (fun e => by
            rcases hrow.2 with h | ⟨q, cur, h1, _, h4, _⟩
            · rw [h.2.2.1] at hρ4; cases hρ4
            · rw [h1] at hρ4; cases hρ4
              have hfd' : wr.heap[d]? = some (.cells #[.string (F' d).1, .string (F' d).2] 111 (0, 0)) := hfd
              rw [e, hfd'] at h4
              simp at h4)
          obtain ⟨na, hna⟩ : ∃ na, na = (F' d).1 := ⟨_, rfl⟩
          obtain ⟨nb, hnb⟩ : ∃ nb, nb = (F' d).2 := ⟨_, rfl⟩
          have HNN := Lib.hid (And.intro hna hnb)
          have hfd2 : wr.heap[d]? = some (.cells #[.string na, .string nb] 111 (0, 0)) := by rw [hna, hnb]; exact hfd
          have HFD := Lib.hid hfd2
          have K34 : Hid (∀ x : Int, 0 ≤ x ∧ x ≤ 18446744073709551615 → Calls Tryz.prog 49 #[.pointer (some ⟨d, 0, none⟩), .int .u64 x] wr (SvQ na nb wr)) := Lib.hid (fun x hx => survives_any d na nb wr hfd2 (by rw [hna, hnb]; exact hzd) x hx)
          unfold ptr at hc4
          have q1 : (0 : Int) ≤ (j : Int) := by omega
          have q2 : (j : Int) < (m : Int) := by omega
          clear hd hlv hfd hzd hsv hdz hna hnb hfd2 hrow hρ4 HF HR hjl
          subst ho4
          by_cases hjn : j < n2
          · obtain ⟨eo2, hb2l, hb2K⟩ := H2.out.1 (by rw [← HN.out.2.2]; omega)
            obtain ⟨hcs, hcsl⟩ := H2.out.2 j (by rw [← HN.out.2.2]; exact hjn)
            have hcw : wr.cell? ⟨b2, off2 + j, none⟩ = w.cell? ⟨b2, off2 + j, none⟩ := HKZ.out.cell (p := ⟨b2, off2 + j, none⟩) hb2l hb2K
            rw [← hcw] at hcs
            obtain ⟨mk, hmk⟩ : ∃ mk, mk = ss[j]'(by rw [← HN.out.2.2]; exact hjn) := ⟨_, rfl⟩
            rw [← hmk] at hcs hcsl
            have q3 : (j : Int) < (n2 : Int) := by omega
            have K34b := Lib.hid (K34.out (mk : Int) (by omega))
            clear hcw hmk K34
            subst eo2
            go_wp2_with (first
              | (go_at_call 49; ((with_reducible refine (K34b.out).mono ?_); rintro e w5 ⟨t, rfl, htz, hte, hb5⟩; have HT5 := Lib.hid (And.intro htz (And.intro hte hb5)); have hf5 := (hb5.block d (lt_of_heap HFD.out)).trans HFD.out; have HF5 := Lib.hid hf5; obtain ⟨z0, z1, z2, z3⟩ := two_cells hf5; have hf6 : (w5.setCell ⟨d, 1, none⟩ (.string t)).heap[d]? = some (.cells #[.string na, .string t] 111 (0, 0)) := heap_setCell_same w5 d 1 _ _ (.string t) hf5; have HF6 := Lib.hid hf6; obtain ⟨v0, v1, v2, v3⟩ := two_cells hf6; clear hf5 hf6 hb5 htz hte)))
            go_roundw
            case rel =>
              obtain ⟨a1, a2, a3⟩ := cr_round HDZ.out HTK.out HNN.out HT5.out HF5.out HROW.out HNE.out HKd.out HKZ.out
              exact ⟨j + 1, by omega, by go_num, Lib.hid a1, Lib.hid a2, Lib.hid a3⟩
            case measure => simp [intOf]; omega
          · have q3 : ¬ (j : Int) < (n2 : Int) := by omega
            have K34b := Lib.hid (K34.out 0 (by omega))
            clear K34
            go_wp2_with (first
              | (go_at_call 49; ((with_reducible refine (K34b.out).mono ?_); rintro e w5 ⟨t, rfl, htz, hte, hb5⟩; have HT5 := Lib.hid (And.intro htz (And.intro hte hb5)); have hf5 := (hb5.block d (lt_of_heap HFD.out)).trans HFD.out; have HF5 := Lib.hid hf5; obtain ⟨z0, z1, z2, z3⟩ := two_cells hf5; have hf6 : (w5.setCell ⟨d, 1, none⟩ (.string t)).heap[d]? = some (.cells #[.string na, .string t] 111 (0, 0)) := heap_setCell_same w5 d 1 _ _ (.string t) hf5; have HF6 := Lib.hid hf6; obtain ⟨v0, v1, v2, v3⟩ := two_cells hf6; clear hf5 hf6 hb5 htz hte)))
            go_roundw
            case rel =>
              obtain ⟨a1, a2, a3⟩ := cr_round HDZ.out HTK.out HNN.out HT5.out HF5.out HROW.out HNE.out HKd.out HKZ.out
              exact ⟨j + 1, by omega, by go_num, Lib.hid a1, Lib.hid a2, Lib.hid a3⟩
            case measure => simp [intOf]; omega
        · have hjm : j = m := by omega
          have htake : fs.take j = fs := by rw [hjm, HM.out]; exact List.take_length
          obtain ⟨F', hsv, hdz⟩ := HF.out
          rw [htake] at hsv
          have HZ := Lib.hid (And.intro hsv hdz)
          have c2 := hdz.c2
          have K30 := Lib.hid (mclone_any g1.bs g1.nn s1.S wr hdz.sure)
          clear hjm htake hsv hdz HF HR
          go_wp2_with (first
            | (go_at_call 50; ((with_reducible refine (K30.out).mono ?_); rintro e w6 ⟨rfl, hn6, hb6⟩; have HN6 := Lib.hid hn6; have HB6 := Lib.hid hb6; have HD6 := Lib.hid (HZ.out.2.later hb6); have e1 := HD6.out.c1; have e3 := HD6.out.c3; have e4 := HD6.out.c4; have e6 := HD6.out.c6; have f1 := HD6.out.fz 1; have f3 := HD6.out.fz 3; have f4 := HD6.out.fz 4; have f6 := HD6.out.fz 6; clear hn6 hb6)))
          obtain ⟨hsv, hdz⟩ := HZ.out
          have hn6 : wr.heap.size < w6.heap.size := HN6.out.lt
          have hbs := hdz.sure.lt
          have kk := (((kp_set w6 D 1 (.map (some wr.heap.size))).trans (kp_set _ D 3 (.slice none 0 0))).trans (kp_set _ D 4 (.int .i64 (-1)))).trans (kp_set _ D 6 (.bool false))
          have hcr := HD6.out.cr (K' := Kn K w w6) wr.heap.size HN6.out (by omega) (fun b hb => Or.inl hb) (Or.inr ⟨HKZ.out.size, hn6⟩) (fun b hb => by
            rcases hb with hb | hb
            · exact HD6.out.own.2.2.2.2.2 b hb
            · exact hb.2) kk (by
            rw [heap_setCell_same _ _ _ _ _ _ (heap_setCell_same _ _ _ _ _ _ (heap_setCell_same _ _ _ _ _ _ (heap_setCell_same _ _ _ _ _ _ HD6.out.blk)))]
            rfl)
          have e1' : crS st ns F' = { ({ s1 with F := F' } : St) with N := s1.S, P := [], fuse := -1, down := false } := by
            rw [HSE.out]
            unfold crS
            rw [← HS1.out]
          have s6 := kk.size
          refine bodyPost_end (v := .tuple #[]) (by simp [results, Tryz.results26, go_sem]) rfl ⟨rfl, ⟨F', { g1 with bn := wr.heap.size, o := none, cap := 0, ρ := none, xs := [] }, ?_, ?_, ?_⟩, ?_⟩
          rotate_left
          · rw [e1']
            exact hcr.wide (fun b hb => by
              rcases hb with hb | hb
              · exact Or.inl hb
              · exact Or.inr ⟨hb.1, by omega⟩) (fun b hb => by
              rcases hb with hb | hb
              · exact hcr.own.2.2.2.2.2 b (Or.inl hb)
              · exact hb.2)
          · show g1.nn ≤ g.nn + st.P.length
            rw [HG1.out.2]
            exact Nat.le_refl _
          · exact (HKZ.out.trans (Kp.of_below (K := K) HB6.out)).trans (kk.mono (fun i _ e => by have e' : i = D := e; rw [e']; exact H.out.own.1))
          · rw [← HS1.out, ← HFS.out, ← HST.out.2]
            exact hsv
end Go.Proofs.YtpcmmejlmhbcdaaGreat.Dk

namespace Go.Proofs.YtpcmmejlmhbcdaaGreat.Dk
open Go.RowKit Go.Maps Go.Sort

/-- A disk on which a file is sure, behind some acts. -/
def Gd (B : Nat) (w : World) (D c : Nat) (s text : ByteArray) (k : Nat) : Prop :=
  ∃ (K : Nat → Prop) (g : Gh) (st : St), DW w K D g st ∧ (∀ b, K b → B ≤ b) ∧ Las st c s text ∧ g.nn ≤ 1000 * k ∧ st.P.length ≤ k ∧ st.steps ≤ k ∧ k ≤ 100
theorem Gd.later {B : Nat} {w w' : World} {D c : Nat} {s text : ByteArray} {k : Nat} (h : Gd B w D c s text k) (hb : Below w.heap.size w w') : Gd B w' D c s text k := by
  obtain ⟨K, g, st, h1, h2⟩ := h
  exact ⟨K, g, st, h1.later hb, h2⟩
theorem Gd.base {B : Nat} {w : World} {D c : Nat} {s text : ByteArray} {k : Nat} (h : Gd B w D c s text k) : B ≤ w.heap.size := by
  obtain ⟨K, g, st, h1, h2, _⟩ := h
  exact Nat.le_of_lt (Nat.lt_of_le_of_lt (h2 D h1.own.1) h1.lt)
theorem kn_base {K : Nat → Prop} {B : Nat} {w w' : World} (h : ∀ b, K b → B ≤ b) (hB : B ≤ w.heap.size) : ∀ b, Kn K w w' b → B ≤ b := fun b hb => by
  rcases hb with hb | hb
  · exact h b hb
  · exact Nat.le_trans hB hb.1
def OpQ (B : Nat) (D c : Nat) (s text : ByteArray) (k : Nat) (w : World) (e : Ending) (w' : World) : Prop := (∃ n : Nat, e = .returned (.int .i64 (n : Int))) ∧ Gd B w' D c s text (k + 1) ∧ Below B w w'
theorem stepS_P (st : St) : (stepS st).steps ≤ st.steps + 1 := by unfold stepS; split <;> simp
theorem las_live {st : St} {c : Nat} {s text : ByteArray} (h : Las st c s text) : st.live c := Or.inl ⟨nk s, h.n.1, h.n.2⟩
section
variable {B : Nat} {w : World} {D c : Nat} {s text : ByteArray} {k : Nat}
theorem Gd.write (h : Gd B w D c s text k) (hk : k + 1 ≤ 100) (a t : ByteArray) (ha : a.size ≤ 1000000000) (ht : t.size ≤ 100000) (hne : a ≠ s) : Calls Tryz.prog 70 #[.pointer (some ⟨D, 0, none⟩), .string a, .string t] w (OpQ B D c s text k w) := by
  have hB := h.base
  obtain ⟨K, g, st, h1, h2, h3, h4, h5, h6, h7⟩ := h
  refine (write_any h1 (by omega) a t ha ht (by omega)).mono fun e w' hq => ?_
  obtain ⟨he, ⟨nf, g', hnf, hd, hg⟩, hkp⟩ := hq
  refine ⟨⟨_, he⟩, ⟨_, g', _, hd, kn_base h2 hB, ?_, by omega, ?_, ?_, hk⟩, hkp.below h2 hB⟩
  · unfold writeS
    have hn := stepS_N st
    split
    · split
      · split
        · rename_i hh
          have := h3.step.file (atN st.N a) (t, (st.F (atN st.N a)).2) (h3.other h1.filN hh hne)
          rw [hn.2.1] at this
          exact this
        · have hc : nf ≠ c := fun e => by
            have hl := lt_of_heap (h1.file c (las_live h3))
            omega
          have := h3.step.file nf (t, ⟨#[]⟩) hc
          rw [hn.2.1] at this
          exact this.turn (by show Maps.IsMap (stepS st).N; rw [hn.1]; exact h1.names.isMap) ⟨0, nf, [], a⟩ ⟨hc, hne, by simp⟩
      · exact h3.step
    · exact h3
  · unfold writeS
    have hn := stepS_N st
    split
    · split
      · split
        · show (stepS st).P.length ≤ k + 1
          rw [hn.2.2.2.1]; omega
        · show ((stepS st).P ++ [_]).length ≤ k + 1
          rw [hn.2.2.2.1, List.length_append]; simp; omega
      · rw [hn.2.2.2.1]; omega
    · omega
  · unfold writeS
    have hs := stepS_P st
    split
    · split
      · split
        · show (stepS st).steps ≤ k + 1
          omega
        · show (stepS st).steps ≤ k + 1
          omega
      · omega
    · omega
theorem Gd.sync (h : Gd B w D c s text k) (hk : k + 1 ≤ 100) (a : ByteArray) (ha : a.size ≤ 1000000000) (hne : a ≠ s) : Calls Tryz.prog 72 #[.pointer (some ⟨D, 0, none⟩), .string a] w (OpQ B D c s text k w) := by
  have hB := h.base
  obtain ⟨K, g, st, h1, h2, h3, h4, h5, h6, h7⟩ := h
  refine (sync_any h1 (by omega) a ha).mono fun e w' ⟨he, hd, hkp⟩ => ?_
  have hn := stepS_N st
  have hs := stepS_P st
  have hon : Las (onS st a) c s text ∧ (onS st a).P.length ≤ k ∧ (onS st a).steps ≤ k + 1 ∧ (onS st a).F = st.F := by
    unfold onS
    split
    · exact ⟨h3.step, by rw [hn.2.2.2.1]; exact h5, by omega, hn.2.1⟩
    · exact ⟨h3, h5, by omega, rfl⟩
  refine ⟨⟨_, he⟩, ⟨_, g, _, hd, h2, ?_, by omega, ?_, ?_, hk⟩, hkp.below h2 hB⟩
  · unfold syncS
    split
    · rename_i h0
      have hh := (findE_zero (onE_zero h0)).2
      have := hon.1.file (atN st.N a) ((st.F (atN st.N a)).1, (st.F (atN st.N a)).1) (h3.other h1.filN hh hne)
      rw [hon.2.2.2] at this
      exact this
    · exact hon.1
  · unfold syncS
    split
    · show (onS st a).P.length ≤ k + 1
      omega
    · omega
  · unfold syncS
    split
    · show (onS st a).steps ≤ k + 1
      omega
    · omega
theorem Gd.rename (h : Gd B w D c s text k) (hk : k + 1 ≤ 100) (a b : ByteArray) (ha : a.size ≤ 1000000000) (hb : b.size ≤ 1000000000) (hne : a ≠ s) (hnb : b ≠ s) : Calls Tryz.prog 73 #[.pointer (some ⟨D, 0, none⟩), .string a, .string b] w (OpQ B D c s text k w) := by
  have hB := h.base
  obtain ⟨K, g, st, h1, h2, h3, h4, h5, h6, h7⟩ := h
  refine (rename_any h1 (by omega) a b ha hb (by omega)).mono fun e w' hq => ?_
  obtain ⟨he, ⟨ls, g', hls, hd, hg⟩, hkp⟩ := hq
  have hn := stepS_N st
  have hs := stepS_P st
  refine ⟨⟨_, he⟩, ⟨_, g', _, hd, kn_base h2 hB, ?_, by omega, ?_, ?_, hk⟩, hkp.below h2 hB⟩
  · unfold renS
    split
    · rename_i hp
      split
      · rename_i h5'
        have hl := hls hp.1 hp.2 h5'
        have hp1 : findE st a = 0 := by
          have := hp.1
          unfold preR at this
          split at this
          · assumption
          · exact this
        have hh := (findE_zero hp1).2
        have hac := h3.other h1.filN hh hne
        refine h3.step.turn (by show Maps.IsMap (stepS st).N; rw [hn.1]; exact h1.names.isMap) ⟨1, atN st.N a, ls, b⟩ ⟨hac, hnb, fun hm => ?_⟩
        have := ((hl s).1 hm).2
        rw [at_of_leads h3.n] at this
        exact hac this.symm
      · exact h3.step
    · exact h3
  · unfold renS
    split
    · split
      · show ((stepS st).P ++ [_]).length ≤ k + 1
        rw [hn.2.2.2.1, List.length_append]; simp; omega
      · rw [hn.2.2.2.1]; omega
    · omega
  · unfold renS
    split
    · split
      · show (stepS st).steps ≤ k + 1
        omega
      · omega
    · omega
theorem Gd.remove (h : Gd B w D c s text k) (hk : k + 1 ≤ 100) (a : ByteArray) (ha : a.size ≤ 1000000000) (hne : a ≠ s) (hs0 : s ≠ ⟨#[]⟩) : Calls Tryz.prog 81 #[.pointer (some ⟨D, 0, none⟩), .string a] w (OpQ B D c s text k w) := by
  have hB := h.base
  obtain ⟨K, g, st, h1, h2, h3, h4, h5, h6, h7⟩ := h
  refine (remove_any h1 (by omega) a ha (by omega)).mono fun e w' hq => ?_
  obtain ⟨he, ⟨g', hd, hg⟩, hkp⟩ := hq
  have hn := stepS_N st
  have hs := stepS_P st
  have hon : Las (onS st a) c s text ∧ (onS st a).P.length ≤ k ∧ (onS st a).steps ≤ k + 1 ∧ (onS st a).N = st.N := by
    unfold onS
    split
    · exact ⟨h3.step, by rw [hn.2.2.2.1]; exact h5, by omega, hn.1⟩
    · exact ⟨h3, h5, by omega, rfl⟩
  refine ⟨⟨_, he⟩, ⟨_, g', _, hd, kn_base h2 hB, ?_, by omega, ?_, ?_, hk⟩, hkp.below h2 hB⟩
  · unfold rmS
    split
    · rename_i h0
      have hh := (findE_zero (onE_zero h0)).2
      exact hon.1.turn (by show Maps.IsMap (onS st a).N; rw [hon.2.2.2]; exact h1.names.isMap) _ ⟨h3.other h1.filN hh hne, fun e => hs0 e.symm, by simpa using fun e => hne e.symm⟩
    · exact hon.1
  · unfold rmS
    split
    · show ((onS st a).P ++ [_]).length ≤ k + 1
      rw [List.length_append]; simp; omega
    · omega
  · unfold rmS
    split
    · show (onS st a).steps ≤ k + 1
      omega
    · omega
theorem Gd.dir (h : Gd B w D c s text k) (hk : k + 1 ≤ 100) : Calls Tryz.prog 74 #[.pointer (some ⟨D, 0, none⟩)] w (OpQ B D c s text k w) := by
  have hB := h.base
  obtain ⟨K, g, st, h1, h2, h3, h4, h5, h6, h7⟩ := h
  refine (sd_any h1 (by omega)).mono fun e w' hq => ?_
  obtain ⟨he, ⟨g', hd, hg⟩, hkp⟩ := hq
  have hn := stepS_N st
  have hs := stepS_P st
  refine ⟨⟨_, he⟩, ⟨_, g', _, hd, kn_base h2 hB, ?_, by omega, ?_, ?_, hk⟩, hkp.below h2 hB⟩
  · unfold sdS
    split
    · exact h3.step.dir
    · split
      · exact h3
      · exact h3.step
  · unfold sdS
    split
    · show (0 : Nat) ≤ k + 1
      omega
    · split
      · omega
      · rw [hn.2.2.2.1]; omega
  · unfold sdS
    split
    · show (stepS st).steps ≤ k + 1
      omega
    · split <;> omega
theorem Gd.fuse (h : Gd B w D c s text k) (hk : k + 1 ≤ 100) (n : Int) (hn : -1000000 ≤ n ∧ n ≤ 1000000) : Calls Tryz.prog 23 #[.pointer (some ⟨D, 0, none⟩), .int .i64 n] w fun e w' => e = .returned (.tuple #[]) ∧ Gd B w' D c s text (k + 1) ∧ Below B w w' := by
  have hB := h.base
  obtain ⟨K, g, st, h1, h2, h3, h4, h5, h6, h7⟩ := h
  refine (fuse_any h1 n hn).mono fun e w' ⟨he, hd, hkp⟩ => ?_
  refine ⟨he, ⟨K, g, _, hd, h2, h3.stay rfl rfl rfl rfl, by omega, by show st.P.length ≤ k + 1; omega, by show st.steps ≤ k + 1; omega, hk⟩, hkp.below (fun i e => by have e' : i = D := e; rw [e']; exact h2 D h1.own.1) hB⟩
theorem Gd.crash (h : Gd B w D c s text k) (hk : k + 1 ≤ 100) (ns : List Bool) (o1 : Option Addr) (cap1 b1 off1 : Nat) (n1 : 0 < ns.length → o1 = some ⟨b1, off1, none⟩ ∧ b1 < B) (n2 : BoolsIn w ns b1 off1)
    (ss : List Nat) (o2 : Option Addr) (cap2 b2 off2 : Nat) (m1 : 0 < ss.length → o2 = some ⟨b2, off2, none⟩ ∧ b2 < B) (m2 : U64sIn w ss b2 off2) :
    Calls Tryz.prog 26 #[.pointer (some ⟨D, 0, none⟩), .slice o1 ns.length cap1, .slice o2 ss.length cap2] w fun e w' => e = .returned (.tuple #[]) ∧ Gd B w' D c s text (k + 1) ∧ Below B w w' ∧ ∃ (K : Nat → Prop) (g : Gh) (st : St), DW w' K D g st ∧ Las st c s text ∧ st.P = [] ∧ st.down = false := by
  have hB := h.base
  obtain ⟨K, g, st, h1, h2, h3, h4, h5, h6, h7⟩ := h
  refine (crash_any h1 ns o1 cap1 b1 off1 (fun hp => ⟨(n1 hp).1, Nat.lt_of_lt_of_le (n1 hp).2 hB, fun hK => by have := h2 _ hK; have := (n1 hp).2; omega⟩) n2 ss o2 cap2 b2 off2 (fun hp => ⟨(m1 hp).1, Nat.lt_of_lt_of_le (m1 hp).2 hB, fun hK => by have := h2 _ hK; have := (m1 hp).2; omega⟩) m2 (by omega)).mono fun e w' hq => ?_
  obtain ⟨he, ⟨F', g', hsv, hd, hg⟩, hkp⟩ := hq
  have hl := h3.crash h1.sure.isMap ns F' _ hsv
  exact ⟨he, ⟨_, g', _, hd, kn_base h2 hB, hl, by omega, by show (0 : Nat) ≤ k + 1; omega, by show st.steps ≤ k + 1; omega, hk⟩, hkp.below h2 hB, _, g', _, hd, hl, rfl, rfl⟩
end
end Go.Proofs.YtpcmmejlmhbcdaaGreat.Dk

namespace Go.Proofs.YtpcmmejlmhbcdaaGreat.Dk
open Go.RowKit Go.Maps Go.Sort

/-- Names with one file. -/
def oneN (s : ByteArray) (c : Nat) : Dm := .map [(nk s, fl c)]
theorem put_one (s : ByteArray) (c : Nat) : (DataW.map [] : Dm).put (nk s) (fl c) = oneN s c := by
  unfold oneN nk
  simp [DataW.put, DataW.insert]
theorem lead_one {s : ByteArray} {c : Nat} {k : Lit} {d : Nat} : Leads (oneN s c) k d ↔ k = nk s ∧ d = c := by
  rw [← put_one, leads_put Maps.isMap_empty (key_lit s)]
  constructor
  · rintro (h | ⟨_, h⟩)
    · exact h
    · exact absurd h.1 (by simp [Maps.has])
  · exact Or.inl
theorem has_one (s : ByteArray) (c : Nat) : hasN (oneN s c) s = true := (lead_one.2 ⟨rfl, rfl⟩ : Leads (oneN s c) (nk s) c).1
theorem keys_one (s : ByteArray) (c : Nat) : keysN (oneN s c) = [s.data.toList] := by
  simp [keysN, strKeys, oneN, nk, strOf]
theorem keys_none : keysN (.map [] : Dm) = [] := by
  simp [keysN, strKeys]
theorem used_fresh (room : Nat) : usedN (St.fresh room) = 0 := by
  show sumF _ ((keysN (.map [] : Dm)).foldl _ []) = 0
  rw [keys_none]
  rfl
def stA (room : Nat) (s text : ByteArray) (c : Nat) : St := ⟨room, oneN s c, .map [], [⟨0, c, [], s⟩], -1, 1, false, setF (fun _ => (⟨#[]⟩, ⟨#[]⟩)) c (text, ⟨#[]⟩)⟩
def stB (room : Nat) (s text : ByteArray) (c : Nat) : St := ⟨room, oneN s c, .map [], [⟨0, c, [], s⟩], -1, 2, false, setF (setF (fun _ => (⟨#[]⟩, ⟨#[]⟩)) c (text, ⟨#[]⟩)) c (text, text)⟩
def stC (room : Nat) (s text : ByteArray) (c : Nat) : St := ⟨room, oneN s c, oneN s c, [], -1, 3, false, setF (setF (fun _ => (⟨#[]⟩, ⟨#[]⟩)) c (text, ⟨#[]⟩)) c (text, text)⟩
theorem pre_fresh (room : Nat) (s text : ByteArray) (hs : nmB s = true) (ht : text.size ≤ room) : preW (St.fresh room) s text = 0 := by
  have hh : hasN (St.fresh room).N s = false := rfl
  have ho : oldN (St.fresh room) s = 0 := if_neg (by rw [hh]; simp)
  unfold preW
  rw [if_neg (by show ¬ false = true; simp), if_neg (by rw [hs]; simp), if_neg (fun h => absurd h.2 (by show ¬ 16 ≤ 0; omega)), if_neg (by rw [used_fresh, ho]; show ¬ (room : Int) < _; omega)]
theorem write_fresh (room : Nat) (s text : ByteArray) (hs : nmB s = true) (ht : text.size ≤ room) (c : Nat) : writeE (St.fresh room) s text = 0 ∧ writeS (St.fresh room) s text c = stA room s text c := by
  have hp := pre_fresh room s text hs ht
  have h5 : stepE (St.fresh room) = 0 := rfl
  refine ⟨by unfold writeE; rw [if_pos hp, h5], ?_⟩
  unfold writeS
  rw [if_pos hp, if_pos h5, if_neg (by show ¬ false = true; simp)]
  unfold turnS doT
  rw [if_neg (fun h => h.1 rfl), if_neg (by show ¬ (0 : Nat) = 2; omega)]
  show St.mk room ((DataW.map [] : Dm).put (nk s) (fl c)) _ _ _ _ _ _ = _
  rw [put_one]
  rfl
theorem sync_fresh (room : Nat) (s text : ByteArray) (c : Nat) : syncE (stA room s text c) s = 0 ∧ syncS (stA room s text c) s = stB room s text c := by
  have hf : findE (stA room s text c) s = 0 := by
    unfold findE
    rw [if_neg (by show ¬ false = true; simp), if_pos (show hasN (stA room s text c).N s = true from has_one s c)]
  have h5 : stepE (stA room s text c) = 0 := rfl
  have ho : onE (stA room s text c) s = 0 := by unfold onE; rw [if_pos hf, h5]
  have ha : atN (stA room s text c).N s = c := at_of_leads (lead_one.2 ⟨rfl, rfl⟩)
  refine ⟨ho, ?_⟩
  unfold syncS
  rw [if_pos ho, ha]
  have hS : onS (stA room s text c) s = stepS (stA room s text c) := if_pos hf
  have hF : (stA room s text c).F c = (text, ⟨#[]⟩) := if_pos rfl
  rw [hS, hF]
  rfl
theorem sd_fresh (room : Nat) (s text : ByteArray) (c : Nat) : sdE (stB room s text c) = 0 ∧ sdS (stB room s text c) = stC room s text c := ⟨rfl, rfl⟩
theorem las_fresh (room : Nat) (s text : ByteArray) (c : Nat) : Las (stC room s text c) c s text :=
  ⟨lead_one.2 ⟨rfl, rfl⟩, lead_one.2 ⟨rfl, rfl⟩, fun k h => (lead_one.1 h).1, fun k h => (lead_one.1 h).1, fun t ht => (by cases ht), if_pos rfl⟩
/-- A disk in a state, its blocks from a place on. -/
def Dz (B : Nat) (w : World) (D : Nat) (n : Nat) (st : St) : Prop := ∃ (K : Nat → Prop) (g : Gh), DW w K D g st ∧ (∀ b, K b → B ≤ b) ∧ g.nn ≤ n
section
variable {B : Nat} {w : World} {D : Nat} {n : Nat} {st : St}
theorem Dz.later {w' : World} (h : Dz B w D n st) (hb : Below w.heap.size w w') : Dz B w' D n st := by
  obtain ⟨K, g, h1, h2⟩ := h
  exact ⟨K, g, h1.later hb, h2⟩
theorem Dz.base (h : Dz B w D n st) : B ≤ w.heap.size := by
  obtain ⟨K, g, h1, h2, _⟩ := h
  exact Nat.le_of_lt (Nat.lt_of_le_of_lt (h2 D h1.own.1) h1.lt)
theorem Dz.write (h : Dz B w D n st) (hn : n + 1 ≤ 900000) (hst : st.steps < 1000000000) (hP : st.P.length + 1 ≤ 1000000) (s t : ByteArray) (hs : s.size ≤ 1000000000) (ht : t.size ≤ 100000) :
    Calls Tryz.prog 70 #[.pointer (some ⟨D, 0, none⟩), .string s, .string t] w fun e w' => e = .returned (.int .i64 (writeE st s t : Nat)) ∧ (∃ nf, w.heap.size ≤ nf ∧ Dz B w' D (n + 1) (writeS st s t nf)) ∧ Below B w w' := by
  have hB := h.base
  obtain ⟨K, g, h1, h2, h3⟩ := h
  refine (write_any h1 hst s t hs ht (by omega)).mono fun e w' hq => ?_
  obtain ⟨he, ⟨nf, g', hnf, hd, hg⟩, hkp⟩ := hq
  exact ⟨he, ⟨nf, hnf, _, g', hd, kn_base h2 hB, by omega⟩, hkp.below h2 hB⟩
theorem Dz.sync (h : Dz B w D n st) (hst : st.steps < 1000000000) (s : ByteArray) (hs : s.size ≤ 1000000000) :
    Calls Tryz.prog 72 #[.pointer (some ⟨D, 0, none⟩), .string s] w fun e w' => e = .returned (.int .i64 (syncE st s : Nat)) ∧ Dz B w' D n (syncS st s) ∧ Below B w w' := by
  have hB := h.base
  obtain ⟨K, g, h1, h2, h3⟩ := h
  exact (sync_any h1 hst s hs).mono fun e w' ⟨he, hd, hkp⟩ => ⟨he, ⟨K, g, hd, h2, h3⟩, hkp.below h2 hB⟩
theorem Dz.dir (h : Dz B w D n st) (hst : st.steps < 1000000000) :
    Calls Tryz.prog 74 #[.pointer (some ⟨D, 0, none⟩)] w fun e w' => e = .returned (.int .i64 (sdE st : Nat)) ∧ Dz B w' D n (sdS st) ∧ Below B w w' := by
  have hB := h.base
  obtain ⟨K, g, h1, h2, h3⟩ := h
  exact (sd_any h1 hst).mono fun e w' ⟨he, ⟨g', hd, hg⟩, hkp⟩ => ⟨he, ⟨_, g', hd, kn_base h2 hB, by omega⟩, hkp.below h2 hB⟩
theorem Dz.crash (h : Dz B w D n st) (hn : n + st.P.length ≤ 900000) (ns : List Bool) (o1 : Option Addr) (cap1 b1 off1 : Nat) (n1 : 0 < ns.length → o1 = some ⟨b1, off1, none⟩ ∧ b1 < B) (n2 : BoolsIn w ns b1 off1)
    (ss : List Nat) (o2 : Option Addr) (cap2 b2 off2 : Nat) (m1 : 0 < ss.length → o2 = some ⟨b2, off2, none⟩ ∧ b2 < B) (m2 : U64sIn w ss b2 off2) :
    Calls Tryz.prog 26 #[.pointer (some ⟨D, 0, none⟩), .slice o1 ns.length cap1, .slice o2 ss.length cap2] w fun e w' => e = .returned (.tuple #[]) ∧ (∃ F', Sv st.F F' (filesN (crN st.S st.P ns st.P.length)) ∧ Dz B w' D (n + st.P.length) (crS st ns F')) ∧ Below B w w' := by
  have hB := h.base
  obtain ⟨K, g, h1, h2, h3⟩ := h
  refine (crash_any h1 ns o1 cap1 b1 off1 (fun hp => ⟨(n1 hp).1, Nat.lt_of_lt_of_le (n1 hp).2 hB, fun hK => by have := h2 _ hK; have := (n1 hp).2; omega⟩) n2 ss o2 cap2 b2 off2 (fun hp => ⟨(m1 hp).1, Nat.lt_of_lt_of_le (m1 hp).2 hB, fun hK => by have := h2 _ hK; have := (m1 hp).2; omega⟩) m2 (by omega)).mono fun e w' hq => ?_
  obtain ⟨he, ⟨F', g', hsv, hd, hg⟩, hkp⟩ := hq
  exact ⟨he, ⟨F', hsv, _, g', hd, kn_base h2 hB, by omega⟩, hkp.below h2 hB⟩
theorem Dz.crash0 (h : Dz B w D n st) (hn : n + st.P.length ≤ 900000) :
    Calls Tryz.prog 26 #[.pointer (some ⟨D, 0, none⟩), .slice none 0 0, .slice none 0 0] w fun e w' => e = .returned (.tuple #[]) ∧ (∃ F', Sv st.F F' (filesN (crN st.S st.P [] st.P.length)) ∧ Dz B w' D (n + st.P.length) (crS st [] F')) ∧ Below B w w' :=
  h.crash hn [] none 0 0 0 (fun hp => absurd hp (by simp)) (fun j hj => absurd hj (by simp)) [] none 0 0 0 (fun hp => absurd hp (by simp)) (fun j hj => absurd hj (by simp))
theorem Dz.read (h : Dz B w D n st) (s : ByteArray) (hs : s.size ≤ 1000000000) : Calls Tryz.prog 79 #[.pointer (some ⟨D, 0, none⟩), .string s] w fun e w' => e = .returned (.tuple #[.string (readS st s), .int .i64 (findE st s : Nat)]) ∧ Dz B w' D n st ∧ Below B w w' := by
  have hB := h.base
  have h' := h
  obtain ⟨K, g, h1, h2, h3⟩ := h'
  exact (read_any h1 s hs).mono fun e w' ⟨he, hb⟩ => ⟨he, h.later hb, hb.mono hB⟩
theorem Dz.names (h : Dz B w D n st) (hd : st.down = false) (hsh : ∀ s ∈ keysN st.N, s.length ≤ 1000000000) : Calls Tryz.prog 118 #[.pointer (some ⟨D, 0, none⟩)] w fun e w' => (∃ ρ o cap, e = .returned (.slice o (keysN st.N).length cap) ∧ PRow 9 1 ρ o cap (keysN st.N).length ((keysN st.N).map encStr) w' ∧ (∀ r, ρ = some r → w.heap.size ≤ r)) ∧ Dz B w' D n st ∧ Below B w w' := by
  have hB := h.base
  have h' := h
  obtain ⟨K, g, h1, h2, h3⟩ := h'
  exact (lnames_any h1 hd hsh).mono fun e w' ⟨ρ, o, cap, he, hr, hρ, hb⟩ => ⟨⟨ρ, o, cap, he, hr, hρ⟩, h.later hb, hb.mono hB⟩
end
theorem Dz.new (n : Nat) (hn : n ≤ 65536) (w : World) : Calls Tryz.prog 22 #[.int .i64 (n : Int)] w fun e w' => ∃ D, e = .returned (.tuple #[.pointer (some ⟨D, 0, none⟩), .int .i64 0]) ∧ Dz w.heap.size w' D 0 (St.fresh n) ∧ Below w.heap.size w w' :=
  (new_any n hn w).mono fun e w' ⟨D, g, he, hd, hg, hD, hb⟩ => ⟨D, he, ⟨_, g, hd, fun b hb' => (by rcases hb' with h | h; exact h.elim; exact h.1), by omega⟩, hb⟩
theorem crN_nil (S : Dm) (P : List Tn) : ∀ i, crN S P [] i = S
  | 0 => rfl
  | i + 1 => by
    show (if ([] : List Bool)[i]? = some true then _ else crN S P [] i) = S
    rw [if_neg (by simp), crN_nil S P i]
theorem writeS_S (st : St) (s t : ByteArray) (nf : Nat) : (writeS st s t nf).S = st.S := by
  have hn := stepS_N st
  unfold writeS
  split
  · split
    · split
      · exact hn.2.2.1
      · exact hn.2.2.1
    · exact hn.2.2.1
  · rfl
theorem writeS_P (st : St) (s t : ByteArray) (nf : Nat) : (writeS st s t nf).P.length ≤ st.P.length + 1 := by
  have hn := (stepS_N st).2.2.2.1
  unfold writeS
  split
  · split
    · split
      · show (stepS st).P.length ≤ _
        rw [hn]; omega
      · show ((stepS st).P ++ [_]).length ≤ _
        rw [hn, List.length_append]; simp
    · rw [hn]; omega
  · omega
theorem Las.write {st : St} {c : Nat} {s text : ByteArray} (h3 : Las st c s text) (hm : Maps.IsMap st.N) (F : Fil st.N) (a t : ByteArray) (nf : Nat) (hne : a ≠ s) (hc : nf ≠ c) : Las (writeS st a t nf) c s text := by
  unfold writeS
  have hn := stepS_N st
  split
  · split
    · split
      · rename_i hh
        have := h3.step.file (atN st.N a) (t, (st.F (atN st.N a)).2) (h3.other F hh hne)
        rw [hn.2.1] at this
        exact this
      · have := h3.step.file nf (t, ⟨#[]⟩) hc
        rw [hn.2.1] at this
        exact this.turn (by show Maps.IsMap (stepS st).N; rw [hn.1]; exact hm) ⟨0, nf, [], a⟩ ⟨hc, hne, by simp⟩
    · exact h3.step
  · exact h3
theorem fil_one (s : ByteArray) (c : Nat) : Fil (oneN s c) := fil_iff.2 (fun k hk => by
  rw [← put_one] at hk
  by_cases e : k = nk s
  · exact ⟨c, lead_one.2 ⟨e, rfl⟩⟩
  · rw [Maps.has_put_other e] at hk
    simp [Maps.has] at hk)
set_option maxRecDepth 100000 in
set_option maxHeartbeats 4000000 in
theorem awake_any (w : World) : Calls Tryz.prog 109 #[] w fun e w' => e = .returned (.bool true) ∧ Below w.heap.size w w' := by
  have K7 : Hid (Calls Tryz.prog 22 #[.int .i64 100] w fun e w' => ∃ D, e = .returned (.tuple #[.pointer (some ⟨D, 0, none⟩), .int .i64 0]) ∧ Dz w.heap.size w' D 0 (St.fresh 100) ∧ Below w.heap.size w w') := Lib.hid (Dz.new 100 (by omega) w)
  have K8 : Hid (∀ w1 D, Dz w.heap.size w1 D 0 (St.fresh 100) → Calls Tryz.prog 70 #[.pointer (some ⟨D, 0, none⟩), .string ⟨#[97]⟩, .string ⟨#[120]⟩] w1 fun e w' => e = .returned (.int .i64 0) ∧ (∃ c, Dz w.heap.size w' D 1 (stA 100 ⟨#[97]⟩ ⟨#[120]⟩ c)) ∧ Below w.heap.size w1 w') := Lib.hid (fun w1 D h => (h.write (by omega) (by show 0 < 1000000000; omega) (by show 0 + 1 ≤ 1000000; omega) ⟨#[97]⟩ ⟨#[120]⟩ (by decide) (by decide)).mono fun e w' ⟨he, ⟨nf, _, hd⟩, hb⟩ => by
    obtain ⟨e1, e2⟩ := write_fresh 100 ⟨#[97]⟩ ⟨#[120]⟩ rfl (by decide) nf
    rw [e1] at he
    rw [e2] at hd
    exact ⟨he, ⟨nf, hd⟩, hb⟩)
  have K9 : Hid (∀ w1 D c, Dz w.heap.size w1 D 1 (stA 100 ⟨#[97]⟩ ⟨#[120]⟩ c) → Calls Tryz.prog 72 #[.pointer (some ⟨D, 0, none⟩), .string ⟨#[97]⟩] w1 fun e w' => e = .returned (.int .i64 0) ∧ Dz w.heap.size w' D 1 (stB 100 ⟨#[97]⟩ ⟨#[120]⟩ c) ∧ Below w.heap.size w1 w') := Lib.hid (fun w1 D c h => (h.sync (by show 1 < 1000000000; omega) ⟨#[97]⟩ (by decide)).mono fun e w' ⟨he, hd, hb⟩ => by
    obtain ⟨e1, e2⟩ := sync_fresh 100 ⟨#[97]⟩ ⟨#[120]⟩ c
    rw [e1] at he
    rw [e2] at hd
    exact ⟨he, hd, hb⟩)
  have K10 : Hid (∀ w1 D c, Dz w.heap.size w1 D 1 (stB 100 ⟨#[97]⟩ ⟨#[120]⟩ c) → Calls Tryz.prog 74 #[.pointer (some ⟨D, 0, none⟩)] w1 fun e w' => e = .returned (.int .i64 0) ∧ Dz w.heap.size w' D 1 (stC 100 ⟨#[97]⟩ ⟨#[120]⟩ c) ∧ Below w.heap.size w1 w') := Lib.hid (fun w1 D c h => (h.dir (by show 2 < 1000000000; omega)).mono fun e w' ⟨he, hd, hb⟩ => by
    obtain ⟨e1, e2⟩ := sd_fresh 100 ⟨#[97]⟩ ⟨#[120]⟩ c
    rw [e1] at he
    rw [e2] at hd
    exact ⟨he, hd, hb⟩)
  have K8b : Hid (∀ w1 D c, Dz w.heap.size w1 D 1 (stC 100 ⟨#[97]⟩ ⟨#[120]⟩ c) → Calls Tryz.prog 70 #[.pointer (some ⟨D, 0, none⟩), .string ⟨#[98]⟩, .string ⟨#[121]⟩] w1 fun e w' => (∃ n : Nat, e = .returned (.int .i64 (n : Int))) ∧ (∃ nf, Dz w.heap.size w' D 2 (writeS (stC 100 ⟨#[97]⟩ ⟨#[120]⟩ c) ⟨#[98]⟩ ⟨#[121]⟩ nf) ∧ nf ≠ c) ∧ Below w.heap.size w1 w') := Lib.hid (fun w1 D c h => (h.write (by omega) (by show 3 < 1000000000; omega) (by show 0 + 1 ≤ 1000000; omega) ⟨#[98]⟩ ⟨#[121]⟩ (by decide) (by decide)).mono fun e w' ⟨he, ⟨nf, hnf, hd⟩, hb⟩ => ⟨⟨_, he⟩, ⟨nf, hd, fun e => by
      obtain ⟨K, g, h1, _⟩ := h
      have := lt_of_heap (h1.file c (las_live (las_fresh 100 _ _ c)))
      omega⟩, hb⟩)
  have K16 : Hid (∀ w1 D c nf, Dz w.heap.size w1 D 2 (writeS (stC 100 ⟨#[97]⟩ ⟨#[120]⟩ c) ⟨#[98]⟩ ⟨#[121]⟩ nf) → nf ≠ c → Calls Tryz.prog 26 #[.pointer (some ⟨D, 0, none⟩), .slice none 0 0, .slice none 0 0] w1 fun e w' => e = .returned (.tuple #[]) ∧ (∃ st n, Dz w.heap.size w' D n st ∧ st.down = false ∧ st.N = oneN ⟨#[97]⟩ c ∧ (st.F c).1 = ⟨#[120]⟩) ∧ Below w.heap.size w1 w') := Lib.hid (fun w1 D c nf h hne => by
    have h' := h
    obtain ⟨K, g, h1, h2, h3⟩ := h'
    have hL : Las (writeS (stC 100 ⟨#[97]⟩ ⟨#[120]⟩ c) ⟨#[98]⟩ ⟨#[121]⟩ nf) c ⟨#[97]⟩ ⟨#[120]⟩ := by
      exact (las_fresh 100 _ _ c).write ⟨_, rfl⟩ (fil_one _ _) _ _ nf (by decide) hne
    refine (h.crash0 (by have := writeS_P (stC 100 ⟨#[97]⟩ ⟨#[120]⟩ c) ⟨#[98]⟩ ⟨#[121]⟩ nf; have e : (stC 100 ⟨#[97]⟩ ⟨#[120]⟩ c).P.length = 0 := rfl; omega)).mono fun e w' ⟨he, ⟨F', hsv, hd⟩, hb⟩ => ⟨he, ⟨_, _, hd, rfl, ?_, ?_⟩, hb⟩
    · show crN _ _ [] _ = _
      rw [crN_nil, writeS_S]
      rfl
    · have := (hL.crash h1.sure.isMap [] F' _ hsv).f
      rw [this])
  have K17 : Hid (∀ w1 D c st n, Dz w.heap.size w1 D n st → st.down = false → st.N = oneN ⟨#[97]⟩ c → (st.F c).1 = ⟨#[120]⟩ → Calls Tryz.prog 79 #[.pointer (some ⟨D, 0, none⟩), .string ⟨#[97]⟩] w1 fun e w' => e = .returned (.tuple #[.string ⟨#[120]⟩, .int .i64 0]) ∧ Dz w.heap.size w' D n st ∧ Below w.heap.size w1 w') := Lib.hid (fun w1 D c st n h hd hN hF => (h.read ⟨#[97]⟩ (by decide)).mono fun e w' ⟨he, hd', hb⟩ => by
    have hf : findE st ⟨#[97]⟩ = 0 := by unfold findE; rw [if_neg (by rw [hd]; simp), hN, if_pos (has_one _ c)]
    have ha : atN st.N ⟨#[97]⟩ = c := by rw [hN]; exact at_of_leads (lead_one.2 ⟨rfl, rfl⟩)
    have hr : readS st ⟨#[97]⟩ = ⟨#[120]⟩ := by unfold readS; rw [if_pos hf, ha, hF]
    rw [hf, hr] at he
    exact ⟨he, hd', hb⟩)
  have K19 : Hid (∀ w1 D c st n, Dz w.heap.size w1 D n st → st.down = false → st.N = oneN ⟨#[97]⟩ c → Calls Tryz.prog 118 #[.pointer (some ⟨D, 0, none⟩)] w1 fun e w' => (∃ o cap, e = .returned (.slice o 1 cap)) ∧ Below w.heap.size w1 w') := Lib.hid (fun w1 D c st n h hd hN => (h.names hd (by rw [hN, keys_one]; intro s hs; simp at hs; subst hs; simp)).mono fun e w' ⟨⟨ρ, o, cap, he, _⟩, _, hb⟩ => by
    rw [hN, keys_one] at he
    exact ⟨⟨o, cap, he⟩, hb⟩)
  go_enter Tryz.func109, Tryz.ntmps109
  go_wp2_with (first
    | (go_at_call 22; ((with_reducible refine (K7.out).mono ?_); rintro e w1 ⟨D, rfl, hd1, hb1⟩; have HD1 := Lib.hid hd1; have HB1 := Lib.hid hb1; clear hd1 hb1))
    | (go_at_call 70; ((with_reducible refine (K8.out _ _ HD1.out).mono ?_); rintro e w2 ⟨rfl, ⟨c, hd2⟩, hb2⟩; have HD2 := Lib.hid hd2; have HB2 := Lib.hid hb2; clear hd2 hb2))
    | (go_at_call 72; ((with_reducible refine (K9.out _ _ _ HD2.out).mono ?_); rintro e w3 ⟨rfl, hd3, hb3⟩; have HD3 := Lib.hid hd3; have HB3 := Lib.hid hb3; clear hd3 hb3))
    | (go_at_call 74; ((with_reducible refine (K10.out _ _ _ HD3.out).mono ?_); rintro e w4 ⟨rfl, hd4, hb4⟩; have HD4 := Lib.hid hd4; have HB4 := Lib.hid hb4; clear hd4 hb4))
    | (go_at_call 70; ((with_reducible refine (K8b.out _ _ _ HD4.out).mono ?_); rintro e w5 ⟨⟨n5, rfl⟩, ⟨nf, hd5, hne5⟩, hb5⟩; have HD5 := Lib.hid hd5; have HNE5 := Lib.hid hne5; have HB5 := Lib.hid hb5; clear hd5 hne5 hb5))
    | (go_at_call 26; ((with_reducible refine (K16.out _ _ _ _ HD5.out HNE5.out).mono ?_); rintro e w6 ⟨rfl, ⟨st6, n6, hd6, hdn6, hN6, hF6⟩, hb6⟩; have HD6 := Lib.hid hd6; have HS6 := Lib.hid (And.intro hdn6 (And.intro hN6 hF6)); have HB6 := Lib.hid hb6; clear hd6 hdn6 hN6 hF6 hb6))
    | (go_at_call 79; ((with_reducible refine (K17.out _ _ _ _ _ HD6.out HS6.out.1 HS6.out.2.1 HS6.out.2.2).mono ?_); rintro e w7 ⟨rfl, hd7, hb7⟩; have HD7 := Lib.hid hd7; have HB7 := Lib.hid hb7; clear hd7 hb7))
    | (go_at_call 118; ((with_reducible refine (K19.out _ _ _ _ _ HD7.out HS6.out.1 HS6.out.2.1).mono ?_); rintro e w8 ⟨⟨o8, cap8, rfl⟩, hb8⟩; have HB8 := Lib.hid hb8; clear hb8)))
  go_ret
  exact ⟨rfl, (((((((HB1.out.trans HB2.out).trans HB3.out).trans HB4.out).trans HB5.out).trans HB6.out).trans HB7.out).trans HB8.out)⟩
end Go.Proofs.YtpcmmejlmhbcdaaGreat.Dk
