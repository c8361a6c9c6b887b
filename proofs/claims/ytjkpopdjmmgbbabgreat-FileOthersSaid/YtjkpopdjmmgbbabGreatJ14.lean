/- Read; Sync; SyncDir.; SyncDir; a disk's blocks and those that are new.; A row, one put behind; the names of a file. -/
import Derived.Test.YtjkpopdjmmgbbabGreatJ13
set_option linter.unusedVariables false
set_option linter.unusedSimpArgs false
namespace Go.Proofs.YtjkpopdjmmgbbabGreat.Dk
open Go.RowKit Go.Maps

theorem findE_zero {st : St} {s : ByteArray} (h : findE st s = 0) : st.down = false ∧ hasN st.N s = true := by
  unfold findE at h
  cases hd : st.down
  · rw [hd] at h
    cases hh : hasN st.N s
    · rw [hh] at h; simp at h
    · exact ⟨rfl, rfl⟩
  · rw [hd] at h; simp at h
theorem findE_le (st : St) (s : ByteArray) : findE st s ≤ 15 := by unfold findE; split; omega; split <;> omega
theorem stepE_le (st : St) : stepE st ≤ 15 := by unfold stepE; split <;> omega
theorem findV_zero {st : St} {s : ByteArray} (h : findE st s = 0) : findV st s = .pointer (some ⟨atN st.N s, 0, none⟩) := if_pos h

/-- What a name's text is. -/
def readS (st : St) (s : ByteArray) : ByteArray := if findE st s = 0 then (st.F (atN st.N s)).1 else ⟨#[]⟩
theorem read_nil (s : ByteArray) (w : World) : Calls Tryz.prog 20 #[.pointer none, .string s] w fun e w' => e = .returned (.tuple #[.string ⟨#[]⟩, .int .i64 1]) ∧ w' = w := by
  have K1 := Lib.hid (fun w => find_nil s w)
  go_enter Tryz.func20, Tryz.ntmps20
  go_wp2_with (first | (go_at_call 31; ((with_reducible refine (K1.out _).mono ?_); rintro e w' ⟨rfl, rfl⟩)))
  go_ret2
  exact ⟨rfl, rfl⟩
set_option maxRecDepth 100000 in
set_option maxHeartbeats 1000000 in
theorem read_any {w : World} {K : Nat → Prop} {D : Nat} {g : Gh} {st : St} (h : DW w K D g st) (s : ByteArray) (hs : s.size ≤ 1000000000) : Calls Tryz.prog 20 #[.pointer (some ⟨D, 0, none⟩), .string s] w fun e w' => e = .returned (.tuple #[.string (readS st s), .int .i64 (findE st s : Nat)]) ∧ Below w.heap.size w w' := by
  have K1 := Lib.hid (find_any h s hs)
  by_cases h0 : findE st s = 0
  · obtain ⟨_, hh⟩ := findE_zero h0
    have hl := h.filN.live hh
    have hf := h.file _ hl
    have c0 : w.cell? ⟨atN st.N s, 0, none⟩ = some (.string (st.F (atN st.N s)).1) := cell_of_row w _ 0 _ _ _ hf
    have hz := (h.size _ hl).1
    have hr : readS st s = (st.F (atN st.N s)).1 := if_pos h0
    rw [hr, h0]
    rw [findV_zero h0, h0] at K1
    have K2 := Lib.hid (fun wy => sclone_any (st.F (atN st.N s)).1 wy (by omega))
    obtain ⟨c, hc⟩ : ∃ c, c = atN st.N s := ⟨_, rfl⟩
    rw [← hc] at c0 K1 K2 ⊢
    generalize (st.F c).1 = t at *
    clear h h0 hh hl hf hz hr hs hc
    go_enter Tryz.func20, Tryz.ntmps20
    go_wp2_with (first
      | (go_at_call 31; ((with_reducible refine (K1.out).mono ?_); rintro e w' ⟨rfl, rfl⟩))
      | (go_at_call 23; ((with_reducible refine (K2.out _).mono ?_); rintro e w2 ⟨rfl, hb2⟩)))
    go_ret2
    exact ⟨rfl, hb2⟩
  · have hr : readS st s = ⟨#[]⟩ := if_neg h0
    have hv : findV st s = .pointer none := if_neg h0
    rw [hr]
    rw [hv] at K1
    have q : (((findE st s : Nat) : Int) != 0) = true := by rw [bne_iff_ne]; omega
    generalize findE st s = e0 at *
    clear h h0 hr hv hs
    go_enter Tryz.func20, Tryz.ntmps20
    go_wp2_with (first
      | (go_at_call 31; ((with_reducible refine (K1.out).mono ?_); rintro e w' ⟨rfl, rfl⟩)))
    go_ret2
    exact ⟨rfl, Below.refl _ _⟩

/-- A step of what has a name. -/
def onE (st : St) (s : ByteArray) : Nat := if findE st s = 0 then stepE st else findE st s
def onS (st : St) (s : ByteArray) : St := if findE st s = 0 then stepS st else st
theorem on_nil (s : ByteArray) (w : World) : Calls Tryz.prog 36 #[.pointer none, .string s] w fun e w' => e = .returned (.tuple #[.pointer none, .int .i64 1]) ∧ w' = w := by
  have K1 := Lib.hid (fun w => find_nil s w)
  go_enter Tryz.func36, Tryz.ntmps36
  go_wp2_with (first | (go_at_call 31; ((with_reducible refine (K1.out _).mono ?_); rintro e w' ⟨rfl, rfl⟩)))
  go_ret2
  exact ⟨rfl, rfl⟩
set_option maxRecDepth 100000 in
set_option maxHeartbeats 1000000 in
theorem on_any {w : World} {K : Nat → Prop} {D : Nat} {g : Gh} {st : St} (h : DW w K D g st) (hst : st.steps < 1000000000) (s : ByteArray) (hs : s.size ≤ 1000000000) : Calls Tryz.prog 36 #[.pointer (some ⟨D, 0, none⟩), .string s] w fun e w' => e = .returned (.tuple #[findV st s, .int .i64 (onE st s : Nat)]) ∧ DW w' K D g (onS st s) ∧ Kp (· = D) w w' := by
  have K1 := Lib.hid (find_any h s hs)
  unfold onE onS
  by_cases h0 : findE st s = 0
  · rw [if_pos h0, if_pos h0]
    rw [h0] at K1
    have K2 := Lib.hid (step_any h hst)
    generalize findV st s = v at *
    generalize stepE st = e1 at *
    clear h h0 hs hst
    go_enter Tryz.func36, Tryz.ntmps36
    go_wp2_with (first
      | (go_at_call 31; ((with_reducible refine (K1.out).mono ?_); rintro e w' ⟨rfl, rfl⟩))
      | (go_at_call 34; ((with_reducible refine (K2.out).mono ?_); rintro e w2 ⟨rfl, hd2, hk2⟩)))
    go_ret2
    exact ⟨rfl, hd2, hk2⟩
  · rw [if_neg h0, if_neg h0]
    have q : (((findE st s : Nat) : Int) == 0) = false := by rw [beq_eq_false_iff_ne]; omega
    have H := Lib.hid h
    generalize findV st s = v at *
    generalize findE st s = e0 at *
    clear h h0 hs hst
    go_enter Tryz.func36, Tryz.ntmps36
    go_wp2_with (first
      | (go_at_call 31; ((with_reducible refine (K1.out).mono ?_); rintro e w' ⟨rfl, rfl⟩)))
    go_ret2
    exact ⟨rfl, H.out, Kp.refl _ _⟩

/-- Of one file it is another text. -/
def setF (F : Nat → ByteArray × ByteArray) (c : Nat) (p : ByteArray × ByteArray) : Nat → ByteArray × ByteArray := fun x => if x = c then p else F x
theorem DW.file_turn {w w' : World} {K : Nat → Prop} {D : Nat} {g : Gh} {st : St} (h : DW w K D g st) (c : Nat) (hc : st.live c) (p : ByteArray × ByteArray) (hk : Kp (· = c) w w')
    (hb : w'.heap[c]? = some (.cells #[.string p.1, .string p.2] 67 (0, 0))) (hp : p.1.size ≤ 100000 ∧ p.2.size ≤ 100000) : DW w' K D g { st with F := setF st.F c p } := by
  have hf := h.file c hc
  have ne : ∀ (b : Nat) (o : Obj), w.heap[b]? = some o → o ≠ .cells #[.string (st.F c).1, .string (st.F c).2] 67 (0, 0) → w'.heap[b]? = some o := fun b o hbo hne =>
    (hk.block b (lt_of_heap hbo) (fun e => hne (by have e' : b = c := e; rw [e', hf] at hbo; exact (Option.some.inj hbo).symm))).trans hbo
  refine ⟨ne _ _ h.blk (by simp [dcells]), ?_, ?_, h.ne, ?_, ?_, ?_, ?_, h.filN, h.filS, h.few, ⟨h.own.1, h.own.2.1, h.own.2.2.1, h.own.2.2.2.1, h.own.2.2.2.2.1, fun b hb => Nat.lt_of_lt_of_le (h.own.2.2.2.2.2 b hb) hk.size⟩⟩
  · obtain ⟨es, cl, he, hr⟩ := h.names
    exact ⟨es, cl, ne _ _ he (by simp), hr⟩
  · obtain ⟨es, cl, he, hr⟩ := h.sure
    exact ⟨es, cl, ne _ _ he (by simp), hr⟩
  · refine ⟨h.row.1, ?_⟩
    rcases h.row.2 with h1 | ⟨r, cur, h1, h2, h4, h5⟩
    · exact Or.inl h1
    · exact Or.inr ⟨r, cur, h1, h2, ne _ _ h4 (by simp), h5⟩
  · intro i hi
    obtain ⟨c0, c1, c2, c3, e0, e1, e2, e3, t0, t1, t2, t3⟩ := h.turn i hi
    exact ⟨c0, c1, c2, c3, e0, e1, e2, e3, t0, t1, t2.keep (fun b cur hbb => ne _ _ hbb (by simp)), t3⟩
  · intro x hx
    have hx' : st.live x := hx
    show w'.heap[x]? = some (.cells #[.string (setF st.F c p x).1, .string (setF st.F c p x).2] 67 (0, 0))
    by_cases e : x = c
    · have hp' : setF st.F c p x = p := if_pos e
      rw [hp', e]
      exact hb
    · have hp' : setF st.F c p x = st.F x := if_neg e
      rw [hp']
      exact (hk.block x (lt_of_heap (h.file x hx')) e).trans (h.file x hx')
  · intro x hx
    have hx' : st.live x := hx
    show (setF st.F c p x).1.size ≤ 100000 ∧ (setF st.F c p x).2.size ≤ 100000
    by_cases e : x = c
    · have hp' : setF st.F c p x = p := if_pos e
      rw [hp']; exact hp
    · have hp' : setF st.F c p x = st.F x := if_neg e
      rw [hp']; exact h.size x hx'
theorem two_cells {w : World} {c : Nat} {a b : ByteArray} (h : w.heap[c]? = some (.cells #[.string a, .string b] 67 (0, 0))) : w.cell? ⟨c, 0, none⟩ = some (.string a) ∧ w.cell? ⟨c, 1, none⟩ = some (.string b) ∧ w.frozen? ⟨c, 0, none⟩ = false ∧ w.frozen? ⟨c, 1, none⟩ = false :=
  ⟨cell_of_row w c 0 _ _ _ h, cell_of_row w c 1 _ _ _ h, frozen_of_row w c 0 _ _ h, frozen_of_row w c 1 _ _ h⟩

def syncE (st : St) (s : ByteArray) : Nat := onE st s
def syncS (st : St) (s : ByteArray) : St := if onE st s = 0 then { onS st s with F := setF st.F (atN st.N s) ((st.F (atN st.N s)).1, (st.F (atN st.N s)).1) } else onS st s
theorem stepS_N (st : St) : (stepS st).N = st.N ∧ (stepS st).F = st.F ∧ (stepS st).S = st.S ∧ (stepS st).P = st.P ∧ (stepS st).room = st.room := by unfold stepS; split <;> exact ⟨rfl, rfl, rfl, rfl, rfl⟩
theorem stepS_live (st : St) (c : Nat) : (stepS st).live c ↔ st.live c := by
  obtain ⟨h1, _, h3, h4, _⟩ := stepS_N st
  unfold St.live
  rw [h1, h3, h4]
theorem kp_file (w : World) (c j : Nat) (v : Value) : Kp (· = c) w (w.setCell ⟨c, j, none⟩ v) := kp_set w c j v
theorem sync_nil (s : ByteArray) (w : World) : Calls Tryz.prog 17 #[.pointer none, .string s] w fun e w' => e = .returned (.int .i64 1) ∧ w' = w := by
  have K1 := Lib.hid (fun w => on_nil s w)
  go_enter Tryz.func17, Tryz.ntmps17
  go_wp2_with (first | (go_at_call 36; ((with_reducible refine (K1.out _).mono ?_); rintro e w' ⟨rfl, rfl⟩)))
  go_ret
  exact ⟨rfl, rfl⟩
set_option maxRecDepth 100000 in
set_option maxHeartbeats 1000000 in
theorem sync_any {w : World} {K : Nat → Prop} {D : Nat} {g : Gh} {st : St} (h : DW w K D g st) (hst : st.steps < 1000000000) (s : ByteArray) (hs : s.size ≤ 1000000000) : Calls Tryz.prog 17 #[.pointer (some ⟨D, 0, none⟩), .string s] w fun e w' => e = .returned (.int .i64 (syncE st s : Nat)) ∧ DW w' K D g (syncS st s) ∧ Kp K w w' := by
  have K1 := Lib.hid (on_any h hst s hs)
  have HK := Lib.hid h.own
  unfold syncE syncS
  by_cases h0 : onE st s = 0
  · rw [if_pos h0, h0]
    rw [h0] at K1
    have h1 : findE st s = 0 := by
      unfold onE at h0
      split at h0
      · assumption
      · exact h0
    obtain ⟨_, hh⟩ := findE_zero h1
    have hl := Lib.hid (h.filN.live hh)
    have HSZ := Lib.hid (h.size _ hl.out)
    rw [findV_zero h1] at K1
    have HS : Hid (onS st s = stepS st) := Lib.hid (if_pos h1)
    clear h h0 h1 hh hs hst
    obtain ⟨c, hc⟩ : ∃ c, c = atN st.N s := ⟨_, rfl⟩
    rw [← hc] at K1 hl HSZ ⊢
    clear hc
    have K2 : Hid (Calls Tryz.prog 36 #[.pointer (some ⟨D, 0, none⟩), .string s] w fun e w' => e = .returned (.tuple #[.pointer (some ⟨c, 0, none⟩), .int .i64 0]) ∧ Hid (DW w' K D g (onS st s)) ∧ Hid (Kp (· = D) w w') ∧ Hid ((onS st s).live c ∧ (onS st s).F = st.F) ∧ w'.heap[c]? = some (.cells #[.string (st.F c).1, .string (st.F c).2] 67 (0, 0))) := Lib.hid (K1.out.mono (fun e w' ⟨he, hd, hk⟩ => by
      have hl1 : (onS st s).live c := by rw [HS.out]; exact (stepS_live st c).2 hl.out
      have hF : (onS st s).F = st.F := by rw [HS.out]; exact (stepS_N st).2.1
      have hf := hd.file c hl1
      rw [hF] at hf
      exact ⟨he, Lib.hid hd, Lib.hid hk, Lib.hid ⟨hl1, hF⟩, hf⟩))
    clear K1
    obtain ⟨ta, hta⟩ : ∃ ta, ta = (st.F c).1 := ⟨_, rfl⟩
    obtain ⟨tb, htb⟩ : ∃ tb, tb = (st.F c).2 := ⟨_, rfl⟩
    rw [← hta, ← htb] at K2 HSZ
    rw [← hta]
    clear hta htb
    go_enter Tryz.func17, Tryz.ntmps17
    go_wp2_with (first
      | (go_at_call 36; ((with_reducible refine (K2.out).mono ?_); rintro e w1 ⟨rfl, HD1, HK1, HL1, hf1⟩; have HF1 := Lib.hid hf1; obtain ⟨d0, d1, f0, f1⟩ := two_cells hf1; clear hf1)))
    go_ret
    have hset := heap_setCell_same w1 c 1 _ _ (.string ta) HF1.out
    refine ⟨rfl, ?_, ?_⟩
    · have := HD1.out.file_turn c HL1.out.1 (ta, ta) (kp_file w1 c 1 _) (by rw [hset]; rfl) ⟨HSZ.out.1, HSZ.out.1⟩
      rw [HL1.out.2] at this
      exact this
    · refine (HK1.out.mono (fun i _ e => ?_)).trans ((kp_file w1 c 1 _).mono (fun i _ e => ?_))
      · have e' : i = D := e
        rw [e']; exact HK.out.1
      · have e' : i = c := e
        rw [e']; exact HK.out.2.2.2.2.1 c hl.out
  · rw [if_neg h0]
    have q : (((onE st s : Nat) : Int) != 0) = true := by rw [bne_iff_ne]; omega
    generalize onE st s = e0 at *
    generalize findV st s = v at *
    clear h h0 hs hst
    go_enter Tryz.func17, Tryz.ntmps17
    go_wp2_with (first
      | (go_at_call 36; ((with_reducible refine (K1.out).mono ?_); rintro e w1 ⟨rfl, hd1, hk1⟩; have HD1 := Lib.hid hd1; have HK1 := Lib.hid hk1; clear hd1 hk1)))
    go_ret
    exact ⟨rfl, HD1.out, HK1.out.mono (fun i _ e => by have e' : i = D := e; rw [e']; exact HK.out.1)⟩
end Go.Proofs.YtjkpopdjmmgbbabGreat.Dk

namespace Go.Proofs.YtjkpopdjmmgbbabGreat.Dk
open Go.RowKit Go.Maps

/-- Blocks of a kind, and those that are new. -/
def Kn (K : Nat → Prop) (w w' : World) : Nat → Prop := fun b => K b ∨ (w.heap.size ≤ b ∧ b < w'.heap.size)
theorem DW.wide {w : World} {K K' : Nat → Prop} {D : Nat} {g : Gh} {st : St} (h : DW w K D g st) (hk : ∀ b, K b → K' b) (hl : ∀ b, K' b → b < w.heap.size) : DW w K' D g st :=
  ⟨h.blk, h.names, h.sure, h.ne, h.row, h.turn, h.file, h.size, h.filN, h.filS, h.few, ⟨hk _ h.own.1, hk _ h.own.2.1, hk _ h.own.2.2.1, fun r hr => hk _ (h.own.2.2.2.1 r hr), fun c hc => hk _ (h.own.2.2.2.2.1 c hc), hl⟩⟩
theorem DW.kn {w w' : World} {K : Nat → Prop} {D : Nat} {g : Gh} {st : St} (h : DW w' K D g st) : DW w' (Kn K w w') D g st :=
  h.wide (fun b hb => Or.inl hb) (fun b hb => by rcases hb with hb | hb; exact h.own.2.2.2.2.2 b hb; exact hb.2)
theorem Kn.trans {K : Nat → Prop} {w w1 w2 : World} (h1 : w.heap.size ≤ w1.heap.size) (h2 : w1.heap.size ≤ w2.heap.size) (b : Nat) (h : Kn (Kn K w w1) w1 w2 b) : Kn K w w2 b := by
  rcases h with (h | h) | h
  · exact Or.inl h
  · exact Or.inr ⟨h.1, by omega⟩
  · exact Or.inr ⟨by omega, h.2⟩
/-- What two calls, one behind the other, leave. -/
theorem Kp.andKn {K : Nat → Prop} {a b c : World} (h : Kp K a b) (k : Kp (Kn K a b) b c) : Kp K a c :=
  h.step k (fun i hi hk => by rcases hk with hk | hk; exact hk; omega)
theorem DW.andKn {K : Nat → Prop} {a b c : World} {D : Nat} {g : Gh} {st : St} (h1 : a.heap.size ≤ b.heap.size) (h : DW c (Kn (Kn K a b) b c) D g st) (h2 : b.heap.size ≤ c.heap.size) : DW c (Kn K a c) D g st :=
  h.wide (fun i hi => Kn.trans h1 h2 i hi) (fun i hi => by
    rcases hi with hi | hi
    · exact h.own.2.2.2.2.2 i (Or.inl (Or.inl hi))
    · exact hi.2)

theorem DW.sd {w : World} {K K' : Nat → Prop} {D : Nat} {g : Gh} {st : St} (h : DW w K D g st) (nb : Nat) (hnb : w.ownsMap Tryz.prog 9 ptrE nb g.nn st.N) (hne : g.bn ≠ nb) (hk : ∀ b, K b → K' b) (hn : K' nb) (hl : ∀ b, K' b → b < w.heap.size) :
    DW ((w.setCell ⟨D, 2, none⟩ (.map (some nb))).setCell ⟨D, 3, none⟩ (.slice none 0 0)) K' D { g with bs := nb, o := none, cap := 0, ρ := none, xs := [] } { st with S := st.N, P := [] } := by
  have kk : Kp (· = D) w ((w.setCell ⟨D, 2, none⟩ (.map (some nb))).setCell ⟨D, 3, none⟩ (.slice none 0 0)) := (kp_set _ _ _ _).trans (kp_set _ _ _ _)
  have ne : ∀ (b : Nat) (o : Obj), w.heap[b]? = some o → o ≠ .cells (dcells g st) 47 (0, 0) → ((w.setCell ⟨D, 2, none⟩ (.map (some nb))).setCell ⟨D, 3, none⟩ (.slice none 0 0)).heap[b]? = some o := fun b o hbo hne =>
    (kk.block b (lt_of_heap hbo) (fun e => hne (by have e' : b = D := e; have hb := h.blk; rw [e', hb] at hbo; exact (Option.some.inj hbo).symm))).trans hbo
  have live : ∀ c, ({ st with S := st.N, P := [] } : St).live c → st.live c := fun c hc => by
    rcases hc with hc | hc | ⟨t, ht, _⟩
    · exact Or.inl hc
    · exact Or.inl hc
    · cases ht
  refine ⟨?_, ?_, ?_, hne, ⟨rfl, Or.inl ⟨rfl, rfl, rfl, rfl⟩⟩, fun i hi => absurd hi (by simp), ?_, fun c hc => h.size c (live c hc), h.filN, h.filN, ⟨h.few.1, by simp, h.few.2.2⟩, ⟨hk _ h.own.1, hk _ h.own.2.1, hn, fun r hr => (by cases hr), fun c hc => hk _ (h.own.2.2.2.2.1 c (live c hc)), fun b hb => Nat.lt_of_lt_of_le (hl b hb) kk.size⟩⟩
  · rw [heap_setCell_same _ _ _ _ _ _ (heap_setCell_same _ _ _ _ _ _ h.blk)]
    rfl
  · obtain ⟨es, cl, he, hr⟩ := h.names
    exact ⟨es, cl, ne _ _ he (by simp), hr⟩
  · obtain ⟨es, cl, he, hr⟩ := hnb
    exact ⟨es, cl, ne _ _ he (by simp), hr⟩
  · intro c hc
    exact ne _ _ (h.file c (live c hc)) (by simp [dcells])

def sdE (st : St) : Nat := if st.down then 15 else stepE st
def sdS (st : St) : St := if sdE st = 0 then { stepS st with S := (stepS st).N, P := [] } else if st.down then st else stepS st
theorem sd_nil (w : World) : Calls Tryz.prog 19 #[.pointer none] w fun e w' => e = .returned (.int .i64 1) ∧ w' = w := by
  have K1 := Lib.hid (fun w => refuses_nil w)
  go_enter Tryz.func19, Tryz.ntmps19
  go_wp2_with (first | (go_at_call 21; ((with_reducible refine (K1.out _).mono ?_); rintro e w' ⟨rfl, rfl⟩)))
  go_ret
  exact ⟨rfl, rfl⟩
set_option maxRecDepth 100000 in
set_option maxHeartbeats 1000000 in
theorem sd_any {w : World} {K : Nat → Prop} {D : Nat} {g : Gh} {st : St} (h : DW w K D g st) (hst : st.steps < 1000000000) : Calls Tryz.prog 19 #[.pointer (some ⟨D, 0, none⟩)] w fun e w' => e = .returned (.int .i64 (sdE st : Nat)) ∧ (∃ g', DW w' (Kn K w w') D g' (sdS st) ∧ g'.nn = g.nn) ∧ Kp K w w' := by
  have K1 := Lib.hid (refuses_any h)
  have H := Lib.hid h
  cases hd : st.down
  · have hr : refE st = 0 := by unfold refE; rw [hd]; rfl
    have he : sdE st = stepE st := by unfold sdE; rw [hd]; rfl
    rw [hr] at K1
    have K2 := Lib.hid (step_any h hst)
    by_cases h0 : stepE st = 0
    · have hS : sdS st = { stepS st with S := (stepS st).N, P := [] } := by unfold sdS; rw [he, if_pos h0]
      rw [he, hS, h0]
      rw [h0] at K2
      clear h hst hd hr he hS h0
      have K3 : Hid (Calls Tryz.prog 34 #[.pointer (some ⟨D, 0, none⟩)] w fun e w' => e = .returned (.int .i64 0) ∧ Hid (DW w' K D g (stepS st)) ∧ Hid (Kp (· = D) w w') ∧ w'.cell? ⟨D, 1, none⟩ = some (.map (some g.bn))) := Lib.hid (K2.out.mono (fun e w' ⟨he, hd, hk⟩ => ⟨he, Lib.hid hd, Lib.hid hk, hd.c1⟩))
      clear K2
      go_enter Tryz.func19, Tryz.ntmps19
      go_wp2_with (first
        | (go_at_call 21; ((with_reducible refine (K1.out).mono ?_); rintro e w0 ⟨rfl, rfl⟩))
        | (go_at_call 34; ((with_reducible refine (K3.out).mono ?_); rintro e w1 ⟨rfl, HD1, HK1, d1⟩))
        | (go_at_call 38; ((with_reducible refine (mclone_any _ _ _ _ HD1.out.names).mono ?_); rintro e w2 ⟨rfl, hn2, hb2⟩; have HN2 := Lib.hid hn2; have HB2 := Lib.hid hb2; have HD2 := Lib.hid (HD1.out.later hb2); have e2 := HD2.out.c2; have e3 := HD2.out.c3; have f2 := HD2.out.fz 2; have f3 := HD2.out.fz 3; clear hn2 hb2)))
      go_ret
      have hlt := HD1.out.names.lt
      have hs1 := HK1.out.size
      have hs2 := HB2.out.size
      have hn3 := HN2.out.lt
      have hsd := HD2.out.sd (K' := fun b => K b ∨ (w0.heap.size ≤ b ∧ b < w2.heap.size)) w1.heap.size HN2.out (by omega) (fun b hb => Or.inl hb) (Or.inr ⟨hs1, hn3⟩) (fun b hb => by
        rcases hb with hb | hb
        · exact Nat.lt_of_lt_of_le (HD1.out.own.2.2.2.2.2 b hb) hs2
        · exact hb.2)
      have kk := ((HK1.out.mono (K' := K) (fun i _ e => by have e' : i = D := e; rw [e']; exact H.out.own.1)).trans (Kp.of_below (K := K) HB2.out)).trans (((kp_set w2 D 2 (.map (some w1.heap.size))).trans (kp_set _ D 3 (.slice none 0 0))).mono (K' := K) (fun i _ e => by have e' : i = D := e; rw [e']; exact H.out.own.1))
      refine ⟨rfl, ⟨_, hsd.wide (fun b hb => ?_) (fun b hb => ?_), rfl⟩, kk⟩
      · rcases hb with hb | hb
        · exact Or.inl hb
        · exact Or.inr ⟨hb.1, by simpa [World.setCell] using hb.2⟩
      · rcases hb with hb | hb
        · exact hsd.own.2.2.2.2.2 b (Or.inl hb)
        · exact hb.2
    · have hS : sdS st = stepS st := by unfold sdS; rw [he, if_neg h0, hd]; rfl
      rw [he, hS]
      have q : (((stepE st : Nat) : Int) != 0) = true := by rw [bne_iff_ne]; omega
      generalize stepE st = e0 at *
      clear h hst hd hr he hS h0
      go_enter Tryz.func19, Tryz.ntmps19
      go_wp2_with (first
        | (go_at_call 21; ((with_reducible refine (K1.out).mono ?_); rintro e w' ⟨rfl, rfl⟩))
        | (go_at_call 34; ((with_reducible refine (K2.out).mono ?_); rintro e w1 ⟨rfl, hd1, hk1⟩; have HD1 := Lib.hid hd1; have HK1 := Lib.hid hk1; clear hd1 hk1)))
      go_ret
      exact ⟨rfl, ⟨g, HD1.out.kn, rfl⟩, HK1.out.mono (fun i _ e => by have e' : i = D := e; rw [e']; exact H.out.own.1)⟩
  · have hr : refE st = 15 := by unfold refE; rw [hd]; rfl
    have he : sdE st = 15 := by unfold sdE; rw [hd]; rfl
    have hS : sdS st = st := by unfold sdS; rw [he, if_neg (by omega), hd]; rfl
    rw [he, hS]
    rw [hr] at K1
    clear h hst hd hr he hS
    go_enter Tryz.func19, Tryz.ntmps19
    go_wp2_with (first
      | (go_at_call 21; ((with_reducible refine (K1.out).mono ?_); rintro e w' ⟨rfl, rfl⟩)))
    go_ret
    exact ⟨rfl, ⟨g, H.out.kn, rfl⟩, Kp.refl _ _⟩
end Go.Proofs.YtjkpopdjmmgbbabGreat.Dk

namespace Go.Proofs.YtjkpopdjmmgbbabGreat.Dk
open Go.RowKit Go.Maps

/-- A row is the old one, or a new one. -/
def Nxt (ρ ρ' : Option Nat) (w : World) : Prop := ρ' = ρ ∨ ∃ k, ρ' = some k ∧ w.heap.size ≤ k
theorem PRow.cell {T : TypeId} {m : Nat} {ρ : Option Nat} {o : Option Addr} {cap n : Nat} {xs : List Value} {w : World} (h : PRow T m ρ o cap n xs w) (j : Nat) (u : Value) (hj : xs[j]? = some u) : ∃ r, ρ = some r ∧ o = some ⟨r, 0, none⟩ ∧ w.cell? ⟨r, j, none⟩ = some u := by
  have hjl := (List.getElem?_eq_some_iff.1 hj).1
  rcases h.2 with ⟨_, _, _, h0⟩ | ⟨r, cur, h1, h2, h4, _, _, _, htk⟩
  · rw [h.1, h0] at hjl; omega
  · refine ⟨r, h1, h2, ?_⟩
    rw [cell_of_row w r j _ _ _ h4, ← Array.getElem?_toList]
    have := congrArg (fun l => l[j]?) htk
    simp only [List.getElem?_take] at this
    rw [if_pos (by rw [← h.1]; exact hjl)] at this
    rw [this]; exact hj
theorem PRow.nil (T : TypeId) (m : Nat) (w : World) : PRow T m none none 0 0 [] w := ⟨by simp, Or.inl ⟨rfl, rfl, rfl, rfl⟩⟩
theorem plain_add (b o i : Nat) : ((⟨b, o, none⟩ : Addr).add i) = ⟨b, o + i, none⟩ := by simp [Addr.add]
theorem prow_append (t T ty : TypeId) (hu : Tryz.prog.underlying t = some (.slice T)) (z : Value) (m by' : Nat) (hinfo : (Tryz.prog.info? T).map (fun i => (i.zero, i.size, i.bytes)) = some (some z, m, by')) (hzs : z.cells.size = m) (hm : 0 < m) (hb : by' ≤ 64)
    (w : World) (ρ : Option Nat) (o : Option Addr) (cap n : Nat) (xs : List Value) (hR : PRow T m ρ o cap n xs w) (hn : n + 1 ≤ 1000000000) (a : Addr) (news : List Value) (hl : news.length = m) (hnews : ∀ j u, news[j]? = some u → w.cell? (a.add j) = some u) (h1 : ∀ u ∈ news, u.oneCell' = true) :
    ∃ o' cap' w' ρ', (Builtin.append_ #[t, t] ty #[.slice o n cap, .slice (some a) 1 1]).run Tryz.prog w = .ok (.slice o' (n + 1) cap') w' ∧ PRow T m ρ' o' cap' (n + 1) (xs ++ news) w' ∧ Nxt ρ ρ' w ∧ Kp (fun b => ρ = some b) w w' := by
  obtain ⟨i, hi, hz, hsz, hby⟩ := info_parts hinfo
  have hml : (n + 1 : Nat) ≤ maxLen := by unfold maxLen; omega
  have hnl : news.length = 1 * i.size := by rw [hl, hsz]; omega
  have hxl : (xs ++ news).length = (n + 1) * m := by rw [List.length_append, hR.1, hl, Nat.add_mul]; omega
  have fresh : ∀ old, PRow T m (some w.heap.size) (some ⟨w.heap.size, 0, none⟩) (grownCap w (n + 1) old T) (n + 1) (xs ++ news) (w.drew.alloc (.cells (xs.toArray ++ news.toArray ++ Builtin.zeroCells z.cells (grownCap w (n + 1) old T - (n + 1))) T)) := by
    intro old
    refine ⟨hxl, Or.inr ⟨w.heap.size, _, rfl, rfl, heap_alloc_new w.drew _, grownCap_ge w (n + 1) old T, grownCap_le_maxLen w (n + 1) old T hml, ?_, ?_⟩⟩
    · have hge := grownCap_ge w (n + 1) old T
      simp only [Array.size_append, List.size_toArray, size_zeroCells, hzs, hR.1, hl]
      have e : grownCap w (n + 1) old T = n + 1 + (grownCap w (n + 1) old T - (n + 1)) := by omega
      rw [e, Nat.add_mul, Nat.add_mul]
      have e2 : n + 1 + (grownCap w (n + 1) old T - (n + 1)) - (n + 1) = grownCap w (n + 1) old T - (n + 1) := by omega
      rw [e2]
      omega
    · rw [← hxl]
      simp only [Array.toList_append]
      exact List.take_left
  have kp : ∀ (cs : Array Value), Kp (fun b => ρ = some b) w (w.drew.alloc (.cells cs T)) := fun cs => ((Kp.refl _ w).drew).alloc _
  rcases hR.2 with ⟨rfl, rfl, rfl, rfl⟩ | ⟨r, cur, rfl, rfl, hg, hnc, hcm, hcs, htk⟩
  · have hx : xs = [] := List.eq_nil_of_length_eq_zero (by simpa using hR.1)
    subst hx
    have hr := run_append_nil (P := Tryz.prog) w t ty T i _ hu hi hz a 1 1 news hnl hnews (by omega) (by omega) (by rw [hby]; omega)
    have hf := fresh 0
    simp only [List.nil_append, Array.empty_append] at hf
    exact ⟨_, _, _, _, hr, hf, Or.inr ⟨_, rfl, Nat.le_refl _⟩, kp _⟩
  · by_cases hroom : n + 1 ≤ cap
    · have hr := run_append_room (P := Tryz.prog) w t ty T i hu hi r n cap cur hg a 1 1 news hnl hnews h1 hroom (by rw [hsz, hl, hcs, ← Nat.add_one_mul]; exact Nat.mul_le_mul_right m hroom)
      rw [hsz] at hr
      refine ⟨_, _, _, some r, hr, ⟨hxl, Or.inr ⟨r, _, rfl, rfl, setRow_heap w r cur _ T _ hg, hroom, hcm, ?_, ?_⟩⟩, Or.inl rfl, rfl, rfl, rfl, by simp, fun k _ hk => setRow_other w r k _ (fun e => hk (by rw [e]))⟩
      · have : (n + 1) * m ≤ cap * m := Nat.mul_le_mul_right m hroom
        have e : (n + 1) * m = n * m + m := Nat.add_one_mul n m
        simp only [List.size_toArray, List.length_append, List.length_take, List.length_drop, Array.length_toList]
        omega
      · rw [htk, ← hxl]
        exact List.take_left
    · have holds : ∀ j u, xs[j]? = some u → w.cell? ((⟨r, 0, none⟩ : Addr).add j) = some u := by
        intro j u hj
        obtain ⟨r2, e1, _, e3⟩ := hR.cell j u hj
        cases e1
        rw [plain_add, Nat.zero_add]; exact e3
      have hr := run_append_grow (P := Tryz.prog) w t ty T i _ hu hi hz ⟨r, 0, none⟩ n cap xs (by rw [hsz]; exact hR.1) holds a 1 1 news hnl hnews (by omega) (by omega) (by rw [hby]; exact growslice_fits (by omega) (Nat.le_trans (Nat.mul_le_mul hn hb) (by omega)))
      exact ⟨_, _, _, _, hr, fresh cap, Or.inr ⟨_, rfl, Nat.le_refl _⟩, kp _⟩
/-- 'l = append(l, x)', the x in a block of its own. -/
theorem wpList_prow {w : World} {ops : Array Oper} {rest : List Oper} {o : Oper} {a : Act} {Q : Exit → Act → World → Prop} (hgd : o.guard = none) (s x : Operand) (t T : TypeId)
    (ho : o.op = .call { callee := .builtin .append, args := #[s, x], argTypes := #[t, t] }) (hu : Tryz.prog.underlying t = some (.slice T)) (z : Value) (m by' : Nat) (hinfo : (Tryz.prog.info? T).map (fun i => (i.zero, i.size, i.bytes)) = some (some z, m, by')) (hzs : z.cells.size = m) (hm : 0 < m) (hb : by' ≤ 64)
    (ρ : Option Nat) (oo : Option Addr) (cap n : Nat) (xs : List Value) (hR : PRow T m ρ oo cap n xs w) (hn : n + 1 ≤ 1000000000) (ad : Addr) (news : List Value) (hl : news.length = m) (hnews : ∀ j u, news[j]? = some u → w.cell? (ad.add j) = some u) (h1 : ∀ u ∈ news, u.oneCell' = true)
    (hs : a.eval s = .slice oo n cap) (hx : a.eval x = .slice (some ad) 1 1)
    (h : ∀ o' cap' w' ρ', PRow T m ρ' o' cap' (n + 1) (xs ++ news) w' → Nxt ρ ρ' w → Kp (fun b => ρ = some b) w w' → wpList Tryz.prog ops Q rest (a.put o.dst (.slice o' (n + 1) cap')) w') : wpList Tryz.prog ops Q (o :: rest) a w := by
  refine wpList_plain hgd fun K' hK' => ?_
  obtain ⟨o', cap', w', ρ', hr, h2, h3, h4⟩ := prow_append t T o.type hu z m by' hinfo hzs hm hb w ρ oo cap n xs hR hn ad news hl hnews h1
  unfold Oper.wp execOp
  simp only [ho, resolve, invoke, builtin, Sem.run_bind, Sem.run_pure, Result.andThen_ok, List.map_toArray, List.map_cons, List.map_nil, hs, hx, hr]
  exact hK' _ _ (h o' cap' w' ρ' h2 h3 h4)
theorem info9 : (Tryz.prog.info? 9).map (fun i => (i.zero, i.size, i.bytes)) = some (some (.string ⟨#[]⟩), 1, 16) := by kernel_rfl
theorem info51 : (Tryz.prog.info? 62).map (fun i => (i.zero, i.size, i.bytes)) = some (some (.pointer none), 1, 8) := by kernel_rfl
theorem info60 : (Tryz.prog.info? 70).map (fun i => (i.zero, i.size, i.bytes)) = some (some (.agg #[.int .i64 0, .pointer none, .slice none 0 0, .string ⟨#[]⟩]), 4, 56) := by kernel_rfl

/-- The next entry of a map of files. -/
theorem wpList_next_file (w : World) {ops : Array Oper} {rest : List Oper} {o : Oper} {a : Act} {Q : Exit → Act → World → Prop} (hg : o.guard = none) (it : Operand) (hop : o.op = Op.next it false) (b r n : Nat) (D : Dm) (F : Fil D) (left : Lit → Bool) (cnt : Nat)
    (hit : a.eval it = .pointer (some ⟨r, 0, none⟩)) (h : w.ranges Tryz.prog 9 ptrE b r n D left cnt)
    (hDone : cnt = 0 → (∀ kl, left kl = false) → wpList Tryz.prog ops Q rest (a.put o.dst (.tuple #[.bool false])) w)
    (hMore : ∀ (x : ByteArray) (w' : World) (cnt' : Nat), x.size ≤ maxLen → left (nk x) = true → hasN D x = true → w'.ranges Tryz.prog 9 ptrE b r n D (fun z => left z && !z.sameKey (nk x)) cnt' → cnt' < cnt →
      w.grownBy w' (some r) → w'.heap.size = w.heap.size → (Instr.entry (.pointer (some ⟨r, 0, none⟩))).run Tryz.prog w' = .ok (.tuple #[.string x, .pointer (some ⟨atN D x, 0, none⟩)]) w' → wpList Tryz.prog ops Q rest (a.put o.dst (.tuple #[.bool true, .string x, .pointer (some ⟨atN D x, 0, none⟩)])) w') :
    wpList Tryz.prog ops Q (o :: rest) a w := by
  refine wpList_next_ranges w hg it hop 9 law ptrE Value.string (fun c : Option Nat => match c with | none => .pointer none | some b => .pointer (some ⟨b, 0, none⟩)) (fun key kl hkey => ?_) (fun v y hv => ?_) b r n D left cnt hit h hDone ?_
  · obtain ⟨x, rfl, _⟩ := Go.WideMaps.string_of_keyOf Tryz.underlying9 hkey
    exact ⟨x, rfl⟩
  · rcases ptrE_inv hv with ⟨rfl, _⟩ | ⟨c, rfl, _⟩
    · exact ⟨none, rfl⟩
    · exact ⟨some c, rfl⟩
  · intro x c kl y w' cnt' hkey hlk hv hat hrg hlt hgr hsz hen
    obtain ⟨x', ex, rfl, hx⟩ := Go.WideMaps.string_of_keyOf Tryz.underlying9 hkey
    cases ex
    have hh : hasN D x = true := Maps.has_true_of_atKey hat
    have hy := F.at hh .nil
    rw [show D.atKey (nk x) .nil = y.1 from hat .nil] at hy
    rcases ptrE_inv hv with ⟨_, rfl⟩ | ⟨c', e, rfl⟩
    · exact absurd hy (by simp [fl])
    · have : c' = atN D x := fl_inj hy
      subst this
      rw [e] at hen ⊢
      exact hMore x w' cnt' hx hlk hh hrg hlt hgr hsz hen
end Go.Proofs.YtjkpopdjmmgbbabGreat.Dk
