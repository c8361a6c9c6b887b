/- What a disk tells of itself; what has a name; a step.; A step; a fuse; what is read.; The library's own: a text copied, a map copied, a map's names in order. -/
import Derived.Test.YtjkpopdjmmgbbaaJ00
set_option linter.unusedVariables false
set_option linter.unusedSimpArgs false
namespace Go.Proofs.Ytjkpopdjmmgbbaa
open Go.RowKit Go.Maps

section
variable {w : World} {K : Nat → Prop} {D : Nat} {g : Gh} {st : St}
theorem DW.c0 (h : DW w K D g st) : w.cell? ⟨D, 0, none⟩ = some (.int .i64 (st.room : Int)) := cell_of_row w D 0 _ _ _ h.blk
theorem DW.c1 (h : DW w K D g st) : w.cell? ⟨D, 1, none⟩ = some (.map (some g.bn)) := cell_of_row w D 1 _ _ _ h.blk
theorem DW.c2 (h : DW w K D g st) : w.cell? ⟨D, 2, none⟩ = some (.map (some g.bs)) := cell_of_row w D 2 _ _ _ h.blk
theorem DW.c3 (h : DW w K D g st) : w.cell? ⟨D, 3, none⟩ = some (.slice g.o st.P.length g.cap) := cell_of_row w D 3 _ _ _ h.blk
theorem DW.c4 (h : DW w K D g st) : w.cell? ⟨D, 4, none⟩ = some (.int .i64 st.fuse) := cell_of_row w D 4 _ _ _ h.blk
theorem DW.c5 (h : DW w K D g st) : w.cell? ⟨D, 5, none⟩ = some (.int .i64 (st.steps : Int)) := cell_of_row w D 5 _ _ _ h.blk
theorem DW.c6 (h : DW w K D g st) : w.cell? ⟨D, 6, none⟩ = some (.bool st.down) := cell_of_row w D 6 _ _ _ h.blk
theorem DW.fz (h : DW w K D g st) (j : Nat) : w.frozen? ⟨D, j, none⟩ = false := frozen_of_row w D j _ _ h.blk
end

/-- isName. -/
def nmB (s : ByteArray) : Bool := decide (1 ≤ s.size ∧ s.size ≤ 32)
theorem name_any (s : ByteArray) (hs : s.size ≤ 1000000000) (w : World) : Calls Try.prog 24 #[.string s] w fun e w' => e = .returned (.bool (nmB s)) ∧ w' = w := by
  by_cases h1 : 1 ≤ s.size
  · by_cases h2 : s.size ≤ 32
    · have hb : nmB s = true := by unfold nmB; simp [h1, h2]
      have q : decide ((s.size : Int) ≤ 32) = true := decide_eq_true (by omega)
      rw [hb]
      clear hb
      go_enter Try.func24, Try.ntmps24
      go_wp2
      go_ret
      exact ⟨rfl, rfl⟩
    · have hb : nmB s = false := by unfold nmB; simp [h2]
      have q : decide ((s.size : Int) ≤ 32) = false := decide_eq_false (by omega)
      rw [hb]
      clear hb
      go_enter Try.func24, Try.ntmps24
      go_wp2
      go_ret
      exact ⟨rfl, rfl⟩
  · have hb : nmB s = false := by unfold nmB; simp [h1]
    rw [hb]
    clear hb
    go_enter Try.func24, Try.ntmps24
    go_wp2
    go_ret
    exact ⟨rfl, rfl⟩

theorem refuses_nil (w : World) : Calls Try.prog 29 #[.pointer none] w fun e w' => e = .returned (.int .i64 1) ∧ w' = w := by
  go_enter Try.func29, Try.ntmps29
  go_wp2
  go_ret
  exact ⟨rfl, rfl⟩
/-- Why nothing at all is done. -/
def refE (st : St) : Nat := if st.down then 15 else 0
theorem refuses_any {w : World} {K : Nat → Prop} {D : Nat} {g : Gh} {st : St} (h : DW w K D g st) : Calls Try.prog 29 #[.pointer (some ⟨D, 0, none⟩)] w fun e w' => e = .returned (.int .i64 (refE st : Nat)) ∧ w' = w := by
  have c6 := h.c6
  unfold refE
  cases hd : st.down
  · rw [hd] at c6
    clear h hd
    go_enter Try.func29, Try.ntmps29
    go_wp2
    go_ret
    exact ⟨rfl, rfl⟩
  · rw [hd] at c6
    clear h hd
    go_enter Try.func29, Try.ntmps29
    go_wp2
    go_ret
    exact ⟨rfl, rfl⟩
theorem pending_nil (w : World) : Calls Try.prog 18 #[.pointer none] w fun e w' => e = .returned (.int .i64 0) ∧ w' = w := by
  go_enter Try.func18, Try.ntmps18
  go_wp2
  go_ret
  exact ⟨rfl, rfl⟩
theorem pending_any {w : World} {K : Nat → Prop} {D : Nat} {g : Gh} {st : St} (h : DW w K D g st) : Calls Try.prog 18 #[.pointer (some ⟨D, 0, none⟩)] w fun e w' => e = .returned (.int .i64 (st.P.length : Int)) ∧ w' = w := by
  have c := h.c3
  clear h
  generalize st.P.length = m at *
  go_enter Try.func18, Try.ntmps18
  go_wp2
  go_ret
  exact ⟨rfl, rfl⟩
theorem steps_nil (w : World) : Calls Try.prog 22 #[.pointer none] w fun e w' => e = .returned (.int .i64 0) ∧ w' = w := by
  go_enter Try.func22, Try.ntmps22
  go_wp2
  go_ret
  exact ⟨rfl, rfl⟩
theorem down_nil (w : World) : Calls Try.prog 21 #[.pointer none] w fun e w' => e = .returned (.bool false) ∧ w' = w := by
  go_enter Try.func21, Try.ntmps21
  go_wp2
  go_ret
  exact ⟨rfl, rfl⟩
theorem down_any {w : World} {K : Nat → Prop} {D : Nat} {g : Gh} {st : St} (h : DW w K D g st) : Calls Try.prog 21 #[.pointer (some ⟨D, 0, none⟩)] w fun e w' => e = .returned (.bool st.down) ∧ w' = w := by
  have c := h.c6
  clear h
  generalize st.down = m at *
  go_enter Try.func21, Try.ntmps21
  go_wp2
  go_ret
  exact ⟨rfl, rfl⟩

/-- What has a name. -/
def atN (D : Dm) (s : ByteArray) : Nat := match D.atKey (nk s) .nil with | .lit (.int _ n) => n.toNat | _ => 0
def hasN (D : Dm) (s : ByteArray) : Bool := Maps.has D (nk s)
theorem Fil.at {D : Dm} (h : Fil D) {s : ByteArray} (hs : hasN D s = true) (z : Dm) : D.atKey (nk s) z = fl (atN D s) := by
  obtain ⟨c, hc⟩ := h _ hs
  rw [hc z]
  unfold atN
  rw [hc .nil]
  simp [fl]
theorem Fil.live {st : St} {s : ByteArray} (h : Fil st.N) (hs : hasN st.N s = true) : st.live (atN st.N s) := Or.inl ⟨nk s, hs, fun z => h.at hs z⟩
/-- Why nothing has a name, or what has it. -/
def findE (st : St) (s : ByteArray) : Nat := if st.down then 15 else if hasN st.N s then 0 else 12
def findV (st : St) (s : ByteArray) : Value := if findE st s = 0 then .pointer (some ⟨atN st.N s, 0, none⟩) else .pointer none
/-- A look-up, as the walk takes it. -/
theorem look_yes {w : World} {b n : Nat} {N : Dm} (h : w.ownsMap Try.prog 9 ptrE b n N) (F : Fil N) (s : ByteArray) (hs : s.size ≤ 1000000000) (hh : hasN N s = true) :
    (Instr.lookup 47 (.map (some b)) (.string s) true).run Try.prog w = .ok (.tuple #[.pointer (some ⟨atN N s, 0, none⟩), .bool true]) w := by
  obtain ⟨v, ps, hrun, hv⟩ := h.look_ok law Try.underlying47 (zero51 w) ptrE_nil (key_of s hs)
  rw [show Maps.has N (nk s) = true from hh] at hrun
  rw [F.at hh] at hv
  rcases ptrE_inv hv with ⟨_, h2⟩ | ⟨c, rfl, h2⟩
  · exact absurd h2 (by simp [fl])
  · have : atN N s = c := fl_inj (by simpa using congrArg Prod.fst h2)
    rw [this]
    exact hrun
theorem look_no {w : World} {b n : Nat} {N : Dm} (h : w.ownsMap Try.prog 9 ptrE b n N) (s : ByteArray) (hs : s.size ≤ 1000000000) (hh : hasN N s = false) :
    (Instr.lookup 47 (.map (some b)) (.string s) true).run Try.prog w = .ok (.tuple #[.pointer none, .bool false]) w := by
  obtain ⟨v, ps, hrun, hv⟩ := h.look_ok law Try.underlying47 (zero51 w) ptrE_nil (key_of s hs)
  rw [show Maps.has N (nk s) = false from hh] at hrun
  rw [Maps.atKey_of_not_has hh] at hv
  rcases ptrE_inv hv with ⟨rfl, _⟩ | ⟨c, rfl, h2⟩
  · exact hrun
  · exact absurd h2 (by simp [fl])
theorem look_one {w : World} {b n : Nat} {N : Dm} (h : w.ownsMap Try.prog 9 ptrE b n N) (F : Fil N) (s : ByteArray) (hs : s.size ≤ 1000000000) (hh : hasN N s = true) :
    (Instr.lookup 47 (.map (some b)) (.string s) false).run Try.prog w = .ok (.pointer (some ⟨atN N s, 0, none⟩)) w := by
  obtain ⟨v, ps, hrun, hv⟩ := h.lookup law Try.underlying47 (zero51 w) ptrE_nil (key_of s hs)
  rw [F.at hh] at hv
  rcases ptrE_inv hv with ⟨_, h2⟩ | ⟨c, rfl, h2⟩
  · exact absurd h2 (by simp [fl])
  · have : atN N s = c := fl_inj (by simpa using congrArg Prod.fst h2)
    rw [this]
    exact hrun
theorem find_nil (s : ByteArray) (w : World) : Calls Try.prog 23 #[.pointer none, .string s] w fun e w' => e = .returned (.tuple #[.pointer none, .int .i64 1]) ∧ w' = w := by
  have K1 := Lib.hid (fun w => refuses_nil w)
  go_enter Try.func23, Try.ntmps23
  go_wp2_with (first | (go_at_call 29; ((with_reducible refine (K1.out _).mono ?_); rintro e w' ⟨rfl, rfl⟩)))
  go_ret2
  exact ⟨rfl, rfl⟩
set_option maxRecDepth 100000 in
set_option maxHeartbeats 1000000 in
theorem find_any {w : World} {K : Nat → Prop} {D : Nat} {g : Gh} {st : St} (h : DW w K D g st) (s : ByteArray) (hs : s.size ≤ 1000000000) : Calls Try.prog 23 #[.pointer (some ⟨D, 0, none⟩), .string s] w fun e w' => e = .returned (.tuple #[findV st s, .int .i64 (findE st s : Nat)]) ∧ w' = w := by
  have K1 := Lib.hid (refuses_any h)
  have c1 := h.c1
  have HN := Lib.hid h.names
  have HF := Lib.hid h.filN
  clear h
  unfold findV
  cases hd : st.down
  · have hr : refE st = 0 := by unfold refE; rw [hd]; rfl
    rw [hr] at K1
    cases hh : hasN st.N s
    · have e1 : findE st s = 12 := by unfold findE; rw [hd, hh]; rfl
      rw [e1]
      have HL := look_no HN.out s hs hh
      clear hr hd hh e1 hs
      go_enter Try.func23, Try.ntmps23
      go_wp2_with (first
        | (go_at_call 29; ((with_reducible refine (K1.out).mono ?_); rintro e w' ⟨rfl, rfl⟩)))
      go_ret2
      exact ⟨rfl, rfl⟩
    · have e1 : findE st s = 0 := by unfold findE; rw [hd, hh]; rfl
      rw [e1]
      have HL := look_yes HN.out HF.out s hs hh
      clear hr hd hh e1 hs
      go_enter Try.func23, Try.ntmps23
      go_wp2_with (first
        | (go_at_call 29; ((with_reducible refine (K1.out).mono ?_); rintro e w' ⟨rfl, rfl⟩)))
      go_ret2
      exact ⟨rfl, rfl⟩
  · have hr : refE st = 15 := by unfold refE; rw [hd]; rfl
    rw [hr] at K1
    have e1 : findE st s = 15 := by unfold findE; rw [hd]; rfl
    rw [e1]
    clear hr hd e1 hs
    go_enter Try.func23, Try.ntmps23
    go_wp2_with (first
      | (go_at_call 29; ((with_reducible refine (K1.out).mono ?_); rintro e w' ⟨rfl, rfl⟩)))
    go_ret2
    exact ⟨rfl, rfl⟩
end Go.Proofs.Ytjkpopdjmmgbbaa

namespace Go.Proofs.Ytjkpopdjmmgbbaa
open Go.RowKit Go.Maps

/-- A disk of which its own numbers alone have turned. -/
theorem DW.own_turn {w w' : World} {K : Nat → Prop} {D : Nat} {g : Gh} {st : St} (h : DW w K D g st) (fuse : Int) (steps : Nat) (down : Bool) (hk : Kp (· = D) w w')
    (hb : w'.heap[D]? = some (.cells (dcells g { st with fuse := fuse, steps := steps, down := down }) 50 (0, 0))) (h1 : steps ≤ 1000000000) (h2 : -1000000 ≤ fuse ∧ fuse ≤ 1000000) : DW w' K D g { st with fuse := fuse, steps := steps, down := down } where
  blk := hb
  names := own_keep h.names (hk.block _ h.names.lt (fun e => by obtain ⟨es, cl, he, _⟩ := h.names; have hb := h.blk; have e' : g.bn = D := e; rw [← e', he] at hb; cases hb))
  sure := own_keep h.sure (hk.block _ h.sure.lt (fun e => by obtain ⟨es, cl, he, _⟩ := h.sure; have hb := h.blk; have e' : g.bs = D := e; rw [← e', he] at hb; cases hb))
  ne := h.ne
  row := by
    refine ⟨h.row.1, ?_⟩
    rcases h.row.2 with h1 | ⟨r, cur, h1, h2, h4, h5⟩
    · exact Or.inl h1
    · refine Or.inr ⟨r, cur, h1, h2, (hk.block _ (lt_of_heap h4) (fun e => ?_)).trans h4, h5⟩
      have hb := h.blk
      have e' : r = D := e
      rw [← e', h4] at hb
      simp at hb
  turn := fun i hi => by
    obtain ⟨c0, c1, c2, c3, e0, e1, e2, e3, t0, t1, t2, t3⟩ := h.turn i hi
    refine ⟨c0, c1, c2, c3, e0, e1, e2, e3, t0, t1, t2.keep (fun b cur hbb => (hk.block b (lt_of_heap hbb) (fun e => ?_)).trans hbb), t3⟩
    have hb := h.blk
    have e' : b = D := e
    rw [← e', hbb] at hb
    simp at hb
  file := fun c hc => (hk.block c (lt_of_heap (h.file c hc)) (fun e => by
    have hb := h.blk
    have e' : c = D := e
    have hf := h.file c hc
    rw [e'] at hf
    rw [hf] at hb
    simp at hb)).trans (h.file c hc)
  size := h.size
  filN := h.filN
  filS := h.filS
  few := ⟨h.few.1, h.few.2.1, h1, h.few.2.2.2.1, h2.1, h2.2⟩
  own := ⟨h.own.1, h.own.2.1, h.own.2.2.1, h.own.2.2.2.1, h.own.2.2.2.2.1, fun b hb => Nat.lt_of_lt_of_le (h.own.2.2.2.2.2 b hb) hk.size⟩
def stepE (st : St) : Nat := if st.fuse = 0 then 15 else 0
def stepS (st : St) : St := if st.fuse = 0 then { st with down := true } else { st with fuse := if 0 < st.fuse then st.fuse - 1 else st.fuse, steps := st.steps + 1 }
theorem kp_set (w : World) (D j : Nat) (v : Value) : Kp (· = D) w (w.setCell ⟨D, j, none⟩ v) := (Kp.refl (fun x => x = D) w).setCell (p := ⟨D, j, none⟩) (Or.inl (rfl : D = D)) v
set_option maxRecDepth 100000 in
set_option maxHeartbeats 1000000 in
theorem step_any {w : World} {K : Nat → Prop} {D : Nat} {g : Gh} {st : St} (h : DW w K D g st) (hs : st.steps < 1000000000) : Calls Try.prog 25 #[.pointer (some ⟨D, 0, none⟩)] w fun e w' => e = .returned (.int .i64 (stepE st : Nat)) ∧ DW w' K D g (stepS st) ∧ Kp (· = D) w w' := by
  have c4 := h.c4
  have c5 := h.c5
  have f4 := h.fz 4
  have f5 := h.fz 5
  have f6 := h.fz 6
  have c6 := h.c6
  have HB := Lib.hid h.blk
  have H := Lib.hid h
  have HS := Lib.hid hs
  have few := h.few
  unfold stepE stepS
  by_cases h0 : st.fuse = 0
  · rw [if_pos h0, if_pos h0]
    rw [h0] at c4
    have H0 := Lib.hid h0
    clear h0 h hs few
    go_enter Try.func25, Try.ntmps25
    go_wp2
    go_ret
    refine ⟨rfl, H.out.own_turn st.fuse st.steps true (kp_set _ _ _ _) ?_ (by have := H.out.few; omega) (by have := H.out.few; omega), kp_set _ _ _ _⟩
    rw [heap_setCell_same _ _ _ _ _ _ HB.out]
    rfl
  · rw [if_neg h0, if_neg h0]
    have q0 : ((st.fuse : Int) == 0) = false := by rw [beq_eq_false_iff_ne]; exact h0
    by_cases h1 : 0 < st.fuse
    · rw [if_pos h1]
      obtain ⟨fu, hfu⟩ : ∃ fu, fu = st.fuse := ⟨_, rfl⟩
      obtain ⟨n, hn⟩ : ∃ n, n = st.steps := ⟨_, rfl⟩
      rw [← hfu] at c4 q0 h1 few
      rw [← hn] at c5 few hs
      rw [← hfu, ← hn]
      have HF := Lib.hid (And.intro hfu hn)
      have b1 : fu ≤ 1000000 := few.2.2.2.2.2
      have b2 : (n : Int) < 1000000000 := by omega
      clear h0 h hs few hfu hn
      go_enter Try.func25, Try.ntmps25
      go_wp2
      go_ret
      have kk := (kp_set w D 4 (.int .i64 (fu - 1))).trans (kp_set (w.setCell ⟨D, 4, none⟩ (.int .i64 (fu - 1))) D 5 (.int .i64 ((n : Int) + 1)))
      refine ⟨rfl, H.out.own_turn (fu - 1) (n + 1) st.down kk ?_ (by omega) (by omega), kk⟩
      rw [heap_setCell_same _ _ _ _ _ _ (heap_setCell_same _ _ _ _ _ _ HB.out)]
      rfl
    · rw [if_neg h1]
      obtain ⟨fu, hfu⟩ : ∃ fu, fu = st.fuse := ⟨_, rfl⟩
      obtain ⟨n, hn⟩ : ∃ n, n = st.steps := ⟨_, rfl⟩
      rw [← hfu] at c4 q0 h1 few
      rw [← hn] at c5 few hs
      rw [← hfu, ← hn]
      have HF := Lib.hid (And.intro hfu hn)
      have b1 : -1000000 ≤ fu := few.2.2.2.2.1
      have b2 : (n : Int) < 1000000000 := by omega
      clear h0 h hs few hfu hn
      go_enter Try.func25, Try.ntmps25
      go_wp2
      go_ret
      refine ⟨rfl, H.out.own_turn fu (n + 1) st.down (kp_set _ _ _ _) ?_ (by omega) (by omega), kp_set _ _ _ _⟩
      rw [heap_setCell_same _ _ _ _ _ _ HB.out]
      rw [HF.out.1]
      rfl
theorem fuse_nil (n : Int) (w : World) : Calls Try.prog 15 #[.pointer none, .int .i64 n] w fun e w' => e = .returned (.tuple #[]) ∧ w' = w := by
  go_enter Try.func15, Try.ntmps15
  go_wp2
  exact bodyPost_end (v := .tuple #[]) (by simp [results, Try.results15, go_sem]) rfl ⟨rfl, rfl⟩
set_option maxRecDepth 100000 in
theorem fuse_any {w : World} {K : Nat → Prop} {D : Nat} {g : Gh} {st : St} (h : DW w K D g st) (n : Int) (hn : -1000000 ≤ n ∧ n ≤ 1000000) : Calls Try.prog 15 #[.pointer (some ⟨D, 0, none⟩), .int .i64 n] w fun e w' => e = .returned (.tuple #[]) ∧ DW w' K D g { st with fuse := n } ∧ Kp (· = D) w w' := by
  have f4 := h.fz 4
  have c4 := h.c4
  have HB := Lib.hid h.blk
  have H := Lib.hid h
  have HN := Lib.hid hn
  clear h hn
  go_enter Try.func15, Try.ntmps15
  go_wp2
  refine bodyPost_end (v := .tuple #[]) (by simp [results, Try.results15, go_sem]) rfl ⟨rfl, H.out.own_turn n st.steps st.down (kp_set _ _ _ _) ?_ H.out.few.2.2.1 HN.out, kp_set _ _ _ _⟩
  rw [heap_setCell_same _ _ _ _ _ _ HB.out]
  rfl
end Go.Proofs.Ytjkpopdjmmgbbaa

namespace Go.Proofs.Ytjkpopdjmmgbbaa
open Go.RowKit Go.Maps Go.Sort Go.Shelf

theorem sclone_any (p : ByteArray) (w : World) (hp : p.size ≤ 1000000000) : Calls Try.prog 26 #[.string p] w fun e w' => e = .returned (.string p) ∧ Below w.heap.size w w' := by
  have K1 : Hid (∀ w, Calls Try.prog 36 #[.string p] w fun e w' => e = .returned (.string p) ∧ Below w.heap.size w w') := Lib.hid (fun w => Any.stringslite_Clone Try.laysM316 p w (by omega))
  go_enter Try.func26, Try.ntmps26
  go_wp2_with (first
    | (go_at_call 36; ((with_reducible refine (K1.out _).mono ?_); rintro e w2 ⟨rfl, hb2⟩)))
  go_ret
  exact ⟨rfl, hb2⟩
theorem mclone_any (b n : Nat) (N : Dm) (w : World) (h : w.ownsMap Try.prog 9 ptrE b n N) : Calls Try.prog 30 #[.map (some b)] w fun e w' => e = .returned (.map (some w.heap.size)) ∧ w'.ownsMap Try.prog 9 ptrE w.heap.size n N ∧ Below w.heap.size w w' :=
  (AnyW.maps_Clone_owns Try.clone30 9 ptrE b n N w h).mono fun e w' ⟨he, h1, _, h3⟩ => ⟨he, h1, h3⟩

theorem sorts39 (m : Nat) : AnyZ.SortsIn Try.prog Try.sorted39_ren Fence.wide m :=
  ⟨fun blk off cap ss W hH hblk hsz => callsIn_wide.2 (AnyM.slices_Sort_string Try.sort43 blk off cap ss W hH hblk hsz),
   fun p cap W => callsIn_wide.2 (AnyM.slices_Sort_string_none Try.sort43 p cap W)⟩
theorem keys40 (mb : Option Nat) (W : World) : CallsIn Fence.wide 5 Try.prog 40 #[.map mb] W fun e w' => e = .returned (.func (.func 44) #[] #[.pointer (some ⟨W.heap.size, 0, none⟩)]) ∧ w' = W.alloc (.cells #[.map mb] 47) :=
  AnyZ.keys_in Try.keys40 Fence.wide 5 trivial rfl mb W
set_option maxHeartbeats 1000000 in
theorem sorted39 (b nn : Nat) (D0 : Dm) (w : World) (hown : w.ownsMap Try.prog 9 ptrE b nn D0) (hmax : Maps.size D0 ≤ maxLen) (hbytes : Maps.size D0 * 16 ≤ 140737488355328) :
    CallsIn Fence.wide 5 Try.prog 39 #[.func (.func 44) #[] #[.pointer (some ⟨w.heap.size, 0, none⟩)]] (w.alloc (.cells #[.map (some b)] 47)) fun e w' => ∃ (v : Value) (ss : List (List UInt8)), e = .returned v ∧ ss.Perm (strKeys D0) ∧
      w'.ownsRow (w.alloc (.cells #[.map (some b)] 47)).heap.size 9 1 v ss.length ((ss.mergeSort (fun x y => decide (x ≤ y))).map encStr) ∧ (v = .slice none 0 0 ↔ ss = []) ∧ Below (w.alloc (.cells #[.map (some b)] 47)).heap.size (w.alloc (.cells #[.map (some b)] 47)) w' := by
  have hbl := hown.lt
  have hseq : SeqGives Fence.wide 2 Try.prog 44 #[.pointer (some ⟨w.heap.size, 0, none⟩)] encStr (fun ss => ss.Perm (strKeys D0)) (Maps.size D0) (w.alloc (.cells #[.map (some b)] 47)) :=
    AnyZ.keys_gives (ρ := Try.keys40_ren) { Try.keys40 with } Fence.wide _ trivial rfl (by omega) w.heap.size b nn D0 _ (by simp) (by simp) (by
      obtain ⟨es, clock, hb, Ft, hs, hD⟩ := hown
      exact ⟨es, clock, (Below.heap_alloc _ _ b hbl).trans hb, Ft, hs, hD⟩)
  exact AnyZ.sorted_in Try.sorted39 Fence.wide 5 trivial trivial trivial trivial rfl (by omega) (sorts39 _) (enters_of Try.func43 (by kernel_rfl) rfl) 44 #[.pointer (some ⟨w.heap.size, 0, none⟩)] trivial (enters_of Try.func44 (by kernel_rfl) rfl) _ _ hmax hbytes _ hseq

/-- A map's names, in order. -/
def keysN (D : Dm) : List (List UInt8) := (strKeys D).mergeSort (fun x y => decide (x ≤ y))
theorem keysN_of {D : Dm} {ss : List (List UInt8)} (h : ss.Perm (strKeys D)) : ss.mergeSort (fun x y => decide (x ≤ y)) = keysN D := by
  exact mergeSort_of_perm h
theorem rising_any (b nn : Nat) (N : Dm) (w : World) (hown : w.ownsMap Try.prog 9 ptrE b nn N) (hn : nn ≤ 1000000) :
    Calls Try.prog 35 #[.map (some b)] w fun e w' => ∃ v, e = .returned v ∧ w'.ownsRow w.heap.size 9 1 v (keysN N).length ((keysN N).map encStr) ∧ Below w.heap.size w w' := by
  have hsz := hown.size_le
  have h1 : Maps.size N ≤ maxLen := by unfold maxLen; omega
  have h2 : Maps.size N * 16 ≤ 140737488355328 := by omega
  have hfK : Fence.wide.fn 40 := trivial
  have hfS : Fence.wide.fn 39 := trivial
  refine (callsIn_wide (n := 6)).1 ?_
  refine callsIn_of_wp Try.func35 rfl trivial ?_ rfl
  simp only [Try.ntmps35, List.size_toArray, List.length_cons, List.length_nil, Nat.reduceAdd, Nat.reduceSub, Array.replicate_succ, Array.replicate_zero, List.push_toArray, List.append_toArray, List.nil_append, List.cons_append]
  gi_wp2_with (first
    | (gi_at_call 40; refine (keys40 _ _).mono ?_; rintro e w' ⟨rfl, rfl⟩)
    | (gi_at_call 39; refine (sorted39 b nn N w hown h1 h2).mono ?_; rintro e w' ⟨v, ss, rfl, hS, hrow, hnil, hb⟩))
  go_ret
  have hk := keysN_of hS
  have hl : ss.length = (keysN N).length := by rw [← hk, List.length_mergeSort]
  rw [hk, hl] at hrow
  exact ⟨v, rfl, ownsRow_base_a hrow (by simp), ((Below.refl _ w).alloc (Nat.le_refl _) _).trans (hb.mono (by simp))⟩
end Go.Proofs.Ytjkpopdjmmgbbaa
