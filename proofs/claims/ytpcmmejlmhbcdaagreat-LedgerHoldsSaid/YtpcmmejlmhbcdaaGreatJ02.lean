/- The library's own: a text copied, a map copied, a map's names in order.; Read; Sync; SyncDir.; SyncDir; a disk's blocks and those that are new.; Prints and entries in memory; the order of prints. -/
import Derived.Test.YtpcmmejlmhbcdaaGreatJ00
import Derived.Test.YtpcmmejlmhbcdaaGreatJ01
import Derived.Lib.Bytealg
import Derived.Lib.BytesEntry
import Derived.Deep.MidRow
set_option linter.unusedVariables false
set_option linter.unusedSimpArgs false
namespace Go.Proofs.YtpcmmejlmhbcdaaGreat.Dk
open Go.RowKit Go.Maps Go.Sort Go.Shelf

theorem sclone_any (p : ByteArray) (w : World) (hp : p.size ≤ 1000000000) : Calls Tryz.prog 92 #[.string p] w fun e w' => e = .returned (.string p) ∧ Below w.heap.size w w' := by
  have K1 : Hid (∀ w, Calls Tryz.prog 110 #[.string p] w fun e w' => e = .returned (.string p) ∧ Below w.heap.size w w') := Lib.hid (fun w => Any.stringslite_Clone Tryz.laysM316 p w (by omega))
  go_enter Tryz.func92, Tryz.ntmps92
  go_wp2_with (first
    | (go_at_call 110; ((with_reducible refine (K1.out _).mono ?_); rintro e w2 ⟨rfl, hb2⟩)))
  go_ret
  exact ⟨rfl, hb2⟩
theorem mclone_any (b n : Nat) (N : Dm) (w : World) (h : w.ownsMap Tryz.prog 9 ptrE b n N) : Calls Tryz.prog 50 #[.map (some b)] w fun e w' => e = .returned (.map (some w.heap.size)) ∧ w'.ownsMap Tryz.prog 9 ptrE w.heap.size n N ∧ Below w.heap.size w w' :=
  (AnyW.maps_Clone_owns Tryz.clone30 9 ptrE b n N w h).mono fun e w' ⟨he, h1, _, h3⟩ => ⟨he, h1, h3⟩

theorem sorts39 (m : Nat) : AnyZ.SortsIn Tryz.prog Tryz.sorted39_ren Fence.wide m :=
  ⟨fun blk off cap ss W hH hblk hsz => callsIn_wide.2 (AnyM.slices_Sort_string Tryz.sort43 blk off cap ss W hH hblk hsz),
   fun p cap W => callsIn_wide.2 (AnyM.slices_Sort_string_none Tryz.sort43 p cap W)⟩
theorem keys40 (mb : Option Nat) (W : World) : CallsIn Fence.wide 5 Tryz.prog 104 #[.map mb] W fun e w' => e = .returned (.func (.func 114) #[] #[.pointer (some ⟨W.heap.size, 0, none⟩)]) ∧ w' = W.alloc (.cells #[.map mb] 97) :=
  AnyZ.keys_in Tryz.keys40 Fence.wide 5 trivial rfl mb W
set_option maxHeartbeats 1000000 in
theorem sorted39 (b nn : Nat) (D0 : Dm) (w : World) (hown : w.ownsMap Tryz.prog 9 ptrE b nn D0) (hmax : Maps.size D0 ≤ maxLen) (hbytes : Maps.size D0 * 16 ≤ 140737488355328) :
    CallsIn Fence.wide 5 Tryz.prog 103 #[.func (.func 114) #[] #[.pointer (some ⟨w.heap.size, 0, none⟩)]] (w.alloc (.cells #[.map (some b)] 97)) fun e w' => ∃ (v : Value) (ss : List (List UInt8)), e = .returned v ∧ ss.Perm (strKeys D0) ∧
      w'.ownsRow (w.alloc (.cells #[.map (some b)] 97)).heap.size 9 1 v ss.length ((ss.mergeSort (fun x y => decide (x ≤ y))).map encStr) ∧ (v = .slice none 0 0 ↔ ss = []) ∧ Below (w.alloc (.cells #[.map (some b)] 97)).heap.size (w.alloc (.cells #[.map (some b)] 97)) w' := by
  have hbl := hown.lt
  have hseq : SeqGives Fence.wide 2 Tryz.prog 114 #[.pointer (some ⟨w.heap.size, 0, none⟩)] encStr (fun ss => ss.Perm (strKeys D0)) (Maps.size D0) (w.alloc (.cells #[.map (some b)] 97)) :=
    AnyZ.keys_gives (ρ := Tryz.keys40_ren) { Tryz.keys40 with } Fence.wide _ trivial rfl (by omega) w.heap.size b nn D0 _ (by simp) (by simp) (by
      obtain ⟨es, clock, hb, Ft, hs, hD⟩ := hown
      exact ⟨es, clock, (Below.heap_alloc _ _ b hbl).trans hb, Ft, hs, hD⟩)
  exact AnyZ.sorted_in Tryz.sorted39 Fence.wide 5 trivial trivial trivial trivial rfl (by omega) (sorts39 _) (enters_of Tryz.func113 (by kernel_rfl) rfl) 114 #[.pointer (some ⟨w.heap.size, 0, none⟩)] trivial (enters_of Tryz.func114 (by kernel_rfl) rfl) _ _ hmax hbytes _ hseq

/-- A map's names, in order. -/
def keysN (D : Dm) : List (List UInt8) := (strKeys D).mergeSort (fun x y => decide (x ≤ y))
theorem keysN_of {D : Dm} {ss : List (List UInt8)} (h : ss.Perm (strKeys D)) : ss.mergeSort (fun x y => decide (x ≤ y)) = keysN D := by
  exact mergeSort_of_perm h
theorem rising_any (b nn : Nat) (N : Dm) (w : World) (hown : w.ownsMap Tryz.prog 9 ptrE b nn N) (hn : nn ≤ 1000000) :
    Calls Tryz.prog 76 #[.map (some b)] w fun e w' => ∃ v, e = .returned v ∧ w'.ownsRow w.heap.size 9 1 v (keysN N).length ((keysN N).map encStr) ∧ Below w.heap.size w w' := by
  have hsz := hown.size_le
  have h1 : Maps.size N ≤ maxLen := by unfold maxLen; omega
  have h2 : Maps.size N * 16 ≤ 140737488355328 := by omega
  have hfK : Fence.wide.fn 104 := trivial
  have hfS : Fence.wide.fn 103 := trivial
  refine (callsIn_wide (n := 6)).1 ?_
  refine callsIn_of_wp Tryz.func76 rfl trivial ?_ rfl
  simp only [Tryz.ntmps76, List.size_toArray, List.length_cons, List.length_nil, Nat.reduceAdd, Nat.reduceSub, Array.replicate_succ, Array.replicate_zero, List.push_toArray, List.append_toArray, List.nil_append, List.cons_append]
  gi_wp2_with (first
    | (gi_at_call 104; refine (keys40 _ _).mono ?_; rintro e w' ⟨rfl, rfl⟩)
    | (gi_at_call 103; refine (sorted39 b nn N w hown h1 h2).mono ?_; rintro e w' ⟨v, ss, rfl, hS, hrow, hnil, hb⟩))
  go_ret
  have hk := keysN_of hS
  have hl : ss.length = (keysN N).length := by rw [← hk, List.length_mergeSort]
  rw [hk, hl] at hrow
  exact ⟨v, rfl, ownsRow_base_a hrow (by simp), ((Below.refl _ w).alloc (Nat.le_refl _) _).trans (hb.mono (by simp))⟩
end Go.Proofs.YtpcmmejlmhbcdaaGreat.Dk

namespace Go.Proofs.YtpcmmejlmhbcdaaGreat.Dk
open Go.RowKit Go.Maps

theorem findE_zero {st : St} {s : ByteArray} (h : findE st s = 0) : st.down = false ∧ hasN st.N s = true := by
  unfold findE at h
  cases hd : st.down
  · rw [hd] at h
    cases hh : hasN st.N s
    · rw [hh] at h; simp at h
    · exact ⟨rfl, rfl⟩
  · rw [hd] at h; simp at h
theorem findE_le (st : St) (s : ByteArray) : findE st s ≤ 15 := by unfold findE; split; omega; split <;> omega
theorem stepE_le (st : St) : stepE st ≤ 15 := by unfold stepE; split <;> omega
theorem findV_zero {st : St} {s : ByteArray} (h : findE st s = 0) : findV st s = .pointer (some ⟨atN st.N s, 0, none⟩) := if_pos h

/-- What a name's text is. -/
def readS (st : St) (s : ByteArray) : ByteArray := if findE st s = 0 then (st.F (atN st.N s)).1 else ⟨#[]⟩
theorem read_nil (s : ByteArray) (w : World) : Calls Tryz.prog 79 #[.pointer none, .string s] w fun e w' => e = .returned (.tuple #[.string ⟨#[]⟩, .int .i64 1]) ∧ w' = w := by
  have K1 := Lib.hid (fun w => find_nil s w)
  go_enter Tryz.func79, Tryz.ntmps79
  go_wp2_with (first | (go_at_call 95; ((with_reducible refine (K1.out _).mono ?_); rintro e w' ⟨rfl, rfl⟩)))
  go_ret2
  exact ⟨rfl, rfl⟩
set_option maxRecDepth 100000 in
set_option maxHeartbeats 1000000 in
theorem read_any {w : World} {K : Nat → Prop} {D : Nat} {g : Gh} {st : St} (h : DW w K D g st) (s : ByteArray) (hs : s.size ≤ 1000000000) : Calls Tryz.prog 79 #[.pointer (some ⟨D, 0, none⟩), .string s] w fun e w' => e = .returned (.tuple #[.string (readS st s), .int .i64 (findE st s : Nat)]) ∧ Below w.heap.size w w' := by
  have K1 := Lib.hid (find_any h s hs)
  by_cases h0 : findE st s = 0
  · obtain ⟨_, hh⟩ := findE_zero h0
    have hl := h.filN.live hh
    have hf := h.file _ hl
    have c0 : w.cell? ⟨atN st.N s, 0, none⟩ = some (.string (st.F (atN st.N s)).1) := cell_of_row w _ 0 _ _ _ hf
    have hz := (h.size _ hl).1
    have hr : readS st s = (st.F (atN st.N s)).1 := if_pos h0
    rw [hr, h0]
    rw [findV_zero h0, h0] at K1
    have K2 := Lib.hid (fun wy => sclone_any (st.F (atN st.N s)).1 wy (by omega))
    obtain ⟨c, hc⟩ : ∃ c, c = atN st.N s := ⟨_, rfl⟩
    rw [← hc] at c0 K1 K2 ⊢
    generalize (st.F c).1 = t at *
    clear h h0 hh hl hf hz hr hs hc
    go_enter Tryz.func79, Tryz.ntmps79
    go_wp2_with (first
      | (go_at_call 95; ((with_reducible refine (K1.out).mono ?_); rintro e w' ⟨rfl, rfl⟩))
      | (go_at_call 92; ((with_reducible refine (K2.out _).mono ?_); rintro e w2 ⟨rfl, hb2⟩)))
    go_ret2
    exact ⟨rfl, hb2⟩
  · have hr : readS st s = ⟨#[]⟩ := if_neg h0
    have hv : findV st s = .pointer none := if_neg h0
    rw [hr]
    rw [hv] at K1
    have q : (((findE st s : Nat) : Int) != 0) = true := by rw [bne_iff_ne]; omega
    generalize findE st s = e0 at *
    clear h h0 hr hv hs
    go_enter Tryz.func79, Tryz.ntmps79
    go_wp2_with (first
      | (go_at_call 95; ((with_reducible refine (K1.out).mono ?_); rintro e w' ⟨rfl, rfl⟩)))
    go_ret2
    exact ⟨rfl, Below.refl _ _⟩

/-- A step of what has a name. -/
def onE (st : St) (s : ByteArray) : Nat := if findE st s = 0 then stepE st else findE st s
def onS (st : St) (s : ByteArray) : St := if findE st s = 0 then stepS st else st
theorem on_nil (s : ByteArray) (w : World) : Calls Tryz.prog 101 #[.pointer none, .string s] w fun e w' => e = .returned (.tuple #[.pointer none, .int .i64 1]) ∧ w' = w := by
  have K1 := Lib.hid (fun w => find_nil s w)
  go_enter Tryz.func101, Tryz.ntmps101
  go_wp2_with (first | (go_at_call 95; ((with_reducible refine (K1.out _).mono ?_); rintro e w' ⟨rfl, rfl⟩)))
  go_ret2
  exact ⟨rfl, rfl⟩
set_option maxRecDepth 100000 in
set_option maxHeartbeats 1000000 in
theorem on_any {w : World} {K : Nat → Prop} {D : Nat} {g : Gh} {st : St} (h : DW w K D g st) (hst : st.steps < 1000000000) (s : ByteArray) (hs : s.size ≤ 1000000000) : Calls Tryz.prog 101 #[.pointer (some ⟨D, 0, none⟩), .string s] w fun e w' => e = .returned (.tuple #[findV st s, .int .i64 (onE st s : Nat)]) ∧ DW w' K D g (onS st s) ∧ Kp (· = D) w w' := by
  have K1 := Lib.hid (find_any h s hs)
  unfold onE onS
  by_cases h0 : findE st s = 0
  · rw [if_pos h0, if_pos h0]
    rw [h0] at K1
    have K2 := Lib.hid (step_any h hst)
    generalize findV st s = v at *
    generalize stepE st = e1 at *
    clear h h0 hs hst
    go_enter Tryz.func101, Tryz.ntmps101
    go_wp2_with (first
      | (go_at_call 95; ((with_reducible refine (K1.out).mono ?_); rintro e w' ⟨rfl, rfl⟩))
      | (go_at_call 98; ((with_reducible refine (K2.out).mono ?_); rintro e w2 ⟨rfl, hd2, hk2⟩)))
    go_ret2
    exact ⟨rfl, hd2, hk2⟩
  · rw [if_neg h0, if_neg h0]
    have q : (((findE st s : Nat) : Int) == 0) = false := by rw [beq_eq_false_iff_ne]; omega
    have H := Lib.hid h
    generalize findV st s = v at *
    generalize findE st s = e0 at *
    clear h h0 hs hst
    go_enter Tryz.func101, Tryz.ntmps101
    go_wp2_with (first
      | (go_at_call 95; ((with_reducible refine (K1.out).mono ?_); rintro e w' ⟨rfl, rfl⟩)))
    go_ret2
    exact ⟨rfl, H.out, Kp.refl _ _⟩

/-- Of one file it is another text. -/
def setF (F : Nat → ByteArray × ByteArray) (c : Nat) (p : ByteArray × ByteArray) : Nat → ByteArray × ByteArray := fun x => if x = c then p else F x
theorem DW.file_turn {w w' : World} {K : Nat → Prop} {D : Nat} {g : Gh} {st : St} (h : DW w K D g st) (c : Nat) (hc : st.live c) (p : ByteArray × ByteArray) (hk : Kp (· = c) w w')
    (hb : w'.heap[c]? = some (.cells #[.string p.1, .string p.2] 111 (0, 0))) (hp : p.1.size ≤ 100000 ∧ p.2.size ≤ 100000) : DW w' K D g { st with F := setF st.F c p } := by
  have hf := h.file c hc
  have ne : ∀ (b : Nat) (o : Obj), w.heap[b]? = some o → o ≠ .cells #[.string (st.F c).1, .string (st.F c).2] 111 (0, 0) → w'.heap[b]? = some o := fun b o hbo hne =>
    (hk.block b (lt_of_heap hbo) (fun e => hne (by have e' : b = c := e; rw [e', hf] at hbo; exact (Option.some.inj hbo).symm))).trans hbo
  refine ⟨ne _ _ h.blk (by simp [dcells]), ?_, ?_, h.ne, ?_, ?_, ?_, ?_, h.filN, h.filS, h.few, ⟨h.own.1, h.own.2.1, h.own.2.2.1, h.own.2.2.2.1, h.own.2.2.2.2.1, fun b hb => Nat.lt_of_lt_of_le (h.own.2.2.2.2.2 b hb) hk.size⟩⟩
  · obtain ⟨es, cl, he, hr⟩ := h.names
    exact ⟨es, cl, ne _ _ he (by simp), hr⟩
  · obtain ⟨es, cl, he, hr⟩ := h.sure
    exact ⟨es, cl, ne _ _ he (by simp), hr⟩
  · refine ⟨h.row.1, ?_⟩
    rcases h.row.2 with h1 | ⟨r, cur, h1, h2, h4, h5⟩
    · exact Or.inl h1
    · exact Or.inr ⟨r, cur, h1, h2, ne _ _ h4 (by simp), h5⟩
  · intro i hi
    obtain ⟨c0, c1, c2, c3, e0, e1, e2, e3, t0, t1, t2, t3⟩ := h.turn i hi
    exact ⟨c0, c1, c2, c3, e0, e1, e2, e3, t0, t1, t2.keep (fun b cur hbb => ne _ _ hbb (by simp)), t3⟩
  · intro x hx
    have hx' : st.live x := hx
    show w'.heap[x]? = some (.cells #[.string (setF st.F c p x).1, .string (setF st.F c p x).2] 111 (0, 0))
    by_cases e : x = c
    · have hp' : setF st.F c p x = p := if_pos e
      rw [hp', e]
      exact hb
    · have hp' : setF st.F c p x = st.F x := if_neg e
      rw [hp']
      exact (hk.block x (lt_of_heap (h.file x hx')) e).trans (h.file x hx')
  · intro x hx
    have hx' : st.live x := hx
    show (setF st.F c p x).1.size ≤ 100000 ∧ (setF st.F c p x).2.size ≤ 100000
    by_cases e : x = c
    · have hp' : setF st.F c p x = p := if_pos e
      rw [hp']; exact hp
    · have hp' : setF st.F c p x = st.F x := if_neg e
      rw [hp']; exact h.size x hx'
theorem two_cells {w : World} {c : Nat} {a b : ByteArray} (h : w.heap[c]? = some (.cells #[.string a, .string b] 111 (0, 0))) : w.cell? ⟨c, 0, none⟩ = some (.string a) ∧ w.cell? ⟨c, 1, none⟩ = some (.string b) ∧ w.frozen? ⟨c, 0, none⟩ = false ∧ w.frozen? ⟨c, 1, none⟩ = false :=
  ⟨cell_of_row w c 0 _ _ _ h, cell_of_row w c 1 _ _ _ h, frozen_of_row w c 0 _ _ h, frozen_of_row w c 1 _ _ h⟩

def syncE (st : St) (s : ByteArray) : Nat := onE st s
def syncS (st : St) (s : ByteArray) : St := if onE st s = 0 then { onS st s with F := setF st.F (atN st.N s) ((st.F (atN st.N s)).1, (st.F (atN st.N s)).1) } else onS st s
theorem stepS_N (st : St) : (stepS st).N = st.N ∧ (stepS st).F = st.F ∧ (stepS st).S = st.S ∧ (stepS st).P = st.P ∧ (stepS st).room = st.room := by unfold stepS; split <;> exact ⟨rfl, rfl, rfl, rfl, rfl⟩
theorem stepS_live (st : St) (c : Nat) : (stepS st).live c ↔ st.live c := by
  obtain ⟨h1, _, h3, h4, _⟩ := stepS_N st
  unfold St.live
  rw [h1, h3, h4]
theorem kp_file (w : World) (c j : Nat) (v : Value) : Kp (· = c) w (w.setCell ⟨c, j, none⟩ v) := kp_set w c j v
theorem sync_nil (s : ByteArray) (w : World) : Calls Tryz.prog 72 #[.pointer none, .string s] w fun e w' => e = .returned (.int .i64 1) ∧ w' = w := by
  have K1 := Lib.hid (fun w => on_nil s w)
  go_enter Tryz.func72, Tryz.ntmps72
  go_wp2_with (first | (go_at_call 101; ((with_reducible refine (K1.out _).mono ?_); rintro e w' ⟨rfl, rfl⟩)))
  go_ret
  exact ⟨rfl, rfl⟩
set_option maxRecDepth 100000 in
set_option maxHeartbeats 1000000 in
theorem sync_any {w : World} {K : Nat → Prop} {D : Nat} {g : Gh} {st : St} (h : DW w K D g st) (hst : st.steps < 1000000000) (s : ByteArray) (hs : s.size ≤ 1000000000) : Calls Tryz.prog 72 #[.pointer (some ⟨D, 0, none⟩), .string s] w fun e w' => e = .returned (.int .i64 (syncE st s : Nat)) ∧ DW w' K D g (syncS st s) ∧ Kp K w w' := by
  have K1 := Lib.hid (on_any h hst s hs)
  have HK := Lib.hid h.own
  unfold syncE syncS
  by_cases h0 : onE st s = 0
  · rw [if_pos h0, h0]
    rw [h0] at K1
    have h1 : findE st s = 0 := by
      unfold onE at h0
      split at h0
      · assumption
      · exact h0
    obtain ⟨_, hh⟩ := findE_zero h1
    have hl := Lib.hid (h.filN.live hh)
    have HSZ := Lib.hid (h.size _ hl.out)
    rw [findV_zero h1] at K1
    have HS : Hid (onS st s = stepS st) := Lib.hid (if_pos h1)
    clear h h0 h1 hh hs hst
    obtain ⟨c, hc⟩ : ∃ c, c = atN st.N s := ⟨_, rfl⟩
    rw [← hc] at K1 hl HSZ ⊢
    clear hc
    have K2 : Hid (Calls Tryz.prog 101 #[.pointer (some ⟨D, 0, none⟩), .string s] w fun e w' => e = .returned (.tuple #[.pointer (some ⟨c, 0, none⟩), .int .i64 0]) ∧ Hid (DW w' K D g (onS st s)) ∧ Hid (Kp (· = D) w w') ∧ Hid ((onS st s).live c ∧ (onS st s).F = st.F) ∧ w'.heap[c]? = some (.cells #[.string (st.F c).1, .string (st.F c).2] 111 (0, 0))) := Lib.hid (K1.out.mono (fun e w' ⟨he, hd, hk⟩ => by
      have hl1 : (onS st s).live c := by rw [HS.out]; exact (stepS_live st c).2 hl.out
      have hF : (onS st s).F = st.F := by rw [HS.out]; exact (stepS_N st).2.1
      have hf := hd.file c hl1
      rw [hF] at hf
      exact ⟨he, Lib.hid hd, Lib.hid hk, Lib.hid ⟨hl1, hF⟩, hf⟩))
    clear K1
    obtain ⟨ta, hta⟩ : ∃ ta, ta = (st.F c).1 := ⟨_, rfl⟩
    obtain ⟨tb, htb⟩ : ∃ tb, tb = (st.F c).2 := ⟨_, rfl⟩
    rw [← hta, ← htb] at K2 HSZ
    rw [← hta]
    clear hta htb
    go_enter Tryz.func72, Tryz.ntmps72
    go_wp2_with (first
      | (go_at_call 101; ((with_reducible refine (K2.out).mono ?_); rintro e w1 ⟨rfl, HD1, HK1, HL1, hf1⟩; have HF1 := Lib.hid hf1; obtain ⟨d0, d1, f0, f1⟩ := two_cells hf1; clear hf1)))
    go_ret
    have hset := heap_setCell_same w1 c 1 _ _ (.string ta) HF1.out
    refine ⟨rfl, ?_, ?_⟩
    · have := HD1.out.file_turn c HL1.out.1 (ta, ta) (kp_file w1 c 1 _) (by rw [hset]; rfl) ⟨HSZ.out.1, HSZ.out.1⟩
      rw [HL1.out.2] at this
      exact this
    · refine (HK1.out.mono (fun i _ e => ?_)).trans ((kp_file w1 c 1 _).mono (fun i _ e => ?_))
      · have e' : i = D := e
        rw [e']; exact HK.out.1
      · have e' : i = c := e
        rw [e']; exact HK.out.2.2.2.2.1 c hl.out
  · rw [if_neg h0]
    have q : (((onE st s : Nat) : Int) != 0) = true := by rw [bne_iff_ne]; omega
    generalize onE st s = e0 at *
    generalize findV st s = v at *
    clear h h0 hs hst
    go_enter Tryz.func72, Tryz.ntmps72
    go_wp2_with (first
      | (go_at_call 101; ((with_reducible refine (K1.out).mono ?_); rintro e w1 ⟨rfl, hd1, hk1⟩; have HD1 := Lib.hid hd1; have HK1 := Lib.hid hk1; clear hd1 hk1)))
    go_ret
    exact ⟨rfl, HD1.out, HK1.out.mono (fun i _ e => by have e' : i = D := e; rw [e']; exact HK.out.1)⟩
end Go.Proofs.YtpcmmejlmhbcdaaGreat.Dk

namespace Go.Proofs.YtpcmmejlmhbcdaaGreat.Dk
open Go.RowKit Go.Maps

/-- Blocks of a kind, and those that are new. -/
def Kn (K : Nat → Prop) (w w' : World) : Nat → Prop := fun b => K b ∨ (w.heap.size ≤ b ∧ b < w'.heap.size)
theorem DW.wide {w : World} {K K' : Nat → Prop} {D : Nat} {g : Gh} {st : St} (h : DW w K D g st) (hk : ∀ b, K b → K' b) (hl : ∀ b, K' b → b < w.heap.size) : DW w K' D g st :=
  ⟨h.blk, h.names, h.sure, h.ne, h.row, h.turn, h.file, h.size, h.filN, h.filS, h.few, ⟨hk _ h.own.1, hk _ h.own.2.1, hk _ h.own.2.2.1, fun r hr => hk _ (h.own.2.2.2.1 r hr), fun c hc => hk _ (h.own.2.2.2.2.1 c hc), hl⟩⟩
theorem DW.kn {w w' : World} {K : Nat → Prop} {D : Nat} {g : Gh} {st : St} (h : DW w' K D g st) : DW w' (Kn K w w') D g st :=
  h.wide (fun b hb => Or.inl hb) (fun b hb => by rcases hb with hb | hb; exact h.own.2.2.2.2.2 b hb; exact hb.2)
theorem Kn.trans {K : Nat → Prop} {w w1 w2 : World} (h1 : w.heap.size ≤ w1.heap.size) (h2 : w1.heap.size ≤ w2.heap.size) (b : Nat) (h : Kn (Kn K w w1) w1 w2 b) : Kn K w w2 b := by
  rcases h with (h | h) | h
  · exact Or.inl h
  · exact Or.inr ⟨h.1, by omega⟩
  · exact Or.inr ⟨by omega, h.2⟩
/-- What two calls, one behind the other, leave. -/
theorem Kp.andKn {K : Nat → Prop} {a b c : World} (h : Kp K a b) (k : Kp (Kn K a b) b c) : Kp K a c :=
  h.step k (fun i hi hk => by rcases hk with hk | hk; exact hk; omega)
theorem DW.andKn {K : Nat → Prop} {a b c : World} {D : Nat} {g : Gh} {st : St} (h1 : a.heap.size ≤ b.heap.size) (h : DW c (Kn (Kn K a b) b c) D g st) (h2 : b.heap.size ≤ c.heap.size) : DW c (Kn K a c) D g st :=
  h.wide (fun i hi => Kn.trans h1 h2 i hi) (fun i hi => by
    rcases hi with hi | hi
    · exact h.own.2.2.2.2.2 i (Or.inl (Or.inl hi))
    · exact hi.2)

theorem DW.sd {w : World} {K K' : Nat → Prop} {D : Nat} {g : Gh} {st : St} (h : DW w K D g st) (nb : Nat) (hnb : w.ownsMap Tryz.prog 9 ptrE nb g.nn st.N) (hne : g.bn ≠ nb) (hk : ∀ b, K b → K' b) (hn : K' nb) (hl : ∀ b, K' b → b < w.heap.size) :
    DW ((w.setCell ⟨D, 2, none⟩ (.map (some nb))).setCell ⟨D, 3, none⟩ (.slice none 0 0)) K' D { g with bs := nb, o := none, cap := 0, ρ := none, xs := [] } { st with S := st.N, P := [] } := by
  have kk : Kp (· = D) w ((w.setCell ⟨D, 2, none⟩ (.map (some nb))).setCell ⟨D, 3, none⟩ (.slice none 0 0)) := (kp_set _ _ _ _).trans (kp_set _ _ _ _)
  have ne : ∀ (b : Nat) (o : Obj), w.heap[b]? = some o → o ≠ .cells (dcells g st) 100 (0, 0) → ((w.setCell ⟨D, 2, none⟩ (.map (some nb))).setCell ⟨D, 3, none⟩ (.slice none 0 0)).heap[b]? = some o := fun b o hbo hne =>
    (kk.block b (lt_of_heap hbo) (fun e => hne (by have e' : b = D := e; have hb := h.blk; rw [e', hb] at hbo; exact (Option.some.inj hbo).symm))).trans hbo
  have live : ∀ c, ({ st with S := st.N, P := [] } : St).live c → st.live c := fun c hc => by
    rcases hc with hc | hc | ⟨t, ht, _⟩
    · exact Or.inl hc
    · exact Or.inl hc
    · cases ht
  refine ⟨?_, ?_, ?_, hne, ⟨rfl, Or.inl ⟨rfl, rfl, rfl, rfl⟩⟩, fun i hi => absurd hi (by simp), ?_, fun c hc => h.size c (live c hc), h.filN, h.filN, ⟨h.few.1, by simp, h.few.2.2⟩, ⟨hk _ h.own.1, hk _ h.own.2.1, hn, fun r hr => (by cases hr), fun c hc => hk _ (h.own.2.2.2.2.1 c (live c hc)), fun b hb => Nat.lt_of_lt_of_le (hl b hb) kk.size⟩⟩
  · rw [heap_setCell_same _ _ _ _ _ _ (heap_setCell_same _ _ _ _ _ _ h.blk)]
    rfl
  · obtain ⟨es, cl, he, hr⟩ := h.names
    exact ⟨es, cl, ne _ _ he (by simp), hr⟩
  · obtain ⟨es, cl, he, hr⟩ := hnb
    exact ⟨es, cl, ne _ _ he (by simp), hr⟩
  · intro c hc
    exact ne _ _ (h.file c (live c hc)) (by simp [dcells])

def sdE (st : St) : Nat := if st.down then 15 else stepE st
def sdS (st : St) : St := if sdE st = 0 then { stepS st with S := (stepS st).N, P := [] } else if st.down then st else stepS st
theorem sd_nil (w : World) : Calls Tryz.prog 74 #[.pointer none] w fun e w' => e = .returned (.int .i64 1) ∧ w' = w := by
  have K1 := Lib.hid (fun w => refuses_nil w)
  go_enter Tryz.func74, Tryz.ntmps74
  go_wp2_with (first | (go_at_call 102; ((with_reducible refine (K1.out _).mono ?_); rintro e w' ⟨rfl, rfl⟩)))
  go_ret
  exact ⟨rfl, rfl⟩
set_option maxRecDepth 100000 in
set_option maxHeartbeats 1000000 in
theorem sd_any {w : World} {K : Nat → Prop} {D : Nat} {g : Gh} {st : St} (h : DW w K D g st) (hst : st.steps < 1000000000) : Calls Tryz.prog 74 #[.pointer (some ⟨D, 0, none⟩)] w fun e w' => e = .returned (.int .i64 (sdE st : Nat)) ∧ (∃ g', DW w' (Kn K w w') D g' (sdS st) ∧ g'.nn = g.nn) ∧ Kp K w w' := by
  have K1 := Lib.hid (refuses_any h)
  have H := Lib.hid h
  cases hd : st.down
  · have hr : refE st = 0 := by unfold refE; rw [hd]; rfl
    have he : sdE st = stepE st := by unfold sdE; rw [hd]; rfl
    rw [hr] at K1
    have K2 := Lib.hid (step_any h hst)
    by_cases h0 : stepE st = 0
    · have hS : sdS st = { stepS st with S := (stepS st).N, P := [] } := by unfold sdS; rw [he, if_pos h0]
      rw [he, hS, h0]
      rw [h0] at K2
      clear h hst hd hr he hS h0
      have K3 : Hid (Calls Tryz.prog 98 #[.pointer (some ⟨D, 0, none⟩)] w fun e w' => e = .returned (.int .i64 0) ∧ Hid (DW w' K D g (stepS st)) ∧ Hid (Kp (· = D) w w') ∧ w'.cell? ⟨D, 1, none⟩ = some (.map (some g.bn))) := Lib.hid (K2.out.mono (fun e w' ⟨he, hd, hk⟩ => ⟨he, Lib.hid hd, Lib.hid hk, hd.c1⟩))
      clear K2
      go_enter Tryz.func74, Tryz.ntmps74
      go_wp2_with (first
        | (go_at_call 102; ((with_reducible refine (K1.out).mono ?_); rintro e w0 ⟨rfl, rfl⟩))
        | (go_at_call 98; ((with_reducible refine (K3.out).mono ?_); rintro e w1 ⟨rfl, HD1, HK1, d1⟩))
        | (go_at_call 50; ((with_reducible refine (mclone_any _ _ _ _ HD1.out.names).mono ?_); rintro e w2 ⟨rfl, hn2, hb2⟩; have HN2 := Lib.hid hn2; have HB2 := Lib.hid hb2; have HD2 := Lib.hid (HD1.out.later hb2); have e2 := HD2.out.c2; have e3 := HD2.out.c3; have f2 := HD2.out.fz 2; have f3 := HD2.out.fz 3; clear hn2 hb2)))
      go_ret
      have hlt := HD1.out.names.lt
      have hs1 := HK1.out.size
      have hs2 := HB2.out.size
      have hn3 := HN2.out.lt
      have hsd := HD2.out.sd (K' := fun b => K b ∨ (w0.heap.size ≤ b ∧ b < w2.heap.size)) w1.heap.size HN2.out (by omega) (fun b hb => Or.inl hb) (Or.inr ⟨hs1, hn3⟩) (fun b hb => by
        rcases hb with hb | hb
        · exact Nat.lt_of_lt_of_le (HD1.out.own.2.2.2.2.2 b hb) hs2
        · exact hb.2)
      have kk := ((HK1.out.mono (K' := K) (fun i _ e => by have e' : i = D := e; rw [e']; exact H.out.own.1)).trans (Kp.of_below (K := K) HB2.out)).trans (((kp_set w2 D 2 (.map (some w1.heap.size))).trans (kp_set _ D 3 (.slice none 0 0))).mono (K' := K) (fun i _ e => by have e' : i = D := e; rw [e']; exact H.out.own.1))
      refine ⟨rfl, ⟨_, hsd.wide (fun b hb => ?_) (fun b hb => ?_), rfl⟩, kk⟩
      · rcases hb with hb | hb
        · exact Or.inl hb
        · exact Or.inr ⟨hb.1, by simpa [World.setCell] using hb.2⟩
      · rcases hb with hb | hb
        · exact hsd.own.2.2.2.2.2 b (Or.inl hb)
        · exact hb.2
    · have hS : sdS st = stepS st := by unfold sdS; rw [he, if_neg h0, hd]; rfl
      rw [he, hS]
      have q : (((stepE st : Nat) : Int) != 0) = true := by rw [bne_iff_ne]; omega
      generalize stepE st = e0 at *
      clear h hst hd hr he hS h0
      go_enter Tryz.func74, Tryz.ntmps74
      go_wp2_with (first
        | (go_at_call 102; ((with_reducible refine (K1.out).mono ?_); rintro e w' ⟨rfl, rfl⟩))
        | (go_at_call 98; ((with_reducible refine (K2.out).mono ?_); rintro e w1 ⟨rfl, hd1, hk1⟩; have HD1 := Lib.hid hd1; have HK1 := Lib.hid hk1; clear hd1 hk1)))
      go_ret
      exact ⟨rfl, ⟨g, HD1.out.kn, rfl⟩, HK1.out.mono (fun i _ e => by have e' : i = D := e; rw [e']; exact H.out.own.1)⟩
  · have hr : refE st = 15 := by unfold refE; rw [hd]; rfl
    have he : sdE st = 15 := by unfold sdE; rw [hd]; rfl
    have hS : sdS st = st := by unfold sdS; rw [he, if_neg (by omega), hd]; rfl
    rw [he, hS]
    rw [hr] at K1
    clear h hst hd hr he hS
    go_enter Tryz.func74, Tryz.ntmps74
    go_wp2_with (first
      | (go_at_call 102; ((with_reducible refine (K1.out).mono ?_); rintro e w' ⟨rfl, rfl⟩)))
    go_ret
    exact ⟨rfl, ⟨g, H.out.kn, rfl⟩, Kp.refl _ _⟩
end Go.Proofs.YtpcmmejlmhbcdaaGreat.Dk

namespace Go.Proofs.YtpcmmejlmhbcdaaGreat
open Go.RowKit

/-- A print's cells, an entry's, a row's. -/
def pc (k : Nat) : List Value := W.bcells (W.be k 16)
def ec (e : En) : List Value := pc e.k ++ [.int .i64 (e.d : Int), .bool e.h]
def rc (L : List En) : List Value := L.flatMap ec
theorem pc_len (k : Nat) : (pc k).length = 16 := by simp [pc, W.bcells, W.be_length]
theorem ec_len (e : En) : (ec e).length = 18 := by simp [ec, pc_len]
theorem rc_len (L : List En) : (rc L).length = L.length * 18 := by
  induction L with
  | nil => rfl
  | cons e R ih => simp only [rc, List.flatMap_cons, List.length_append, ec_len] at *; rw [ih, List.length_cons]; omega
theorem rc_at : ∀ {L : List En} {i : Nat} {e : En}, L[i]? = some e → ∀ (j : Nat) (v : Value), (ec e)[j]? = some v → (rc L)[i * 18 + j]? = some v
  | [], i, e, h, _, _, _ => by cases h
  | a :: R, 0, e, h, j, v, hv => by
    cases h
    have hj : j < (ec a).length := by
      rcases Nat.lt_or_ge j (ec a).length with h | h
      · exact h
      · rw [List.getElem?_eq_none h] at hv; cases hv
    simp only [rc, List.flatMap_cons, Nat.zero_mul, Nat.zero_add]
    rw [List.getElem?_append_left hj]; exact hv
  | a :: R, i + 1, e, h, j, v, hv => by
    have ih := rc_at (L := R) (i := i) (e := e) (by simpa using h) j v hv
    simp only [rc, List.flatMap_cons] at *
    rw [List.getElem?_append_right (by rw [ec_len]; omega), ec_len, show (i + 1) * 18 + j - 18 = i * 18 + j by omega]
    exact ih
theorem rc_drop (L : List En) (i : Nat) : rc (L.drop i) = (rc L).drop (i * 18) := by
  induction i generalizing L with
  | zero => simp
  | succ i ih =>
    cases L with
    | nil => simp [rc]
    | cons a R =>
      rw [List.drop_succ_cons, ih]
      simp only [rc, List.flatMap_cons]
      have e1 : (ec a).drop ((i + 1) * 18) = [] := List.drop_eq_nil_of_le (by rw [ec_len]; omega)
      rw [List.drop_append, ec_len, e1, List.nil_append, show (i + 1) * 18 - 18 = i * 18 by omega]
theorem rc_take (L : List En) (i : Nat) : rc (L.take i) = (rc L).take (i * 18) := by
  induction i generalizing L with
  | zero => simp [rc]
  | succ i ih =>
    cases L with
    | nil => simp [rc]
    | cons a R =>
      rw [List.take_succ_cons]
      simp only [rc, List.flatMap_cons] at *
      have e1 : (ec a).take ((i + 1) * 18) = ec a := List.take_of_length_le (by rw [ec_len]; omega)
      rw [ih, List.take_append, ec_len, e1, show (i + 1) * 18 - 18 = i * 18 by omega]
theorem rc_append (A B : List En) : rc (A ++ B) = rc A ++ rc B := by simp [rc]

/-- A row of entries at an address. -/
def RowE (w : World) (o : Option Addr) (L : List En) : Prop := L = [] ∨ ∃ b off, o = some ⟨b, off, none⟩ ∧ w.rangeAt b off (rc L)
theorem range_later {w w' : World} {b off : Nat} {cs : List Value} (h : w.rangeAt b off cs) (hb : Below w.heap.size w w') : w'.rangeAt b off cs := fun j v hj =>
  have hc := h j v hj
  (hb.cell (World.block_lt_of_cell? w _ hc)).trans hc
theorem RowE.later {w w' : World} {o : Option Addr} {L : List En} (h : RowE w o L) (hb : Below w.heap.size w w') : RowE w' o L := by
  rcases h with h | ⟨b, off, rfl, h⟩
  · exact Or.inl h
  · exact Or.inr ⟨b, off, rfl, range_later h hb⟩
theorem RowE.get {w : World} {o : Option Addr} {L : List En} (h : RowE w o L) {i : Nat} {e : En} (hi : L[i]? = some e) : ∃ b off, o = some ⟨b, off, none⟩ ∧ w.rangeAt b (off + i * 18) (ec e) := by
  rcases h with rfl | ⟨b, off, rfl, h⟩
  · cases hi
  · exact ⟨b, off, rfl, fun j v hj => by rw [Nat.add_assoc]; exact h _ v (rc_at hi j v hj)⟩

/-- What the order of prints answers. -/
def ordN (a b : Nat) : Int := if a < b then -1 else if b < a then 1 else 0
theorem cmp_be : ∀ (n a b : Nat), Lib.compareBytes (W.be a n) (W.be b n) = ordN (a % 256 ^ n) (b % 256 ^ n)
  | 0, a, b => by simp [W.be, Lib.compareBytes, ordN, Nat.mod_one]
  | n + 1, a, b => by
    have ih := cmp_be n a b
    have ea := Nat.mod_pow_succ (b := 256) (k := n) (x := a)
    have eb := Nat.mod_pow_succ (b := 256) (k := n) (x := b)
    have pa := Nat.mod_lt a (show 0 < 256 ^ n from Nat.pow_pos (by omega))
    have pb := Nat.mod_lt b (show 0 < 256 ^ n from Nat.pow_pos (by omega))
    have xa := Nat.mod_lt (a / 256 ^ n) (show 0 < 256 by omega)
    have xb := Nat.mod_lt (b / 256 ^ n) (show 0 < 256 by omega)
    unfold W.be Lib.compareBytes
    rw [ih, ea, eb]
    generalize hB : 256 ^ n = B at *
    have l1 : (UInt8.ofNat (a / B) < UInt8.ofNat (b / B)) ↔ a / B % 256 < b / B % 256 := by
      rw [UInt8.lt_iff_toNat_lt]; simp
    have l2 : (UInt8.ofNat (b / B) < UInt8.ofNat (a / B)) ↔ b / B % 256 < a / B % 256 := by
      rw [UInt8.lt_iff_toNat_lt]; simp
    generalize a / B % 256 = x at *
    generalize b / B % 256 = y at *
    generalize a % B = p at *
    generalize b % B = q at *
    unfold ordN
    by_cases h1 : x < y
    · have h3 : B * x + B ≤ B * y := by rw [← Nat.mul_succ]; exact Nat.mul_le_mul_left _ h1
      rw [if_pos (l1.2 h1), if_pos (by omega)]
    · rw [if_neg (fun h => h1 (l1.1 h))]
      by_cases h2 : y < x
      · have h3 : B * y + B ≤ B * x := by rw [← Nat.mul_succ]; exact Nat.mul_le_mul_left _ h2
        rw [if_pos (l2.2 h2), if_neg (by omega), if_pos (by omega)]
      · have e : x = y := by omega
        subst e
        rw [if_neg (fun h => h2 (l2.1 h))]
        by_cases h3 : p < q
        · rw [if_pos h3, if_pos (by omega)]
        · by_cases h4 : q < p
          · rw [if_neg h3, if_pos h4, if_neg (by omega), if_pos (by omega)]
          · rw [if_neg h3, if_neg h4, if_neg (by omega), if_neg (by omega)]
/-- The prints: all numbers of 16 bytes. -/
def top : Nat := 340282366920938463463374607431768211456
theorem cmp_prints (a b : Nat) (ha : a < top) (hb : b < top) : Lib.compareBytes (W.be a 16) (W.be b 16) = ordN a b := by
  have h := cmp_be 16 a b
  have e : (256 : Nat) ^ 16 = top := by decide
  rw [e, Nat.mod_eq_of_lt ha, Nat.mod_eq_of_lt hb] at h
  exact h
end Go.Proofs.YtpcmmejlmhbcdaaGreat
