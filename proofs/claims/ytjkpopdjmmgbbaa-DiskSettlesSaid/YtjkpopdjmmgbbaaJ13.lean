/- Where all is made sure, plainly.; Where all is made sure, in memory: a disk beside two rows of strings.; The law: where all is made sure a loss of power changes nothing. -/
import Derived.Test.YtjkpopdjmmgbbaaJ11
import Derived.Test.YtjkpopdjmmgbbaaJ12
set_option linter.unusedVariables false
set_option linter.unusedSimpArgs false
namespace Go.Proofs.Ytjkpopdjmmgbbaa
open Go.RowKit Go.Maps Go.Sort

/-- A disk behind some writes. -/
structure Wr (st : St) (k : Nat) : Prop where
  up : st.down = false
  fuse : st.fuse = -1
  p : st.P.length ≤ k
  s : st.steps ≤ k
  short : ∀ s, hasN st.N s = true → s.size ≤ 60
  frm : ∀ t ∈ st.P, t.frm = []
theorem Wr.fresh (room : Nat) : Wr (St.fresh room) 0 := ⟨rfl, rfl, Nat.le_refl _, Nat.le_refl _, fun s h => by
  have h' : Maps.has (.map [] : Dm) (nk s) = true := h
  simp [Maps.has] at h', fun t h => by cases h⟩
theorem Wr.le {st : St} {k : Nat} (h : Wr st k) (k' : Nat) (hk : k ≤ k') : Wr st k' := ⟨h.up, h.fuse, Nat.le_trans h.p hk, Nat.le_trans h.s hk, h.short, h.frm⟩
theorem step_on {st : St} (h : st.fuse = -1) : stepE st = 0 ∧ (stepS st).down = st.down ∧ (stepS st).fuse = -1 ∧ (stepS st).steps = st.steps + 1 := by
  unfold stepE stepS
  rw [if_neg (by rw [h]; omega), if_neg (by rw [h]; omega)]
  refine ⟨rfl, rfl, ?_, rfl⟩
  show (if 0 < st.fuse then st.fuse - 1 else st.fuse) = -1
  rw [if_neg (by rw [h]; omega), h]
theorem Wr.write {st : St} {k : Nat} (h : Wr st k) (a t : ByteArray) (nf : Nat) (ha : a.size ≤ 60) (hm : Maps.IsMap st.N) : Wr (writeS st a t nf) (k + 1) := by
  obtain ⟨e0, e1, e2, e3⟩ := step_on h.fuse
  obtain ⟨n1, n2, n3, n4, _⟩ := stepS_N st
  unfold writeS
  split
  · split
    · exact ⟨e1.trans h.up, e2, by show (stepS st).P.length ≤ _; rw [n4]; exact Nat.le_succ_of_le h.p, by show (stepS st).steps ≤ _; rw [e3]; exact Nat.succ_le_succ h.s, fun s hs => h.short s (by have : hasN (stepS st).N s = true := hs; rwa [n1] at this), fun t ht => h.frm t (by have : t ∈ (stepS st).P := ht; rwa [n4] at this)⟩
    · refine ⟨e1.trans h.up, e2, ?_, by show (stepS st).steps ≤ _; rw [e3]; exact Nat.succ_le_succ h.s, fun s hs => ?_, fun t ht => ?_⟩
      · show ((stepS st).P ++ [_]).length ≤ _
        rw [n4, List.length_append]
        have := h.p
        simp; omega
      · have hd : hasN (doT (stepS st).N ⟨0, nf, [], a⟩) s = true := hs
        rw [n1] at hd
        unfold doT at hd
        rw [if_neg (fun e => e.1 rfl), if_neg (by show ¬ (0 : Nat) = 2; omega)] at hd
        by_cases e : s = a
        · rw [e]; exact ha
        · unfold hasN at hd
          rw [Maps.has_put_other (fun e' => e (nk_inj e'))] at hd
          exact h.short s hd
      · have ht' : t ∈ (stepS st).P ++ [_] := ht
        rw [n4] at ht'
        rcases List.mem_append.1 ht' with h1 | h1
        · exact h.frm t h1
        · rw [List.mem_singleton.1 h1]
  · exact h.le _ (Nat.le_succ _)

/-- Behind some syncs: the bytes are as they were, those of the first names sure. -/
structure Sy (st0 st : St) (i : Nat) : Prop where
  n : st.N = st0.N
  p : st.P = st0.P
  up : st.down = false
  fuse : st.fuse = -1
  s : st.steps ≤ st0.steps + i
  f1 : ∀ c, (st.F c).1 = (st0.F c).1
  f2 : ∀ (j : Nat) (h : j < (keysN st0.N).length), j < i → (st.F (atN st0.N (sN (keysN st0.N)[j]))).2 = (st.F (atN st0.N (sN (keysN st0.N)[j]))).1
theorem Sy.start {st : St} {k : Nat} (h : Wr st k) : Sy st st 0 := ⟨rfl, rfl, h.up, h.fuse, by omega, fun _ => rfl, fun j _ h => by omega⟩
theorem Sy.find {st0 st : St} {i : Nat} (h : Sy st0 st i) {s : ByteArray} (hs : hasN st0.N s = true) : findE st s = 0 := by
  unfold findE
  rw [if_neg (by rw [h.up]; simp), h.n, if_pos hs]
theorem Sy.reads {st0 st : St} {i : Nat} (h : Sy st0 st i) {s : ByteArray} (hs : hasN st0.N s = true) : readS st s = (st0.F (atN st0.N s)).1 := by
  unfold readS
  rw [if_pos (h.find hs), h.n, h.f1]
theorem Sy.sync {st0 st : St} {i : Nat} (h : Sy st0 st i) (hi : i < (keysN st0.N).length) (s : ByteArray) (es : s = sN (keysN st0.N)[i]) (hs : hasN st0.N s = true) : syncE st s = 0 ∧ Sy st0 (syncS st s) (i + 1) := by
  obtain ⟨e0, e1, e2, e3⟩ := step_on h.fuse
  obtain ⟨n1, n2, n3, n4, _⟩ := stepS_N st
  have hf := h.find hs
  have ho : onE st s = 0 := by unfold onE; rw [if_pos hf, e0]
  have hS : onS st s = stepS st := by unfold onS; rw [if_pos hf]
  refine ⟨ho, ?_⟩
  unfold syncS
  rw [if_pos ho, hS]
  have hsame : ∀ c, (setF st.F (atN st.N s) ((st.F (atN st.N s)).1, (st.F (atN st.N s)).1) c).1 = (st.F c).1 := fun c => by
    unfold setF
    split
    · rename_i e; rw [e]
    · rfl
  refine ⟨n1.trans h.n, n4.trans h.p, e1.trans h.up, e2, by show (stepS st).steps ≤ _; rw [e3]; have := h.s; omega, fun c => (hsame c).trans (h.f1 c), fun j hj hji => ?_⟩
  show (setF st.F (atN st.N s) _ _).2 = (setF st.F (atN st.N s) _ _).1
  rw [hsame]
  unfold setF
  split
  · rename_i e; rw [e]
  · rename_i e
    by_cases hlt : j < i
    · exact h.f2 j hj hlt
    · have ej : j = i := by omega
      subst ej
      exact absurd (by rw [h.n, es]) e

theorem mem_addF {N : Dm} : ∀ (l : List (List UInt8)) (acc : List Nat) (d : Nat), d ∈ l.foldl (addF N) acc → d ∈ acc ∨ ∃ s ∈ l, atN N (sN s) = d
  | [], acc, d, h => Or.inl h
  | s :: l, acc, d, h => by
    rcases mem_addF l (addF N acc s) d h with h1 | ⟨x, hx, e⟩
    · unfold addF at h1
      split at h1
      · exact Or.inl h1
      · rcases List.mem_append.1 h1 with h2 | h2
        · exact Or.inl h2
        · exact Or.inr ⟨s, by simp, (List.mem_singleton.1 h2).symm⟩
    · exact Or.inr ⟨x, by simp [hx], e⟩
theorem mem_files {N : Dm} {d : Nat} (h : d ∈ filesN N) : ∃ (j : Nat) (hj : j < (keysN N).length), atN N (sN (keysN N)[j]) = d := by
  rcases mem_addF (keysN N) [] d h with h1 | ⟨s, hs, e⟩
  · cases h1
  · obtain ⟨j, hj, e2⟩ := List.getElem_of_mem hs
    exact ⟨j, hj, by rw [e2]; exact e⟩
theorem sumF_congr {F G : Nat → ByteArray × ByteArray} {fs : List Nat} (h : ∀ c ∈ fs, (F c).1 = (G c).1) : sumF F fs = sumF G fs := by
  unfold sumF
  congr 1
  exact List.map_congr_left (fun c hc => by rw [h c hc])
/-- All is as it was, to read. -/
structure Es (st0 st : St) : Prop where
  n : st.N = st0.N
  p : st.P = []
  up : st.down = false
  s : st.steps ≤ st0.steps + 100000000
  f : ∀ (j : Nat) (h : j < (keysN st0.N).length), (st.F (atN st0.N (sN (keysN st0.N)[j]))).1 = (st0.F (atN st0.N (sN (keysN st0.N)[j]))).1
theorem Es.used {st0 st : St} (h : Es st0 st) : usedN st = usedN st0 := by
  unfold usedN
  rw [h.n]
  refine sumF_congr (fun c hc => ?_)
  obtain ⟨j, hj, e⟩ := mem_files hc
  rw [← e]
  exact h.f j hj
theorem Es.reads {st0 st : St} (h : Es st0 st) (j : Nat) (hj : j < (keysN st0.N).length) (s : ByteArray) (es : s = sN (keysN st0.N)[j]) (hs : hasN st0.N s = true) : findE st s = 0 ∧ readS st s = (st0.F (atN st0.N s)).1 := by
  have hf : findE st s = 0 := by
    unfold findE
    rw [if_neg (by rw [h.up]; simp), h.n, if_pos hs]
  refine ⟨hf, ?_⟩
  unfold readS
  rw [if_pos hf, h.n, es, h.f j hj]
/-- All is sure. -/
structure Ms (st0 st : St) : Prop extends Es st0 st where
  sn : st.S = st0.N
  f2 : ∀ (j : Nat) (h : j < (keysN st0.N).length), (st.F (atN st0.N (sN (keysN st0.N)[j]))).1 = (st.F (atN st0.N (sN (keysN st0.N)[j]))).2
theorem Sy.dir {st0 st : St} (h : Sy st0 st (keysN st0.N).length) (hk : (keysN st0.N).length ≤ 1000000) : sdE st = 0 ∧ Ms st0 (sdS st) := by
  obtain ⟨e0, e1, e2, e3⟩ := step_on h.fuse
  obtain ⟨n1, n2, n3, n4, _⟩ := stepS_N st
  have hE : sdE st = 0 := by unfold sdE; rw [if_neg (by rw [h.up]; simp), e0]
  refine ⟨hE, ?_⟩
  unfold sdS
  rw [if_pos hE]
  have hF : ∀ c, ((stepS st).F c) = st.F c := fun c => by rw [n2]
  refine ⟨⟨n1.trans h.n, rfl, e1.trans h.up, by show (stepS st).steps ≤ _; rw [e3]; have := h.s; omega, fun j hj => ?_⟩, n1.trans h.n, fun j hj => ?_⟩
  · show ((stepS st).F _).1 = _
    rw [hF]
    exact h.f1 _
  · show ((stepS st).F _).1 = ((stepS st).F _).2
    rw [hF]
    exact (h.f2 j hj hj).symm
theorem Ms.crash {st0 st : St} (h : Ms st0 st) (ns : List Bool) (F' : Nat → ByteArray × ByteArray) (hF : Sv st.F F' (filesN (crN st.S st.P ns st.P.length))) : Es st0 (crS st ns F') := by
  have hN : crN st.S st.P ns st.P.length = st0.N := by rw [h.p]; exact h.sn
  refine ⟨hN, rfl, rfl, h.s, fun j hj => ?_⟩
  show (F' _).1 = _
  obtain ⟨h1, h2⟩ := hF (atN st0.N (sN (keysN st0.N)[j]))
  by_cases hc : atN st0.N (sN (keysN st0.N)[j]) ∈ filesN (crN st.S st.P ns st.P.length)
  · rw [(h2 hc).2 (h.f2 j hj)]
    exact h.f j hj
  · rw [h1 hc]
    exact h.f j hj
end Go.Proofs.Ytjkpopdjmmgbbaa

namespace Go.Proofs.Ytjkpopdjmmgbbaa
open Go.RowKit Go.Maps Go.Sort

theorem PRow.lt {T : TypeId} {m : Nat} {ρ : Option Nat} {o : Option Addr} {cap n : Nat} {xs : List Value} {w : World} (h : PRow T m ρ o cap n xs w) {r : Nat} (hr : ρ = some r) : r < w.heap.size := by
  rcases h.2 with ⟨_, _, h0, _⟩ | ⟨q, cur, h1, h2, h4, _⟩
  · rw [h0] at hr; cases hr
  · rw [h1] at hr; cases hr; exact lt_of_heap h4
/-- A disk behind some writes, in memory. -/
def Ph1 (B : Nat) (w : World) (D k : Nat) : Prop := ∃ (K : Nat → Prop) (g : Gh) (st : St), DW w K D g st ∧ (∀ b, K b → B ≤ b) ∧ g.nn ≤ k ∧ Wr st k
theorem Ph1.later {B : Nat} {w w' : World} {D k : Nat} (h : Ph1 B w D k) (hb : Below w.heap.size w w') : Ph1 B w' D k := by
  obtain ⟨K, g, st, h1, h2⟩ := h
  exact ⟨K, g, st, h1.later hb, h2⟩
theorem Ph1.new (w wy : World) (hb : Below w.heap.size w wy) : Calls Try.prog 7 #[.int .i64 65536] wy fun e w' => ∃ D, e = .returned (.tuple #[.pointer (some ⟨D, 0, none⟩), .int .i64 0]) ∧ Hid (Ph1 w.heap.size w' D 0) ∧ Hid (Below w.heap.size w w') :=
  (Dz.new 65536 (by omega) wy).mono fun e w' ⟨D, he, ⟨K, g, h1, h2, h3⟩, hb'⟩ => ⟨D, he, Lib.hid ⟨K, g, _, h1, fun b hb2 => Nat.le_trans hb.size (h2 b hb2), h3, Wr.fresh _⟩, Lib.hid (hb.trans (hb'.mono hb.size))⟩
theorem Ph1.write_na {B : Nat} {w0 w : World} {D k : Nat} (h : Ph1 B w0 D k) (hb : Below w0.heap.size w0 w) (na : Nat) (hna : w0.heap.size ≤ na ∧ na < w.heap.size) (hk : k + 1 ≤ 100) (a t : ByteArray) (ha : a.size ≤ 60) (ht : t.size ≤ 100000) :
    Calls Try.prog 8 #[.pointer (some ⟨D, 0, none⟩), .string a, .string t] w fun e w' => ((∃ n : Nat, e = .returned (.int .i64 (n : Int))) ∧ Ph1 B w' D (k + 1) ∧ Below B w w') ∧ w'.heap[na]? = w.heap[na]? := by
  obtain ⟨K, g, st, h1, h2, h3, h4⟩ := h
  have hB : B ≤ w.heap.size := Nat.le_trans (Nat.le_of_lt (Nat.lt_of_le_of_lt (h2 D h1.own.1) h1.lt)) hb.size
  have hK : ¬ K na := fun hc => by have := h1.own.2.2.2.2.2 na hc; omega
  have h1 := h1.later hb
  have hp := h4.p
  have hs := h4.s
  refine (write_any h1 (by omega) a t (by omega) ht (by omega)).mono fun e w' hq => ?_
  obtain ⟨he, ⟨nf, g', hnf, hd, hg⟩, hkp⟩ := hq
  exact ⟨⟨⟨_, he⟩, ⟨_, g', _, hd, kn_base h2 hB, by omega, h4.write a t nf ha h1.names.isMap⟩, hkp.below h2 hB⟩, hkp.block na hna.2 hK⟩

/-- Two rows of strings beside a disk. -/
structure Rw (B : Nat) (K : Nat → Prop) (w : World) (ks : List (List UInt8)) (ρ : Option Nat) (o : Option Addr) (cap : Nat) (tx : List ByteArray) (ρ2 : Option Nat) (o2 : Option Addr) (cap2 : Nat) : Prop where
  r1 : PRow 9 1 ρ o cap ks.length (ks.map encStr) w
  b1 : ∀ r, ρ = some r → ¬ K r ∧ B ≤ r
  r2 : PRow 9 1 ρ2 o2 cap2 tx.length (tx.map Value.string) w
  b2 : ∀ r, ρ2 = some r → ¬ K r ∧ B ≤ r ∧ ρ ≠ some r
section
variable {B : Nat} {K : Nat → Prop} {w w' : World} {ks : List (List UInt8)} {ρ : Option Nat} {o : Option Addr} {cap : Nat} {tx : List ByteArray} {ρ2 : Option Nat} {o2 : Option Addr} {cap2 : Nat}
theorem Rw.kp (h : Rw B K w ks ρ o cap tx ρ2 o2 cap2) (hk : Kp K w w') : Rw B (Kn K w w') w' ks ρ o cap tx ρ2 o2 cap2 := by
  refine ⟨h.r1.keep (fun r hr => hk.block r (h.r1.lt hr) (h.b1 r hr).1), fun r hr => ⟨fun hc => ?_, (h.b1 r hr).2⟩, h.r2.keep (fun r hr => hk.block r (h.r2.lt hr) (h.b2 r hr).1), fun r hr => ⟨fun hc => ?_, (h.b2 r hr).2⟩⟩
  · rcases hc with hc | hc
    · exact (h.b1 r hr).1 hc
    · have := h.r1.lt hr; omega
  · rcases hc with hc | hc
    · exact (h.b2 r hr).1 hc
    · have := h.r2.lt hr; omega
theorem Rw.kp' (h : Rw B K w ks ρ o cap tx ρ2 o2 cap2) (hk : Kp K w w') : Rw B K w' ks ρ o cap tx ρ2 o2 cap2 :=
  ⟨h.r1.keep (fun r hr => hk.block r (h.r1.lt hr) (h.b1 r hr).1), h.b1, h.r2.keep (fun r hr => hk.block r (h.r2.lt hr) (h.b2 r hr).1), h.b2⟩
end
/-- Where no turn has names that go, a disk's own blocks are all that counts. -/
theorem DW.keepK {w w' : World} {K : Nat → Prop} {D : Nat} {g : Gh} {st : St} (h : DW w K D g st) (hs : w.heap.size ≤ w'.heap.size) (hk : ∀ b, K b → w'.heap[b]? = w.heap[b]?) (hf : ∀ t ∈ st.P, t.frm = []) : DW w' K D g st where
  blk := (hk D h.own.1).trans h.blk
  names := own_keep h.names (hk _ h.own.2.1)
  sure := own_keep h.sure (hk _ h.own.2.2.1)
  ne := h.ne
  row := h.row.keep (fun r hr => hk _ (h.own.2.2.2.1 r hr))
  turn := fun i hi => by
    obtain ⟨c0, c1, c2, c3, e0, e1, e2, e3, t0, t1, t2, t3⟩ := h.turn i hi
    refine ⟨c0, c1, c2, c3, e0, e1, e2, e3, t0, t1, ?_, t3⟩
    have hn := hf _ (List.getElem_mem hi)
    rw [hn] at t2 ⊢
    obtain ⟨o, cap, b, cur, rfl, _, _⟩ := t2
    exact ⟨o, cap, b, cur, rfl, fun hp => absurd hp (by simp), fun j hj => absurd hj (by simp)⟩
  file := fun c hc => (hk c (h.own.2.2.2.2.1 c hc)).trans (h.file c hc)
  size := h.size
  filN := h.filN
  filS := h.filS
  few := h.few
  own := ⟨h.own.1, h.own.2.1, h.own.2.2.1, h.own.2.2.2.1, h.own.2.2.2.2.1, fun b hb => Nat.lt_of_lt_of_le (h.own.2.2.2.2.2 b hb) hs⟩
/-- A disk, and the rows. -/
def Ph (B : Nat) (w : World) (D : Nat) (Q : St → Prop) (ks : List (List UInt8)) (ρ : Option Nat) (o : Option Addr) (cap : Nat) (tx : List ByteArray) (ρ2 : Option Nat) (o2 : Option Addr) (cap2 : Nat) : Prop :=
  ∃ (K : Nat → Prop) (g : Gh) (st : St), DW w K D g st ∧ (∀ b, K b → B ≤ b) ∧ g.nn ≤ 1000 ∧ Q st ∧ Rw B K w ks ρ o cap tx ρ2 o2 cap2
section
variable {B : Nat} {w w' : World} {D : Nat} {Q : St → Prop} {ks : List (List UInt8)} {ρ : Option Nat} {o : Option Addr} {cap : Nat} {tx : List ByteArray} {ρ2 : Option Nat} {o2 : Option Addr} {cap2 : Nat}
theorem Ph.base (h : Ph B w D Q ks ρ o cap tx ρ2 o2 cap2) : B ≤ w.heap.size := by
  obtain ⟨K, g, st, h1, h2, _⟩ := h
  exact Nat.le_of_lt (Nat.lt_of_le_of_lt (h2 D h1.own.1) h1.lt)
theorem Ph.later (h : Ph B w D Q ks ρ o cap tx ρ2 o2 cap2) (hb : Below w.heap.size w w') : Ph B w' D Q ks ρ o cap tx ρ2 o2 cap2 := by
  obtain ⟨K, g, st, h1, h2, h3, h4, h5⟩ := h
  exact ⟨K, g, st, h1.later hb, h2, h3, h4, h5.kp' (Kp.of_below hb)⟩
theorem Ph.append (h : Ph B w D Q ks ρ o cap tx ρ2 o2 cap2) (hQ : ∀ st, Q st → ∀ t ∈ st.P, t.frm = []) (x : ByteArray) {ob : Obj} {w2 : World} {ρ3 : Option Nat} {o3 : Option Addr} {cap3 : Nat} (hrow : PRow 9 1 ρ3 o3 cap3 (tx.length + 1) (tx.map Value.string ++ [.string x]) w2) (hn : Nxt ρ2 ρ3 (w.alloc ob)) (hk : Kp (fun b => ρ2 = some b) (w.alloc ob) w2) :
    Ph B w2 D Q ks ρ o cap (tx ++ [x]) ρ3 o3 cap3 ∧ Below B w w2 := by
  have hB := h.base
  obtain ⟨K, g, st, h1, h2, h3, h4, h5⟩ := h
  have hal := alloc_below w ob
  have hlt := alloc_lt w ob
  have hkp : Kp (fun b => ρ2 = some b) w w2 := (Kp.of_below hal).trans hk
  refine ⟨⟨K, g, st, h1.keepK hkp.size (fun b hb => hkp.block b (h1.own.2.2.2.2.2 b hb) (fun e => (h5.b2 b e).1 hb)) (hQ st h4), h2, h3, h4, ⟨?_, h5.b1, by simpa using hrow, ?_⟩⟩, hkp.below (fun b hb => (h5.b2 b hb).2.1) hB⟩
  · exact h5.r1.keep (fun r hr => hkp.block r (h5.r1.lt hr) (fun e => (h5.b2 r e).2.2 hr))
  · intro r hr
    rcases hn with e | ⟨q, e, hq⟩
    · exact h5.b2 r (by rw [← e]; exact hr)
    · rw [e] at hr; cases hr
      exact ⟨fun hc => by have := h1.own.2.2.2.2.2 _ hc; omega, by omega, fun e2 => by have := h5.r1.lt e2; omega⟩
theorem Ph.cell (h : Ph B w D Q ks ρ o cap tx ρ2 o2 cap2) (i : Nat) (hi : i < ks.length) : ∃ r, o = some ⟨r, 0, none⟩ ∧ w.cell? ⟨r, i, none⟩ = some (.string (sN ks[i])) := by
  obtain ⟨K, g, st, _, _, _, _, h5⟩ := h
  obtain ⟨r, _, h1, h2⟩ := h5.r1.cell i (.string (sN ks[i])) (by rw [List.getElem?_map, List.getElem?_eq_getElem hi]; rfl)
  exact ⟨r, h1, h2⟩
theorem Ph.cell2 (h : Ph B w D Q ks ρ o cap tx ρ2 o2 cap2) (i : Nat) (hi : i < tx.length) : ∃ r, o2 = some ⟨r, 0, none⟩ ∧ w.cell? ⟨r, i, none⟩ = some (.string tx[i]) := by
  obtain ⟨K, g, st, _, _, _, _, h5⟩ := h
  obtain ⟨r, _, h1, h2⟩ := h5.r2.cell i (.string tx[i]) (by rw [List.getElem?_map, List.getElem?_eq_getElem hi]; rfl)
  exact ⟨r, h1, h2⟩
end
section
variable {B : Nat} {w : World} {D : Nat} {st0 : St} {ρ : Option Nat} {o : Option Addr} {cap : Nat} {tx : List ByteArray} {ρ2 : Option Nat} {o2 : Option Addr} {cap2 : Nat}
/-- The bytes that a name has. -/
def txt (st : St) (s : ByteArray) : ByteArray := (st.F (atN st.N s)).1
theorem Ph.sync {i : Nat} (h : Ph B w D (fun st => Sy st0 st i) (keysN st0.N) ρ o cap tx ρ2 o2 cap2) (hst : st0.steps + i ≤ 1000000) (hi : i < (keysN st0.N).length) (s : ByteArray) (es : s = sN (keysN st0.N)[i]) (hs : hasN st0.N s = true) (hz : s.size ≤ 60) :
    Calls Try.prog 9 #[.pointer (some ⟨D, 0, none⟩), .string s] w fun e w' => e = .returned (.int .i64 0) ∧ Ph B w' D (fun st => Sy st0 st (i + 1)) (keysN st0.N) ρ o cap tx ρ2 o2 cap2 ∧ Below B w w' := by
  have hB := h.base
  obtain ⟨K, g, st, h1, h2, h3, h4, h5⟩ := h
  obtain ⟨e1, e2⟩ := h4.sync hi s es hs
  have := h4.s
  exact (sync_any h1 (by omega) s (by omega)).mono fun e w' ⟨he, hd, hkp⟩ => ⟨by rw [he, e1]; rfl, ⟨K, g, _, hd, h2, h3, e2, h5.kp' hkp⟩, hkp.below h2 hB⟩
theorem Ph.read {i : Nat} (h : Ph B w D (fun st => Sy st0 st i) (keysN st0.N) ρ o cap tx ρ2 o2 cap2) (s : ByteArray) (hs : hasN st0.N s = true) (hz : s.size ≤ 60) :
    Calls Try.prog 17 #[.pointer (some ⟨D, 0, none⟩), .string s] w fun e w' => e = .returned (.tuple #[.string (txt st0 s), .int .i64 0]) ∧ Ph B w' D (fun st => Sy st0 st i) (keysN st0.N) ρ o cap tx ρ2 o2 cap2 ∧ Below B w w' := by
  have hB := h.base
  have h' := h
  obtain ⟨K, g, st, h1, h2, h3, h4, h5⟩ := h'
  refine (read_any h1 s (by omega)).mono fun e w' ⟨he, hb⟩ => ⟨?_, h.later hb, hb.mono hB⟩
  rw [he, h4.find hs, h4.reads hs]
  rfl
theorem Ph.dir (h : Ph B w D (fun st => Sy st0 st (keysN st0.N).length) (keysN st0.N) ρ o cap tx ρ2 o2 cap2) (hst : st0.steps ≤ 1000) (hk : (keysN st0.N).length ≤ 1000) :
    Calls Try.prog 10 #[.pointer (some ⟨D, 0, none⟩)] w fun e w' => e = .returned (.int .i64 0) ∧ Ph B w' D (fun st => Ms st0 st) (keysN st0.N) ρ o cap tx ρ2 o2 cap2 ∧ Below B w w' := by
  have hB := h.base
  obtain ⟨K, g, st, h1, h2, h3, h4, h5⟩ := h
  obtain ⟨e1, e2⟩ := h4.dir (by omega)
  have := h4.s
  exact (sd_any h1 (by omega)).mono fun e w' ⟨he, ⟨g', hd, hg⟩, hkp⟩ => ⟨by rw [he, e1]; rfl, ⟨_, g', _, hd, kn_base h2 hB, by omega, e2, h5.kp hkp⟩, hkp.below h2 hB⟩
theorem Ph.pending {Q : St → Prop} (h : Ph B w D Q (keysN st0.N) ρ o cap tx ρ2 o2 cap2) (hQ : ∀ st, Q st → Es st0 st) :
    Calls Try.prog 18 #[.pointer (some ⟨D, 0, none⟩)] w fun e w' => e = .returned (.int .i64 0) ∧ w' = w := by
  obtain ⟨K, g, st, h1, h2, h3, h4, h5⟩ := h
  exact (pending_any h1).mono fun e w' ⟨he, hw⟩ => ⟨by rw [he, (hQ st h4).p]; rfl, hw⟩
theorem Ph.used {Q : St → Prop} (h : Ph B w D Q (keysN st0.N) ρ o cap tx ρ2 o2 cap2) (hQ : ∀ st, Q st → Es st0 st) :
    Calls Try.prog 20 #[.pointer (some ⟨D, 0, none⟩)] w fun e w' => e = .returned (.int .i64 (usedN st0 : Nat)) ∧ Ph B w' D Q (keysN st0.N) ρ o cap tx ρ2 o2 cap2 ∧ Below B w w' := by
  have hB := h.base
  have h' := h
  obtain ⟨K, g, st, h1, h2, h3, h4, h5⟩ := h'
  exact (used_any h1).mono fun e w' ⟨he, hb⟩ => ⟨by rw [he, (hQ st h4).used], h.later hb, hb.mono hB⟩
theorem Ph.crash (h : Ph B w D (fun st => Ms st0 st) (keysN st0.N) ρ o cap tx ρ2 o2 cap2) (ns : List Bool) (o1 : Option Addr) (cap1 b1 off1 : Nat) (n1 : 0 < ns.length → o1 = some ⟨b1, off1, none⟩ ∧ b1 < B) (n2 : BoolsIn w ns b1 off1)
    (ss : List Nat) (o2' : Option Addr) (cap2' b2 off2 : Nat) (m1 : 0 < ss.length → o2' = some ⟨b2, off2, none⟩ ∧ b2 < B) (m2 : U64sIn w ss b2 off2) :
    Calls Try.prog 16 #[.pointer (some ⟨D, 0, none⟩), .slice o1 ns.length cap1, .slice o2' ss.length cap2'] w fun e w' => e = .returned (.tuple #[]) ∧ Ph B w' D (fun st => Es st0 st) (keysN st0.N) ρ o cap tx ρ2 o2 cap2 ∧ Below B w w' := by
  have hB := h.base
  obtain ⟨K, g, st, h1, h2, h3, h4, h5⟩ := h
  have hp : st.P.length = 0 := by rw [h4.p]; rfl
  refine (crash_any h1 ns o1 cap1 b1 off1 (fun hp => ⟨(n1 hp).1, Nat.lt_of_lt_of_le (n1 hp).2 hB, fun hK => by have := h2 _ hK; have := (n1 hp).2; omega⟩) n2 ss o2' cap2' b2 off2 (fun hp => ⟨(m1 hp).1, Nat.lt_of_lt_of_le (m1 hp).2 hB, fun hK => by have := h2 _ hK; have := (m1 hp).2; omega⟩) m2 (by omega)).mono fun e w' hq => ?_
  obtain ⟨he, ⟨F', g', hsv, hd, hg⟩, hkp⟩ := hq
  exact ⟨he, ⟨_, g', _, hd, kn_base h2 hB, by omega, h4.crash ns F' hsv, h5.kp hkp⟩, hkp.below h2 hB⟩
theorem Ph.readE (h : Ph B w D (fun st => Es st0 st) (keysN st0.N) ρ o cap tx ρ2 o2 cap2) (j : Nat) (hj : j < (keysN st0.N).length) (s : ByteArray) (es : s = sN (keysN st0.N)[j]) (hs : hasN st0.N s = true) (hz : s.size ≤ 60) :
    Calls Try.prog 17 #[.pointer (some ⟨D, 0, none⟩), .string s] w fun e w' => e = .returned (.tuple #[.string (txt st0 s), .int .i64 0]) ∧ Ph B w' D (fun st => Es st0 st) (keysN st0.N) ρ o cap tx ρ2 o2 cap2 ∧ Below B w w' := by
  have hB := h.base
  have h' := h
  obtain ⟨K, g, st, h1, h2, h3, h4, h5⟩ := h'
  obtain ⟨e1, e2⟩ := h4.reads j hj s es hs
  refine (read_any h1 s (by omega)).mono fun e w' ⟨he, hb⟩ => ⟨?_, h.later hb, hb.mono hB⟩
  rw [he, e1, e2]
  rfl
theorem Ph.namesE (h : Ph B w D (fun st => Es st0 st) (keysN st0.N) ρ o cap tx ρ2 o2 cap2) (hsh : ∀ s ∈ keysN st0.N, s.length ≤ 60) :
    Calls Try.prog 19 #[.pointer (some ⟨D, 0, none⟩)] w fun e w' => (∃ o cap, e = .returned (.slice o (keysN st0.N).length cap)) ∧ Ph B w' D (fun st => Es st0 st) (keysN st0.N) ρ o cap tx ρ2 o2 cap2 ∧ Below B w w' := by
  have hB := h.base
  have h' := h
  obtain ⟨K, g, st, h1, h2, h3, h4, h5⟩ := h'
  refine (lnames_any h1 h4.up (by rw [h4.n]; exact fun s hs => Nat.le_trans (hsh s hs) (by omega))).mono fun e w' ⟨ρ', o', cap', he, hr, hρ, hb⟩ => ⟨⟨o', cap', ?_⟩, h.later hb, hb.mono hB⟩
  rw [he, h4.n]
end
/-- From writes to reads: the names. -/
theorem Ph1.names {B : Nat} {w : World} {D k : Nat} (h : Ph1 B w D k) (hk : k ≤ 100) : Calls Try.prog 19 #[.pointer (some ⟨D, 0, none⟩)] w fun e w' => ∃ (st0 : St) (ρ : Option Nat) (o : Option Addr) (cap : Nat), e = .returned (.slice o (keysN st0.N).length cap) ∧ Ph B w' D (fun st => Sy st0 st 0) (keysN st0.N) ρ o cap [] none none 0 ∧
    (st0.steps ≤ 100 ∧ (keysN st0.N).length ≤ 100 ∧ (∀ s ∈ keysN st0.N, hasN st0.N (sN s) = true ∧ s.length ≤ 60) ∧ ∀ t ∈ st0.P, t.frm = []) ∧ Below B w w' := by
  obtain ⟨K, g, st, h1, h2, h3, h4⟩ := h
  have hB : B ≤ w.heap.size := Nat.le_of_lt (Nat.lt_of_le_of_lt (h2 D h1.own.1) h1.lt)
  have hmem : ∀ s ∈ keysN st.N, hasN st.N (sN s) = true ∧ s.length ≤ 60 := fun s hs => ⟨(mem_keys h1.names s hs).1, by have := h4.short _ (mem_keys h1.names s hs).1; rwa [sN_size] at this⟩
  have hs := h4.s
  have hl := keys_len h1.names
  refine (lnames_any h1 h4.up (fun s hs => Nat.le_trans (hmem s hs).2 (by omega))).mono fun e w' ⟨ρ', o', cap', he, hr, hρ, hb⟩ => ⟨st, ρ', o', cap', he, ⟨K, g, st, h1.later hb, h2, by omega, Sy.start h4, ⟨hr, fun r hr => ⟨fun hc => ?_, Nat.le_trans hB (hρ r hr)⟩, PRow.nil _ _ _, fun r hr => by cases hr⟩⟩, ⟨by omega, by omega, hmem, h4.frm⟩, hb.mono hB⟩
  have := h1.own.2.2.2.2.2 r hc
  have := hρ r hr
  omega
end Go.Proofs.Ytjkpopdjmmgbbaa

namespace Go.Proofs.Ytjkpopdjmmgbbaa
open Go.RowKit Go.Maps Go.Sort

theorem Ph.row2 {B : Nat} {w : World} {D : Nat} {Q : St → Prop} {ks : List (List UInt8)} {ρ : Option Nat} {o : Option Addr} {cap : Nat} {tx : List ByteArray} {ρ2 : Option Nat} {o2 : Option Addr} {cap2 : Nat} (h : Ph B w D Q ks ρ o cap tx ρ2 o2 cap2) {i : Nat} (hi : tx.length = i) (ob : Obj) : PRow 9 1 ρ2 o2 cap2 i (tx.map Value.string) (w.alloc ob) := by
  obtain ⟨K, g, st, _, _, _, _, h5⟩ := h
  rw [← hi]
  exact h5.r2.keep (fun r hr => (alloc_below w ob).block r (h5.r2.lt hr))
/-- The first texts. -/
def txs (st : St) (i : Nat) : List ByteArray := ((keysN st.N).take i).map (fun s => txt st (sN s))
theorem txs_len (st : St) (i : Nat) (h : i ≤ (keysN st.N).length) : (txs st i).length = i := by
  unfold txs
  rw [List.length_map, List.length_take]
  omega
theorem txs_next (st : St) (i : Nat) (h : i < (keysN st.N).length) (s : ByteArray) (hs : s = sN (keysN st.N)[i]) : txs st i ++ [txt st s] = txs st (i + 1) := by
  unfold txs
  rw [List.take_add_one, List.getElem?_eq_getElem h, List.map_append, hs]
  rfl
theorem txs_at (st : St) (n i : Nat) (h : i < (keysN st.N).length) (hn : n = (keysN st.N).length) (s : ByteArray) (hs : s = sN (keysN st.N)[i]) : (txs st n)[i]? = some (txt st s) := by
  unfold txs
  rw [List.getElem?_map, hn, List.take_length, List.getElem?_eq_getElem h, hs]
  rfl
theorem Ph.text {B : Nat} {w : World} {D : Nat} {Q : St → Prop} {ks : List (List UInt8)} {ρ : Option Nat} {o : Option Addr} {cap : Nat} {tx : List ByteArray} {ρ2 : Option Nat} {o2 : Option Addr} {cap2 : Nat} (h : Ph B w D Q ks ρ o cap tx ρ2 o2 cap2) (i : Nat) (x : ByteArray) (hx : tx[i]? = some x) : ∃ r, o2 = some ⟨r, 0, none⟩ ∧ w.cell? ⟨r, i, none⟩ = some (.string x) := by
  obtain ⟨K, g, st, _, _, _, _, h5⟩ := h
  obtain ⟨r, _, h1, h2⟩ := h5.r2.cell i (.string x) (by rw [List.getElem?_map, hx]; rfl)
  exact ⟨r, h1, h2⟩
set_option maxRecDepth 100000 in
set_option maxHeartbeats 8000000 in
theorem settles_any (l : List Ac) (hll : l.length ≤ 20) (oa : Option Addr) (cap b off : Nat) (w : World) (ho : 0 < l.length → oa = some ⟨b, off, none⟩ ∧ b < w.heap.size) (hin : AcsIn w b off l)
    (ns : List Bool) (o1 : Option Addr) (cap1 b1 off1 : Nat) (h1 : 0 < ns.length → o1 = some ⟨b1, off1, none⟩ ∧ b1 < w.heap.size) (h1b : BoolsIn w ns b1 off1)
    (ss : List Nat) (o2 : Option Addr) (cap2 b2 off2 : Nat) (h2 : 0 < ss.length → o2 = some ⟨b2, off2, none⟩ ∧ b2 < w.heap.size) (h2b : U64sIn w ss b2 off2) :
    Calls Try.prog 5 #[.slice oa l.length cap, .slice o1 ns.length cap1, .slice o2 ss.length cap2] w fun e w' => e = .returned (.bool true) ∧ Below w.heap.size w w' := by
  have K6 := Lib.hid (awake_any w)
  have K7 := Lib.hid (Ph1.new w)
  obtain ⟨m, hm⟩ : ∃ m, m = l.length := ⟨_, rfl⟩
  have HO := Lib.hid ho
  have HIN := Lib.hid hin
  have HM := Lib.hid hm
  have H1 := Lib.hid (And.intro h1 h1b)
  have H2 := Lib.hid (And.intro h2 h2b)
  have q20 : (m : Int) ≤ 20 := by omega
  rw [← hm]
  clear ho hin hm h1 h1b h2 h2b hll
  go_enter Try.func5, Try.ntmps5
  go_wp2_with (first
    | (go_at_call 6; ((with_reducible refine (K6.out).mono ?_); rintro e w1 ⟨rfl, hb1⟩; have HB1 := Lib.hid hb1; clear hb1))
    | (go_at_call 7; ((with_reducible refine (K7.out _ HB1.out).mono ?_); rintro e w2 ⟨D, rfl, HD2, HB2⟩)))
  clear K6 K7 HB1
  go_loopw [33] (fun v wr => ∃ i : Nat, i ≤ m ∧ v = .int .i64 (i : Int) ∧ Hid (Ph1 w.heap.size wr D i) ∧ Hid (Below w.heap.size w wr)) (fun v _ => m - (intOf v).toNat)
  case atStart => exact ⟨0, by omega, rfl, HD2, HB2⟩
  case round =>
    obtain ⟨i, hi, rfl, HG, HB⟩ := hrel
    by_cases hlt : i < m
    · have hil : i < l.length := by rw [← HM.out]; exact hlt
      obtain ⟨q, hq⟩ : ∃ q, q = l[i] := ⟨_, rfl⟩
      obtain ⟨c0, c1, c2, c3, c4, c5, c6, g0, g1, g2, g3, g4, g5, g6, hac⟩ := HIN.out i hil
      rw [← hq] at hac
      obtain ⟨eo, hbl⟩ := HO.out (by omega)
      obtain ⟨d, a, t, n, bb, qs, us⟩ := q
      unfold AcIn SlB SlU at hac
      obtain ⟨rfl, hd, rfl, rfl, rfl, hn, rfl, hbb, ⟨o5, cap5, b5, off5, rfl, p5, p5b⟩, ⟨o6, cap6, b6, off6, rfl, p6, p6b⟩⟩ := hac
      simp only at g0 g1 g2 g3 g4 g5 g6 hd hn hbb p5 p5b p6 p6b
      have k0 := (HB.out.cell (p := ⟨b, off + i * 7, none⟩) hbl).trans g0
      have k1 := (HB.out.cell (p := ⟨b, off + i * 7 + 1, none⟩) hbl).trans g1
      have k2 := (HB.out.cell (p := ⟨b, off + i * 7 + 2, none⟩) hbl).trans g2
      have k3 := (HB.out.cell (p := ⟨b, off + i * 7 + 3, none⟩) hbl).trans g3
      have k4 := (HB.out.cell (p := ⟨b, off + i * 7 + 4, none⟩) hbl).trans g4
      have k5 := (HB.out.cell (p := ⟨b, off + i * 7 + 5, none⟩) hbl).trans g5
      have k6 := (HB.out.cell (p := ⟨b, off + i * 7 + 6, none⟩) hbl).trans g6
      have HNB := Lib.hid (And.intro hd (And.intro hn hbb))
      have q1 : (0 : Int) ≤ (i : Int) := by omega
      have q2 : (i : Int) < (m : Int) := by omega
      subst eo
      clear g0 g1 g2 g3 g4 g5 g6 p5 p5b p6 p6b hd hn hbb hq
      have K11 := Lib.hid (light_at wr.heap.size d a t n bb o5 qs.length cap5 o6 us.length cap6)
      cases hL : lightB a t qs.length us.length
      · rw [hL] at K11
        clear hL
        go_wp2_with (first
          | (go_at_call 11; ((with_reducible refine (K11.out _ (acb_new wr _ _ _ _ _ _ _)).mono ?_); rintro e w6 ⟨rfl, HA6, HB6⟩; obtain ⟨z0, z1, z2, z3, z4, z5, z6⟩ := HA6.out.cells)))
        go_ret
        exact ⟨rfl, (chain HB HB6).2.out⟩
      · rw [hL] at K11
        have hla := of_decide_eq_true hL
        have hi100 : i + 1 ≤ 100 := by omega
        have K12 := Lib.hid (text_at wr.heap.size d a t n bb HNB.out.2.1 HNB.out.2.2 o5 qs.length cap5 o6 us.length cap6)
        have K8 : Hid (∀ w6 x, Hid (Below wr.heap.size wr w6) → Hid (x.size ≤ 3000) → Hid (AcB w6 wr.heap.size (.int .u8 (d : Int)) (.string a) (.string t) (.int .u16 (n : Int)) (.int .u8 (bb : Int)) (.slice o5 qs.length cap5) (.slice o6 us.length cap6)) → Calls Try.prog 8 #[.pointer (some ⟨D, 0, none⟩), .string a, .string x] w6 fun e w' => (∃ n : Nat, e = .returned (.int .i64 (n : Int))) ∧ Hid (AcB w' wr.heap.size (.int .u8 (d : Int)) (.string a) (.string t) (.int .u16 (n : Int)) (.int .u8 (bb : Int)) (.slice o5 qs.length cap5) (.slice o6 us.length cap6)) ∧ Hid (Ph1 w.heap.size w' D (i + 1)) ∧ Hid (Below w.heap.size w6 w')) := Lib.hid (fun w6 x h hx hA => (HG.out.write_na h.out wr.heap.size ⟨Nat.le_refl _, lt_of_heap hA.out⟩ hi100 a x hla.1 (by have := hx.out; omega)).mono fun e w' ⟨h1, h2⟩ => ⟨h1.1, Lib.hid (h2.trans hA.out), Lib.hid h1.2.1, Lib.hid h1.2.2⟩)
        have HR : Hid (∀ w1, Hid (AcB w1 wr.heap.size (.int .u8 (d : Int)) (.string a) (.string t) (.int .u16 (n : Int)) (.int .u8 (bb : Int)) (.slice o5 qs.length cap5) (.slice o6 us.length cap6)) → (w1.cell? ⟨wr.heap.size, 0, none⟩ = some (.int .u8 (d : Int)) ∧ w1.cell? ⟨wr.heap.size, 1, none⟩ = some (.string a) ∧ w1.cell? ⟨wr.heap.size, 2, none⟩ = some (.string t) ∧ w1.cell? ⟨wr.heap.size, 3, none⟩ = some (.int .u16 (n : Int)) ∧ w1.cell? ⟨wr.heap.size, 4, none⟩ = some (.int .u8 (bb : Int)) ∧ w1.cell? ⟨wr.heap.size, 5, none⟩ = some (.slice o5 qs.length cap5) ∧ w1.cell? ⟨wr.heap.size, 6, none⟩ = some (.slice o6 us.length cap6)) ∧ Hid (AcB w1 wr.heap.size (.int .u8 (d : Int)) (.string a) (.string t) (.int .u16 (n : Int)) (.int .u8 (bb : Int)) (.slice o5 qs.length cap5) (.slice o6 us.length cap6))) := Lib.hid (fun w1 h => ⟨h.out.cells, h⟩)
        clear hL hla
        go_wp2_with (first
          | (go_at_call 11; ((with_reducible refine (K11.out _ (acb_new wr _ _ _ _ _ _ _)).mono ?_); rintro e w6 ⟨rfl, HA6, HB6⟩; obtain ⟨z0, z1, z2, z3, z4, z5, z6⟩ := HA6.out.cells; obtain ⟨HC6, HD6⟩ := chain HB HB6)))
        go_region_held3 (fun wz => (wz.cell? ⟨wr.heap.size, 0, none⟩ = some (.int .u8 (d : Int)) ∧ wz.cell? ⟨wr.heap.size, 1, none⟩ = some (.string a) ∧ wz.cell? ⟨wr.heap.size, 2, none⟩ = some (.string t) ∧ wz.cell? ⟨wr.heap.size, 3, none⟩ = some (.int .u16 (n : Int)) ∧ wz.cell? ⟨wr.heap.size, 4, none⟩ = some (.int .u8 (bb : Int)) ∧ wz.cell? ⟨wr.heap.size, 5, none⟩ = some (.slice o5 qs.length cap5) ∧ wz.cell? ⟨wr.heap.size, 6, none⟩ = some (.slice o6 us.length cap6)) ∧ Hid (AcB wz wr.heap.size (.int .u8 (d : Int)) (.string a) (.string t) (.int .u16 (n : Int)) (.int .u8 (bb : Int)) (.slice o5 qs.length cap5) (.slice o6 us.length cap6)))
          (first | exact HR.out _ (by assumption) | exact HR.out _ HA6 | go_keep)
          (first
            | (go_at_call 12; ((with_reducible refine (K12.out _ (Hid.out ?_)).mono ?_); (first | assumption | exact HA6); rintro e w7 ⟨⟨xt, rfl, HX⟩, HA7, HB7⟩))
            | (go_at_call 8; ((with_reducible refine (K8.out _ _ ?_ HX ?_).mono ?_); (first | exact Lib.hid (HC6.out.drew.trans (HB7.out.mono HC6.out.size))); (first | assumption | exact HA7); rintro e w8 ⟨⟨r, rfl⟩, HA8, HG8, HB8⟩)))
        all_goals
          apply_assumption
          go_wp2
          go_roundw
          case rel => exact ⟨i + 1, by omega, by go_num, HG8, Lib.hid ((HD6.out.drew.trans (HB7.out.mono HD6.out.size)).trans HB8.out)⟩
          case measure => simp [intOf]; omega
    · have hjm : i = m := by omega
      subst hjm
      have K19 := Lib.hid (HG.out.names (by omega))
      clear HO HIN HM HG
      go_wp2_with (first
        | (go_at_call 19; ((with_reducible refine (K19.out).mono ?_); rintro e w6 ⟨st0, ρk, ok, capk, rfl, hp6, hf6, hb6⟩; have HP6 := Lib.hid hp6; have HF6 := Lib.hid hf6; have HB6 := Lib.hid (HB.out.trans hb6); clear hp6 hf6 hb6)))
      clear K19 HB
      obtain ⟨mk, hmk⟩ : ∃ mk, mk = (keysN st0.N).length := ⟨_, rfl⟩
      have HMK := Lib.hid hmk
      have q100 : (mk : Int) ≤ 100 := by have := HF6.out.2.1; omega
      rw [← hmk]
      clear hmk q20 hi
      go_loopw [51, 12] (fun v x wr => ∃ (j : Nat) (ρ2 : Option Nat) (oo2 : Option Addr) (capt : Nat), j ≤ mk ∧ v = .int .i64 (j : Int) ∧ x = .slice oo2 j capt ∧ Hid (Ph w.heap.size wr D (fun st => Sy st0 st j) (keysN st0.N) ρk ok capk (txs st0 j) ρ2 oo2 capt) ∧ Hid (Below w.heap.size w wr)) (fun v _ _ => mk - (intOf v).toNat)
      case atStart => exact ⟨0, none, none, 0, by omega, rfl, rfl, HP6, HB6⟩
      case round =>
        obtain ⟨j, ρ2, oo2, capt, hj, rfl, rfl, HP, HB⟩ := hrel
        by_cases hlt : j < mk
        · have hjl : j < (keysN st0.N).length := by rw [← HMK.out]; exact hlt
          obtain ⟨s, hs⟩ : ∃ s, s = sN (keysN st0.N)[j] := ⟨_, rfl⟩
          obtain ⟨r, hor, hcell⟩ := HP.out.cell j hjl
          rw [← hs] at hcell
          obtain ⟨hmem, hsz⟩ := HF6.out.2.2.1 _ (List.getElem_mem hjl)
          rw [← hs] at hmem
          have hz : s.size ≤ 60 := by rw [hs, sN_size]; exact hsz
          have K9 : Hid (Calls Try.prog 9 #[.pointer (some ⟨D, 0, none⟩), .string s] wr fun e w' => e = .returned (.int .i64 0) ∧ Hid (Ph w.heap.size w' D (fun st => Sy st0 st (j + 1)) (keysN st0.N) ρk ok capk (txs st0 j) ρ2 oo2 capt) ∧ Hid (Below w.heap.size wr w')) := Lib.hid ((HP.out.sync (by have := HF6.out.1; omega) hjl s hs hmem hz).mono fun e w' ⟨he, h1, h2⟩ => ⟨he, Lib.hid h1, Lib.hid h2⟩)
          have K17 : Hid (∀ w7, Hid (Ph w.heap.size w7 D (fun st => Sy st0 st (j + 1)) (keysN st0.N) ρk ok capk (txs st0 j) ρ2 oo2 capt) → Calls Try.prog 17 #[.pointer (some ⟨D, 0, none⟩), .string s] w7 fun e w' => e = .returned (.tuple #[.string (txt st0 s), .int .i64 0]) ∧ Hid (Ph w.heap.size w' D (fun st => Sy st0 st (j + 1)) (keysN st0.N) ρk ok capk (txs st0 j) ρ2 oo2 capt) ∧ Hid (Below w.heap.size w7 w')) := Lib.hid (fun w7 h => (h.out.read s hmem hz).mono fun e w' ⟨he, h1, h2⟩ => ⟨he, Lib.hid h1, Lib.hid h2⟩)
          have HNEXT := Lib.hid (txs_next st0 j hjl s hs)
          have HLEN := Lib.hid (txs_len st0 j (by omega))
          have q1 : (0 : Int) ≤ (j : Int) := by omega
          have q2 : (j : Int) < (mk : Int) := by omega
          subst hor
          generalize txt st0 s = x at K17 HNEXT
          clear hs hmem hsz hz HP
          go_wp2_with (first
            | (go_at_call 9; ((with_reducible refine (K9.out).mono ?_); rintro e w7 ⟨rfl, HP7, HB7⟩))
            | (go_at_call 17; ((with_reducible refine (K17.out _ HP7).mono ?_); rintro e w8 ⟨rfl, HP8, HB8⟩))
            | (at_builtin; refine wpList_prow rfl _ _ 44 9 rfl Try.underlying44 (.string ⟨#[]⟩) 1 16 info9 rfl (by omega) (by omega) ρ2 oo2 capt j ((txs st0 j).map Value.string) (HP8.out.row2 HLEN.out _) (by omega) ⟨_, 0, none⟩ [.string x] rfl (one_new _ _ 9) (fun u hu => (by simp at hu; subst hu; rfl)) rfl rfl ?_; intro o9 cap9 w9 ρ9 hrow9 hnx9 hk9; have HROW9 := Lib.hid hrow9; have HNX9 := Lib.hid hnx9; have HK9 := Lib.hid hk9; clear hrow9 hnx9 hk9; go_frame))
          go_roundw
          case rel =>
            have h9 := HP8.out.append (fun st h t ht => HF6.out.2.2.2 t (by rw [← h.p]; exact ht)) x (by rw [HLEN.out]; exact HROW9.out) HNX9.out HK9.out
            rw [HNEXT.out] at h9
            exact ⟨j + 1, ρ9, o9, cap9, by omega, by go_num, by simp, Lib.hid h9.1, Lib.hid (((HB.out.trans HB7.out).trans HB8.out).trans h9.2)⟩
          case measure => simp [intOf]; omega
        · have hjm : j = mk := by omega
          subst hjm
          have HLEN := Lib.hid (txs_len st0 j (by have := HMK.out; omega))
          have HP' : Hid (Ph w.heap.size wr D (fun st => Sy st0 st (keysN st0.N).length) (keysN st0.N) ρk ok capk (txs st0 j) ρ2 oo2 capt) := by have := HP.out; rw [HMK.out] at this ⊢; exact Lib.hid this
          have HX := Lib.hid (Eq.refl (txs st0 j))
          have HAT := Lib.hid (fun i h x hs => txs_at st0 j i h HMK.out x hs)
          generalize txs st0 j = tx at HP' HLEN HAT
          have K10 : Hid (Calls Try.prog 10 #[.pointer (some ⟨D, 0, none⟩)] wr fun e w' => e = .returned (.int .i64 0) ∧ Hid (Ph w.heap.size w' D (fun st => Ms st0 st) (keysN st0.N) ρk ok capk tx ρ2 oo2 capt) ∧ Hid (Below w.heap.size w w')) := Lib.hid ((HP'.out.dir (by have := HF6.out.1; omega) (by have := HF6.out.2.1; omega)).mono fun e w' ⟨he, h1, h2⟩ => ⟨he, Lib.hid h1, Lib.hid (HB.out.trans h2)⟩)
          have K18 : Hid (∀ w7, Hid (Ph w.heap.size w7 D (fun st => Ms st0 st) (keysN st0.N) ρk ok capk tx ρ2 oo2 capt) → Calls Try.prog 18 #[.pointer (some ⟨D, 0, none⟩)] w7 fun e w' => e = .returned (.int .i64 0) ∧ w' = w7) := Lib.hid (fun w7 h => h.out.pending (fun st h => h.toEs))
          have K20 : Hid (∀ w7, Hid (Ph w.heap.size w7 D (fun st => Ms st0 st) (keysN st0.N) ρk ok capk tx ρ2 oo2 capt) → Hid (Below w.heap.size w w7) → Calls Try.prog 20 #[.pointer (some ⟨D, 0, none⟩)] w7 fun e w' => e = .returned (.int .i64 (usedN st0 : Nat)) ∧ Hid (Ph w.heap.size w' D (fun st => Ms st0 st) (keysN st0.N) ρk ok capk tx ρ2 oo2 capt) ∧ Hid (Below w.heap.size w w')) := Lib.hid (fun w7 h hb => (h.out.used (fun st h => h.toEs)).mono fun e w' ⟨he, h1, h2⟩ => ⟨he, Lib.hid h1, Lib.hid (hb.out.trans h2)⟩)
          have K16 : Hid (∀ w7, Hid (Ph w.heap.size w7 D (fun st => Ms st0 st) (keysN st0.N) ρk ok capk tx ρ2 oo2 capt) → Hid (Below w.heap.size w w7) → Calls Try.prog 16 #[.pointer (some ⟨D, 0, none⟩), .slice o1 ns.length cap1, .slice o2 ss.length cap2] w7 fun e w' => e = .returned (.tuple #[]) ∧ Hid (Ph w.heap.size w' D (fun st => Es st0 st) (keysN st0.N) ρk ok capk tx ρ2 oo2 capt) ∧ Hid (Below w.heap.size w w')) := Lib.hid (fun w7 h hb => (h.out.crash ns o1 cap1 b1 off1 H1.out.1 (bools_later H1.out.2 hb.out (fun hp => (H1.out.1 hp).2)) ss o2 cap2 b2 off2 H2.out.1 (u64s_later H2.out.2 hb.out (fun hp => (H2.out.1 hp).2))).mono fun e w' ⟨he, h1, h2⟩ => ⟨he, Lib.hid h1, Lib.hid (hb.out.trans h2)⟩)
          have K19 : Hid (∀ w7, Hid (Ph w.heap.size w7 D (fun st => Es st0 st) (keysN st0.N) ρk ok capk tx ρ2 oo2 capt) → Calls Try.prog 19 #[.pointer (some ⟨D, 0, none⟩)] w7 fun e w' => (∃ o cap, e = .returned (.slice o j cap)) ∧ Hid (Ph w.heap.size w' D (fun st => Es st0 st) (keysN st0.N) ρk ok capk tx ρ2 oo2 capt) ∧ Hid (Below w.heap.size w7 w')) := Lib.hid (fun w7 h => (h.out.namesE (fun s hs => (HF6.out.2.2.1 s hs).2)).mono fun e w' ⟨⟨o, cap, he⟩, h1, h2⟩ => ⟨⟨o, cap, by rw [he, HMK.out]⟩, Lib.hid h1, Lib.hid h2⟩)
          have K20b : Hid (∀ w7, Hid (Ph w.heap.size w7 D (fun st => Es st0 st) (keysN st0.N) ρk ok capk tx ρ2 oo2 capt) → Calls Try.prog 20 #[.pointer (some ⟨D, 0, none⟩)] w7 fun e w' => e = .returned (.int .i64 (usedN st0 : Nat)) ∧ Hid (Below w.heap.size w7 w')) := Lib.hid (fun w7 h => (h.out.used (fun st h => h)).mono fun e w' ⟨he, h1, h2⟩ => ⟨he, Lib.hid h2⟩)
          obtain ⟨u, hu⟩ : ∃ u, u = usedN st0 := ⟨_, rfl⟩
          rw [← hu] at K20 K20b
          clear hu HX HP HP' hj
          go_wp2_with (first
            | (go_at_call 10; ((with_reducible refine (K10.out).mono ?_); rintro e w7 ⟨rfl, HP7, HB7⟩))
            | (go_at_call 18; ((with_reducible refine (K18.out _ HP7).mono ?_); rintro e w8 ⟨rfl, rfl⟩))
            | (go_at_call 20; ((with_reducible refine (K20.out _ HP7 HB7).mono ?_); rintro e w9 ⟨rfl, HP9, HB9⟩))
            | (go_at_call 16; ((with_reducible refine (K16.out _ HP9 HB9).mono ?_); rintro e w10 ⟨rfl, HP10, HB10⟩)))
          clear K10 K18 K20 K16 HP7 HB7 HP9 HB9
          go_loopw [86] (fun v wr => ∃ i : Nat, i ≤ j ∧ v = .int .i64 (i : Int) ∧ Hid (Ph w.heap.size wr D (fun st => Es st0 st) (keysN st0.N) ρk ok capk tx ρ2 oo2 capt) ∧ Hid (Below w.heap.size w wr)) (fun v _ => j - (intOf v).toNat)
          case atStart => exact ⟨0, by omega, rfl, HP10, HB10⟩
          case round =>
            obtain ⟨i, hi, rfl, HP, HB⟩ := hrel
            by_cases hlt : i < j
            · have hil : i < (keysN st0.N).length := by rw [← HMK.out]; exact hlt
              obtain ⟨s, hs⟩ : ∃ s, s = sN (keysN st0.N)[i] := ⟨_, rfl⟩
              obtain ⟨r, hor, hcell⟩ := HP.out.cell i hil
              rw [← hs] at hcell
              obtain ⟨hmem, hsz⟩ := HF6.out.2.2.1 _ (List.getElem_mem hil)
              rw [← hs] at hmem
              have hz : s.size ≤ 60 := by rw [hs, sN_size]; exact hsz
              obtain ⟨r2, hor2, _⟩ := HP.out.text i (txt st0 s) (HAT.out i hil s hs)
              have K17 : Hid (Calls Try.prog 17 #[.pointer (some ⟨D, 0, none⟩), .string s] wr fun e w' => e = .returned (.tuple #[.string (txt st0 s), .int .i64 0]) ∧ (w'.cell? ⟨r2, i, none⟩ = some (.string (txt st0 s))) ∧ Hid (Ph w.heap.size w' D (fun st => Es st0 st) (keysN st0.N) ρk ok capk tx ρ2 oo2 capt) ∧ Hid (Below w.heap.size w w')) := Lib.hid ((HP.out.readE i hil s hs hmem hz).mono fun e w' ⟨he, h1, h2⟩ => ⟨he, (by
                obtain ⟨r3, e3, h3⟩ := h1.text i (txt st0 s) (HAT.out i hil s hs)
                rw [hor2] at e3
                cases e3
                exact h3), Lib.hid h1, Lib.hid (HB.out.trans h2)⟩)
              have q1 : (0 : Int) ≤ (i : Int) := by omega
              have q2 : (i : Int) < (j : Int) := by omega
              subst hor hor2
              generalize txt st0 s = x at K17
              clear hs hmem hsz hz HP
              go_wp2_with (first
                | (go_at_call 17; ((with_reducible refine (K17.out).mono ?_); rintro e w8 ⟨rfl, hc8, HP8, HB8⟩)))
              go_roundw
              case rel => exact ⟨i + 1, by omega, by go_num, HP8, HB8⟩
              case measure => simp [intOf]; omega
            · have hjm : i = j := by omega
              subst hjm
              clear HAT
              go_wp2_with (first
                | (go_at_call 19; ((with_reducible refine (K19.out _ HP).mono ?_); rintro e w8 ⟨⟨o8, cap8, rfl⟩, HP8, HB8⟩))
                | (go_at_call 20; ((with_reducible refine (K20b.out _ HP8).mono ?_); rintro e w9 ⟨rfl, HB9⟩)))
              go_ret
              exact ⟨rfl, (HB.out.trans HB8.out).trans HB9.out⟩
end Go.Proofs.Ytjkpopdjmmgbbaa
