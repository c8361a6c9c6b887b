/- Walks of file.Load, file.Clean.; An act's text, exactly; a disk beside blocks that aren't its own.; Acts, rows of rows as arguments, opened. -/
import Derived.Test.YtjkpopdjmmgbbabGreatJ23
import Derived.ChangeSame
import Derived.OpenShut
import Derived.Deep.Slices
set_option linter.unusedVariables false
set_option linter.unusedSimpArgs false
namespace Go.Proofs.YtjkpopdjmmgbbabGreat.Fi
open Go.RowKit Dk

/-- What Load answers. -/
def ldV (st : St) (s : ByteArray) : Value := if findE st s = 0 then opV (readS st s) else .tuple #[.string ⟨#[]⟩, .int .i64 (findE st s : Nat)]
set_option maxRecDepth 1000000 in
theorem load_any {w : World} {K : Nat → Prop} {D : Nat} {g : Gh} {st : St} (h : DW w K D g st) (s : ByteArray) (hs : s.size ≤ 1000000000) :
    Calls Tryz.prog 8 #[.pointer (some ⟨D, 0, none⟩), .string s] w fun e w' => e = .returned (ldV st s) ∧ Below w.heap.size w w' := by
  have K45 := Lib.hid (read_any h s hs)
  unfold ldV
  by_cases h0 : findE st s = 0
  · have hz : (readS st s).size ≤ 100000 := by
      unfold readS
      rw [if_pos h0]
      exact (h.size _ (h.filN.live (findE_zero h0).2)).1
    have K8 := Lib.hid (fun w => open_any (readS st s) hz w)
    rw [h0] at K45 ⊢
    rw [if_pos rfl]
    have ho : ∃ (t : ByteArray) (E : Nat), opV (readS st s) = .tuple #[.string t, .int .i64 (E : Int)] := by
      unfold opV
      split
      · exact ⟨_, 0, rfl⟩
      · exact ⟨_, 23, rfl⟩
    obtain ⟨t, E, hE⟩ := ho
    rw [hE] at K8 ⊢
    generalize readS st s = x at *
    clear h h0 hz hE
    go_enter Tryz.func8, Tryz.ntmps8
    go_wp2_with (first
      | (go_at_call 20; ((with_reducible refine (K45.out).mono ?_); rintro e w1 ⟨rfl, hb1⟩))
      | (go_at_call 10; ((with_reducible refine (K8.out _).mono ?_); rintro e w2 ⟨rfl, hb2⟩)))
    go_ret2
    exact ⟨rfl, hb1.trans (hb2.mono hb1.size)⟩
  · rw [if_neg h0]
    have hx : ((findE st s : Nat) : Int) ≠ 0 := by omega
    have hb : (((findE st s : Nat) : Int) == 0) = false := by rw [beq_eq_false_iff_ne]; exact hx
    generalize readS st s = x at *
    generalize findE st s = E at *
    clear h
    go_enter Tryz.func8, Tryz.ntmps8
    go_wp2_with (first
      | (go_at_call 20; ((with_reducible refine (K45.out).mono ?_); rintro e w1 ⟨rfl, hb1⟩)))
    go_ret2
    exact ⟨rfl, hb1⟩

theorem rmS_s (st : St) (s : ByteArray) : (rmS st s).steps ≤ st.steps + 1 ∧ (rmS st s).P.length ≤ st.P.length + 1 := by
  have h := stepS_s st
  have hp := (stepS_N st).2.2.2.1
  unfold rmS onS
  split
  · split
    · refine ⟨h, ?_⟩
      show ((stepS st).P ++ [_]).length ≤ _
      rw [hp, List.length_append]; simp
    · refine ⟨Nat.le_succ _, ?_⟩
      show (st.P ++ [_]).length ≤ _
      rw [List.length_append]; simp
  · split
    · refine ⟨h, ?_⟩
      rw [hp]; omega
    · omega
/-- What a Clean leaves: its answer, the disk. -/
noncomputable def clR (st : St) (gone : Bool) : List ByteArray → Nat × St
  | [] => if gone = true then (sdE st, sdS st) else (0, st)
  | s :: ss => if onE st s = 0 then clR (rmS st s) true ss else if onE st s = 12 then clR (rmS st s) gone ss else (onE st s, rmS st s)
theorem clR_nil (st : St) (gone : Bool) : clR st gone [] = if gone = true then (sdE st, sdS st) else (0, st) := rfl
theorem clR_cons (st : St) (gone : Bool) (s : ByteArray) (ss : List ByteArray) : clR st gone (s :: ss) = if onE st s = 0 then clR (rmS st s) true ss else if onE st s = 12 then clR (rmS st s) gone ss else (onE st s, rmS st s) := rfl
def ClQ (st : St) (ss : List ByteArray) (K : Nat → Prop) (D : Nat) (g : Gh) (w : World) (e : Ending) (w' : World) : Prop :=
  e = .returned (.int .i64 ((clR st false ss).1 : Nat)) ∧ (∃ g', DW w' (Kn K w w') D g' (clR st false ss).2 ∧ g'.nn ≤ g.nn + ss.length) ∧ Kp K w w'
/-- What holds of the disk in a Clean. -/
structure ClAt (w : World) (K : Nat → Prop) (D : Nat) (g : Gh) (st : St) (ss : List ByteArray) (j : Nat) (gone : Bool) (wz : World) (gk : Gh) (sk : St) : Prop where
  d : DW wz (Kn K w wz) D gk sk
  nn : gk.nn ≤ g.nn + j
  kp : Kp K w wz
  p : sk.P.length ≤ st.P.length + j
  s : sk.steps ≤ st.steps + j
  q : clR sk gone (ss.drop j) = clR st false ss
section
variable {w : World} {K : Nat → Prop} {D : Nat} {g : Gh} {st : St} {ss : List ByteArray} {wz : World} {gk : Gh} {sk : St}
theorem ClAt.start (h : DW w K D g st) : ClAt w K D g st ss 0 false w g st :=
  ⟨h.kn, Nat.le_refl _, Kp.refl _ _, Nat.le_refl _, Nat.le_refl _, rfl⟩
theorem ClAt.done {gone : Bool} (h : ClAt w K D g st ss ss.length gone wz gk sk) (hg : gone = false) : ClQ st ss K D g w (.returned (.int .i64 0)) wz := by
  have hq := h.q
  rw [List.drop_length, clR_nil] at hq
  rw [if_neg (by rw [hg]; simp)] at hq
  exact ⟨by rw [← hq]; rfl, ⟨gk, by rw [← hq]; exact h.d, h.nn⟩, h.kp⟩
theorem ClAt.dir {gone : Bool} (h : ClAt w K D g st ss ss.length gone wz gk sk) (hg : gone = true) (hfew : g.nn + ss.length ≤ 800000 ∧ st.P.length + ss.length ≤ 900000 ∧ st.steps + ss.length ≤ 900000000) :
    Calls Tryz.prog 19 #[.pointer (some ⟨D, 0, none⟩)] wz fun e w' => ClQ st ss K D g w e w' ∧ ∃ E : Nat, e = .returned (.int .i64 (E : Int)) := by
  have h1 := h.nn
  have h3 := h.s
  have hq := h.q
  rw [List.drop_length, clR_nil] at hq
  rw [if_pos hg] at hq
  refine (sd_any h.d (by omega)).mono fun e w' hq' => ?_
  obtain ⟨he, ⟨g', hd, hg'⟩, hkp⟩ := hq'
  have hd' := kn2 hd h.kp.size hkp.size
  exact ⟨⟨by rw [he, ← hq], ⟨g', by rw [← hq]; exact hd', by omega⟩, h.kp.andKn hkp⟩, _, he⟩
end
end Go.Proofs.YtjkpopdjmmgbbabGreat.Fi

namespace Go.Proofs.YtjkpopdjmmgbbabGreat.Fi
open Go.RowKit Dk Go.Maps

def txB (n bb : Nat) : ByteArray := W.str (List.replicate (n % 3000) (UInt8.ofNat bb))
theorem txB_size (n bb : Nat) : (txB n bb).size ≤ 3000 := by
  unfold txB
  rw [W.size_str, List.length_replicate]
  omega
theorem rep_set (x : UInt8) (z i : Nat) (h : i < z) : (List.replicate i x ++ List.replicate (z - i) 0).set i x = List.replicate (i + 1) x ++ List.replicate (z - (i + 1)) 0 := by
  rw [List.set_append_right _ _ (by simp)]
  rw [List.length_replicate, Nat.sub_self]
  rw [show z - i = (z - (i + 1)) + 1 by omega, List.replicate_succ, List.set_cons_zero, List.replicate_succ', List.append_assoc]
  rfl
set_option maxRecDepth 100000 in
set_option maxHeartbeats 2000000 in
theorem text_exact (a b : ByteArray) (n bb : Nat) (cl : Bool) (f : Int) (hn : n ≤ 65535) (hb : bb ≤ 255) (w : World) :
    Calls Tryz.prog 7 #[.agg (actC a b n bb cl f)] w fun e w' => e = .returned (.string (txB n bb)) ∧ Below w.heap.size w w' := by
  unfold actC
  obtain ⟨z, hz⟩ : ∃ z : Nat, z = n % 3000 := ⟨_, rfl⟩
  have ez : (n : Int) % 3000 = (z : Int) := by omega
  have hzl : z < 3000 := by omega
  have hmk := fun w => run_make_row' (P := Tryz.prog) 51 5 (.int .u8 0) 1 Tryz.underlying51 info5 rfl .u16 .u16 z (by omega) (by omega) w
  rw [made_bytes] at hmk
  have hmk2 : ∀ w, (Instr.makeSlice 51 (.int .u16 ((n : Int) % 3000)) (.int .u16 ((n : Int) % 3000))).run Tryz.prog w = .ok (.slice (some ⟨w.heap.size, 0, none⟩) z z) (w.alloc (.cells (bcl (List.replicate z 0)).toArray 5)) := fun w => by rw [ez]; exact hmk w
  have HZ := Lib.hid hz
  obtain ⟨x, hx⟩ : ∃ x : UInt8, x = UInt8.ofNat bb := ⟨_, rfl⟩
  have hxb : (bb : Int) = ((x.toNat : Nat) : Int) := by rw [hx, UInt8.toNat_ofNat']; omega
  have HXB := Lib.hid hxb
  have HXX := Lib.hid hx
  clear hmk ez hz hx hxb
  have HBX := Lib.hid (heap_new w (.cells #[.string a, .string b, .int .u16 (n : Int), .int .u8 (bb : Int), .bool cl, .int .i8 f] 34))
  have HLT := Lib.hid (alloc_lt w (.cells #[.string a, .string b, .int .u16 (n : Int), .int .u8 (bb : Int), .bool cl, .int .i8 f] 34))
  have HB0 := Lib.hid (alloc_below w (.cells #[.string a, .string b, .int .u16 (n : Int), .int .u8 (bb : Int), .bool cl, .int .i8 f] 34))
  have HSZ : Hid ((w.alloc (.cells #[.string a, .string b, .int .u16 (n : Int), .int .u8 (bb : Int), .bool cl, .int .i8 f] 34)).heap.size = w.heap.size + 1) := Lib.hid (by simp)
  go_enter Tryz.func7, Tryz.ntmps7
  go_wp2
  generalize w.alloc (.cells #[.string a, .string b, .int .u16 (n : Int), .int .u8 (bb : Int), .bool cl, .int .i8 f] 34) = wa at *
  go_loopw [11] (fun v wr => ∃ (i : Nat) (l : List UInt8), i ≤ z ∧ v = .int .i64 (i : Int) ∧ Hid (l = List.replicate i x ++ List.replicate (z - i) 0) ∧ Hid (l.length = z ∧ BB (w.heap.size + 1) 5 l wr ∧ Below w.heap.size w wr ∧ wr.heap[w.heap.size]? = some (.cells #[.string a, .string b, .int .u16 (n : Int), .int .u8 (bb : Int), .bool cl, .int .i8 f] 34 (0, 0)))) (fun v _ => z - (intOf v).toNat)
  case atStart => exact ⟨0, List.replicate z 0, by omega, rfl, Lib.hid (by simp), Lib.hid ⟨by simp, by rw [← HSZ.out]; exact bb_new wa _ 5, HB0.out.alloc (by have := HLT.out; omega) _, ((alloc_below wa _).block _ HLT.out).trans HBX.out⟩⟩
  case round =>
    obtain ⟨i, l, hi, rfl, HR, HL⟩ := hrel
    by_cases hlt : i < z
    · have k4 : wr.cell? ⟨w.heap.size, 3, none⟩ = some (.int .u8 (bb : Int)) := cell_of_row wr w.heap.size 3 _ _ _ HL.out.2.2.2
      have kx := HL.out.2.1.cell i (by rw [HL.out.1]; exact hlt)
      have kf := HL.out.2.1.frozen i
      have q1 : (0 : Int) ≤ (i : Int) := by omega
      have q2 : (i : Int) < (z : Int) := by omega
      go_wp2
      go_roundw
      case rel =>
        have hset : l.set i x = List.replicate (i + 1) x ++ List.replicate (z - (i + 1)) 0 := by
          rw [HR.out]
          exact rep_set x z i hlt
        have hx := HXB.out
        exact ⟨i + 1, l.set i x, by omega, by go_num, Lib.hid hset, Lib.hid ⟨by rw [List.length_set]; exact HL.out.1, by rw [hx]; exact HL.out.2.1.put i x, HL.out.2.2.1.setCell (p := ⟨w.heap.size + 1, i, none⟩) (by show w.heap.size ≤ w.heap.size + 1; omega) _, (heap_setCell_other _ _ _ _ (by show w.heap.size ≠ w.heap.size + 1; omega)).trans HL.out.2.2.2⟩⟩
      case measure => simp [intOf]; omega
    · have hconv := conv_bb HL.out.2.1
      rw [HL.out.1] at hconv
      go_wp2
      go_ret
      have hiz : i = z := by omega
      have hl : (⟨l.toArray⟩ : ByteArray) = txB n bb := by
        rw [HR.out, hiz, Nat.sub_self]
        unfold txB
        rw [← HZ.out, ← HXX.out]
        simp [W.str]
      exact ⟨congrArg (fun b => Ending.returned (.string b)) hl, HL.out.2.2.1⟩
/-- Where no turn has names that go, a disk's own blocks are all that counts. -/
theorem DW.keepK {w w' : World} {K : Nat → Prop} {D : Nat} {g : Gh} {st : St} (h : DW w K D g st) (hs : w.heap.size ≤ w'.heap.size) (hk : ∀ b, K b → w'.heap[b]? = w.heap[b]?) (hf : ∀ t ∈ st.P, t.frm = []) : DW w' K D g st where
  blk := (hk D h.own.1).trans h.blk
  names := own_keep h.names (hk _ h.own.2.1)
  sure := own_keep h.sure (hk _ h.own.2.2.1)
  ne := h.ne
  row := h.row.keep (fun r hr => hk _ (h.own.2.2.2.1 r hr))
  turn := fun i hi => by
    obtain ⟨c0, c1, c2, c3, e0, e1, e2, e3, t0, t1, t2, t3⟩ := h.turn i hi
    refine ⟨c0, c1, c2, c3, e0, e1, e2, e3, t0, t1, ?_, t3⟩
    have hn := hf _ (List.getElem_mem hi)
    rw [hn] at t2 ⊢
    obtain ⟨o, cap, b, cur, rfl, _, _⟩ := t2
    exact ⟨o, cap, b, cur, rfl, fun hp => absurd hp (by simp), fun j hj => absurd hj (by simp)⟩
  file := fun c hc => (hk c (h.own.2.2.2.2.1 c hc)).trans (h.file c hc)
  size := h.size
  filN := h.filN
  filS := h.filS
  few := h.few
  own := ⟨h.own.1, h.own.2.1, h.own.2.2.1, h.own.2.2.2.1, h.own.2.2.2.2.1, fun b hb => Nat.lt_of_lt_of_le (h.own.2.2.2.2.2 b hb) hs⟩
/-- A disk in memory, beside blocks that aren't its own. -/
def Pz (Z : Nat → Prop) (B : Nat) (w : World) (D k : Nat) (Q : St → Prop) : Prop :=
  ∃ (K : Nat → Prop) (g : Gh) (st : St), DW w K D g st ∧ (∀ b, K b → B ≤ b) ∧ g.nn ≤ 100 * k ∧ st.steps ≤ 100 * k ∧ st.P = [] ∧ Q st ∧ ∀ b, Z b → ¬ K b ∧ b < w.heap.size ∧ B ≤ b
section
variable {Z : Nat → Prop} {B : Nat} {w w' : World} {D k : Nat} {Q : St → Prop}
theorem Pz.base (h : Pz Z B w D k Q) : B ≤ w.heap.size := by
  obtain ⟨K, g, st, h1, h2, _⟩ := h
  exact Nat.le_of_lt (Nat.lt_of_le_of_lt (h2 D h1.own.1) h1.lt)
theorem Pz.later (h : Pz Z B w D k Q) (hb : Below w.heap.size w w') : Pz Z B w' D k Q := by
  obtain ⟨K, g, st, h1, h2, h3, h4, h5, h6, h7⟩ := h
  exact ⟨K, g, st, h1.later hb, h2, h3, h4, h5, h6, fun b hz => ⟨(h7 b hz).1, Nat.lt_of_lt_of_le (h7 b hz).2.1 hb.size, (h7 b hz).2.2⟩⟩
theorem Pz.le (h : Pz Z B w D k Q) (k' : Nat) (hk : k ≤ k') : Pz Z B w D k' Q := by
  obtain ⟨K, g, st, h1, h2, h3, h4, h5⟩ := h
  exact ⟨K, g, st, h1, h2, by omega, by omega, h5⟩
theorem Pz.new (h : Pz Z B w D k Q) (o : Obj) : Pz (fun b => Z b ∨ b = w.heap.size) B (w.alloc o) D k Q := by
  have hB := h.base
  obtain ⟨K, g, st, h1, h2, h3, h4, h5, h6, h7⟩ := h
  refine ⟨K, g, st, h1.later (alloc_below w o), h2, h3, h4, h5, h6, fun b hz => ?_⟩
  rcases hz with hz | hz
  · exact ⟨(h7 b hz).1, Nat.lt_of_lt_of_le (h7 b hz).2.1 (Nat.le_of_lt (alloc_lt w o)), (h7 b hz).2.2⟩
  · subst hz
    exact ⟨fun hc => by have := h1.own.2.2.2.2.2 _ hc; omega, alloc_lt w o, hB⟩
theorem Pz.sub {Z' : Nat → Prop} (h : Pz Z B w D k Q) (hz : ∀ b, Z' b → Z b) : Pz Z' B w D k Q := by
  obtain ⟨K, g, st, h1, h2, h3, h4, h5, h6, h7⟩ := h
  exact ⟨K, g, st, h1, h2, h3, h4, h5, h6, fun b hb => h7 b (hz b hb)⟩
/-- A block that isn't the disk's is written. -/
theorem Pz.set (h : Pz Z B w D k Q) {p : Addr} (hp : Z p.block) (v : Value) : Pz Z B (w.setCell p v) D k Q ∧ Below B w (w.setCell p v) := by
  have hB := h.base
  obtain ⟨K, g, st, h1, h2, h3, h4, h5, h6, h7⟩ := h
  have hkp : Kp (· = p.block) w (w.setCell p v) := (Kp.refl (fun x => x = p.block) w).setCell (p := p) (Or.inl rfl) v
  refine ⟨⟨K, g, st, DW.keepK h1 hkp.size (fun b hb => hkp.block b (h1.own.2.2.2.2.2 b hb) (fun e => (h7 _ hp).1 (by have e' : b = p.block := e; rw [← e']; exact hb))) (fun t ht => by rw [h5] at ht; cases ht), h2, h3, h4, h5, h6, fun b hz => ⟨(h7 b hz).1, Nat.lt_of_lt_of_le (h7 b hz).2.1 hkp.size, (h7 b hz).2.2⟩⟩, hkp.below (fun b hb => by have e' : b = p.block := hb; rw [e']; exact (h7 _ hp).2.2) hB⟩
end
/-- What the law knows of the disk. -/
def Ox (tx : ByteArray → Option ByteArray) (n : Nat) (st : St) : Prop := Tx st tx ∧ Maps.size st.N = n ∧ st.room = 65536
section
variable {Z : Nat → Prop} {B : Nat} {w w' : World} {D k n : Nat} {tx : ByteArray → Option ByteArray}
theorem Pz.save (h : Pz Z B w D k (Ox tx n)) (hk : k ≤ 100) (hn : n ≤ 3) (s0 next : ByteArray) (hnx : next.size ≤ 3000) (hsp : tx spareN = none) (hne : s0 ≠ spareN) (hnm : nmB s0 = true) (hs0 : s0.size ≤ 32) :
    Calls Tryz.prog 6 #[.pointer (some ⟨D, 0, none⟩), .string s0, .string spareN, .string next] w fun e w' => e = .returned (.int .i64 0) ∧ Pz Z B w' D (k + 1) (Ox (fun s => if s = s0 then some (sealB next) else tx s) (if (tx s0).isSome = true then n else n + 1)) ∧ Below B w w' ∧ ∀ b, Z b → w'.heap[b]? = w.heap[b]? := by
  have hB := h.base
  obtain ⟨K, g, st, h1, h2, h3, h4, h5, h6, h7⟩ := h
  have hpl : st.P.length = 0 := by rw [h5]; rfl
  refine (save_any h1 s0 spareN next (by decide) (by omega) (by omega) (by omega) hne).mono fun e w' hq => ?_
  obtain ⟨E, he, g', s', hd, hg, hkp, hp, hs, hq⟩ := hq
  have htd := h1.names.tidy law
  have hT := sealB_size next (by omega)
  have hu := h6.1.used htd (fun s hs => (mem_keys h1.names s hs).1)
  obtain ⟨o1, o2, o3, o4⟩ := save_ok h6.1 htd h1.filN hsp hne hnm (by omega) (by rw [h6.2.1]; omega) (by rw [h6.2.2]; rw [h6.2.1] at hu; omega) hq
  refine ⟨by rw [he, o1]; rfl, ⟨_, g', s', hd, kn_base h2 hB, by omega, by omega, o2.p, ⟨o2, ?_, o4.trans h6.2.2⟩, fun b hz => ⟨fun hc => ?_, Nat.lt_of_lt_of_le (h7 b hz).2.1 hkp.size, (h7 b hz).2.2⟩⟩, hkp.below h2 hB, fun b hz => hkp.block b (h7 b hz).2.1 (h7 b hz).1⟩
  · rw [o3, h6.2.1]
    cases hx : tx s0 with
    | none => rw [if_neg (by rw [h6.1.no _ hx]; simp), if_neg (by simp)]
    | some T =>
      obtain ⟨c, c1, _⟩ := h6.1.yes _ _ hx
      rw [if_pos (show hasN st.N s0 = true from c1.1), if_pos (by simp)]
  · rcases hc with hc | hc
    · exact (h7 b hz).1 hc
    · have := (h7 b hz).2.1; omega
def ldT (x : Option ByteArray) : Value :=
  match x with
  | some T => opV T
  | none => .tuple #[.string ⟨#[]⟩, .int .i64 12]
theorem Pz.load (h : Pz Z B w D k (Ox tx n)) (s : ByteArray) (hs : s.size ≤ 1000000) :
    Calls Tryz.prog 8 #[.pointer (some ⟨D, 0, none⟩), .string s] w fun e w' => e = .returned (ldT (tx s)) ∧ Below w.heap.size w w' := by
  obtain ⟨K, g, st, h1, h2, h3, h4, h5, h6, h7⟩ := h
  refine (load_any h1 s (by omega)).mono fun e w' ⟨he, hb⟩ => ⟨?_, hb⟩
  rw [he]
  unfold ldV ldT
  cases hx : tx s with
  | none =>
    have hf : findE st s = 12 := by unfold findE; rw [if_neg (by rw [h6.1.up]; simp), if_neg (by rw [h6.1.no _ hx]; simp)]
    rw [if_neg (by rw [hf]; omega), hf]
    rfl
  | some T =>
    obtain ⟨c, c1, c2, _⟩ := h6.1.yes _ _ hx
    have hf : findE st s = 0 := by unfold findE; rw [if_neg (by rw [h6.1.up]; simp), if_pos (show hasN st.N s = true from c1.1)]
    have hr : readS st s = T := by unfold readS; rw [if_pos hf, at_of_leads c1, c2]
    rw [if_pos hf, hr]
theorem Pz.names (h : Pz Z B w D k (Ox tx n)) (hn : ∀ s, tx s ≠ none → s.size ≤ 32) :
    Calls Tryz.prog 9 #[.pointer (some ⟨D, 0, none⟩)] w fun e w' => (∃ o cap, e = .returned (.slice o n cap)) ∧ Below w.heap.size w w' := by
  obtain ⟨K, g, st, h1, h2, h3, h4, h5, h6, h7⟩ := h
  refine (lnames_any h1 h6.1.up (fun s hs => ?_)).mono fun e w' ⟨ρ', o', cap', he, hr, hρ, hb⟩ => ⟨⟨o', cap', by rw [he, keysN_len (h1.names.tidy law), h6.2.1]⟩, hb⟩
  have hh := (mem_keys h1.names s hs).1
  have := hn (sN s) (fun e => by rw [h6.1.no _ e] at hh; cases hh)
  rw [sN_size] at this
  omega
end
end Go.Proofs.YtjkpopdjmmgbbabGreat.Fi

namespace Go.Proofs.YtjkpopdjmmgbbabGreat.Fi
open Go.ChangeShapes Go.WideShapes Go.RowKit Go.Deep Go.Maps Dk

structure Ac where
  a : ByteArray
  b : ByteArray
  n : Nat
  bb : Nat
  cl : Bool
  f : Int
instance : Inhabited Ac := ⟨⟨⟨#[]⟩, ⟨#[]⟩, 0, 0, false, 0⟩⟩
def AcIn (q : Ac) (c0 c1 c2 c3 c4 c5 : Value) : Prop := c0 = .string q.a ∧ c1 = .string q.b ∧ c2 = .int .u16 (q.n : Int) ∧ q.n ≤ 65535 ∧ c3 = .int .u8 (q.bb : Int) ∧ q.bb ≤ 255 ∧ c4 = .bool q.cl ∧ c5 = .int .i8 q.f ∧ -128 ≤ q.f ∧ q.f ≤ 127
def AcsIn (w : World) (b off : Nat) (l : List Ac) : Prop := ∀ i (h : i < l.length), ∃ c0 c1 c2 c3 c4 c5, w.cell? ⟨b, off + i * 6, none⟩ = some c0 ∧ w.cell? ⟨b, off + i * 6 + 1, none⟩ = some c1 ∧ w.cell? ⟨b, off + i * 6 + 2, none⟩ = some c2 ∧ w.cell? ⟨b, off + i * 6 + 3, none⟩ = some c3 ∧ w.cell? ⟨b, off + i * 6 + 4, none⟩ = some c4 ∧ w.cell? ⟨b, off + i * 6 + 5, none⟩ = some c5 ∧ AcIn l[i] c0 c1 c2 c3 c4 c5
theorem cells39 : Tryz.prog.cellsOf 34 = 6 := by kernel_rfl
theorem cells4 : Tryz.prog.cellsOf 4 = 1 := by kernel_rfl
theorem cells5 : Tryz.prog.cellsOf 5 = 1 := by kernel_rfl
theorem cells9 : Tryz.prog.cellsOf 9 = 1 := by kernel_rfl
theorem cells30 : Tryz.prog.cellsOf 31 = 1 := by kernel_rfl
theorem cells37 : Tryz.prog.cellsOf 32 = 1 := by kernel_rfl
theorem natU8 {n : Int} (h : (Lit.int .u8 n).wf = true) : ∃ a : Nat, n = a ∧ a ≤ 255 := by
  have h0 : 0 ≤ n ∧ n ≤ 255 := by
    simp [Lit.wf, IntKind.min, IntKind.max, IntKind.signed, IntKind.bits] at h; omega
  exact ⟨n.toNat, by omega, by omega⟩
theorem natU16 {n : Int} (h : (Lit.int .u16 n).wf = true) : ∃ a : Nat, n = a ∧ a ≤ 65535 := by
  have h0 : 0 ≤ n ∧ n ≤ 65535 := by
    simp [Lit.wf, IntKind.min, IntKind.max, IntKind.signed, IntKind.bits] at h; omega
  exact ⟨n.toNat, by omega, by omega⟩
theorem intI8 {n : Int} (h : (Lit.int .i8 n).wf = true) : -128 ≤ n ∧ n ≤ 127 := by
  simp [Lit.wf, IntKind.min, IntKind.max, IntKind.signed, IntKind.bits] at h; omega
section
variable {H : Type} {enc : TypeId × Value → H} {w : World} {sp : Nat → Bool} {held : Bool}
set_option maxRecDepth 100000 in
theorem trod_ac {fuel : Nat} {cs : List Value} {x : DataW H × List MemPlace} (h : DataW.trod enc Tryz.prog w 0 sp held fuel 34 cs = some x) :
    ∃ (q : Ac) (c0 c1 c2 c3 c4 c5 : Value), cs = [c0, c1, c2, c3, c4, c5] ∧ AcIn q c0 c1 c2 c3 c4 c5 := by
  obtain ⟨xs, n, _, rfl, hl, hlen, hf⟩ := DataW.trod_struct Tryz.underlying34 h
  rw [cells39] at hl
  match cs, hl with
  | [v0, v1, v2, v3, v4, v5], _ =>
    match xs, hlen with
    | [x0, x1, x2, x3, x4, x5], _ =>
      have f0 := hf 0 _ rfl
      have f1 := hf 1 _ rfl
      have f2 := hf 2 _ rfl
      have f3 := hf 3 _ rfl
      have f4 := hf 4 _ rfl
      have f5 := hf 5 _ rfl
      simp [cells5, cells9, cells30, cells4, cells37] at f0 f1 f2 f3 f4 f5
      obtain ⟨s1, e0, _, _⟩ := DataW.trod_string Tryz.underlying9 f0
      obtain ⟨s2, e1, _, _⟩ := DataW.trod_string Tryz.underlying9 f1
      obtain ⟨m, e2, _, wm⟩ := DataW.trod_int Tryz.underlying31 f2
      obtain ⟨bb, e3, _, wb⟩ := DataW.trod_int Tryz.underlying5 f3
      obtain ⟨cl, e4, _⟩ := DataW.trod_bool Tryz.underlying4 f4
      obtain ⟨ff, e5, _, wf⟩ := DataW.trod_int Tryz.underlying32 f5
      simp at e0 e1 e2 e3 e4 e5
      obtain ⟨m', rfl, hm⟩ := natU16 wm
      obtain ⟨b', rfl, hb⟩ := natU8 wb
      have hf8 := intI8 wf
      exact ⟨⟨s1, s2, m', b', cl, ff⟩, v0, v1, v2, v3, v4, v5, rfl, e0, e1, e2, hm, e3, hb, e4, e5, hf8.1, hf8.2⟩
set_option maxRecDepth 100000 in
theorem open_acts {fuel : Nat} {at0 : Option Addr} {n cap : Nat} {x : DataW H × List MemPlace} (h : DataW.trod enc Tryz.prog w 0 sp held fuel 22 [.slice at0 n cap] = some x) :
    ∃ (l : List Ac) (b off : Nat), n = l.length ∧ (0 < l.length → at0 = some ⟨b, off, none⟩ ∧ b < w.heap.size) ∧ AcsIn w b off l := by
  rcases open_slice Tryz.underlying22 h with ⟨hcs, _⟩ | ⟨a, len, cap', m, n', D, Pl, hcs, hb, hl, hm, hmm, hx, hi⟩
  · simp only [List.cons.injEq, Value.slice.injEq, and_true] at hcs
    obtain ⟨rfl, rfl, rfl⟩ := hcs
    exact ⟨[], 0, 0, rfl, fun h => absurd h (by simp), fun k h => absurd h (by simp)⟩
  · simp only [List.cons.injEq, Value.slice.injEq, and_true] at hcs
    obtain ⟨rfl, rfl, rfl⟩ := hcs
    have hnm : n ≤ m := by rw [hmm]; split <;> omega
    obtain ⟨b, off, spot⟩ := a
    have each : ∀ i, i < n → ∃ q : Ac, ∃ c0 c1 c2 c3 c4 c5, w.cell? (((⟨b, off, spot⟩ : Addr).add (i * 6)).add 0) = some c0 ∧ w.cell? (((⟨b, off, spot⟩ : Addr).add (i * 6)).add 1) = some c1 ∧ w.cell? (((⟨b, off, spot⟩ : Addr).add (i * 6)).add 2) = some c2 ∧ w.cell? (((⟨b, off, spot⟩ : Addr).add (i * 6)).add 3) = some c3 ∧ w.cell? (((⟨b, off, spot⟩ : Addr).add (i * 6)).add 4) = some c4 ∧ w.cell? (((⟨b, off, spot⟩ : Addr).add (i * 6)).add 5) = some c5 ∧ AcIn q c0 c1 c2 c3 c4 c5 := by
      intro i hlt
      obtain ⟨cs', h1, h2⟩ := hi i (by omega)
      rw [cells39] at h1
      obtain ⟨_, hlen2, hcell⟩ := World.cells?_some h1
      obtain ⟨q, c0, c1, c2, c3, c4, c5, rfl, hq⟩ := trod_ac h2
      exact ⟨q, c0, c1, c2, c3, c4, c5, hcell 0 (by omega), hcell 1 (by omega), hcell 2 (by omega), hcell 3 (by omega), hcell 4 (by omega), hcell 5 (by omega), hq⟩
    obtain ⟨q, hq⟩ := choose_lt each
    have hspot : 0 < n → spot = none ∧ b < w.heap.size := by
      intro hp
      obtain ⟨c0, c1, c2, c3, c4, c5, h0, _⟩ := hq 0 hp
      have hs := World.cell?_spot h0
      have hbl := World.block_lt_of_cell? w _ h0
      unfold Addr.add at hs hbl
      simp at hs hbl
      exact ⟨hs, hbl⟩
    refine ⟨(List.range n).map q, b, off, by simp, ?_, ?_⟩
    · intro hp
      have h1 := hspot (by simpa using hp)
      exact ⟨by rw [h1.1], h1.2⟩
    · intro k hk
      have hk' : k < n := by simpa using hk
      have hs := (hspot (by omega)).1
      subst hs
      obtain ⟨c0, c1, c2, c3, c4, c5, g0, g1, g2, g3, g4, g5, hn⟩ := hq k hk'
      rw [add_plain, add_plain] at g0 g1 g2 g3 g4 g5
      simp only [List.getElem_map, List.getElem_range]
      exact ⟨c0, c1, c2, c3, c4, c5, by simpa using g0, by simpa [Nat.add_assoc] using g1, by simpa [Nat.add_assoc] using g2, by simpa [Nat.add_assoc] using g3, by simpa [Nat.add_assoc] using g4, by simpa [Nat.add_assoc] using g5, hn⟩
end
end Go.Proofs.YtjkpopdjmmgbbabGreat.Fi
