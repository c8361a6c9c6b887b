/- A step; a fuse; what is read.; The library's own: a text copied, a map copied, a map's names in order.; Walk of file.Open. -/
import Derived.Test.YtjkpopdjmmgbbabGreatJ12
import Derived.Test.YtjkpopdjmmgbbabGreatJ11
set_option linter.unusedVariables false
set_option linter.unusedSimpArgs false
namespace Go.Proofs.YtjkpopdjmmgbbabGreat.Dk
open Go.RowKit Go.Maps

/-- A disk of which its own numbers alone have turned. -/
theorem DW.own_turn {w w' : World} {K : Nat → Prop} {D : Nat} {g : Gh} {st : St} (h : DW w K D g st) (fuse : Int) (steps : Nat) (down : Bool) (hk : Kp (· = D) w w')
    (hb : w'.heap[D]? = some (.cells (dcells g { st with fuse := fuse, steps := steps, down := down }) 47 (0, 0))) (h1 : steps ≤ 1000000000) (h2 : -1000000 ≤ fuse ∧ fuse ≤ 1000000) : DW w' K D g { st with fuse := fuse, steps := steps, down := down } where
  blk := hb
  names := own_keep h.names (hk.block _ h.names.lt (fun e => by obtain ⟨es, cl, he, _⟩ := h.names; have hb := h.blk; have e' : g.bn = D := e; rw [← e', he] at hb; cases hb))
  sure := own_keep h.sure (hk.block _ h.sure.lt (fun e => by obtain ⟨es, cl, he, _⟩ := h.sure; have hb := h.blk; have e' : g.bs = D := e; rw [← e', he] at hb; cases hb))
  ne := h.ne
  row := by
    refine ⟨h.row.1, ?_⟩
    rcases h.row.2 with h1 | ⟨r, cur, h1, h2, h4, h5⟩
    · exact Or.inl h1
    · refine Or.inr ⟨r, cur, h1, h2, (hk.block _ (lt_of_heap h4) (fun e => ?_)).trans h4, h5⟩
      have hb := h.blk
      have e' : r = D := e
      rw [← e', h4] at hb
      simp at hb
  turn := fun i hi => by
    obtain ⟨c0, c1, c2, c3, e0, e1, e2, e3, t0, t1, t2, t3⟩ := h.turn i hi
    refine ⟨c0, c1, c2, c3, e0, e1, e2, e3, t0, t1, t2.keep (fun b cur hbb => (hk.block b (lt_of_heap hbb) (fun e => ?_)).trans hbb), t3⟩
    have hb := h.blk
    have e' : b = D := e
    rw [← e', hbb] at hb
    simp at hb
  file := fun c hc => (hk.block c (lt_of_heap (h.file c hc)) (fun e => by
    have hb := h.blk
    have e' : c = D := e
    have hf := h.file c hc
    rw [e'] at hf
    rw [hf] at hb
    simp at hb)).trans (h.file c hc)
  size := h.size
  filN := h.filN
  filS := h.filS
  few := ⟨h.few.1, h.few.2.1, h1, h.few.2.2.2.1, h2.1, h2.2⟩
  own := ⟨h.own.1, h.own.2.1, h.own.2.2.1, h.own.2.2.2.1, h.own.2.2.2.2.1, fun b hb => Nat.lt_of_lt_of_le (h.own.2.2.2.2.2 b hb) hk.size⟩
def stepE (st : St) : Nat := if st.fuse = 0 then 15 else 0
def stepS (st : St) : St := if st.fuse = 0 then { st with down := true } else { st with fuse := if 0 < st.fuse then st.fuse - 1 else st.fuse, steps := st.steps + 1 }
theorem kp_set (w : World) (D j : Nat) (v : Value) : Kp (· = D) w (w.setCell ⟨D, j, none⟩ v) := (Kp.refl (fun x => x = D) w).setCell (p := ⟨D, j, none⟩) (Or.inl (rfl : D = D)) v
set_option maxRecDepth 100000 in
set_option maxHeartbeats 1000000 in
theorem step_any {w : World} {K : Nat → Prop} {D : Nat} {g : Gh} {st : St} (h : DW w K D g st) (hs : st.steps < 1000000000) : Calls Tryz.prog 34 #[.pointer (some ⟨D, 0, none⟩)] w fun e w' => e = .returned (.int .i64 (stepE st : Nat)) ∧ DW w' K D g (stepS st) ∧ Kp (· = D) w w' := by
  have c4 := h.c4
  have c5 := h.c5
  have f4 := h.fz 4
  have f5 := h.fz 5
  have f6 := h.fz 6
  have c6 := h.c6
  have HB := Lib.hid h.blk
  have H := Lib.hid h
  have HS := Lib.hid hs
  have few := h.few
  unfold stepE stepS
  by_cases h0 : st.fuse = 0
  · rw [if_pos h0, if_pos h0]
    rw [h0] at c4
    have H0 := Lib.hid h0
    clear h0 h hs few
    go_enter Tryz.func34, Tryz.ntmps34
    go_wp2
    go_ret
    refine ⟨rfl, H.out.own_turn st.fuse st.steps true (kp_set _ _ _ _) ?_ (by have := H.out.few; omega) (by have := H.out.few; omega), kp_set _ _ _ _⟩
    rw [heap_setCell_same _ _ _ _ _ _ HB.out]
    rfl
  · rw [if_neg h0, if_neg h0]
    have q0 : ((st.fuse : Int) == 0) = false := by rw [beq_eq_false_iff_ne]; exact h0
    by_cases h1 : 0 < st.fuse
    · rw [if_pos h1]
      obtain ⟨fu, hfu⟩ : ∃ fu, fu = st.fuse := ⟨_, rfl⟩
      obtain ⟨n, hn⟩ : ∃ n, n = st.steps := ⟨_, rfl⟩
      rw [← hfu] at c4 q0 h1 few
      rw [← hn] at c5 few hs
      rw [← hfu, ← hn]
      have HF := Lib.hid (And.intro hfu hn)
      have b1 : fu ≤ 1000000 := few.2.2.2.2.2
      have b2 : (n : Int) < 1000000000 := by omega
      clear h0 h hs few hfu hn
      go_enter Tryz.func34, Tryz.ntmps34
      go_wp2
      go_ret
      have kk := (kp_set w D 4 (.int .i64 (fu - 1))).trans (kp_set (w.setCell ⟨D, 4, none⟩ (.int .i64 (fu - 1))) D 5 (.int .i64 ((n : Int) + 1)))
      refine ⟨rfl, H.out.own_turn (fu - 1) (n + 1) st.down kk ?_ (by omega) (by omega), kk⟩
      rw [heap_setCell_same _ _ _ _ _ _ (heap_setCell_same _ _ _ _ _ _ HB.out)]
      rfl
    · rw [if_neg h1]
      obtain ⟨fu, hfu⟩ : ∃ fu, fu = st.fuse := ⟨_, rfl⟩
      obtain ⟨n, hn⟩ : ∃ n, n = st.steps := ⟨_, rfl⟩
      rw [← hfu] at c4 q0 h1 few
      rw [← hn] at c5 few hs
      rw [← hfu, ← hn]
      have HF := Lib.hid (And.intro hfu hn)
      have b1 : -1000000 ≤ fu := few.2.2.2.2.1
      have b2 : (n : Int) < 1000000000 := by omega
      clear h0 h hs few hfu hn
      go_enter Tryz.func34, Tryz.ntmps34
      go_wp2
      go_ret
      refine ⟨rfl, H.out.own_turn fu (n + 1) st.down (kp_set _ _ _ _) ?_ (by omega) (by omega), kp_set _ _ _ _⟩
      rw [heap_setCell_same _ _ _ _ _ _ HB.out]
      rw [HF.out.1]
      rfl
end Go.Proofs.YtjkpopdjmmgbbabGreat.Dk

namespace Go.Proofs.YtjkpopdjmmgbbabGreat.Dk
open Go.RowKit Go.Maps Go.Sort Go.Shelf

theorem sclone_any (p : ByteArray) (w : World) (hp : p.size ≤ 1000000000) : Calls Tryz.prog 23 #[.string p] w fun e w' => e = .returned (.string p) ∧ Below w.heap.size w w' := by
  have K1 : Hid (∀ w, Calls Tryz.prog 41 #[.string p] w fun e w' => e = .returned (.string p) ∧ Below w.heap.size w w') := Lib.hid (fun w => Any.stringslite_Clone Tryz.laysM316 p w (by omega))
  go_enter Tryz.func23, Tryz.ntmps23
  go_wp2_with (first
    | (go_at_call 41; ((with_reducible refine (K1.out _).mono ?_); rintro e w2 ⟨rfl, hb2⟩)))
  go_ret
  exact ⟨rfl, hb2⟩
theorem mclone_any (b n : Nat) (N : Dm) (w : World) (h : w.ownsMap Tryz.prog 9 ptrE b n N) : Calls Tryz.prog 38 #[.map (some b)] w fun e w' => e = .returned (.map (some w.heap.size)) ∧ w'.ownsMap Tryz.prog 9 ptrE w.heap.size n N ∧ Below w.heap.size w w' :=
  (AnyW.maps_Clone_owns Tryz.clone30 9 ptrE b n N w h).mono fun e w' ⟨he, h1, _, h3⟩ => ⟨he, h1, h3⟩

theorem sorts39 (m : Nat) : AnyZ.SortsIn Tryz.prog Tryz.sorted39_ren Fence.wide m :=
  ⟨fun blk off cap ss W hH hblk hsz => callsIn_wide.2 (AnyM.slices_Sort_string Tryz.sort43 blk off cap ss W hH hblk hsz),
   fun p cap W => callsIn_wide.2 (AnyM.slices_Sort_string_none Tryz.sort43 p cap W)⟩
theorem keys40 (mb : Option Nat) (W : World) : CallsIn Fence.wide 5 Tryz.prog 40 #[.map mb] W fun e w' => e = .returned (.func (.func 53) #[] #[.pointer (some ⟨W.heap.size, 0, none⟩)]) ∧ w' = W.alloc (.cells #[.map mb] 44) :=
  AnyZ.keys_in Tryz.keys40 Fence.wide 5 trivial rfl mb W
set_option maxHeartbeats 1000000 in
theorem sorted39 (b nn : Nat) (D0 : Dm) (w : World) (hown : w.ownsMap Tryz.prog 9 ptrE b nn D0) (hmax : Maps.size D0 ≤ maxLen) (hbytes : Maps.size D0 * 16 ≤ 140737488355328) :
    CallsIn Fence.wide 5 Tryz.prog 39 #[.func (.func 53) #[] #[.pointer (some ⟨w.heap.size, 0, none⟩)]] (w.alloc (.cells #[.map (some b)] 44)) fun e w' => ∃ (v : Value) (ss : List (List UInt8)), e = .returned v ∧ ss.Perm (strKeys D0) ∧
      w'.ownsRow (w.alloc (.cells #[.map (some b)] 44)).heap.size 9 1 v ss.length ((ss.mergeSort (fun x y => decide (x ≤ y))).map encStr) ∧ (v = .slice none 0 0 ↔ ss = []) ∧ Below (w.alloc (.cells #[.map (some b)] 44)).heap.size (w.alloc (.cells #[.map (some b)] 44)) w' := by
  have hbl := hown.lt
  have hseq : SeqGives Fence.wide 2 Tryz.prog 53 #[.pointer (some ⟨w.heap.size, 0, none⟩)] encStr (fun ss => ss.Perm (strKeys D0)) (Maps.size D0) (w.alloc (.cells #[.map (some b)] 44)) :=
    AnyZ.keys_gives (ρ := Tryz.keys40_ren) { Tryz.keys40 with } Fence.wide _ trivial rfl (by omega) w.heap.size b nn D0 _ (by simp) (by simp) (by
      obtain ⟨es, clock, hb, Ft, hs, hD⟩ := hown
      exact ⟨es, clock, (Below.heap_alloc _ _ b hbl).trans hb, Ft, hs, hD⟩)
  exact AnyZ.sorted_in Tryz.sorted39 Fence.wide 5 trivial trivial trivial trivial rfl (by omega) (sorts39 _) (enters_of Tryz.func52 (by kernel_rfl) rfl) 53 #[.pointer (some ⟨w.heap.size, 0, none⟩)] trivial (enters_of Tryz.func53 (by kernel_rfl) rfl) _ _ hmax hbytes _ hseq

/-- A map's names, in order. -/
def keysN (D : Dm) : List (List UInt8) := (strKeys D).mergeSort (fun x y => decide (x ≤ y))
theorem keysN_of {D : Dm} {ss : List (List UInt8)} (h : ss.Perm (strKeys D)) : ss.mergeSort (fun x y => decide (x ≤ y)) = keysN D := by
  exact mergeSort_of_perm h
theorem rising_any (b nn : Nat) (N : Dm) (w : World) (hown : w.ownsMap Tryz.prog 9 ptrE b nn N) (hn : nn ≤ 1000000) :
    Calls Tryz.prog 22 #[.map (some b)] w fun e w' => ∃ v, e = .returned v ∧ w'.ownsRow w.heap.size 9 1 v (keysN N).length ((keysN N).map encStr) ∧ Below w.heap.size w w' := by
  have hsz := hown.size_le
  have h1 : Maps.size N ≤ maxLen := by unfold maxLen; omega
  have h2 : Maps.size N * 16 ≤ 140737488355328 := by omega
  have hfK : Fence.wide.fn 40 := trivial
  have hfS : Fence.wide.fn 39 := trivial
  refine (callsIn_wide (n := 6)).1 ?_
  refine callsIn_of_wp Tryz.func22 rfl trivial ?_ rfl
  simp only [Tryz.ntmps22, List.size_toArray, List.length_cons, List.length_nil, Nat.reduceAdd, Nat.reduceSub, Array.replicate_succ, Array.replicate_zero, List.push_toArray, List.append_toArray, List.nil_append, List.cons_append]
  gi_wp2_with (first
    | (gi_at_call 40; refine (keys40 _ _).mono ?_; rintro e w' ⟨rfl, rfl⟩)
    | (gi_at_call 39; refine (sorted39 b nn N w hown h1 h2).mono ?_; rintro e w' ⟨v, ss, rfl, hS, hrow, hnil, hb⟩))
  go_ret
  have hk := keysN_of hS
  have hl : ss.length = (keysN N).length := by rw [← hk, List.length_mergeSort]
  rw [hk, hl] at hrow
  exact ⟨v, rfl, ownsRow_base_a hrow (by simp), ((Below.refl _ w).alloc (Nat.le_refl _) _).trans (hb.mono (by simp))⟩
end Go.Proofs.YtjkpopdjmmgbbabGreat.Dk

namespace Go.Proofs.YtjkpopdjmmgbbabGreat.Fi
open Go.RowKit

/-- The text of which that is sealed. -/
def opnL (s : List UInt8) : Option (List UInt8) :=
  if otB s = true then
    (if (Cd.lngA 0 0 (s.drop 2)).2.2 = 0 ∧ (Cd.lngA 0 0 (s.drop 2)).1 ≤ (s.drop 2).length - (Cd.lngA 0 0 (s.drop 2)).2.1 then
      (if sealL (((s.drop 2).drop (Cd.lngA 0 0 (s.drop 2)).2.1).take (Cd.lngA 0 0 (s.drop 2)).1) = s then some (((s.drop 2).drop (Cd.lngA 0 0 (s.drop 2)).2.1).take (Cd.lngA 0 0 (s.drop 2)).1) else none)
    else none)
  else none
def opV (s : ByteArray) : Value :=
  match opnL s.data.toList with
  | some t => .tuple #[.string (W.str t), .int .i64 0]
  | none => .tuple #[.string ⟨#[]⟩, .int .i64 23]
theorem lngA_le : ∀ (l : List UInt8) (acc j : Nat), (Cd.lngA acc j l).2.2 = 0 → (Cd.lngA acc j l).2.1 ≤ j + l.length
  | [], acc, j, h => by
    unfold Cd.lngA at h ⊢
    split <;> simp_all
  | c :: cs, acc, j, h => by
    unfold Cd.lngA at h ⊢
    split at h
    · simp at h
    · rename_i h1
      rw [if_neg h1]
      split at h
      · rename_i h2
        rw [if_pos h2]
        have := lngA_le cs _ _ h
        simp only [List.length_cons]
        omega
      · rename_i h2
        rw [if_neg h2]
        split at h
        · simp at h
        · rename_i h3
          rw [if_neg h3]
          split at h
          · simp at h
          · rename_i h4
            rw [if_neg h4]
            simp only [List.length_cons]
            omega
theorem opn_seal (t : List UInt8) (ht : t.length ≤ 100000) : opnL (sealL t) = some t := by
  have h1 : otB (sealL t) = true := (otB_iff _).2 ⟨_, rfl⟩
  have hd : (sealL t).drop 2 = Cd.sh t.length ++ (t ++ (Dg.sumL (preL t)).take 16) := by
    unfold sealL preL
    simp [List.append_assoc]
  have hl : Cd.lngA 0 0 ((sealL t).drop 2) = (t.length, (Cd.sh t.length).length, 0) := by rw [hd]; exact Cd.lngA_ok _ _ (by omega)
  have hx : (((sealL t).drop 2).drop (Cd.lngA 0 0 ((sealL t).drop 2)).2.1).take (Cd.lngA 0 0 ((sealL t).drop 2)).1 = t := by
    rw [hl, hd]
    show List.take t.length (List.drop (Cd.sh t.length).length _) = t
    rw [List.drop_left, List.take_left]
  unfold opnL
  rw [if_pos h1, hx, if_pos rfl, if_pos]
  rw [hl, hd]
  refine ⟨rfl, ?_⟩
  show t.length ≤ (Cd.sh t.length ++ _).length - (Cd.sh t.length).length
  rw [List.length_append, List.length_append]
  omega
theorem opn_len {s t : List UInt8} (h : opnL s = some t) : t.length ≤ s.length := by
  unfold opnL at h
  split at h
  · split at h
    · split at h
      · cases h
        rw [List.length_take, List.length_drop, List.length_drop]
        omega
      · cases h
    · cases h
  · cases h
def bad : Value := .tuple #[.string ⟨#[]⟩, .int .i64 23]
section
variable {s rs : ByteArray} {n z x : Nat}
set_option maxRecDepth 1000000 in
theorem open_no (K30 : ∀ w, Calls Tryz.prog 24 #[.string s, .string ⟨#[79, 84]⟩] w fun e w' => e = .returned (.tuple #[.string rs, .bool false]) ∧ w' = w) (w : World) :
    Calls Tryz.prog 10 #[.string s] w fun e w' => e = .returned bad ∧ Below w.heap.size w w' := by
  have H30 := Lib.hid K30
  clear K30
  go_enter Tryz.func10, Tryz.ntmps10
  go_wp2_with (first | (go_at_call 24; ((with_reducible refine (H30.out _).mono ?_); rintro e w1 ⟨rfl, hw⟩; subst hw)))
  go_ret2
  exact ⟨rfl, Below.refl _ _⟩
set_option maxRecDepth 1000000 in
theorem open_wrong (K30 : ∀ w, Calls Tryz.prog 24 #[.string s, .string ⟨#[79, 84]⟩] w fun e w' => e = .returned (.tuple #[.string rs, .bool true]) ∧ w' = w)
    (K31 : ∀ w, Calls Tryz.prog 25 #[.string rs] w fun e w' => e = .returned (.tuple #[.int .u64 (n : Int), .int .i64 (z : Int), .int .i64 (x : Int)]) ∧ w = w') (hx : x ≠ 0) (w : World) : Calls Tryz.prog 10 #[.string s] w fun e w' => e = .returned bad ∧ Below w.heap.size w w' := by
  have H30 := Lib.hid K30
  have H31 := Lib.hid K31
  have hx0 : ((x : Int) == 0) = false := by rw [beq_eq_false_iff_ne]; omega
  have hx1 : ¬ x = 0 := hx
  clear K30 K31 hx
  go_enter Tryz.func10, Tryz.ntmps10
  go_wp2_with (first
    | (go_at_call 24; ((with_reducible refine (H30.out _).mono ?_); rintro e w1 ⟨rfl, hw⟩; subst hw))
    | (go_at_call 25; ((with_reducible refine (H31.out _).mono ?_); rintro e w1 ⟨rfl, hw⟩; subst hw)))
  go_ret2
  exact ⟨rfl, Below.refl _ _⟩
set_option maxRecDepth 1000000 in
theorem open_long (K30 : ∀ w, Calls Tryz.prog 24 #[.string s, .string ⟨#[79, 84]⟩] w fun e w' => e = .returned (.tuple #[.string rs, .bool true]) ∧ w' = w)
    (K31 : ∀ w, Calls Tryz.prog 25 #[.string rs] w fun e w' => e = .returned (.tuple #[.int .u64 (n : Int), .int .i64 (z : Int), .int .i64 (x : Int)]) ∧ w = w') (hx : x = 0) (hz : z ≤ rs.size) (hr : rs.size ≤ 1000000000) (hn : rs.size - z < n) (w : World) : Calls Tryz.prog 10 #[.string s] w fun e w' => e = .returned bad ∧ Below w.heap.size w w' := by
  subst hx
  have H30 := Lib.hid K30
  have H31 := Lib.hid K31
  obtain ⟨q, hq⟩ : ∃ q, q = rs.size - z := ⟨_, rfl⟩
  have e1 : (rs.size : Int) - (z : Int) = (q : Int) := by omega
  have e2 : IntKind.u64.wrap (q : Int) = (q : Int) := IntWalk.u64_in _ ⟨by omega, by omega⟩
  have e3 : (q : Int) < (n : Int) := by omega
  have e4 : IntKind.i64.wrap (q : Int) = (q : Int) := IntWalk.i64_in _ ⟨by omega, by omega⟩
  clear K30 K31 hz hr hn hq
  go_enter Tryz.func10, Tryz.ntmps10
  go_wp2_with (first
    | (go_at_call 24; ((with_reducible refine (H30.out _).mono ?_); rintro e w1 ⟨rfl, hw⟩; subst hw))
    | (go_at_call 25; ((with_reducible refine (H31.out _).mono ?_); rintro e w1 ⟨rfl, hw⟩; subst hw)))
  go_ret2
  exact ⟨rfl, Below.refl _ _⟩
variable {t y : ByteArray}
set_option maxRecDepth 1000000 in
theorem open_other (K30 : ∀ w, Calls Tryz.prog 24 #[.string s, .string ⟨#[79, 84]⟩] w fun e w' => e = .returned (.tuple #[.string rs, .bool true]) ∧ w' = w)
    (K31 : ∀ w, Calls Tryz.prog 25 #[.string rs] w fun e w' => e = .returned (.tuple #[.int .u64 (n : Int), .int .i64 (z : Int), .int .i64 (x : Int)]) ∧ w = w')
    (K7 : ∀ w, Calls Tryz.prog 11 #[.string t] w fun e w' => e = .returned (.string y) ∧ Below w.heap.size w w')
    (hx : x = 0) (hz : z ≤ rs.size) (hr : rs.size ≤ 1000000000) (hn : n ≤ rs.size - z) (ht : rs.extract z (z + n) = t) (hy : y ≠ s) (w : World) : Calls Tryz.prog 10 #[.string s] w fun e w' => e = .returned bad ∧ Below w.heap.size w w' := by
  subst hx
  have H30 := Lib.hid K30
  have H31 := Lib.hid K31
  have H7 := Lib.hid K7
  obtain ⟨q, hq⟩ : ∃ q, q = rs.size - z := ⟨_, rfl⟩
  obtain ⟨u, hu⟩ : ∃ u, u = z + n := ⟨_, rfl⟩
  have e1 : (rs.size : Int) - (z : Int) = (q : Int) := by omega
  have e2 : IntKind.u64.wrap (q : Int) = (q : Int) := IntWalk.u64_in _ ⟨by omega, by omega⟩
  have e3 : ¬ (q : Int) < (n : Int) := by omega
  have e4 : IntKind.i64.wrap (q : Int) = (q : Int) := IntWalk.i64_in _ ⟨by omega, by omega⟩
  have e5 : IntKind.i64.wrap (n : Int) = (n : Int) := IntWalk.i64_in _ ⟨by omega, by omega⟩
  have e6 : (z : Int) + (n : Int) = (u : Int) := by omega
  have e7 : IntKind.i64.wrap (u : Int) = (u : Int) := IntWalk.i64_in _ ⟨by omega, by omega⟩
  have e8 : (u : Int) ≤ (rs.size : Int) := by omega
  have e9 : (z : Int) ≤ (u : Int) := by omega
  have hyb : (y.toList == s.toList) = false := by
    rw [beq_eq_false_iff_ne]
    intro e
    rw [Lib.toList_data, Lib.toList_data] at e
    exact hy (ByteArray.ext (Array.ext' e))
  rw [← hu] at ht
  clear K30 K31 K7 hz hr hn hq hu hy
  go_enter Tryz.func10, Tryz.ntmps10
  go_wp2_with (first
    | (go_at_call 24; ((with_reducible refine (H30.out _).mono ?_); rintro e w1 ⟨rfl, hw⟩; subst hw))
    | (go_at_call 25; ((with_reducible refine (H31.out _).mono ?_); rintro e w1 ⟨rfl, hw⟩; subst hw))
    | (go_at_call 11; ((with_reducible refine (H7.out _).mono ?_); rintro e w2 ⟨rfl, hb⟩)))
  go_ret2
  exact ⟨rfl, hb⟩
set_option maxRecDepth 1000000 in
theorem open_fine (K30 : ∀ w, Calls Tryz.prog 24 #[.string s, .string ⟨#[79, 84]⟩] w fun e w' => e = .returned (.tuple #[.string rs, .bool true]) ∧ w' = w)
    (K31 : ∀ w, Calls Tryz.prog 25 #[.string rs] w fun e w' => e = .returned (.tuple #[.int .u64 (n : Int), .int .i64 (z : Int), .int .i64 (x : Int)]) ∧ w = w')
    (K7 : ∀ w, Calls Tryz.prog 11 #[.string t] w fun e w' => e = .returned (.string y) ∧ Below w.heap.size w w')
    (hx : x = 0) (hz : z ≤ rs.size) (hr : rs.size ≤ 1000000000) (hn : n ≤ rs.size - z) (ht : rs.extract z (z + n) = t) (hy : y = s) (w : World) : Calls Tryz.prog 10 #[.string s] w fun e w' => e = .returned (.tuple #[.string t, .int .i64 0]) ∧ Below w.heap.size w w' := by
  subst hx
  have H30 := Lib.hid K30
  have H31 := Lib.hid K31
  have H7 := Lib.hid K7
  obtain ⟨q, hq⟩ : ∃ q, q = rs.size - z := ⟨_, rfl⟩
  obtain ⟨u, hu⟩ : ∃ u, u = z + n := ⟨_, rfl⟩
  have e1 : (rs.size : Int) - (z : Int) = (q : Int) := by omega
  have e2 : IntKind.u64.wrap (q : Int) = (q : Int) := IntWalk.u64_in _ ⟨by omega, by omega⟩
  have e3 : ¬ (q : Int) < (n : Int) := by omega
  have e4 : IntKind.i64.wrap (q : Int) = (q : Int) := IntWalk.i64_in _ ⟨by omega, by omega⟩
  have e5 : IntKind.i64.wrap (n : Int) = (n : Int) := IntWalk.i64_in _ ⟨by omega, by omega⟩
  have e6 : (z : Int) + (n : Int) = (u : Int) := by omega
  have e7 : IntKind.i64.wrap (u : Int) = (u : Int) := IntWalk.i64_in _ ⟨by omega, by omega⟩
  have e8 : (u : Int) ≤ (rs.size : Int) := by omega
  have e9 : (z : Int) ≤ (u : Int) := by omega
  have htz : t.size ≤ 1000000000 := by rw [← ht, ByteArray.size_extract]; omega
  have K32 := Lib.hid (fun w => Dk.sclone_any t w htz)
  subst hy
  rw [← hu] at ht
  clear K30 K31 K7 hz hr hn hq hu htz
  go_enter Tryz.func10, Tryz.ntmps10
  go_wp2_with (first
    | (go_at_call 24; ((with_reducible refine (H30.out _).mono ?_); rintro e w1 ⟨rfl, hw⟩; subst hw))
    | (go_at_call 25; ((with_reducible refine (H31.out _).mono ?_); rintro e w1 ⟨rfl, hw⟩; subst hw))
    | (go_at_call 11; ((with_reducible refine (H7.out _).mono ?_); rintro e w2 ⟨rfl, hb⟩))
    | (go_at_call 23; ((with_reducible refine (K32.out _).mono ?_); rintro e w3 ⟨rfl, hb3⟩)))
  go_ret2
  exact ⟨rfl, hb.trans (hb3.mono hb.size)⟩
end
theorem open_any (s : ByteArray) (hs : s.size ≤ 100000) (w : World) : Calls Tryz.prog 10 #[.string s] w fun e w' => e = .returned (opV s) ∧ Below w.heap.size w w' := by
  have K30 := cut_any s (by omega)
  have hz0 : s.data.toList.length = s.size := rfl
  unfold opV opnL
  cases hh : otB s.data.toList
  · rw [hh] at K30
    exact open_no K30 w
  · obtain ⟨rs, hrs⟩ : ∃ rs, rs = W.str (s.data.toList.drop 2) := ⟨_, rfl⟩
    have hrl : rs.data.toList = s.data.toList.drop 2 := by rw [hrs]; rfl
    have hrz : rs.size = s.size - 2 := by rw [hrs, W.size_str, List.length_drop]; rfl
    rw [hh, if_pos rfl, ← hrs] at K30
    have K31 := Cd.long_any rs (by omega)
    have hle := lngA_le (s.data.toList.drop 2) 0 0
    have hlen : (s.data.toList.drop 2).length = rs.size := by rw [← hrl]; rfl
    rw [hrl] at K31
    have hdr : ∀ a b, rs.extract a b = W.str (((s.data.toList.drop 2).drop a).take (b - a)) := fun a b => by rw [extract_str, hrl]
    rw [if_pos rfl, hlen]
    rw [hlen] at hle
    generalize s.data.toList.drop 2 = r at *
    obtain ⟨R, hR⟩ : ∃ R, R = Cd.lngA 0 0 r := ⟨_, rfl⟩
    rw [← hR] at K31 hle ⊢
    obtain ⟨n, z, x⟩ := R
    simp only at hle ⊢
    dsimp only [Cd.lonV] at K31
    by_cases hx : x = 0
    · have hzl : z ≤ rs.size := by have := hle hx; omega
      by_cases hn : n ≤ rs.size - z
      · rw [if_pos ⟨hx, hn⟩]
        obtain ⟨t, ht⟩ : ∃ t, t = (r.drop z).take n := ⟨_, rfl⟩
        have htl : t.length ≤ 100000 := by rw [ht, List.length_take, List.length_drop]; omega
        have hex : rs.extract z (z + n) = W.str t := by rw [hdr, Nat.add_sub_cancel_left, ht]
        have K7 := seal_any (W.str t) (by rw [W.size_str]; exact htl)
        have htt : (W.str t).data.toList = t := rfl
        rw [htt] at K7
        rw [← ht]
        by_cases hy : sealL t = s.data.toList
        · rw [if_pos hy]
          exact open_fine K30 K31 K7 hx hzl (by omega) hn hex (by rw [hy, str_list]) w
        · rw [if_neg hy]
          exact open_other K30 K31 K7 hx hzl (by omega) hn hex (fun e => hy (by rw [← e]; rfl)) w
      · rw [if_neg (fun h => hn h.2)]
        exact open_long K30 K31 hx hzl (by omega) (by omega) w
    · rw [if_neg (fun h => hx h.1)]
      exact open_wrong K30 K31 hx w
end Go.Proofs.YtjkpopdjmmgbbabGreat.Fi
