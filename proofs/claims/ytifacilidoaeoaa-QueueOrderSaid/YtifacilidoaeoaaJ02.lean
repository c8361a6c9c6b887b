/- The law QueueOrder. -/
import Derived.Test.YtifacilidoaeoaaJ01
import Derived.Maps.AppendAt
set_option linter.unusedVariables false
set_option linter.unusedSimpArgs false
namespace Go.Proofs.Ytifacilidoaeoaa
open Go.RowKit

/-- Those of the first so many, each once. -/
def dd (l : List Nat) : Nat → List Nat
  | 0 => []
  | k + 1 => if l.getD k 0 ∈ dd l k then dd l k else dd l k ++ [l.getD k 0]
theorem dd_in {l : List Nat} {k : Nat} (h : k < l.length) (hm : l[k] ∈ dd l k) : dd l (k + 1) = dd l k := by
  have e : l.getD k 0 = l[k] := by simp [h]
  simp only [dd, e, hm, if_true]
theorem dd_out {l : List Nat} {k : Nat} (h : k < l.length) (hm : l[k] ∉ dd l k) : dd l (k + 1) = dd l k ++ [l[k]] := by
  have e : l.getD k 0 = l[k] := by simp [h]
  simp only [dd, e, hm, if_false]
theorem dd_le (l : List Nat) : ∀ k, (dd l k).length ≤ k
  | 0 => by simp [dd]
  | k + 1 => by
    have := dd_le l k
    unfold dd
    split
    · omega
    · simp; omega

/-- A slice lies in no such block. -/
def Av (v : Value) (x : Option Nat) : Prop := ∀ b off n c, v = .slice (some ⟨b, off, none⟩) n c → x ≠ some b
theorem Sl.grown {B : Nat} {w w' : World} {v : Value} {l : List Nat} {r : Option Nat} (h : Sl B w v l) (hg : w.grownBy w' r) (ha : Av v r) : Sl B w' v l := by
  rcases h with h | ⟨b, off, cap, h1, h2, h3, h4, h5⟩
  · exact Or.inl h
  · refine Or.inr ⟨b, off, cap, h1, h2, h3, h4, rng_keep h5 fun hn => hg.block _ (rng_lt h5 hn) fun e => ha _ _ _ _ h1 e.symm⟩
theorem Bx.grown {w w' : World} {g : Nat} {a b : Value} {r : Option Nat} (h : Bx w g a b) (hg : w.grownBy w' r) (hr : r ≠ some g) : Bx w' g a b := (hg.block _ (lt_of_heap h) fun e => hr e.symm).trans h
theorem Av.above {B : Nat} {w w0 : World} {v v5 : Value} {l D : List Nat} (h : Sl w0.heap.size w v l) (hown : Ow w0 B v5 D) : Av v v5.ownBlock := fun b off n c hv hx => by
  have h1 := (hown.lt b hx).2
  rcases h with ⟨h, _⟩ | ⟨b', off', cap, h, _, _, h4, _⟩
  · rw [h] at hv; cases hv
  · rw [h] at hv; cases hv; omega
theorem Av.next {B : Nat} {w : World} {v v5 v6 : Value} {l : List Nat} (h : Sl B w v l) (hl : 0 < l.length) (ha : Av v v5.ownBlock) (hn : v6.ownBlock = v5.ownBlock ∨ v6.ownBlock = some w.heap.size) : Av v v6.ownBlock := fun b off n c hv hx => by
  rcases hn with hn | hn
  · exact ha b off n c hv (hn ▸ hx)
  · rw [hn] at hx
    cases hx
    rcases h with ⟨h, _⟩ | ⟨b', off', cap, h, _, _, _, h5⟩
    · rw [h] at hv; cases hv
    · rw [h] at hv; cases hv
      have := rng_lt h5 (by rw [nc_len]; exact hl)
      omega
theorem Ow.later {w w' : World} {B : Nat} {v : Value} {l : List Nat} (h : Ow w B v l) (hb : Below w.heap.size w w') : Ow w' B v l := by
  refine ⟨h.1, ?_⟩
  rcases h.2 with hn | ⟨g, cap, cur, h1, h2, h3, h4⟩
  · exact Or.inl hn
  · exact Or.inr ⟨g, cap, cur, h1, h2, (hb.block _ (lt_of_heap h3)).trans h3, h4⟩
theorem Ow.put2 {w : World} {B : Nat} {v : Value} {l : List Nat} (h : Ow w B v l) {g : Nat} (hg : g < B) (a b : Value) : Ow ((w.setCell ⟨g, 0, none⟩ a).setCell ⟨g, 1, none⟩ b) B v l := by
  refine ⟨h.1, ?_⟩
  rcases h.2 with hn | ⟨q, cap, cur, h1, h2, h3, h4⟩
  · exact Or.inl hn
  · exact Or.inr ⟨q, cap, cur, h1, h2, (heap_setCell_other _ ⟨g, 1, none⟩ q _ (by show q ≠ g; omega)).trans ((heap_setCell_other _ ⟨g, 0, none⟩ q _ (by show q ≠ g; omega)).trans h3), h4⟩

theorem wpList_append_nums_at (W : World) {ops : Array Oper} {rest : List Oper} {o : Oper} {a : Act} {Q : Exit → Act → World → Prop} (hgd : o.guard = none) (s x : Operand)
    (ho : o.op = .call { callee := .builtin .append, args := #[s, x], argTypes := #[22, 22] })
    (B : Nat) (v : Value) (K : List Nat) (y gS : Nat) (hs : a.eval s = v) (hown : Ow W B v K) (hx : a.eval x = .slice (some ⟨gS, 0, none⟩) 1 1) (hu : Sl 0 W (.slice (some ⟨gS, 0, none⟩) 1 1) [y]) (hB : B ≤ W.heap.size) (hk : K.length ≤ 3000000)
    (h : ∀ v' w', Ow w' B v' (K ++ [y]) → W.grownBy w' v.ownBlock → Below B W w' → (v'.ownBlock = v.ownBlock ∨ v'.ownBlock = some W.heap.size) → wpList Try.prog ops Q rest (a.put o.dst v') w') : wpList Try.prog ops Q (o :: rest) a W := by
  obtain ⟨i0, hi, hz0, hz1, hz2⟩ := info_parts info29
  rcases hu with ⟨h0, _⟩ | ⟨b, off, cap, h0, _, _, _, hr⟩
  · cases h0
  · have e : b = gS ∧ off = 0 := by cases h0; exact ⟨rfl, rfl⟩
    obtain ⟨rfl, rfl⟩ := e
    refine wpList_append_own_at W hgd s x 22 ho B 29 i0 (.int .u64 0) 1 8 Try.underlying22 hi hz0 hz1 hz2 rfl (by decide) v K.length (nc K) hs hown ⟨b, 0, none⟩ 1 1 (nc [y]) hx (by simp [nc]) ?_ (nc_one [y]) ?_ ?_ hB ?_
    · intro j u hj
      rw [Addr.add_mid]; exact hr j u hj
    · unfold maxLen; omega
    · omega
    · intro v' w' h1 h2 _ h4
      refine h v' w' ?_ h2 ?_ h4
      · unfold Ow
        rw [List.length_append, nc, List.map_append]
        exact h1
      · exact (Below.refl B W).grown h2 hB (fun g hg => (hown.lt g hg).1)

/-- What holds at each turn of the first loop. -/
def LP (w : World) (g : Nat) (D : List Nat) (v5 : Value) (wr : World) : Prop :=
  ∃ o n c, Bx wr g (.slice o n c) (.int .i64 64) ∧ Sl (g + 1) wr (.slice o n c) D ∧ Ow wr (g + 1) v5 D ∧ Av (.slice o n c) v5.ownBlock ∧ w.heap.size ≤ g ∧ Below w.heap.size w wr
/-- .. of the second. -/
def LQ (w : World) (g : Nat) (D E : List Nat) (v5 : Value) (wr : World) : Prop :=
  ∃ o n c, Bx wr g (.slice o n c) (.int .i64 64) ∧ Sl (g + 1) wr (.slice o n c) E ∧ Sl (g + 1) wr v5 D ∧ w.heap.size ≤ g ∧ Below w.heap.size w wr

theorem sl_one' (w : World) (x B g : Nat) (hg : g = w.heap.size) (hB : B ≤ w.heap.size := by omega) : Sl B (w.alloc (.cells #[.int .u64 (x : Int)] 29)) (.slice (some ⟨g, 0, none⟩) 1 1) [x] := by
  subst hg
  exact sl_one w x B hB
theorem new_ge {g : Nat} {wr w4 : World} (h : g + 1 ≤ wr.heap.size) (hb : Below wr.heap.size wr w4) (o1 o2 : Obj) : g + 1 ≤ ((w4.alloc o1).alloc o2).heap.size := by
  have := hb.size
  simp; omega
theorem LP.new {w wr w4 w6 : World} {g : Nat} {D : List Nat} {y n3 c3 : Nat} {v5 v6 a b : Value} {o3 : Option Addr} (hX : Bx wr g a b) (hO : Ow wr (g + 1) v5 D) (hA : Av (.slice o3 n3 c3) v5.ownBlock) (hg : w.heap.size ≤ g) (hB : Below w.heap.size w wr) (hb4 : Below wr.heap.size wr w4)
    (hS : Sl wr.heap.size w4 (.slice o3 n3 c3) (D ++ [y])) (ho6 : Ow w6 (g + 1) v6 (D ++ [y])) (hgr : ((w4.alloc (.cells #[.slice o3 n3 c3, .int .i64 64] 25)).alloc (.cells #[.int .u64 (y : Int)] 29)).grownBy w6 v5.ownBlock)
    (hb6 : Below (g + 1) ((w4.alloc (.cells #[.slice o3 n3 c3, .int .i64 64] 25)).alloc (.cells #[.int .u64 (y : Int)] 29)) w6) (hn : v6.ownBlock = v5.ownBlock ∨ v6.ownBlock = some ((w4.alloc (.cells #[.slice o3 n3 c3, .int .i64 64] 25)).alloc (.cells #[.int .u64 (y : Int)] 29)).heap.size) :
    Bx w6 g a b ∧ Bx w6 w4.heap.size (.slice o3 n3 c3) (.int .i64 64) ∧ Sl (g + 1) w6 (.slice o3 n3 c3) (D ++ [y]) ∧ Av (.slice o3 n3 c3) v6.ownBlock ∧ Below w.heap.size w w6 := by
  have hb1 := alloc_below w4 (.cells #[.slice o3 n3 c3, .int .i64 64] 25)
  have hb2 := alloc_below (w4.alloc (.cells #[.slice o3 n3 c3, .int .i64 64] 25)) (.cells #[.int .u64 (y : Int)] 29)
  have hgw := lt_of_heap hX
  have hs4 := hb4.size
  have hlt := fun k hk => hO.lt k hk
  refine ⟨(((hX.later hb4).later hb1).later hb2).grown hgr (fun e => by have := (hlt g e).1; omega), ((Bx.new w4 _ _).later hb2).grown hgr (fun e => by have := (hlt _ e).2; omega), (((hS.later hb1).later hb2).grown hgr hA).mono (by omega), Av.next ((hS.later hb1).later hb2) (by simp) hA hn, ?_⟩
  have h1 : Below w.heap.size w w4 := hB.trans (hb4.mono hB.size)
  exact ((h1.trans (hb1.mono h1.size)).trans (hb2.mono (Nat.le_trans h1.size hb1.size))).trans (hb6.mono (by omega))

set_option maxRecDepth 100000 in
set_option maxHeartbeats 4000000 in
theorem order_any (l : List Nat) (at0 : Option Addr) (cap b off : Nat) (w : World) (hat : 0 < l.length → at0 = some ⟨b, off, none⟩ ∧ b < w.heap.size) (hc : ∀ k (h : k < l.length), w.cell? ⟨b, off + k, none⟩ = some (.int .u64 (l[k] : Int))) :
    Calls Try.prog 3 #[.slice at0 l.length cap] w fun e w' => e = .returned (.bool true) ∧ Below w.heap.size w w' := by
  have HC : Hid (∀ wz, Below w.heap.size w wz → ∀ k (h : k < l.length), wz.cell? ⟨b, off + k, none⟩ = some (.int .u64 (l[k] : Int))) := Lib.hid (fun wz hz k h => (hz.cell (p := ⟨b, off + k, none⟩) (hat (by omega)).2).trans (hc k h))
  have HAT : Hid (0 < l.length → at0 = some ⟨b, off, none⟩) := Lib.hid (fun h => (hat h).1)
  have K5 := Lib.hid awake_any
  have K6 : Hid (∀ w, Calls Try.prog 6 #[.int .i64 64] w fun e w' => e = .returned (.tuple #[.agg #[.slice none 0 0, .int .i64 64], .int .i64 0]) ∧ Below w.heap.size w w') := Lib.hid (fun w => new_any 64 (by omega) w)
  have HD0 : Hid (dd l 0 = []) := Lib.hid rfl
  have HDI : Hid (∀ k (h : k < l.length), l[k] ∈ dd l k → dd l (k + 1) = dd l k) := Lib.hid (fun k h hm => dd_in h hm)
  have HDO : Hid (∀ k (h : k < l.length), l[k] ∉ dd l k → dd l (k + 1) = dd l k ++ [l[k]]) := Lib.hid (fun k h hm => dd_out h hm)
  have HDL := Lib.hid (dd_le l)
  generalize dd l = PR at *
  clear hat hc
  by_cases h64 : l.length ≤ 64
  case neg =>
    have h64' : (64 : Int) < (l.length : Int) := by omega
    go_enter Try.func3, Try.ntmps3
    go_wp2_with (go_at_call 5; ((with_reducible refine (K5.out _).mono ?_); rintro e w1 ⟨rfl, hb1⟩; have HB1 := Lib.hid hb1; clear hb1))
    go_ret
    exact ⟨rfl, HB1.out⟩
  case pos =>
  have h64' : (l.length : Int) ≤ 64 := by omega
  go_enter Try.func3, Try.ntmps3
  go_wp2_with (first
    | (go_at_call 5; ((with_reducible refine (K5.out _).mono ?_); rintro e w1 ⟨rfl, hb1⟩; have HB1 := Lib.hid hb1; clear hb1))
    | (go_at_call 6; ((with_reducible refine (K6.out _).mono ?_); rintro e w2 ⟨rfl, hb2⟩; have HB2 := Lib.hid (HB1.out.trans (hb2.mono HB1.out.size)); clear hb2)))
  have HL0 : Hid (LP w w2.heap.size (PR 0) (.slice none 0 0) (w2.alloc (.cells #[.slice none 0 0, .int .i64 64] 25))) := Lib.hid (by
    rw [HD0.out]
    exact ⟨none, 0, 0, Bx.new _ _ _, Sl.nil _ _, Ow.nil _ _, fun b off n c h => (by cases h), HB2.out.size, HB2.out.trans ((alloc_below _ _).mono HB2.out.size)⟩)
  generalize w2.alloc (.cells #[.slice none 0 0, .int .i64 64] 25) = w3 at *
  generalize w2.heap.size = g at *
  go_loopw [5, 7, 8, 9, 26] (fun v5 _ _ _ i wr => ∃ k : Nat, k ≤ l.length ∧ i = .int .i64 k ∧ Hid (LP w g (PR k) v5 wr)) (fun _ _ _ _ i _ => l.length - (intOf i).toNat)
  case atStart => exact ⟨0, by omega, rfl, HL0⟩
  case round =>
    obtain ⟨k, hk, rfl, HL⟩ := hrel
    by_cases hlt : k < l.length
    · obtain ⟨o, n, c, hbx, hsl, how, hav, hg, hbl⟩ := HL.out
      have hcell := HC.out wr hbl k hlt
      obtain rfl := HAT.out (by omega)
      have hple : (PR k).length ≤ 64 := Nat.le_trans (HDL.out k) (by omega)
      have HIN := Lib.hid (HDI.out k hlt)
      have HOUT := Lib.hid (HDO.out k hlt)
      obtain ⟨y, hy⟩ : ∃ y, l[k] = y := ⟨_, rfl⟩
      rw [hy] at hcell HIN HOUT
      obtain ⟨x0c, x1c, x2c, x3c⟩ := hbx.cells
      have HX := Lib.hid hbx
      have HSL := Lib.hid hsl
      have HOW := Lib.hid how
      have HAV := Lib.hid hav
      have HG := Lib.hid hg
      have HBL := Lib.hid hbl
      have HPL := Lib.hid hple
      by_cases hm : y ∈ PR k
      · have K7 : Hid (Calls Try.prog 7 #[.agg #[.slice o n c, .int .i64 64], .int .u64 (y : Int)] wr fun e w' => e = .returned (.tuple #[.agg #[.slice o n c, .int .i64 64], .int .i64 11]) ∧ Below wr.heap.size wr w') := Lib.hid (put_twice (PR k) 64 y _ (g + 1) (by omega) wr hsl hm)
        have K8 : Hid (∀ W, Sl (g + 1) W u5 (PR k) → Calls Try.prog 8 #[u5, .int .u64 (y : Int)] W fun e w' => e = .returned (.bool true) ∧ W = w') := Lib.hid (fun W h => by
          have := contains_any (PR k) y u5 (g + 1) (by omega) W h
          rwa [decide_eq_true hm] at this)
        have HEQ := Lib.hid (HIN.out hm)
        clear hy hbx hsl how hav hg hbl hple hm
        go_wp2_with (first
          | (go_at_call 7; ((with_reducible refine (K7.out).mono ?_); rintro e w4 ⟨rfl, hb4⟩; have HB4 := Lib.hid hb4; clear x0c x1c x2c x3c; have HXd := Lib.hid ((HX.out.later hb4).later (alloc_below w4 (.cells #[.slice o n c, .int .i64 64] 25))); obtain ⟨x0c, x1c, x2c, x3c⟩ := HXd.out.cells; have HSd := Lib.hid ((HSL.out.later hb4).later (alloc_below w4 (.cells #[.slice o n c, .int .i64 64] 25))); have HOd := Lib.hid ((HOW.out.later hb4).later (alloc_below w4 (.cells #[.slice o n c, .int .i64 64] 25))); have HBd := Lib.hid ((HBL.out.trans (hb4.mono HBL.out.size)).trans ((alloc_below w4 (.cells #[.slice o n c, .int .i64 64] 25)).mono (HBL.out.trans (hb4.mono HBL.out.size)).size)); clear hb4))
          | (go_at_call 8; ((with_reducible refine (K8.out _ HOd.out.sl).mono ?_); rintro e w5 ⟨rfl, rfl⟩)))
        go_roundw
        case rel =>
          refine ⟨k + 1, by omega, by go_num, Lib.hid ?_⟩
          rw [HEQ.out]
          exact ⟨o, n, c, HXd.out.put _ _, HSd.out.put2 (Nat.lt_succ_self g) _ _, HOd.out.put2 (Nat.lt_succ_self g) _ _, HAV.out, HG.out, put2_below HBd.out HG.out _ _⟩
        case measure => simp [intOf]; omega
      · have K7 : Hid (Calls Try.prog 7 #[.agg #[.slice o n c, .int .i64 64], .int .u64 (y : Int)] wr fun e w' => (∃ o n c, e = .returned (.tuple #[.agg #[.slice o n c, .int .i64 64], .int .i64 0]) ∧ Sl wr.heap.size w' (.slice o n c) (PR k ++ [y])) ∧ Below wr.heap.size wr w') := Lib.hid (put_new (PR k) 64 y _ (g + 1) (by omega) wr hsl hm (by have := HDL.out k; omega))
        have HEQ := Lib.hid (HOUT.out hm)
        have HGW := Lib.hid (Nat.succ_le_of_lt (lt_of_heap hbx))
        clear hy hbx hsl how hav hg hbl hple hm
        go_wp2_with (first
          | (go_at_call 7; ((with_reducible refine (K7.out).mono ?_); rintro e w4 ⟨⟨o3, n3, c3, rfl, hs3⟩, hb4⟩; have HB4 := Lib.hid hb4; have HS3 := Lib.hid hs3; have HA3 := Lib.hid (Av.above hs3 HOW.out); have HZ := Lib.hid (Bx.new w4 (.slice o3 n3 c3) (.int .i64 64)); clear x0c x1c x2c x3c hb4 hs3))
          | (at_builtin; go_must (refine wpList_append_nums_at ((w4.alloc (.cells #[.slice o3 n3 c3, .int .i64 64] 25)).alloc (.cells #[.int .u64 (y : Int)] 29)) rfl (.tmp 38) (.tmp 40) rfl (g + 1) u5 (PR k) y _ rfl (((HOW.out.later HB4.out).later (alloc_below _ _)).later (alloc_below _ _)) rfl (sl_one' _ y 0 _ (by simp)) (new_ge HGW.out HB4.out _ _) (Nat.le_trans HPL.out (by omega)) ?_); intro v6 w6 ho6 hgr6 hb6 hn6; have HN6 := Lib.hid (LP.new (D := PR k) (y := y) HX.out HOW.out HA3.out HG.out HBL.out HB4.out HS3.out ho6 hgr6 hb6 hn6); have HO6 := Lib.hid ho6; obtain ⟨x0c, x1c, x2c, x3c⟩ := HN6.out.1.cells; obtain ⟨z0c, z1c, z2c, z3c⟩ := HN6.out.2.1.cells; clear ho6 hgr6 hb6 hn6))
        go_roundw
        case rel =>
          refine ⟨k + 1, by omega, by go_num, Lib.hid ?_⟩
          rw [HEQ.out]
          exact ⟨o3, n3, c3, HN6.out.1.put _ _, HN6.out.2.2.1.put2 (Nat.lt_succ_self g) _ _, HO6.out.put2 (Nat.lt_succ_self g) _ _, HN6.out.2.2.2.1, HG.out, put2_below HN6.out.2.2.2.2 HG.out _ _⟩
        case measure => simp [intOf]; omega
    · have hkl : k = l.length := by omega
      subst hkl
      obtain ⟨o, n, c, hbx, hsl, how, hav, hg, hbl⟩ := HL.out
      obtain ⟨o5, c5, hv5⟩ := how.sl.form
      have HQ0 : Hid (LQ w g (PR l.length) (PR l.length) (.slice o5 (PR l.length).length c5) wr) := Lib.hid ⟨o, n, c, hbx, hsl, hv5 ▸ how.sl, hg, hbl⟩
      subst hv5
      have HDL2 := Lib.hid (HDL.out l.length)
      generalize PR l.length = D at *
      obtain ⟨nd, hnd⟩ : ∃ nd, nd = D.length := ⟨_, rfl⟩
      rw [← hnd] at HQ0 ⊢
      have HND := Lib.hid hnd
      have hndl : nd ≤ 64 := by have := HDL2.out; omega
      clear hbx hsl how hav hg hbl hnd HL
      go_wp2
      go_loopw [11, 12, 13, 14, 54] (fun _ _ _ _ i wz => ∃ k : Nat, k ≤ nd ∧ i = .int .i64 k ∧ Hid (LQ w g D (D.drop k) (.slice o5 nd c5) wz)) (fun _ _ _ _ i _ => nd - (intOf i).toNat)
      case atStart => exact ⟨0, by omega, rfl, HQ0⟩
      case round =>
        obtain ⟨k, hk, rfl, HL⟩ := hrel
        by_cases hlt : k < nd
        · obtain ⟨o, n, c, hbx, hsl, hs5, hg, hbl⟩ := HL.out
          obtain ⟨o', c', b5, off5, e5, hat5, hc5⟩ := hs5.cells
          have hkd : k < D.length := by rw [← HND.out]; exact hlt
          rw [← HND.out] at e5 hat5
          cases e5
          obtain rfl := hat5 (by omega)
          have hcell := hc5 k hkd
          have hdr : D.drop k = D[k] :: D.drop (k + 1) := List.drop_eq_getElem_cons hkd
          have hdl : (D.drop (k + 1)).length ≤ 64 := by rw [List.length_drop]; have := HND.out; omega
          generalize D[k] = y at *
          rw [hdr] at hsl
          obtain ⟨x0c, x1c, x2c, x3c⟩ := hbx.cells
          have K9 : Hid (Calls Try.prog 9 #[.agg #[.slice o n c, .int .i64 64]] _ fun e w' => (∃ o n c, e = .returned (.tuple #[.agg #[.slice o n c, .int .i64 64], .int .u64 (y : Int), .bool true]) ∧ Sl _ w' (.slice o n c) (D.drop (k + 1))) ∧ Below _ _ w') := Lib.hid (take_any (D.drop (k + 1)) y 64 _ (g + 1) (by omega) _ hsl)
          have HX := Lib.hid hbx
          have HSL := Lib.hid hsl
          have HS5 := Lib.hid hs5
          have HG := Lib.hid hg
          have HBL := Lib.hid hbl
          have HGW := Lib.hid (Nat.succ_le_of_lt (lt_of_heap hbx))
          clear hbx hsl hs5 hg hbl hat5 hc5 hdr hdl HL hkd
          go_wp2_with (first
            | (go_at_call 9; ((with_reducible refine (K9.out).mono ?_); rintro e w4 ⟨⟨o3, n3, c3, rfl, hs3⟩, hb4⟩; have HB4 := Lib.hid hb4; clear x0c x1c x2c x3c; have HXd := Lib.hid ((HX.out.later hb4).later (alloc_below w4 (.cells #[.slice o3 n3 c3, .int .i64 64] 25))); obtain ⟨x0c, x1c, x2c, x3c⟩ := HXd.out.cells; have HSd := Lib.hid ((hs3.later (alloc_below w4 (.cells #[.slice o3 n3 c3, .int .i64 64] 25))).mono HGW.out); have HOd := Lib.hid ((HS5.out.later hb4).later (alloc_below w4 (.cells #[.slice o3 n3 c3, .int .i64 64] 25))); have HBd := Lib.hid ((HBL.out.trans (hb4.mono HBL.out.size)).trans ((alloc_below w4 (.cells #[.slice o3 n3 c3, .int .i64 64] 25)).mono (HBL.out.trans (hb4.mono HBL.out.size)).size)); clear hb4 hs3)))
          go_roundw
          case rel =>
            exact ⟨k + 1, by omega, by go_num, Lib.hid ⟨o3, n3, c3, HXd.out.put _ _, HSd.out.put2 (Nat.lt_succ_self g) _ _, HOd.out.put2 (Nat.lt_succ_self g) _ _, HG.out, put2_below HBd.out HG.out _ _⟩⟩
          case measure => simp [intOf]; omega
        · have hkl : k = nd := by omega
          subst hkl
          obtain ⟨o, n, c, hbx, hsl, hs5, hg, hbl⟩ := HL.out
          have h0 : D.drop k = [] := by rw [HND.out]; exact List.drop_length
          rw [h0] at hsl
          obtain ⟨o2, c2, hv⟩ := hsl.form
          cases hv
          obtain ⟨x0c, x1c, x2c, x3c⟩ := hbx.cells
          have K10 : Hid (∀ w, Calls Try.prog 10 #[.agg #[.slice o 0 c, .int .i64 64]] w fun e w' => e = .returned (.int .i64 0) ∧ Below w.heap.size w w') := Lib.hid (fun w => len_any o 0 c 64 w)
          have HBL := Lib.hid hbl
          clear hbx hsl hs5 hg hbl HL h0
          go_wp2_with (first
            | (go_at_call 10; ((with_reducible refine (K10.out _).mono ?_); rintro e w4 ⟨rfl, hb4⟩; have HBF := Lib.hid (HBL.out.trans (hb4.mono HBL.out.size)); clear hb4)))
          go_ret
          exact ⟨rfl, HBF.out⟩
end Go.Proofs.Ytifacilidoaeoaa
