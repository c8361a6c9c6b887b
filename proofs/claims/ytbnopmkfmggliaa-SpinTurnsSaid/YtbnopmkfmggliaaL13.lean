/- Walk of the law SpinTurns. -/
import Derived.Test.YtbnopmkfmggliaaL12
set_option linter.unusedVariables false
set_option linter.unusedSimpArgs false
namespace Go.Proofs.Ytbnopmkfmggliaa
open Go.RowKit
open Fl

theorem info44 : (Try.prog.info? 44).map (fun i => (i.zero, i.size, i.bytes)) = some (some (.agg #[.int .u8 0, .int .u8 0, .int .u8 0, .int .u8 0, .int .u16 0, .int .i64 0]), 6, 16) := by kernel_rfl
def eps (l : List Int) : List Value := l.flatMap epc
theorem eps_app (l : List Int) (x : Int) : eps (l ++ [x]) = eps l ++ epc x := by simp [eps]
theorem eps_len (l : List Int) : (eps l).length = l.length * 6 := by
  induction l with
  | nil => rfl
  | cons a l ih =>
    have : eps (a :: l) = epc a ++ eps l := rfl
    rw [this, List.length_append, ih, List.length_cons]
    show 6 + _ = _
    omega
theorem eps_get (l : List Int) : ∀ (k : Nat) (hk : k < l.length) (j : Nat) (v : Value), (epc l[k])[j]? = some v → (eps l)[k * 6 + j]? = some v := by
  induction l with
  | nil => intro k hk; exact absurd hk (by simp)
  | cons a l ih =>
    intro k hk j v hj
    have e : eps (a :: l) = epc a ++ eps l := rfl
    rw [e]
    have hj6 : ∀ x, (epc x)[j]? = some v → j < 6 := fun x h => (List.getElem?_eq_some_iff.1 h).1
    cases k with
    | zero =>
      have := hj6 _ hj
      rw [Nat.zero_mul, Nat.zero_add, List.getElem?_append_left (by show j < 6; exact this)]
      exact hj
    | succ k =>
      have h6 : (epc a).length = 6 := rfl
      rw [List.getElem?_append_right (by rw [h6]; omega), h6, show (k + 1) * 6 + j - 6 = k * 6 + j by omega]
      exact ih k (by simpa using hk) j v (by simpa using hj)
theorem own_keep {w w' : World} {B : Nat} {e : TypeId} {sz : Nat} {v : Value} {k : Nat} {L : List Value} (h : w.ownsRow B e sz v k L) (hk : ∀ g, v.ownBlock = some g → w'.heap[g]? = w.heap[g]?) : w'.ownsRow B e sz v k L := by
  obtain ⟨h1, h2 | ⟨g, cap, cur, hv, hg, hh, hr⟩⟩ := h
  · exact ⟨h1, Or.inl h2⟩
  · exact ⟨h1, Or.inr ⟨g, cap, cur, hv, hg, (hk g (by rw [hv]; rfl)).trans hh, hr⟩⟩
theorem ep_of {w : World} {B : Nat} {v : Value} {l : List Int} (h : w.ownsRow B 44 6 v l.length (eps l)) : ∃ (o : Option Addr) (cap g : Nat), v = .slice o l.length cap ∧ (0 < l.length → o = some ⟨g, 0, none⟩ ∧ g < w.heap.size) ∧ EpIn w g l := by
  rcases h.2 with ⟨rfl, h0⟩ | ⟨g, cap, cur, rfl, _, hh, _, _, _, ht⟩
  · exact ⟨none, 0, 0, by rw [h0], fun hp => by omega, fun k hk => by omega⟩
  · refine ⟨some ⟨g, 0, none⟩, cap, g, rfl, fun _ => ⟨rfl, lt_of_heap hh⟩, fun k hk => ?_⟩
    have cc : ∀ j u, (epc l[k])[j]? = some u → j < 6 → w.cell? ⟨g, k * 6 + j, none⟩ = some u := fun j u hj h6 => by
      rw [h.cellAt (k * 6 + j) (by omega)]
      exact eps_get l k hk j u hj
    exact ⟨cc 0 _ rfl (by omega), cc 1 _ rfl (by omega), cc 2 _ rfl (by omega), cc 3 _ rfl (by omega), cc 4 _ rfl (by omega), cc 5 _ rfl (by omega)⟩
/-- What the memory holds at each turn. -/
structure TuE (w wr : World) (g5 g7 : Nat) (ρ1 ρ2 : Option Nat) (o1 o2 : Option Addr) (c1 c2 : Nat) (h u : Nat → Int) (n : Nat) : Prop where
  S : NS wr g5 h u n
  Q : RQ wr g7 ρ1 ρ2 o1 o2 c1 c2 h u n
  B : Below w.heap.size w wr
theorem TuE.later {w wr wz : World} {g5 g7 : Nat} {ρ1 ρ2 : Option Nat} {o1 o2 : Option Addr} {c1 c2 : Nat} {h u : Nat → Int} {n : Nat} (E : TuE w wr g5 g7 ρ1 ρ2 o1 o2 c1 c2 h u n) (hb : Below wr.heap.size wr wz) : TuE w wz g5 g7 ρ1 ρ2 o1 o2 c1 c2 h u n :=
  ⟨E.S.later hb, E.Q.later hb, E.B.trans (hb.mono E.B.size)⟩
theorem info33r : (Try.prog.info? 33).map (·.size) = some 2 := by kernel_rfl
theorem TuE.ne57 {w wr : World} {g5 g7 : Nat} {ρ1 ρ2 : Option Nat} {o1 o2 : Option Addr} {c1 c2 : Nat} {h u : Nat → Int} {n : Nat} (E : TuE w wr g5 g7 ρ1 ρ2 o1 o2 c1 c2 h u n) : g7 ≠ g5 := by
  intro e
  have hs := E.S
  have hb := E.Q.b
  unfold NS at hs
  rw [e, hs] at hb
  simp at hb
theorem TuE.row7 {w wr : World} {g5 g7 : Nat} {ρ1 ρ2 : Option Nat} {o1 o2 : Option Addr} {c1 c2 : Nat} {h u : Nat → Int} {n : Nat} (E : TuE w wr g5 g7 ρ1 ρ2 o1 o2 c1 c2 h u n) (cs : Array Value) : (wr.setRow g5 cs).heap[g7]? = some (.cells #[.slice o1 n c1, .slice o2 n c2] 33 (0, 0)) :=
  (setRow_other wr g5 g7 cs E.ne57).trans E.Q.b
theorem TuE.swap {w wr : World} {g5 g7 g19 : Nat} {ρ1 ρ2 ρ3 ρ4 : Option Nat} {o1 o2 o3 o4 : Option Addr} {c1 c2 c3 c4 : Nat} {h h2 u : Nat → Int} {n : Nat} (E : TuE w wr g5 g7 ρ1 ρ2 o1 o2 c1 c2 h u n) (R : RQ wr g19 ρ3 ρ4 o3 o4 c3 c4 h2 u n) (hg5 : w.heap.size ≤ g5) (hg7 : w.heap.size ≤ g7) (hn : g5 ≠ g19) : TuE w ((wr.setRow g5 (spc h2 u n)).setRow g7 #[.slice o3 n c3, .slice o4 n c4]) g5 g7 ρ3 ρ4 o3 o4 c3 c4 h2 u n := by
  have R2 := R.other (T := 28) (w' := wr.setRow g5 (spc h2 u n)) (by decide) E.S hn.symm (fun k hk => setRow_other wr g5 k _ hk)
  have b7 := E.row7 (spc h2 u n)
  refine ⟨(E.S.row h2 u n).rowOther E.ne57.symm _, ⟨setRow_heap _ g7 _ _ 33 _ b7, R2.r1.other (T := 33) (by decide) b7 (fun k hk => setRow_other _ g7 k _ hk), R2.r2.other (T := 33) (by decide) b7 (fun k hk => setRow_other _ g7 k _ hk)⟩, below_setRow (below_setRow E.B hg5 _) hg7 _⟩
theorem nwN_le (l : List Int) : nwN l ≤ 8 := by
  unfold nwN
  by_cases h : nwE l = 0
  · rw [if_pos h]
    unfold nwE at h
    by_cases h8 : 8 < l.length
    · rw [if_pos h8] at h; omega
    · omega
  · rw [if_neg h]; omega
theorem nwU_b (l : List Int) (i : Nat) : 0 ≤ nwU l i ∧ nwU l i ≤ 100 := by
  unfold nwU
  by_cases h : nwE l = 0
  · rw [if_pos h]
    unfold nwE at h
    by_cases h8 : 8 < l.length
    · rw [if_pos h8] at h; omega
    · rw [if_neg h8] at h
      by_cases hw : inW l
      · unfold wts
        by_cases hi : i < l.length
        · rw [List.getD_eq_getElem?_getD, List.getElem?_eq_getElem hi]
          have := hw _ (List.getElem_mem hi)
          simp only [Option.getD_some]; omega
        · rw [List.getD_eq_getElem?_getD, List.getElem?_eq_none (by omega)]; decide
      · rw [if_neg hw] at h; omega
  · rw [if_neg h]
    show (0 : Int) ≤ 0 ∧ (0 : Int) ≤ 100
    omega

/-- 'l = append(l, e)' of one endpoint, l nil or the call's own. -/
theorem wpList_append_ep (W : World) {ops : Array Oper} {rest : List Oper} {o : Oper} {a : Act} {Q : Exit → Act → World → Prop} (hgd : o.guard = none) (s y : Operand)
    (ho : o.op = .call { callee := .builtin .append, args := #[s, y], argTypes := #[36, 36] })
    (B : Nat) (v : Value) (k : Nat) (l : List Int) (hs : a.eval s = v) (hown : W.ownsRow B 44 6 v k (eps l))
    (x : Int) (hx : a.eval y = .slice (some ⟨W.heap.size, 0, none⟩) 1 1)
    (hk : k + 1 ≤ 1000) (hB : B ≤ W.heap.size)
    (h : ∀ o' cp' w', w'.ownsRow B 44 6 (.slice o' (k + 1) cp') (k + 1) (eps (l ++ [x])) → Below B W w' → (∀ g, g < W.heap.size → v.ownBlock ≠ some g → w'.heap[g]? = W.heap[g]?) → wpList Try.prog ops Q rest (a.put o.dst (.slice o' (k + 1) cp')) w') :
    wpList Try.prog ops Q (o :: rest) a (W.alloc (.cells #[.int .u8 0, .int .u8 0, .int .u8 0, .int .u8 0, .int .u16 0, .int .i64 x] 44)) := by
  obtain ⟨i0, hi, hz0, hz1, hz2⟩ := info_parts info44
  have hrow := heap_alloc_new W (.cells #[.int .u8 0, .int .u8 0, .int .u8 0, .int .u8 0, .int .u16 0, .int .i64 x] 44)
  refine wpList_append_own _ hgd s y 36 ho B 44 i0 (.agg #[.int .u8 0, .int .u8 0, .int .u8 0, .int .u8 0, .int .u16 0, .int .i64 0]) 6 16 Try.underlying36 hi hz0 hz1 hz2 rfl (by decide) v k (eps l) hs (hown.alloc _) ⟨W.heap.size, 0, none⟩ 1 1 (epc x) hx rfl ?_ ?_ ?_ ?_ ?_ ?_
  · intro j u hj
    rw [plain_add, Nat.zero_add, cell_of_row _ _ _ _ _ _ hrow]
    have h6 : j < 6 := (List.getElem?_eq_some_iff.1 hj).1
    rcases (by omega : j = 0 ∨ j = 1 ∨ j = 2 ∨ j = 3 ∨ j = 4 ∨ j = 5) with rfl | rfl | rfl | rfl | rfl | rfl <;> exact hj
  · intro u hu
    simp [epc] at hu
    rcases hu with rfl | rfl | rfl <;> rfl
  · unfold maxLen; omega
  · omega
  · simp; omega
  · intro v' w' h1 h2 _
    rw [← eps_app] at h1
    have hsl : ∃ o' cp', v' = .slice o' (k + 1) cp' := by
      rcases h1.2 with ⟨_, h0⟩ | ⟨g, cp, cur, hv, _⟩
      · omega
      · exact ⟨_, _, hv⟩
    obtain ⟨o', cp', rfl⟩ := hsl
    refine h o' cp' w' h1 ?_ ?_
    · refine (((Below.refl B W).alloc hB _).grown h2 (by simp; omega) ?_)
      intro g hg
      exact (hown.lt g hg).1
    · intro g hg hne
      rw [← Below.heap_alloc W (.cells #[.int .u8 0, .int .u8 0, .int .u8 0, .int .u8 0, .int .u16 0, .int .i64 x] 44) g hg]
      exact h2.block g (by simp; omega) (fun e => hne e.symm)
set_option maxRecDepth 1000000 in
set_option maxHeartbeats 8000000 in
theorem turns_any (l : List Int) (hl : ∀ x ∈ l, -9223372036854775808 ≤ x ∧ x ≤ 9223372036854775807) (ls : List (List Int)) (at0 at1 : Option Addr) (cap cap1 b off b1 off1 : Nat) (w : World) (hat : 0 < l.length → at0 = some ⟨b, off, none⟩ ∧ b < w.heap.size) (hc : DIn w b off l) (hat1 : 0 < ls.length → at1 = some ⟨b1, off1, none⟩ ∧ b1 < w.heap.size) (hc1 : ISs w b1 off1 ls) :
    Calls Try.prog 3 #[.slice at0 l.length cap, .slice at1 ls.length cap1] w fun e w' => e = .returned (.bool true) ∧ Below w.heap.size w w' := by
  have K6 := Lib.hid awake22_any
  obtain ⟨n, hn⟩ : ∃ n, n = l.length := ⟨_, rfl⟩
  obtain ⟨m, hm⟩ : ∃ m, m = ls.length := ⟨_, rfl⟩
  have HNL := Lib.hid hn
  have HML := Lib.hid hm
  have HC := Lib.hid (And.intro hat hc)
  have HC1 := Lib.hid (And.intro hat1 hc1)
  have HL := Lib.hid hl
  clear hat hc hat1 hc1 hl
  rw [← hn, ← hm]
  clear hn hm
  by_cases hbig : 20 < n ∨ 300 < m
  · have q1 : (decide ((20 : Int) < (n : Int)) || decide ((300 : Int) < (m : Int))) = true := by
      rcases hbig with e | e
      · rw [decide_eq_true (show (20 : Int) < (n : Int) by omega)]; rfl
      · rw [decide_eq_true (show (300 : Int) < (m : Int) by omega), Bool.or_true]
    obtain ⟨p1, hp1⟩ : ∃ p1, decide ((20 : Int) < (n : Int)) = p1 := ⟨_, rfl⟩
    obtain ⟨p2, hp2⟩ : ∃ p2, decide ((300 : Int) < (m : Int)) = p2 := ⟨_, rfl⟩
    rw [hp1, hp2] at q1
    clear hbig HC HC1 HL HNL HML
    go_enter Try.func3, Try.ntmps3
    go_upto_region 3 with (first
      | (go_at_call 6; ((with_reducible refine (K6.out _).mono ?_); rintro z w1 ⟨rfl, hb1⟩; have HB1 := Lib.hid hb1; clear hb1)))
    cases p1
    · cases p2
      · cases q1
      · go_wp2
        go_ret
        exact ⟨rfl, HB1.out⟩
    · go_wp2
      go_ret
      exact ⟨rfl, HB1.out⟩
  · skip
    have hn20 : n ≤ 20 := by omega
    have hm300 : m ≤ 300 := by omega
    clear hbig
    have K7 : Hid (∀ wr, Below w.heap.size w wr → Calls Try.prog 7 #[.slice at0 n cap] wr fun e w' => e = .returned (.tuple #[spV Zf (nwU l) (nwN l), .int .i64 (nwE l)]) ∧ Below wr.heap.size wr w') := Lib.hid (fun wr hb => by
      have := new_any l HL.out at0 cap b off wr (fun hp => ⟨(HC.out.1 hp).1, Nat.lt_of_lt_of_le (HC.out.1 hp).2 hb.size⟩) (HC.out.2.later hb (fun hp => (HC.out.1 hp).2))
      rw [nwS_eq, ← HNL.out] at this
      exact this)
    have K8 : Hid (∀ wr, Below w.heap.size w wr → Calls Try.prog 8 #[.slice at0 n cap] wr fun e w' => RfR wr w' Zf (nwU l) (nwN l) (nwE l) e) := Lib.hid (fun wr hb => by
      have := rnew_any l at0 cap b off wr (fun hp => ⟨(HC.out.1 hp).1, Nat.lt_of_lt_of_le (HC.out.1 hp).2 hb.size⟩) (HC.out.2.later hb (fun hp => (HC.out.1 hp).2))
      rw [← HNL.out] at this
      exact this)
    have K9 : Hid (∀ wr oe ce ge, (0 < l.length → oe = some ⟨ge, 0, none⟩ ∧ ge < wr.heap.size) → EpIn wr ge l → Calls Try.prog 9 #[.agg #[.string ⟨#[]⟩, .slice oe n ce]] wr fun e w' => e = .returned (.tuple #[spV Zf (nwU l) (nwN l), .int .i64 (nwE l)]) ∧ Below wr.heap.size wr w') := Lib.hid (fun wr oe ce ge h1 h2 => by
      have := of_spin l HL.out (by rw [← HNL.out]; exact hn20) ⟨#[]⟩ oe ce ge wr h1 h2
      rw [nwS_eq, ← HNL.out] at this
      exact this)
    have hN8 := nwN_le l
    have HUB := Lib.hid (nwU_b l)
    clear HL
    generalize nwE l = E at *
    generalize nwU l = U at *
    generalize nwN l = N at *
    go_enter Try.func3, Try.ntmps3
    go_upto_region 6 with (first
      | (go_at_call 6; ((with_reducible refine (K6.out _).mono ?_); rintro z w1 ⟨rfl, hb1⟩; have HB1 := Lib.hid hb1; clear hb1))
      | (go_at_call 7; ((with_reducible refine (K7.out _ HB1.out).mono ?_); rintro z w2 ⟨rfl, hb2⟩; have HB2 := Lib.hid (HB1.out.trans (hb2.mono HB1.out.size)); have HZ2 := Lib.hid (NS.new w2 Zf Zf 0); clear hb2))
      | (refine wpList_store_ns (h' := Zf) (u' := U) (n' := N) rfl _ _ rfl HZ2.out rfl rfl ?_))
    have HSa := Lib.hid (HZ2.out.row Zf U N)
    have HBa := Lib.hid (below_setRow (HB2.out.trans ((alloc_below w2 (.cells (spc Zf Zf 0) 28)).mono HB2.out.size)) HB2.out.size (spc Zf U N))
    have HS3 : Hid (NS ((w2.alloc (.cells #[.complex .f64 0 0, .complex .f64 0 0, .complex .f64 0 0, .complex .f64 0 0, .complex .f64 0 0, .complex .f64 0 0, .complex .f64 0 0, .complex .f64 0 0, .int .i64 0] 28)).setRow w2.heap.size (spc Zf U N)) w2.heap.size Zf U N) := HSa
    have HB3 : Hid (Below w.heap.size w ((w2.alloc (.cells #[.complex .f64 0 0, .complex .f64 0 0, .complex .f64 0 0, .complex .f64 0 0, .complex .f64 0 0, .complex .f64 0 0, .complex .f64 0 0, .complex .f64 0 0, .int .i64 0] 28)).setRow w2.heap.size (spc Zf U N))) := HBa
    have HG5 := Lib.hid HB2.out.size
    clear HSa HBa HB1 HB2 HZ2 K6 K7
    generalize (w2.alloc (.cells #[.complex .f64 0 0, .complex .f64 0 0, .complex .f64 0 0, .complex .f64 0 0, .complex .f64 0 0, .complex .f64 0 0, .complex .f64 0 0, .complex .f64 0 0, .int .i64 0] 28)).setRow w2.heap.size (spc Zf U N) = w3 at *
    generalize w2.heap.size = g5 at *
    go_upto_region 7 with (first
      | (go_at_call 8; ((with_reducible refine (K8.out _ HB3.out).mono ?_); intro z w4 hR; obtain ⟨ρ1, ρ2, o1, o2, c1, c2, rfl, hr1, hr2, hb4⟩ := hR; have HR4 : Hid (NS w4 g5 Zf U N ∧ IRow ρ1 o1 c1 (hls Zf N) w4 ∧ IRow ρ2 o2 c2 (hls U N) w4 ∧ Below w.heap.size w w4) := Lib.hid ⟨HS3.out.later hb4, hr1, hr2, HB3.out.trans (hb4.mono HB3.out.size)⟩; clear hr1 hr2 hb4)))
    have HT5 : Hid (TuE w (w4.alloc (.cells #[.slice o1 N c1, .slice o2 N c2] 33)) g5 w4.heap.size ρ1 ρ2 o1 o2 c1 c2 Zf U N) := Lib.hid (by
      have ha := alloc_below w4 (.cells #[.slice o1 N c1, .slice o2 N c2] 33)
      exact ⟨HR4.out.1.later ha, ⟨heap_alloc_new w4 _, HR4.out.2.1.later ha, HR4.out.2.2.1.later ha⟩, HR4.out.2.2.2.trans (ha.mono HR4.out.2.2.2.size)⟩)
    have HG7 := Lib.hid HR4.out.2.2.2.size
    clear HR4 HS3 HB3 K8
    generalize w4.alloc (.cells #[.slice o1 N c1, .slice o2 N c2] 33) = w5 at *
    generalize w4.heap.size = g7 at *
    go_upto_region 8 with fail
    have HT6 := Lib.hid (HT5.out.later (alloc_below w5 (.cells #[.string ⟨#[]⟩, .slice none 0 0] 38)))
    have HC9 : Hid ((w5.alloc (.cells #[.string ⟨#[]⟩, .slice none 0 0] 38)).heap[w5.heap.size]? = some (.cells #[.string ⟨#[]⟩, .slice none 0 0] 38 (0, 0)) ∧ (w5.alloc (.cells #[.string ⟨#[]⟩, .slice none 0 0] 38)).heap.size = w5.heap.size + 1 ∧ w.heap.size ≤ w5.heap.size) := Lib.hid ⟨heap_alloc_new w5 _, by simp, HT5.out.B.size⟩
    have HT5g := Lib.hid (And.intro HT5.out.S.lt (lt_of_heap HT5.out.Q.b))
    have HRL := Lib.hid (And.intro (fun r hr => HT5.out.Q.r1.lt r hr) (fun r hr => HT5.out.Q.r2.lt r hr))
    clear HT5
    generalize w5.alloc (.cells #[.string ⟨#[]⟩, .slice none 0 0] 38) = w6 at *
    generalize w5.heap.size = g9 at *
    go_wp2
    go_loopw [11, 43] (fun _ i wr => ∃ (k : Nat) (oe : Option Addr) (ce : Nat), k ≤ n ∧ i = .int .i64 (k : Int) ∧ Hid (wr.heap[g9]? = some (.cells #[.string ⟨#[]⟩, .slice oe k ce] 38 (0, 0)) ∧ wr.ownsRow (g9 + 1) 44 6 (.slice oe k ce) k (eps (l.take k)) ∧ Below g9 w6 wr)) (fun _ i _ => n - (intOf i).toNat)
    case atStart => exact ⟨0, none, 0, by omega, rfl, Lib.hid ⟨HC9.out.1, World.ownsRow_nil _ _ _ _, Below.refl _ _⟩⟩
    case round =>
      obtain ⟨k, oe, ce, hk, rfl, HM⟩ := hrel
      have HTR : Hid (TuE w wr g5 g7 ρ1 ρ2 o1 o2 c1 c2 Zf U N) := Lib.hid (by
        have hb : ∀ g, g < g9 → wr.heap[g]? = w6.heap[g]? := HM.out.2.2.block
        exact ⟨(hb g5 HT5g.out.1).trans HT6.out.S, ⟨(hb g7 HT5g.out.2).trans HT6.out.Q.b, HT6.out.Q.r1.keep (fun r hr => hb r (HRL.out.1 r hr)), HT6.out.Q.r2.keep (fun r hr => hb r (HRL.out.2 r hr))⟩, HT6.out.B.trans (HM.out.2.2.mono HC9.out.2.2)⟩)
      by_cases hlt : k < n
      · have hkn : (k : Int) < (n : Int) := by omega
        have hkl : k < l.length := by rw [← HNL.out]; exact hlt
        have hcell := HC.out.2 k hkl
        obtain ⟨rfl, hbb⟩ := HC.out.1 (by omega)
        rw [← HTR.out.B.cell (p := ⟨b, off + k, none⟩) hbb] at hcell
        have HTK : Hid (l.take (k + 1) = l.take k ++ [l[k]]) := Lib.hid (List.take_add_one.trans (by rw [List.getElem?_eq_getElem hkl]; rfl))
        clear hbb
        generalize l[k] = x at *
        obtain ⟨⟨a0, a1⟩, f0, f1⟩ := two_cells HM.out.1
        have hsz : g9 + 1 ≤ wr.heap.size := lt_of_heap HM.out.1
        go_wp2_with (first
          | (at_builtin; go_must (refine wpList_append_ep wr rfl (.tmp 48) (.tmp 51) rfl (g9 + 1) (.slice oe k ce) k (l.take k) rfl HM.out.2.1 x rfl (by omega) hsz ?_); intro o3 c3 w8 hown' hb' hkept'; have hne : (Value.slice oe k ce).ownBlock ≠ some g9 := fun e => (by have := (HM.out.2.1.lt g9 e).1; omega); have hbx : w8.heap[g9]? = some (.cells #[.string ⟨#[]⟩, .slice oe k ce] 38 (0, 0)) := (hkept' g9 (by omega) hne).trans HM.out.1; have HO8 : Hid (w8.heap[g9]? = some (.cells #[.string ⟨#[]⟩, .slice oe k ce] 38 (0, 0)) ∧ w8.ownsRow (g9 + 1) 44 6 (.slice o3 (k + 1) c3) (k + 1) (eps (l.take (k + 1))) ∧ Below g9 w6 w8) := Lib.hid ⟨hbx, by rw [HTK.out]; exact hown', HM.out.2.2.trans (hb'.mono (by omega))⟩; clear hown' hb' hkept' hne a0 a1 f0 f1; obtain ⟨⟨a0, a1⟩, f0, f1⟩ := two_cells hbx; clear hbx))
        have HO9 : Hid ((w8.setCell ⟨g9, 1, none⟩ (.slice o3 (k + 1) c3)).heap[g9]? = some (.cells #[.string ⟨#[]⟩, .slice o3 (k + 1) c3] 38 (0, 0)) ∧ (w8.setCell ⟨g9, 1, none⟩ (.slice o3 (k + 1) c3)).ownsRow (g9 + 1) 44 6 (.slice o3 (k + 1) c3) (k + 1) (eps (l.take (k + 1))) ∧ Below g9 w6 (w8.setCell ⟨g9, 1, none⟩ (.slice o3 (k + 1) c3))) := Lib.hid ⟨heap_setCell_same w8 g9 1 _ 38 _ HO8.out.1, own_keep HO8.out.2.1 (fun g hg => heap_setCell_other _ _ g _ (fun e => by have h1 := (HO8.out.2.1.lt g hg).1; have h2 : g = g9 := e; omega)), HO8.out.2.2.setCell (Nat.le_refl _) _⟩
        generalize w8.setCell ⟨g9, 1, none⟩ (.slice o3 (k + 1) c3) = w9 at *
        go_roundw
        case rel => exact ⟨k + 1, o3, c3, by omega, by go_num, HO9⟩
        case measure => simp [intOf]; omega
      · obtain rfl : n = k := by omega
        obtain ⟨⟨a0, a1⟩, f0, f1⟩ := two_cells HM.out.1
        obtain ⟨oe2, ce2, ge, hv, hge, hep⟩ := ep_of (l := l) (by
          have := HM.out.2.1
          rw [HNL.out, List.take_length] at this
          exact this)
        injection hv with hv1 hv2 hv3
        subst hv1; subst hv3
        have K9c := Lib.hid (K9.out wr oe ce ge hge hep)
        clear hge hep hv2 HM K9 HC HT6
        go_upto_region 14 with (first
          | (go_at_call 9; ((with_reducible refine (K9c.out).mono ?_); rintro z w7 ⟨rfl, hb7⟩; have HT7 := Lib.hid (HTR.out.later hb7); have HZ7 := Lib.hid (NS.new w7 Zf Zf 0); clear hb7))
          | (refine wpList_store_ns (h' := Zf) (u' := U) (n' := N) rfl _ _ rfl HZ7.out rfl rfl ?_))
        have HT8 : Hid (TuE w ((w7.alloc (.cells #[.complex .f64 0 0, .complex .f64 0 0, .complex .f64 0 0, .complex .f64 0 0, .complex .f64 0 0, .complex .f64 0 0, .complex .f64 0 0, .complex .f64 0 0, .int .i64 0] 28)).setRow w7.heap.size (spc Zf U N)) g5 g7 ρ1 ρ2 o1 o2 c1 c2 Zf U N ∧ NS ((w7.alloc (.cells #[.complex .f64 0 0, .complex .f64 0 0, .complex .f64 0 0, .complex .f64 0 0, .complex .f64 0 0, .complex .f64 0 0, .complex .f64 0 0, .complex .f64 0 0, .int .i64 0] 28)).setRow w7.heap.size (spc Zf U N)) w7.heap.size Zf U N) := Lib.hid (by
          have e := HT7.out.later (alloc_below w7 (.cells (spc Zf Zf 0) 28))
          have hz := HZ7.out
          have hne5 : g5 ≠ w7.heap.size := by have := HT7.out.S.lt; omega
          have hne7 : g7 ≠ w7.heap.size := by have := lt_of_heap HT7.out.Q.b; omega
          exact ⟨⟨e.S.rowOther hne5 _, e.Q.other (T := 28) (by decide) hz hne7 (fun k hk => setRow_other _ _ k _ hk), below_setRow e.B HT7.out.B.size _⟩, hz.row Zf U N⟩)
        clear HT7 HZ7 HTR K9c a0 a1 f0 f1
        generalize (w7.alloc (.cells #[.complex .f64 0 0, .complex .f64 0 0, .complex .f64 0 0, .complex .f64 0 0, .complex .f64 0 0, .complex .f64 0 0, .complex .f64 0 0, .complex .f64 0 0, .int .i64 0] 28)).setRow w7.heap.size (spc Zf U N) = w8 at *
        generalize w7.heap.size = g12 at *
        obtain ⟨e0, e1, e2, e3, e4, e5, e6, e7, e8, hcs⟩ : ∃ e0 e1 e2 e3 e4 e5 e6 e7 e8 : Value, spc Zf U N = #[e0, e1, e2, e3, e4, e5, e6, e7, e8] := ⟨_, _, _, _, _, _, _, _, _, rfl⟩
        have hzb : ∀ i, -1000000000 ≤ Zf i ∧ Zf i ≤ 1000000000 := fun i => by show (-1000000000 : Int) ≤ 0 ∧ (0 : Int) ≤ 1000000000; omega
        have K10 : Hid (∀ wz, IRow ρ1 o1 c1 (hls Zf N) wz → IRow ρ2 o2 c2 (hls U N) wz → Calls Try.prog 10 #[.agg #[e0, e1, e2, e3, e4, e5, e6, e7, e8], .agg #[.slice o1 N c1, .slice o2 N c2]] wz fun e w' => e = .returned (.bool true) ∧ Below wz.heap.size wz w') := Lib.hid (fun wz h1 h2 => by
          have := isq_any Zf U N hN8 hzb HUB.out wz ρ1 ρ2 o1 o2 c1 c2 h1 h2
          unfold spV at this
          rw [hcs] at this
          exact this)
        have K11 : Hid (∀ wz, Calls Try.prog 11 #[.agg #[e0, e1, e2, e3, e4, e5, e6, e7, e8], .agg #[e0, e1, e2, e3, e4, e5, e6, e7, e8]] wz fun e w' => e = .returned (.bool true) ∧ Below wz.heap.size wz w') := Lib.hid (fun wz => by
          have := same_any Zf U N hzb HUB.out wz
          unfold spV at this
          rw [hcs] at this
          exact this)
        have HCS := Lib.hid hcs
        clear hcs hzb
        obtain ⟨x0, x1, x2, x3, x4, x5, x6, x7, x8⟩ := nine_of (by have := HT8.out.1.S; unfold NS at this; rw [HCS.out] at this; exact this)
        obtain ⟨⟨s0, s1⟩, _⟩ := two_cells HT8.out.1.Q.b
        go_upto_region 16 with (first
          | (go_at_call 10; ((with_reducible refine (K10.out _ HT8.out.1.Q.r1 HT8.out.1.Q.r2).mono ?_); rintro z w9 ⟨rfl, hb9⟩; have HT9 : Hid (TuE w w9 g5 g7 ρ1 ρ2 o1 o2 c1 c2 Zf U N ∧ NS w9 g12 Zf U N) := Lib.hid ⟨HT8.out.1.later hb9, HT8.out.2.later hb9⟩; clear hb9 x0 x1 x2 x3 x4 x5 x6 x7 x8 s0 s1; obtain ⟨x0, x1, x2, x3, x4, x5, x6, x7, x8⟩ := nine_of (by have := HT9.out.1.S; unfold NS at this; rw [HCS.out] at this; exact this); obtain ⟨y0, y1, y2, y3, y4, y5, y6, y7, y8⟩ := nine_of (by have := HT9.out.2; unfold NS at this; rw [HCS.out] at this; exact this)))
          | (go_at_call 11; ((with_reducible refine (K11.out _).mono ?_); rintro z w10 ⟨rfl, hb10⟩; have HT10 := Lib.hid (HT9.out.1.later hb10); clear hb10 x0 x1 x2 x3 x4 x5 x6 x7 x8 y0 y1 y2 y3 y4 y5 y6 y7 y8)))
        clear HT8 HT9 K10 K11 HCS
        clear HNL hn20 HRL HT5g HC9
        go_wp2
        go_loopw [82] (fun i wr => ∃ (t : Nat) (h : Nat → Int) (ρ1 ρ2 : Option Nat) (o1 o2 : Option Addr) (c1 c2 : Nat), t ≤ m ∧ i = .int .i64 (t : Int) ∧ Hid ((∀ i, -(800 * (t : Int)) ≤ h i ∧ h i ≤ 800 * (t : Int)) ∧ TuE w wr g5 g7 ρ1 ρ2 o1 o2 c1 c2 h U N)) (fun i _ => m - (intOf i).toNat)
        case atStart => exact ⟨0, Zf, ρ1, ρ2, o1, o2, c1, c2, by omega, rfl, Lib.hid ⟨fun i => by show _ ∧ (0 : Int) ≤ _; simp [Zf], HT10.out⟩⟩
        case round =>
          obtain ⟨t, h, ρ1, ρ2, o1, o2, c1, c2, ht, rfl, HI⟩ := hrel
          clear HT10
          by_cases htm : t < m
          · have hti : (t : Int) < (m : Int) := by omega
            have htl : t < ls.length := by have := HML.out; omega
            obtain ⟨v, hcell, hisl⟩ := HC1.out.2 t htl
            obtain ⟨rfl, hbb⟩ := HC1.out.1 (by omega)
            rw [← HI.out.2.B.cell (p := ⟨b1, off1 + t, none⟩) hbb] at hcell
            obtain ⟨od, cd, bd, ofd, rfl, had, hdd⟩ := hisl
            clear hbb
            generalize ls[t] = d at *
            obtain ⟨dn, hdn⟩ : ∃ dn, dn = d.length := ⟨_, rfl⟩
            rw [← hdn] at hcell
            by_cases hd10 : 10 < dn
            · have HB := Lib.hid HI.out.2.B
              go_wp2
              go_ret
              exact ⟨rfl, HB.out⟩
            · have HP : Hid (∀ wz, Below w.heap.size w wz → NxP wz h U N d od bd ofd) := Lib.hid (fun wz hb => ⟨hN8, HUB.out, fun i => by have := HI.out.1 i; omega, by omega, fun hp => ⟨(had hp).1, Nat.lt_of_lt_of_le (had hp).2 hb.size⟩, hdd.later hb (fun hp => (had hp).2)⟩)
              have hd10' : dn ≤ 10 := by omega
              obtain ⟨h2, hh2⟩ : ∃ h2, nH (upL d) h U N = h2 := ⟨_, rfl⟩
              have HBD : Hid (∀ i, -(800 * ((t + 1 : Nat) : Int)) ≤ h2 i ∧ h2 i ≤ 800 * ((t + 1 : Nat) : Int)) := Lib.hid (fun i => by
                have := nH_bound (up := upL d) (n := N) (B := 800 * (t : Int)) (by omega) hN8 HUB.out HI.out.1 i
                rw [hh2] at this
                push_cast
                omega)
              obtain ⟨c, hc⟩ : ∃ c, tC (upL d) h U N = c := ⟨_, rfl⟩
              have K12 : Hid (∀ wz, Below w.heap.size w wz → Calls Try.prog 12 #[spV h U N, .slice od dn cd] wz fun e w' => e = .returned (.tuple #[spV h2 U N, .int .i64 (cN c), .bool c.isSome]) ∧ Below wz.heap.size wz w') := Lib.hid (fun wz hb => by
                have := next_any h U N d od cd bd ofd wz (HP.out wz hb)
                rw [hdn]
                exact this.mono (fun e w' ⟨h1, h3⟩ => ⟨by rw [h1, hh2, hc], h3⟩))
              have K13 : Hid (∀ wz, Below w.heap.size w wz → IRow ρ1 o1 c1 (hls h N) wz → IRow ρ2 o2 c2 (hls U N) wz → Calls Try.prog 13 #[.agg #[.slice o1 N c1, .slice o2 N c2], .slice od dn cd] wz fun e w' => RfR wz w' h2 U N (cI c) e) := Lib.hid (fun wz hb h1 h2' => by
                have := rnext_any h U N d od cd bd ofd wz (HP.out wz hb) ρ1 ρ2 o1 o2 c1 c2 h1 h2'
                rw [hh2, hc] at this
                rw [hdn]
                exact this)
              have hhb : ∀ i, -1000000000 ≤ h i ∧ h i ≤ 1000000000 := fun i => by have := HI.out.1 i; omega
              have hhb2 : ∀ i, -1000000000 ≤ h2 i ∧ h2 i ≤ 1000000000 := fun i => by have := HBD.out i; omega
              obtain ⟨e0, e1, e2, e3, e4, e5, e6, e7, e8, hcs⟩ : ∃ e0 e1 e2 e3 e4 e5 e6 e7 e8 : Value, spc h U N = #[e0, e1, e2, e3, e4, e5, e6, e7, e8] := ⟨_, _, _, _, _, _, _, _, _, rfl⟩
              obtain ⟨f0, f1, f2, f3, f4, f5, f6, f7, f8, hfs⟩ : ∃ f0 f1 f2 f3 f4 f5 f6 f7 f8 : Value, spc h2 U N = #[f0, f1, f2, f3, f4, f5, f6, f7, f8] := ⟨_, _, _, _, _, _, _, _, _, rfl⟩
              have K10 : Hid (∀ wz, IRow ρ1 o1 c1 (hls h N) wz → IRow ρ2 o2 c2 (hls U N) wz → Calls Try.prog 10 #[.agg #[e0, e1, e2, e3, e4, e5, e6, e7, e8], .agg #[.slice o1 N c1, .slice o2 N c2]] wz fun e w' => e = .returned (.bool true) ∧ Below wz.heap.size wz w') := Lib.hid (fun wz h1 h2' => by
                have := isq_any h U N hN8 hhb HUB.out wz ρ1 ρ2 o1 o2 c1 c2 h1 h2'
                unfold spV at this
                rw [hcs] at this
                exact this)
              have K10b : Hid (∀ wz ρ3 ρ4 o3 o4 c3 c4, IRow ρ3 o3 c3 (hls h2 N) wz → IRow ρ4 o4 c4 (hls U N) wz → Calls Try.prog 10 #[.agg #[f0, f1, f2, f3, f4, f5, f6, f7, f8], .agg #[.slice o3 N c3, .slice o4 N c4]] wz fun e w' => e = .returned (.bool true) ∧ Below wz.heap.size wz w') := Lib.hid (fun wz ρ3 ρ4 o3 o4 c3 c4 h1 h2' => by
                have := isq_any h2 U N hN8 hhb2 HUB.out wz ρ3 ρ4 o3 o4 c3 c4 h1 h2'
                unfold spV at this
                rw [hfs] at this
                exact this)
              have HCS := Lib.hid hcs
              have HFS := Lib.hid hfs
              have HE := Lib.hid HI.out.2
              clear hcs hfs hhb hhb2 HP HI hh2 hc had hdd hdn
              cases c with
              | none =>
                have K12b : Hid (∀ wz, Below w.heap.size w wz → Calls Try.prog 12 #[spV h U N, .slice od dn cd] wz fun e w' => e = .returned (.tuple #[spV h2 U N, .int .i64 0, .bool false]) ∧ Below wz.heap.size wz w') := K12
                have K13b : Hid (∀ wz, Below w.heap.size w wz → IRow ρ1 o1 c1 (hls h N) wz → IRow ρ2 o2 c2 (hls U N) wz → Calls Try.prog 13 #[.agg #[.slice o1 N c1, .slice o2 N c2], .slice od dn cd] wz fun e w' => RfR wz w' h2 U N (-1) e) := K13
                clear K12 K13
                go_upto_region 22 with (first
                  | (refine wpList_load_ns rfl _ rfl HE.out.S rfl ?_)
                  | (go_at_call 12; ((with_reducible refine (K12b.out _ HE.out.B).mono ?_); rintro z w5 ⟨rfl, hb5⟩; have HE5 := Lib.hid (HE.out.later hb5); have HZ5 := Lib.hid (NS.new w5 Zf Zf 0); clear hb5))
                  | (refine wpList_store_ns (h' := h2) (u' := U) (n' := N) rfl _ _ rfl HZ5.out rfl rfl ?_))
                have HE6 : Hid (TuE w ((w5.alloc (.cells #[.complex .f64 0 0, .complex .f64 0 0, .complex .f64 0 0, .complex .f64 0 0, .complex .f64 0 0, .complex .f64 0 0, .complex .f64 0 0, .complex .f64 0 0, .int .i64 0] 28)).setRow w5.heap.size (spc h2 U N)) g5 g7 ρ1 ρ2 o1 o2 c1 c2 h U N ∧ NS ((w5.alloc (.cells #[.complex .f64 0 0, .complex .f64 0 0, .complex .f64 0 0, .complex .f64 0 0, .complex .f64 0 0, .complex .f64 0 0, .complex .f64 0 0, .complex .f64 0 0, .int .i64 0] 28)).setRow w5.heap.size (spc h2 U N)) w5.heap.size h2 U N) := Lib.hid (by
                  have e := HE5.out.later (alloc_below w5 (.cells (spc Zf Zf 0) 28))
                  have hz := HZ5.out
                  have hne5 : g5 ≠ w5.heap.size := by have := HE5.out.S.lt; omega
                  have hne7 : g7 ≠ w5.heap.size := by have := lt_of_heap HE5.out.Q.b; omega
                  exact ⟨⟨e.S.rowOther hne5 _, e.Q.other (T := 28) (by decide) hz hne7 (fun k hk => setRow_other _ _ k _ hk), below_setRow e.B HE5.out.B.size _⟩, hz.row h2 U N⟩)
                clear HE5 HZ5 HE K12b
                generalize (w5.alloc (.cells #[.complex .f64 0 0, .complex .f64 0 0, .complex .f64 0 0, .complex .f64 0 0, .complex .f64 0 0, .complex .f64 0 0, .complex .f64 0 0, .complex .f64 0 0, .int .i64 0] 28)).setRow w5.heap.size (spc h2 U N) = w6' at *
                generalize w5.heap.size = g16 at *
                obtain ⟨⟨s0, s1⟩, _⟩ := two_cells HE6.out.1.Q.b
                go_upto_region 23 with (first
                  | (go_at_call 13; ((with_reducible refine (K13b.out _ HE6.out.1.B HE6.out.1.Q.r1 HE6.out.1.Q.r2).mono ?_); intro z w7 hR; obtain ⟨ρ3, ρ4, o3, o4, c3, c4, rfl, hr3, hr4, hb7⟩ := hR; have HE7 : Hid (TuE w w7 g5 g7 ρ1 ρ2 o1 o2 c1 c2 h U N ∧ NS w7 g16 h2 U N) := Lib.hid ⟨HE6.out.1.later hb7, HE6.out.2.later hb7⟩; have HR7 := Lib.hid (And.intro hr3 hr4); clear hr3 hr4 hb7 s0 s1)))
                have HE8 : Hid (TuE w (w7.alloc (.cells #[.slice o3 N c3, .slice o4 N c4] 33)) g5 g7 ρ1 ρ2 o1 o2 c1 c2 h U N ∧ NS (w7.alloc (.cells #[.slice o3 N c3, .slice o4 N c4] 33)) g16 h2 U N ∧ RQ (w7.alloc (.cells #[.slice o3 N c3, .slice o4 N c4] 33)) w7.heap.size ρ3 ρ4 o3 o4 c3 c4 h2 U N) := Lib.hid (by
                  have ha := alloc_below w7 (.cells #[.slice o3 N c3, .slice o4 N c4] 33)
                  exact ⟨HE7.out.1.later ha, HE7.out.2.later ha, heap_alloc_new w7 _, HR7.out.1.later ha, HR7.out.2.later ha⟩)
                have HGN : Hid (g5 ≠ w7.heap.size ∧ g7 ≠ w7.heap.size ∧ g16 ≠ w7.heap.size) := Lib.hid ⟨by have := HE7.out.1.S.lt; omega, by have := lt_of_heap HE7.out.1.Q.b; omega, by have := HE7.out.2.lt; omega⟩
                clear HE6 HE7 HR7 K13b
                generalize w7.alloc (.cells #[.slice o3 N c3, .slice o4 N c4] 33) = w8 at *
                generalize w7.heap.size = g19 at *
                obtain ⟨x0, x1, x2, x3, x4, x5, x6, x7, x8⟩ := nine_of (by have := HE8.out.2.1; unfold NS at this; rw [HFS.out] at this; exact this)
                obtain ⟨⟨s0, s1⟩, _⟩ := two_cells HE8.out.2.2.b
                go_upto_region 25 with (first
                  | (go_at_call 10; ((with_reducible refine (K10b.out _ ρ3 ρ4 o3 o4 c3 c4 HE8.out.2.2.r1 HE8.out.2.2.r2).mono ?_); rintro z w9 ⟨rfl, hb9⟩; have HE9 : Hid (TuE w w9 g5 g7 ρ1 ρ2 o1 o2 c1 c2 h U N ∧ NS w9 g16 h2 U N ∧ RQ w9 g19 ρ3 ρ4 o3 o4 c3 c4 h2 U N) := Lib.hid ⟨HE8.out.1.later hb9, HE8.out.2.1.later hb9, HE8.out.2.2.later hb9⟩; clear hb9 x0 x1 x2 x3 x4 x5 x6 x7 x8 s0 s1; obtain ⟨x0, x1, x2, x3, x4, x5, x6, x7, x8⟩ := nine_of (by have := HE9.out.1.S; unfold NS at this; rw [HCS.out] at this; exact this); obtain ⟨⟨s0, s1⟩, _⟩ := two_cells HE9.out.1.Q.b))
                  | (go_at_call 10; ((with_reducible refine (K10.out _ HE9.out.1.Q.r1 HE9.out.1.Q.r2).mono ?_); rintro z w10 ⟨rfl, hb10⟩; have HE10 : Hid (TuE w w10 g5 g7 ρ1 ρ2 o1 o2 c1 c2 h U N ∧ NS w10 g16 h2 U N ∧ RQ w10 g19 ρ3 ρ4 o3 o4 c3 c4 h2 U N) := Lib.hid ⟨HE9.out.1.later hb10, HE9.out.2.1.later hb10, HE9.out.2.2.later hb10⟩; clear hb10 x0 x1 x2 x3 x4 x5 x6 x7 x8 s0 s1)))
                clear HE8 HE9 K10 K10b
                have HE11 : Hid (TuE w w10.drew g5 g7 ρ1 ρ2 o1 o2 c1 c2 h U N ∧ NS w10.drew g16 h2 U N ∧ RQ w10.drew g19 ρ3 ρ4 o3 o4 c3 c4 h2 U N) := Lib.hid (by have hd := (Below.refl w10.heap.size w10).drew; exact ⟨HE10.out.1.later hd, HE10.out.2.1.later hd, HE10.out.2.2.later hd⟩)
                clear HE10
                refine wp_region_held_drew (S := fun _ => True) (by kernel_rfl) trivial (fun hHeld => ?_)
                generalize w10.drew = wc0 at *
                refine wpAnyH_ready (rs := [0, 1]) (by kernel_rfl) (by simp) ?_
                refine AllReadyH.cons (o := ⟨some 134, _, _, _, _, _⟩) rfl (fun K hK => ?_) ?_
                · refine wp_load_row 28 (.tmp 16) rfl g16 rfl 28 (spc h2 U N) (0, 0) _ HE11.out.2.1 Try.underlying28 rfl (by rw [info28, spc_size]) ?_
                  refine hK.out _ _ trivial (fun hHeld2 => ?_)
                  clear hK K hHeld
                  have hHeld := hHeld2
                  clear hHeld2
                  try simp only [Act.put, List.setIfInBounds_toArray, List.set_cons_zero, List.set_cons_succ]
                  refine wpAnyH_ready (rs := [1, 2]) (by kernel_rfl) (by simp) ?_
                  refine AllReadyH.cons (o := ⟨some 135, _, _, _, _, _⟩) rfl (fun K hK => ?_) ?_
                  · refine wp_load_row 33 (.tmp 19) rfl g19 rfl 33 #[.slice o3 N c3, .slice o4 N c4] (0, 0) _ HE11.out.2.2.b Try.underlying33 rfl info33r ?_
                    refine hK.out _ _ trivial (fun hHeld2 => ?_)
                    clear hK K hHeld
                    have hHeld := hHeld2
                    clear hHeld2
                    try simp only [Act.put, List.setIfInBounds_toArray, List.set_cons_zero, List.set_cons_succ]
                    refine wpAnyH_ready (rs := [2]) (by kernel_rfl) (by simp) ?_
                    refine AllReadyH.cons (o := ⟨none, _, _, _, _, _⟩) rfl (fun K hK => ?_) ?_
                    · refine wp_store_row 28 (.tmp 5) (.tmp 134) rfl g5 (spc h2 U N) rfl rfl 28 (spc h U N) HE11.out.1.S (by rw [info28, spc_size]) (by rw [spc_size, spc_size]) (spc_one _ _ _) ?_
                      refine hK.out _ _ trivial (fun hHeld2 => ?_)
                      clear hK K hHeld
                      have hHeld := hHeld2
                      clear hHeld2
                      try simp only [Act.put, List.setIfInBounds_toArray, List.set_cons_zero, List.set_cons_succ]
                      refine wpAnyH_ready (rs := [3]) (by kernel_rfl) (by simp) ?_
                      refine AllReadyH.cons (o := ⟨none, _, _, _, _, _⟩) rfl (fun K hK => ?_) ?_
                      · refine wp_store_row 33 (.tmp 7) (.tmp 135) rfl g7 #[.slice o3 N c3, .slice o4 N c4] rfl rfl 33 _ (HE11.out.1.row7 _) info33r rfl (by simp [Value.oneCell']) ?_
                        refine hK.out _ _ trivial (fun hHeld2 => ?_)
                        clear hK K hHeld
                        have hHeld := hHeld2
                        clear hHeld2
                        try simp only [Act.put, List.setIfInBounds_toArray, List.set_cons_zero, List.set_cons_succ]
                        refine wpAnyH_done (by kernel_rfl) ?_ _
                        simp only [Exit.inBlock, Exit.then]
                        apply_assumption
                        have HEn := Lib.hid (HE11.out.1.swap HE11.out.2.2 HG5.out HG7.out HGN.out.1)
                        clear hHeld HE11
                        generalize (wc0.setRow g5 (spc h2 U N)).setRow g7 #[.slice o3 N c3, .slice o4 N c4] = wf at *
                        go_wp2
                        exact ⟨⟨t + 1, h2, ρ3, ρ4, o3, o4, c3, c4, by omega, by go_num, Lib.hid ⟨HBD.out, HEn.out⟩⟩, by simp [intOf]; omega⟩
                      · exact AllReadyH.nil
                    · exact AllReadyH.nil
                  · refine AllReadyH.cons (o := ⟨none, _, _, _, _, _⟩) rfl (fun K hK => ?_) ?_
                    · refine wp_store_row 28 (.tmp 5) (.tmp 134) rfl g5 (spc h2 U N) rfl rfl 28 (spc h U N) HE11.out.1.S (by rw [info28, spc_size]) (by rw [spc_size, spc_size]) (spc_one _ _ _) ?_
                      refine hK.out _ _ trivial (fun hHeld2 => ?_)
                      clear hK K hHeld
                      have hHeld := hHeld2
                      clear hHeld2
                      try simp only [Act.put, List.setIfInBounds_toArray, List.set_cons_zero, List.set_cons_succ]
                      refine wpAnyH_ready (rs := [1]) (by kernel_rfl) (by simp) ?_
                      refine AllReadyH.cons (o := ⟨some 135, _, _, _, _, _⟩) rfl (fun K hK => ?_) ?_
                      · refine wp_load_row 33 (.tmp 19) rfl g19 rfl 33 #[.slice o3 N c3, .slice o4 N c4] (0, 0) _ ((setRow_other wc0 g5 g19 _ HGN.out.1.symm).trans HE11.out.2.2.b) Try.underlying33 rfl info33r ?_
                        refine hK.out _ _ trivial (fun hHeld2 => ?_)
                        clear hK K hHeld
                        have hHeld := hHeld2
                        clear hHeld2
                        try simp only [Act.put, List.setIfInBounds_toArray, List.set_cons_zero, List.set_cons_succ]
                        refine wpAnyH_ready (rs := [3]) (by kernel_rfl) (by simp) ?_
                        refine AllReadyH.cons (o := ⟨none, _, _, _, _, _⟩) rfl (fun K hK => ?_) ?_
                        · refine wp_store_row 33 (.tmp 7) (.tmp 135) rfl g7 #[.slice o3 N c3, .slice o4 N c4] rfl rfl 33 _ (HE11.out.1.row7 _) info33r rfl (by simp [Value.oneCell']) ?_
                          refine hK.out _ _ trivial (fun hHeld2 => ?_)
                          clear hK K hHeld
                          have hHeld := hHeld2
                          clear hHeld2
                          try simp only [Act.put, List.setIfInBounds_toArray, List.set_cons_zero, List.set_cons_succ]
                          refine wpAnyH_done (by kernel_rfl) ?_ _
                          simp only [Exit.inBlock, Exit.then]
                          apply_assumption
                          have HEn := Lib.hid (HE11.out.1.swap HE11.out.2.2 HG5.out HG7.out HGN.out.1)
                          clear hHeld HE11
                          generalize (wc0.setRow g5 (spc h2 U N)).setRow g7 #[.slice o3 N c3, .slice o4 N c4] = wf at *
                          go_wp2
                          exact ⟨⟨t + 1, h2, ρ3, ρ4, o3, o4, c3, c4, by omega, by go_num, Lib.hid ⟨HBD.out, HEn.out⟩⟩, by simp [intOf]; omega⟩
                        · exact AllReadyH.nil
                      · exact AllReadyH.nil
                    · exact AllReadyH.nil
                · refine AllReadyH.cons (o := ⟨some 135, _, _, _, _, _⟩) rfl (fun K hK => ?_) ?_
                  · refine wp_load_row 33 (.tmp 19) rfl g19 rfl 33 #[.slice o3 N c3, .slice o4 N c4] (0, 0) _ HE11.out.2.2.b Try.underlying33 rfl info33r ?_
                    refine hK.out _ _ trivial (fun hHeld2 => ?_)
                    clear hK K hHeld
                    have hHeld := hHeld2
                    clear hHeld2
                    try simp only [Act.put, List.setIfInBounds_toArray, List.set_cons_zero, List.set_cons_succ]
                    refine wpAnyH_ready (rs := [0]) (by kernel_rfl) (by simp) ?_
                    refine AllReadyH.cons (o := ⟨some 134, _, _, _, _, _⟩) rfl (fun K hK => ?_) ?_
                    · refine wp_load_row 28 (.tmp 16) rfl g16 rfl 28 (spc h2 U N) (0, 0) _ HE11.out.2.1 Try.underlying28 rfl (by rw [info28, spc_size]) ?_
                      refine hK.out _ _ trivial (fun hHeld2 => ?_)
                      clear hK K hHeld
                      have hHeld := hHeld2
                      clear hHeld2
                      try simp only [Act.put, List.setIfInBounds_toArray, List.set_cons_zero, List.set_cons_succ]
                      refine wpAnyH_ready (rs := [2]) (by kernel_rfl) (by simp) ?_
                      refine AllReadyH.cons (o := ⟨none, _, _, _, _, _⟩) rfl (fun K hK => ?_) ?_
                      · refine wp_store_row 28 (.tmp 5) (.tmp 134) rfl g5 (spc h2 U N) rfl rfl 28 (spc h U N) HE11.out.1.S (by rw [info28, spc_size]) (by rw [spc_size, spc_size]) (spc_one _ _ _) ?_
                        refine hK.out _ _ trivial (fun hHeld2 => ?_)
                        clear hK K hHeld
                        have hHeld := hHeld2
                        clear hHeld2
                        try simp only [Act.put, List.setIfInBounds_toArray, List.set_cons_zero, List.set_cons_succ]
                        refine wpAnyH_ready (rs := [3]) (by kernel_rfl) (by simp) ?_
                        refine AllReadyH.cons (o := ⟨none, _, _, _, _, _⟩) rfl (fun K hK => ?_) ?_
                        · refine wp_store_row 33 (.tmp 7) (.tmp 135) rfl g7 #[.slice o3 N c3, .slice o4 N c4] rfl rfl 33 _ (HE11.out.1.row7 _) info33r rfl (by simp [Value.oneCell']) ?_
                          refine hK.out _ _ trivial (fun hHeld2 => ?_)
                          clear hK K hHeld
                          have hHeld := hHeld2
                          clear hHeld2
                          try simp only [Act.put, List.setIfInBounds_toArray, List.set_cons_zero, List.set_cons_succ]
                          refine wpAnyH_done (by kernel_rfl) ?_ _
                          simp only [Exit.inBlock, Exit.then]
                          apply_assumption
                          have HEn := Lib.hid (HE11.out.1.swap HE11.out.2.2 HG5.out HG7.out HGN.out.1)
                          clear hHeld HE11
                          generalize (wc0.setRow g5 (spc h2 U N)).setRow g7 #[.slice o3 N c3, .slice o4 N c4] = wf at *
                          go_wp2
                          exact ⟨⟨t + 1, h2, ρ3, ρ4, o3, o4, c3, c4, by omega, by go_num, Lib.hid ⟨HBD.out, HEn.out⟩⟩, by simp [intOf]; omega⟩
                        · exact AllReadyH.nil
                      · exact AllReadyH.nil
                    · exact AllReadyH.nil
                  · exact AllReadyH.nil
              | some j =>
                have K12b : Hid (∀ wz, Below w.heap.size w wz → Calls Try.prog 12 #[spV h U N, .slice od dn cd] wz fun e w' => e = .returned (.tuple #[spV h2 U N, .int .i64 (j : Int), .bool true]) ∧ Below wz.heap.size wz w') := K12
                have K13b : Hid (∀ wz, Below w.heap.size w wz → IRow ρ1 o1 c1 (hls h N) wz → IRow ρ2 o2 c2 (hls U N) wz → Calls Try.prog 13 #[.agg #[.slice o1 N c1, .slice o2 N c2], .slice od dn cd] wz fun e w' => RfR wz w' h2 U N (j : Int) e) := K13
                have hj0 : decide ((0 : Int) ≤ (j : Int)) = true := by rw [decide_eq_true_eq]; omega
                clear K12 K13
                go_upto_region 22 with (first
                  | (refine wpList_load_ns rfl _ rfl HE.out.S rfl ?_)
                  | (go_at_call 12; ((with_reducible refine (K12b.out _ HE.out.B).mono ?_); rintro z w5 ⟨rfl, hb5⟩; have HE5 := Lib.hid (HE.out.later hb5); have HZ5 := Lib.hid (NS.new w5 Zf Zf 0); clear hb5))
                  | (refine wpList_store_ns (h' := h2) (u' := U) (n' := N) rfl _ _ rfl HZ5.out rfl rfl ?_))
                have HE6 : Hid (TuE w ((w5.alloc (.cells #[.complex .f64 0 0, .complex .f64 0 0, .complex .f64 0 0, .complex .f64 0 0, .complex .f64 0 0, .complex .f64 0 0, .complex .f64 0 0, .complex .f64 0 0, .int .i64 0] 28)).setRow w5.heap.size (spc h2 U N)) g5 g7 ρ1 ρ2 o1 o2 c1 c2 h U N ∧ NS ((w5.alloc (.cells #[.complex .f64 0 0, .complex .f64 0 0, .complex .f64 0 0, .complex .f64 0 0, .complex .f64 0 0, .complex .f64 0 0, .complex .f64 0 0, .complex .f64 0 0, .int .i64 0] 28)).setRow w5.heap.size (spc h2 U N)) w5.heap.size h2 U N) := Lib.hid (by
                  have e := HE5.out.later (alloc_below w5 (.cells (spc Zf Zf 0) 28))
                  have hz := HZ5.out
                  have hne5 : g5 ≠ w5.heap.size := by have := HE5.out.S.lt; omega
                  have hne7 : g7 ≠ w5.heap.size := by have := lt_of_heap HE5.out.Q.b; omega
                  exact ⟨⟨e.S.rowOther hne5 _, e.Q.other (T := 28) (by decide) hz hne7 (fun k hk => setRow_other _ _ k _ hk), below_setRow e.B HE5.out.B.size _⟩, hz.row h2 U N⟩)
                clear HE5 HZ5 HE K12b
                generalize (w5.alloc (.cells #[.complex .f64 0 0, .complex .f64 0 0, .complex .f64 0 0, .complex .f64 0 0, .complex .f64 0 0, .complex .f64 0 0, .complex .f64 0 0, .complex .f64 0 0, .int .i64 0] 28)).setRow w5.heap.size (spc h2 U N) = w6' at *
                generalize w5.heap.size = g16 at *
                obtain ⟨⟨s0, s1⟩, _⟩ := two_cells HE6.out.1.Q.b
                go_upto_region 23 with (first
                  | (go_at_call 13; ((with_reducible refine (K13b.out _ HE6.out.1.B HE6.out.1.Q.r1 HE6.out.1.Q.r2).mono ?_); intro z w7 hR; obtain ⟨ρ3, ρ4, o3, o4, c3, c4, rfl, hr3, hr4, hb7⟩ := hR; have HE7 : Hid (TuE w w7 g5 g7 ρ1 ρ2 o1 o2 c1 c2 h U N ∧ NS w7 g16 h2 U N) := Lib.hid ⟨HE6.out.1.later hb7, HE6.out.2.later hb7⟩; have HR7 := Lib.hid (And.intro hr3 hr4); clear hr3 hr4 hb7 s0 s1)))
                have HE8 : Hid (TuE w (w7.alloc (.cells #[.slice o3 N c3, .slice o4 N c4] 33)) g5 g7 ρ1 ρ2 o1 o2 c1 c2 h U N ∧ NS (w7.alloc (.cells #[.slice o3 N c3, .slice o4 N c4] 33)) g16 h2 U N ∧ RQ (w7.alloc (.cells #[.slice o3 N c3, .slice o4 N c4] 33)) w7.heap.size ρ3 ρ4 o3 o4 c3 c4 h2 U N) := Lib.hid (by
                  have ha := alloc_below w7 (.cells #[.slice o3 N c3, .slice o4 N c4] 33)
                  exact ⟨HE7.out.1.later ha, HE7.out.2.later ha, heap_alloc_new w7 _, HR7.out.1.later ha, HR7.out.2.later ha⟩)
                have HGN : Hid (g5 ≠ w7.heap.size ∧ g7 ≠ w7.heap.size ∧ g16 ≠ w7.heap.size) := Lib.hid ⟨by have := HE7.out.1.S.lt; omega, by have := lt_of_heap HE7.out.1.Q.b; omega, by have := HE7.out.2.lt; omega⟩
                clear HE6 HE7 HR7 K13b
                generalize w7.alloc (.cells #[.slice o3 N c3, .slice o4 N c4] 33) = w8 at *
                generalize w7.heap.size = g19 at *
                obtain ⟨x0, x1, x2, x3, x4, x5, x6, x7, x8⟩ := nine_of (by have := HE8.out.2.1; unfold NS at this; rw [HFS.out] at this; exact this)
                obtain ⟨⟨s0, s1⟩, _⟩ := two_cells HE8.out.2.2.b
                go_upto_region 25 with (first
                  | (go_at_call 10; ((with_reducible refine (K10b.out _ ρ3 ρ4 o3 o4 c3 c4 HE8.out.2.2.r1 HE8.out.2.2.r2).mono ?_); rintro z w9 ⟨rfl, hb9⟩; have HE9 : Hid (TuE w w9 g5 g7 ρ1 ρ2 o1 o2 c1 c2 h U N ∧ NS w9 g16 h2 U N ∧ RQ w9 g19 ρ3 ρ4 o3 o4 c3 c4 h2 U N) := Lib.hid ⟨HE8.out.1.later hb9, HE8.out.2.1.later hb9, HE8.out.2.2.later hb9⟩; clear hb9 x0 x1 x2 x3 x4 x5 x6 x7 x8 s0 s1; obtain ⟨x0, x1, x2, x3, x4, x5, x6, x7, x8⟩ := nine_of (by have := HE9.out.1.S; unfold NS at this; rw [HCS.out] at this; exact this); obtain ⟨⟨s0, s1⟩, _⟩ := two_cells HE9.out.1.Q.b))
                  | (go_at_call 10; ((with_reducible refine (K10.out _ HE9.out.1.Q.r1 HE9.out.1.Q.r2).mono ?_); rintro z w10 ⟨rfl, hb10⟩; have HE10 : Hid (TuE w w10 g5 g7 ρ1 ρ2 o1 o2 c1 c2 h U N ∧ NS w10 g16 h2 U N ∧ RQ w10 g19 ρ3 ρ4 o3 o4 c3 c4 h2 U N) := Lib.hid ⟨HE9.out.1.later hb10, HE9.out.2.1.later hb10, HE9.out.2.2.later hb10⟩; clear hb10 x0 x1 x2 x3 x4 x5 x6 x7 x8 s0 s1)))
                clear HE8 HE9 K10 K10b
                have HE11 : Hid (TuE w w10.drew g5 g7 ρ1 ρ2 o1 o2 c1 c2 h U N ∧ NS w10.drew g16 h2 U N ∧ RQ w10.drew g19 ρ3 ρ4 o3 o4 c3 c4 h2 U N) := Lib.hid (by have hd := (Below.refl w10.heap.size w10).drew; exact ⟨HE10.out.1.later hd, HE10.out.2.1.later hd, HE10.out.2.2.later hd⟩)
                clear HE10
                refine wp_region_held_drew (S := fun _ => True) (by kernel_rfl) trivial (fun hHeld => ?_)
                generalize w10.drew = wc0 at *
                refine wpAnyH_ready (rs := [0, 1]) (by kernel_rfl) (by simp) ?_
                refine AllReadyH.cons (o := ⟨some 134, _, _, _, _, _⟩) rfl (fun K hK => ?_) ?_
                · refine wp_load_row 28 (.tmp 16) rfl g16 rfl 28 (spc h2 U N) (0, 0) _ HE11.out.2.1 Try.underlying28 rfl (by rw [info28, spc_size]) ?_
                  refine hK.out _ _ trivial (fun hHeld2 => ?_)
                  clear hK K hHeld
                  have hHeld := hHeld2
                  clear hHeld2
                  try simp only [Act.put, List.setIfInBounds_toArray, List.set_cons_zero, List.set_cons_succ]
                  refine wpAnyH_ready (rs := [1, 2]) (by kernel_rfl) (by simp) ?_
                  refine AllReadyH.cons (o := ⟨some 135, _, _, _, _, _⟩) rfl (fun K hK => ?_) ?_
                  · refine wp_load_row 33 (.tmp 19) rfl g19 rfl 33 #[.slice o3 N c3, .slice o4 N c4] (0, 0) _ HE11.out.2.2.b Try.underlying33 rfl info33r ?_
                    refine hK.out _ _ trivial (fun hHeld2 => ?_)
                    clear hK K hHeld
                    have hHeld := hHeld2
                    clear hHeld2
                    try simp only [Act.put, List.setIfInBounds_toArray, List.set_cons_zero, List.set_cons_succ]
                    refine wpAnyH_ready (rs := [2]) (by kernel_rfl) (by simp) ?_
                    refine AllReadyH.cons (o := ⟨none, _, _, _, _, _⟩) rfl (fun K hK => ?_) ?_
                    · refine wp_store_row 28 (.tmp 5) (.tmp 134) rfl g5 (spc h2 U N) rfl rfl 28 (spc h U N) HE11.out.1.S (by rw [info28, spc_size]) (by rw [spc_size, spc_size]) (spc_one _ _ _) ?_
                      refine hK.out _ _ trivial (fun hHeld2 => ?_)
                      clear hK K hHeld
                      have hHeld := hHeld2
                      clear hHeld2
                      try simp only [Act.put, List.setIfInBounds_toArray, List.set_cons_zero, List.set_cons_succ]
                      refine wpAnyH_ready (rs := [3]) (by kernel_rfl) (by simp) ?_
                      refine AllReadyH.cons (o := ⟨none, _, _, _, _, _⟩) rfl (fun K hK => ?_) ?_
                      · refine wp_store_row 33 (.tmp 7) (.tmp 135) rfl g7 #[.slice o3 N c3, .slice o4 N c4] rfl rfl 33 _ (HE11.out.1.row7 _) info33r rfl (by simp [Value.oneCell']) ?_
                        refine hK.out _ _ trivial (fun hHeld2 => ?_)
                        clear hK K hHeld
                        have hHeld := hHeld2
                        clear hHeld2
                        try simp only [Act.put, List.setIfInBounds_toArray, List.set_cons_zero, List.set_cons_succ]
                        refine wpAnyH_done (by kernel_rfl) ?_ _
                        simp only [Exit.inBlock, Exit.then]
                        apply_assumption
                        have HEn := Lib.hid (HE11.out.1.swap HE11.out.2.2 HG5.out HG7.out HGN.out.1)
                        clear hHeld HE11
                        generalize (wc0.setRow g5 (spc h2 U N)).setRow g7 #[.slice o3 N c3, .slice o4 N c4] = wf at *
                        go_wp2
                        exact ⟨⟨t + 1, h2, ρ3, ρ4, o3, o4, c3, c4, by omega, by go_num, Lib.hid ⟨HBD.out, HEn.out⟩⟩, by simp [intOf]; omega⟩
                      · exact AllReadyH.nil
                    · exact AllReadyH.nil
                  · refine AllReadyH.cons (o := ⟨none, _, _, _, _, _⟩) rfl (fun K hK => ?_) ?_
                    · refine wp_store_row 28 (.tmp 5) (.tmp 134) rfl g5 (spc h2 U N) rfl rfl 28 (spc h U N) HE11.out.1.S (by rw [info28, spc_size]) (by rw [spc_size, spc_size]) (spc_one _ _ _) ?_
                      refine hK.out _ _ trivial (fun hHeld2 => ?_)
                      clear hK K hHeld
                      have hHeld := hHeld2
                      clear hHeld2
                      try simp only [Act.put, List.setIfInBounds_toArray, List.set_cons_zero, List.set_cons_succ]
                      refine wpAnyH_ready (rs := [1]) (by kernel_rfl) (by simp) ?_
                      refine AllReadyH.cons (o := ⟨some 135, _, _, _, _, _⟩) rfl (fun K hK => ?_) ?_
                      · refine wp_load_row 33 (.tmp 19) rfl g19 rfl 33 #[.slice o3 N c3, .slice o4 N c4] (0, 0) _ ((setRow_other wc0 g5 g19 _ HGN.out.1.symm).trans HE11.out.2.2.b) Try.underlying33 rfl info33r ?_
                        refine hK.out _ _ trivial (fun hHeld2 => ?_)
                        clear hK K hHeld
                        have hHeld := hHeld2
                        clear hHeld2
                        try simp only [Act.put, List.setIfInBounds_toArray, List.set_cons_zero, List.set_cons_succ]
                        refine wpAnyH_ready (rs := [3]) (by kernel_rfl) (by simp) ?_
                        refine AllReadyH.cons (o := ⟨none, _, _, _, _, _⟩) rfl (fun K hK => ?_) ?_
                        · refine wp_store_row 33 (.tmp 7) (.tmp 135) rfl g7 #[.slice o3 N c3, .slice o4 N c4] rfl rfl 33 _ (HE11.out.1.row7 _) info33r rfl (by simp [Value.oneCell']) ?_
                          refine hK.out _ _ trivial (fun hHeld2 => ?_)
                          clear hK K hHeld
                          have hHeld := hHeld2
                          clear hHeld2
                          try simp only [Act.put, List.setIfInBounds_toArray, List.set_cons_zero, List.set_cons_succ]
                          refine wpAnyH_done (by kernel_rfl) ?_ _
                          simp only [Exit.inBlock, Exit.then]
                          apply_assumption
                          have HEn := Lib.hid (HE11.out.1.swap HE11.out.2.2 HG5.out HG7.out HGN.out.1)
                          clear hHeld HE11
                          generalize (wc0.setRow g5 (spc h2 U N)).setRow g7 #[.slice o3 N c3, .slice o4 N c4] = wf at *
                          go_wp2
                          exact ⟨⟨t + 1, h2, ρ3, ρ4, o3, o4, c3, c4, by omega, by go_num, Lib.hid ⟨HBD.out, HEn.out⟩⟩, by simp [intOf]; omega⟩
                        · exact AllReadyH.nil
                      · exact AllReadyH.nil
                    · exact AllReadyH.nil
                · refine AllReadyH.cons (o := ⟨some 135, _, _, _, _, _⟩) rfl (fun K hK => ?_) ?_
                  · refine wp_load_row 33 (.tmp 19) rfl g19 rfl 33 #[.slice o3 N c3, .slice o4 N c4] (0, 0) _ HE11.out.2.2.b Try.underlying33 rfl info33r ?_
                    refine hK.out _ _ trivial (fun hHeld2 => ?_)
                    clear hK K hHeld
                    have hHeld := hHeld2
                    clear hHeld2
                    try simp only [Act.put, List.setIfInBounds_toArray, List.set_cons_zero, List.set_cons_succ]
                    refine wpAnyH_ready (rs := [0]) (by kernel_rfl) (by simp) ?_
                    refine AllReadyH.cons (o := ⟨some 134, _, _, _, _, _⟩) rfl (fun K hK => ?_) ?_
                    · refine wp_load_row 28 (.tmp 16) rfl g16 rfl 28 (spc h2 U N) (0, 0) _ HE11.out.2.1 Try.underlying28 rfl (by rw [info28, spc_size]) ?_
                      refine hK.out _ _ trivial (fun hHeld2 => ?_)
                      clear hK K hHeld
                      have hHeld := hHeld2
                      clear hHeld2
                      try simp only [Act.put, List.setIfInBounds_toArray, List.set_cons_zero, List.set_cons_succ]
                      refine wpAnyH_ready (rs := [2]) (by kernel_rfl) (by simp) ?_
                      refine AllReadyH.cons (o := ⟨none, _, _, _, _, _⟩) rfl (fun K hK => ?_) ?_
                      · refine wp_store_row 28 (.tmp 5) (.tmp 134) rfl g5 (spc h2 U N) rfl rfl 28 (spc h U N) HE11.out.1.S (by rw [info28, spc_size]) (by rw [spc_size, spc_size]) (spc_one _ _ _) ?_
                        refine hK.out _ _ trivial (fun hHeld2 => ?_)
                        clear hK K hHeld
                        have hHeld := hHeld2
                        clear hHeld2
                        try simp only [Act.put, List.setIfInBounds_toArray, List.set_cons_zero, List.set_cons_succ]
                        refine wpAnyH_ready (rs := [3]) (by kernel_rfl) (by simp) ?_
                        refine AllReadyH.cons (o := ⟨none, _, _, _, _, _⟩) rfl (fun K hK => ?_) ?_
                        · refine wp_store_row 33 (.tmp 7) (.tmp 135) rfl g7 #[.slice o3 N c3, .slice o4 N c4] rfl rfl 33 _ (HE11.out.1.row7 _) info33r rfl (by simp [Value.oneCell']) ?_
                          refine hK.out _ _ trivial (fun hHeld2 => ?_)
                          clear hK K hHeld
                          have hHeld := hHeld2
                          clear hHeld2
                          try simp only [Act.put, List.setIfInBounds_toArray, List.set_cons_zero, List.set_cons_succ]
                          refine wpAnyH_done (by kernel_rfl) ?_ _
                          simp only [Exit.inBlock, Exit.then]
                          apply_assumption
                          have HEn := Lib.hid (HE11.out.1.swap HE11.out.2.2 HG5.out HG7.out HGN.out.1)
                          clear hHeld HE11
                          generalize (wc0.setRow g5 (spc h2 U N)).setRow g7 #[.slice o3 N c3, .slice o4 N c4] = wf at *
                          go_wp2
                          exact ⟨⟨t + 1, h2, ρ3, ρ4, o3, o4, c3, c4, by omega, by go_num, Lib.hid ⟨HBD.out, HEn.out⟩⟩, by simp [intOf]; omega⟩
                        · exact AllReadyH.nil
                      · exact AllReadyH.nil
                    · exact AllReadyH.nil
                  · exact AllReadyH.nil
          · have HB := Lib.hid HI.out.2.B
            go_wp2
            go_ret
            exact ⟨rfl, HB.out⟩
end Go.Proofs.Ytbnopmkfmggliaa
