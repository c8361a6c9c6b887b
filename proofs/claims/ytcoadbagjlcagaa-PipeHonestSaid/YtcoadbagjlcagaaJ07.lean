/- The law PipeHonest. -/
import Derived.Test.YtcoadbagjlcagaaJ04
set_option linter.unusedVariables false
set_option linter.unusedSimpArgs false
namespace Go.Proofs.Ytcoadbagjlcagaa
open Go.RowKit

/-- A slice lies in no such block. -/
def Av (v : Value) (x : Option Nat) : Prop := ∀ b o n c, v = .slice (some ⟨b, o, none⟩) n c → x ≠ some b
theorem Ow.awayB {e : TypeId} {w : World} {B : Nat} {v : Value} {L : List It} (h : Ow e w B v L) (p : Addr) (hp : ∀ g, v.ownBlock = some g → g ≠ p.block) (u : Value) : Ow e (w.setCell p u) B v L := by
  refine ⟨h.1, ?_⟩
  rcases h.2 with hn | ⟨g, cap, cur, h1, h2, h3, h4⟩
  · exact Or.inl hn
  · exact Or.inr ⟨g, cap, cur, h1, h2, (heap_setCell_other _ p g _ (hp g (by rw [h1]; rfl))).trans h3, h4⟩
theorem Ow.ge {e : TypeId} {w : World} {B : Nat} {v : Value} {L : List It} (h : Ow e w B v L) {g : Nat} (hg : v.ownBlock = some g) : B ≤ g ∧ g < w.heap.size := World.ownsRow.lt h g hg
theorem Sl.grown {w w' : World} {v : Value} {L : List It} {r : Option Nat} (h : Sl w v L) (hg : w.grownBy w' r) (ha : Av v r) : Sl w' v L := by
  rcases h with h | ⟨b, off, cap, h1, h2, h3, h4, h5⟩
  · exact Or.inl h
  · exact Or.inr ⟨b, off, cap, h1, h2, h3, Nat.lt_of_lt_of_le h4 hg.size, rng_keep h5 fun hn => hg.block _ (rng_lt h5 hn) fun e => ha _ _ _ _ h1 e.symm⟩
theorem B1.grown {e : TypeId} {w w' : World} {g : Nat} {a : Value} {r : Option Nat} (h : B1 e w g a) (hg : w.grownBy w' r) (hr : r ≠ some g) : B1 e w' g a := (hg.block _ (lt_of_heap h) fun e => hr e.symm).trans h
theorem wpList_append_one_at (W : World) {ops : Array Oper} {rest : List Oper} {o : Oper} {a : Act} {Q : Exit → Act → World → Prop} (hgd : o.guard = none) (s x : Operand)
    (ho : o.op = .call { callee := .builtin .append, args := #[s, x], argTypes := #[24, 24] })
    (B : Nat) (v u : Value) (K : List It) (y : It) (hs : a.eval s = v) (hown : Ow 33 W B v K) (hx : a.eval x = u) (hu : Sl W u [y]) (hB : B ≤ W.heap.size) (hk : K.length ≤ 3000000)
    (h : ∀ v' w', Ow 33 w' B v' (K ++ [y]) → W.grownBy w' v.ownBlock → Below B W w' → (v'.ownBlock = v.ownBlock ∨ v'.ownBlock = some W.heap.size) → wpList Try.prog ops Q rest (a.put o.dst v') w') : wpList Try.prog ops Q (o :: rest) a W := by
  obtain ⟨i0, hi, hz0, hz1, hz2⟩ := info_parts info33
  rcases hu with ⟨_, h0⟩ | ⟨b, off, cap, rfl, _, _, _, hr⟩
  · cases h0
  · refine wpList_append_own_at W hgd s x 24 ho B 33 i0 (.agg #[.int .u64 0, .string ⟨#[]⟩]) 2 24 Try.underlying24 hi hz0 hz1 hz2 rfl (by decide) v K.length (ic K) hs hown ⟨b, off, none⟩ 1 cap (ic [y]) hx (ic_len [y]) ?_ (ic_one [y]) ?_ ?_ hB ?_
    · intro j u hj
      rw [Addr.add_mid]; exact hr j u hj
    · unfold maxLen; omega
    · omega
    · intro v' w' h1 h2 _ h4
      refine h v' w' ?_ h2 ?_ h4
      · unfold Ow
        rw [List.length_append, ic_append]
        exact h1
      · exact (Below.refl B W).grown h2 hB (fun g hg => (hown.lt g hg).1)

/-- What holds within a turn: the pipe's box at gp, what it reads; all that was sent; the act's box at ga. -/
structure Hd (w : World) (gp ga : Nat) (v u : Value) (M S : List It) (q : Ac) (wz : World) : Prop where
  p : B1 26 wz gp v
  a : A4 wz ga q.d q.t q.s q.i
  sm : Sl wz v M
  fm : Fr (gp + 1) v
  su : Ow 33 wz (gp + 1) u S
  av : Av v u.ownBlock
  na : u.ownBlock ≠ some ga
  b : Below w.heap.size w wz
  g : w.heap.size ≤ gp
  lt : gp < ga
/-- .. at each turn's beginning. -/
structure Hn (w : World) (gp : Nat) (v u : Value) (M S : List It) (wz : World) : Prop where
  p : B1 26 wz gp v
  sm : Sl wz v M
  fm : Fr (gp + 1) v
  su : Ow 33 wz (gp + 1) u S
  av : Av v u.ownBlock
  b : Below w.heap.size w wz
  g : w.heap.size ≤ gp
  ok : Okl M
  sub : ∀ x ∈ M, x ∈ S
theorem Hd.start {w : World} {gp : Nat} {v u : Value} {M S : List It} {wr : World} (h : Hn w gp v u M S wr) (q : Ac) : Hd w gp wr.heap.size v u M S q (wr.alloc (.cells #[.int .u8 (q.d : Int), .int .u64 (q.t : Int), .string q.s, .int .i64 q.i] 30)) := by
  have hb := alloc_below wr (.cells #[.int .u8 (q.d : Int), .int .u64 (q.t : Int), .string q.s, .int .i64 q.i] 30)
  exact ⟨h.p.later hb, heap_alloc_new wr _, h.sm.later hb, h.fm, h.su.later hb, h.av, fun e => by have := (h.su.ge e).2; omega, h.b.trans (hb.mono h.b.size), h.g, lt_of_heap h.p⟩
theorem Hd.later {w : World} {gp ga : Nat} {v u : Value} {M S : List It} {q : Ac} {wz wy : World} (h : Hd w gp ga v u M S q wz) (hb : Below wz.heap.size wz wy) : Hd w gp ga v u M S q wy :=
  ⟨h.p.later hb, h.a.later hb, h.sm.later hb, h.fm, h.su.later hb, h.av, h.na, h.b.trans (hb.mono h.b.size), h.g, h.lt⟩
/-- Another pipe is put into the box. -/
theorem Hd.put {w : World} {gp ga : Nat} {v v2 u : Value} {M M2 S : List It} {q : Ac} {wz : World} (h : Hd w gp ga v u M S q wz) (hs : Sl wz v2 M2) (hf : Fr (gp + 1) v2) (ha : Av v2 u.ownBlock) : Hd w gp ga v2 u M2 S q (wz.setCell ⟨gp, 0, none⟩ v2) :=
  ⟨h.p.put v2, h.a.away ⟨gp, 0, none⟩ (by have := h.lt; show ga ≠ gp; omega) v2, hs.awayF hf ⟨gp, 0, none⟩ (Nat.lt_succ_self _) v2, hf, h.su.awayB ⟨gp, 0, none⟩ (fun g hg => by have := (h.su.ge hg).1; show g ≠ gp; omega) v2, ha, h.na, h.b.setCell (p := ⟨gp, 0, none⟩) h.g v2, h.g, h.lt⟩
/-- What is newly made is not the own row. -/
theorem Hd.fresh {w : World} {gp ga : Nat} {v v2 u : Value} {M S : List It} {q : Ac} {wz : World} (h : Hd w gp ga v u M S q wz) (hf : Fr wz.heap.size v2) : Fr (gp + 1) v2 ∧ Av v2 u.ownBlock :=
  ⟨hf.mono (lt_of_heap h.p), fun b o n c e hx => by have h1 := hf b o n c e; have h2 := (h.su.ge hx).2; omega⟩
/-- One more is known to have been sent. -/
theorem Hd.more {w : World} {gp ga : Nat} {v u u2 : Value} {M S S2 : List It} {q : Ac} {wz wy : World} (h : Hd w gp ga v u M S q wz) (hg : wz.grownBy wy u.ownBlock) (hs : Ow 33 wy (gp + 1) u2 S2) (hn : u2.ownBlock = u.ownBlock ∨ u2.ownBlock = some wz.heap.size) : Hd w gp ga v u2 M S2 q wy := by
  have hb : Below (gp + 1) wz wy := (Below.refl _ wz).grown hg (Nat.succ_le_of_lt (lt_of_heap h.p)) (fun g e => (h.su.ge e).1)
  refine ⟨h.p.grown hg (fun e => by have := (h.su.ge e).1; omega), (hg.block _ (lt_of_heap h.a) (fun e => h.na e.symm)).trans h.a, h.sm.grown hg h.av, h.fm, hs, fun b o n c e hx => ?_, fun e => ?_, h.b.trans (hb.mono (by have := h.g; omega)), h.g, h.lt⟩
  · rcases hn with hn | hn
    · exact h.av b o n c e (by rw [← hn]; exact hx)
    · rw [hn] at hx
      cases hx
      rcases h.sm with ⟨h0, _⟩ | ⟨b', off, cap, h0, _, _, h4, _⟩
      · rw [h0] at e; cases e
      · rw [h0] at e; cases e; omega
  · rcases hn with hn | hn
    · exact h.na (by rw [← hn]; exact e)
    · rw [hn] at e
      have h1 := lt_of_heap h.a
      have h2 := Option.some.inj e
      omega
theorem Hd.next {w : World} {gp ga : Nat} {v u : Value} {M S : List It} {q : Ac} {wz : World} (h : Hd w gp ga v u M S q wz) (hok : Okl M) (hsub : ∀ x ∈ M, x ∈ S) : Hn w gp v u M S wz :=
  ⟨h.p, h.sm, h.fm, h.su, h.av, h.b, h.g, hok, hsub⟩
theorem send_sub {L S : List It} {x : It} (h : ∀ y ∈ L, y ∈ S) (hx : x ∈ S) : ∀ y ∈ sendL L x, y ∈ S := fun y hy => by
  simp only [sendL, List.mem_append, List.mem_singleton] at hy
  rcases hy with hy | rfl
  · exact h y (List.mem_of_mem_drop hy)
  · exact hx
theorem drop_sub {L S : List It} {i : Int} (h : ∀ y ∈ L, y ∈ S) : ∀ y ∈ dropL L i, y ∈ S := fun y hy => by
  unfold dropL at hy
  split at hy
  · rcases List.mem_append.1 hy with hy | hy
    · exact h y (List.mem_of_mem_take hy)
    · exact h y (List.mem_of_mem_drop hy)
  · exact h y hy

set_option maxRecDepth 100000 in
set_option maxHeartbeats 8000000 in
theorem honest_any (l : List Ac) (at0 : Option Addr) (cap b off : Nat) (w : World) (hat : 0 < l.length → at0 = some ⟨b, off, none⟩ ∧ b < w.heap.size) (hc : AcsIn w b off l) :
    Calls Try.prog 4 #[.slice at0 l.length cap] w fun e w' => e = .returned (.bool true) ∧ Below w.heap.size w w' := by
  have HC : Hid (∀ wz, Below w.heap.size w wz → AcsIn wz b off l) := Lib.hid (fun wz hz k h => by
    have hb := (hat (by omega)).2
    obtain ⟨h0, h1, h2, h3, h4⟩ := hc k h
    exact ⟨(hz.cell (p := ⟨b, off + k * 4, none⟩) hb).trans h0, (hz.cell (p := ⟨b, off + k * 4 + 1, none⟩) hb).trans h1, (hz.cell (p := ⟨b, off + k * 4 + 2, none⟩) hb).trans h2, (hz.cell (p := ⟨b, off + k * 4 + 3, none⟩) hb).trans h3, h4⟩)
  have HAT : Hid (0 < l.length → at0 = some ⟨b, off, none⟩) := Lib.hid (fun h => (hat h).1)
  have K6 := Lib.hid awake_any
  clear hat hc
  by_cases h120 : l.length ≤ 120
  · have q120 : ¬ ((l.length : Int) > 120) := by omega
    go_enter Try.func4, Try.ntmps4
    go_wp2_with (first
      | (go_at_call 6; ((with_reducible refine (K6.out _).mono ?_); rintro e w1 ⟨rfl, hb⟩; have HB1 := Lib.hid hb; have HI1 : Hid (Hn w w1.heap.size (.slice none 0 0) (.slice none 0 0) [] [] (w1.alloc (.cells #[.slice none 0 0] 26))) := Lib.hid ⟨B1.new 26 w1 _, Sl.nil _, Fr.nil _, Ow.nil _ _ _, (fun b o n c e => by cases e), hb.trans ((alloc_below w1 _).mono hb.size), hb.size, ⟨by simp, by simp⟩, by simp⟩; clear hb)))
    obtain ⟨gp, hgp⟩ : ∃ gp, gp = w1.heap.size := ⟨_, rfl⟩
    rw [← hgp] at HI1 ⊢
    generalize w1.alloc (.cells #[.slice none 0 0] 26) = w2 at *
    clear hgp HB1
    clear w1
    go_loopw [4, 17] (fun u y wz => ∃ k : Nat, ∃ v L S, k ≤ l.length ∧ y = .int .i64 k ∧ Hid (S.length ≤ k) ∧ Hid (Hn w gp v u L S wz)) (fun _ y _ => l.length - (intOf y).toNat)
    case atStart => exact ⟨0, _, _, _, by omega, rfl, Lib.hid (by simp), HI1⟩
    case round =>
      obtain ⟨k, v, L, S, hk, rfl, HSK, HI⟩ := hrel
      by_cases hlt : k < l.length
      · obtain rfl := HAT.out (by omega)
        obtain ⟨a0, a1, a2, a3, hok⟩ := HC.out wr HI.out.b k hlt
        have q1 : (k : Int) < (l.length : Int) := by omega
        have HOK := Lib.hid hok
        clear hok
        generalize l[k] = q at *
        obtain ⟨d, t, s, i⟩ := q
        dsimp only at *
        obtain ⟨o, c, hv⟩ := HI.out.sm.form
        subst hv
        have HR2 := Lib.hid (Hd.start HI.out ⟨d, t, s, i⟩)
        have HOL := Lib.hid HI.out.ok
        have HSUB := Lib.hid HI.out.sub
        have HL64 := Lib.hid (show L.length ≤ 1000000 by have := HI.out.ok.1; omega)
        have K17 := Lib.hid len_any
        dsimp only at HR2
        obtain ⟨p0, p1⟩ := HR2.out.p.cells
        by_cases hd2 : d % 6 = 2
        · have h2 : ((d : Int) % 6 == 2) = true := by simp; omega
          clear hd2
          by_cases hi : 0 ≤ i ∧ i < (L.length : Int)
          · obtain ⟨m, rfl⟩ : ∃ m : Nat, i = (m : Int) := ⟨i.toNat, by omega⟩
            have hm : m < L.length := by omega
            have q2 : (m : Int) < (L.length : Int) := by omega
            have K7 := Lib.hid (fun W h => deliver_yes L m (.slice o L.length c) HL64.out HOL.out.2 W h hm)
            have HOM := Lib.hid (HOL.out.drop m)
            have HSB := Lib.hid (drop_sub (i := m) HSUB.out)
            rw [dropL_in hm] at HOM HSB
            have hxS := HSUB.out _ (List.getElem_mem hm)
            have K16 := Lib.hid (fun u W h => contains_in S L[m] u (by have := HSK.out; omega) W h hxS)
            generalize L.take m ++ L.drop (m + 1) = M at *
            generalize L[m] = x at *
            obtain ⟨xt, xs⟩ := x
            unfold three iv at K7
            unfold iv at K16
            try dsimp only at *
            have q64 : ((M.length : Nat) : Int) ≤ 64 := by have := HOM.out.1; omega
            go_wp2_with (first
              | (go_at_call 7; ((with_reducible refine (K7.out _ HR2.out.sm).mono ?_); rintro e w5 ⟨⟨o5, n5, c5, rfl, hs5, hf5⟩, hb5⟩; obtain ⟨hF5, hA5⟩ := HR2.out.fresh hf5; have HF5 := Lib.hid hF5; have HA5 := Lib.hid hA5; have hn5 : n5 = M.length := (by obtain ⟨_, _, hx⟩ := hs5.form; cases hx; rfl); subst hn5; have HR5 := Lib.hid (HR2.out.later hb5); have HS5 := Lib.hid hs5; have hb7 := bt (o := .cells #[.slice o5 M.length c5] 26) (alloc_below (w5.alloc (.cells #[.slice o5 M.length c5] 26)) (.cells #[.int .u64 (xt : Int), .string xs] 33)); have HR7 := Lib.hid (HR5.out.later hb7); have HS7 := Lib.hid (HS5.out.later hb7); have HN7 := Lib.hid ((B1.new 26 w5 (.slice o5 M.length c5)).later (alloc_below _ (.cells #[.int .u64 (xt : Int), .string xs] 33))); clear hs5 hf5 hb5 hF5 hA5 hb7))
              | (go_at_call 16; ((with_reducible refine (K16.out _ _ HR7.out.su.sl).mono ?_); rintro e w8 ⟨rfl, hb8⟩; have HR8 := Lib.hid (HR7.out.later hb8); obtain ⟨y0, y1⟩ := HR8.out.p.cells; obtain ⟨n0, n1⟩ := (HN7.out.later hb8).cells; have HR9 := Lib.hid (HR8.out.put (HS7.out.later hb8) HF5.out HA5.out); obtain ⟨z0, z1⟩ := HR9.out.p.cells; clear hb8))
              | (go_at_call 17; ((with_reducible refine (K17.out _ _ _ _).mono ?_); rintro e wa ⟨rfl, hba⟩; have HRa := Lib.hid (HR9.out.later hba); clear hba)))
            go_roundw
            case rel => exact ⟨k + 1, _, _, _, by omega, by go_num, Lib.hid (by have := HSK.out; omega), Lib.hid (HRa.out.next HOM.out HSB.out)⟩
            case measure => simp [intOf]; omega
          · have K7 := Lib.hid (fun W h => deliver_no L i (.slice o L.length c) 0 W h (fun _ _ _ _ _ => Nat.zero_le _) hi)
            have HOM := HOL
            have HSB := HSUB
            try dsimp only at *
            have q64 : ((L.length : Nat) : Int) ≤ 64 := by have := HOM.out.1; omega
            go_wp2_with (first
              | (go_at_call 7; ((with_reducible refine (K7.out _ HR2.out.sm).mono ?_); rintro e w5 ⟨rfl, hb5⟩; have HR5 := Lib.hid (HR2.out.later hb5); have hb7 := bt (o := .cells #[.slice o L.length c] 26) (alloc_below (w5.alloc (.cells #[.slice o L.length c] 26)) (.cells #[.int .u64 0, .string ⟨#[]⟩] 33)); have HR7 := Lib.hid (HR5.out.later hb7); obtain ⟨y0, y1⟩ := HR7.out.p.cells; have HR9 := Lib.hid (HR7.out.put HR7.out.sm HR7.out.fm HR7.out.av); obtain ⟨z0, z1⟩ := HR9.out.p.cells; clear hb5 hb7))
              | (go_at_call 17; ((with_reducible refine (K17.out _ _ _ _).mono ?_); rintro e wa ⟨rfl, hba⟩; have HRa := Lib.hid (HR9.out.later hba); clear hba)))
            go_roundw
            case rel => exact ⟨k + 1, _, _, _, by omega, by go_num, Lib.hid (by have := HSK.out; omega), Lib.hid (HRa.out.next HOM.out HSB.out)⟩
            case measure => simp [intOf]; omega
        · have h2 : ((d : Int) % 6 == 2) = false := by rw [beq_eq_false_iff_ne]; omega
          by_cases hd3 : d % 6 = 3
          · have h3 : ((d : Int) % 6 == 3) = true := by simp; omega
            clear hd3
            by_cases hi : 0 ≤ i ∧ i < (L.length : Int)
            · obtain ⟨m, rfl⟩ : ∃ m : Nat, i = (m : Int) := ⟨i.toNat, by omega⟩
              have hm : m < L.length := by omega
              have q2 : (m : Int) < (L.length : Int) := by omega
              have K9 := Lib.hid (fun W h => double_yes L m (.slice o L.length c) HL64.out W h hm)
              have HOM := Lib.hid (HOL.out.send L[m] (HOL.out.2 _ (List.getElem_mem hm)))
              have HSB := Lib.hid (send_sub HSUB.out (HSUB.out _ (List.getElem_mem hm)))
              generalize sendL L L[m] = M at *
              unfold two at K9
              try dsimp only at *
              have q64 : ((M.length : Nat) : Int) ≤ 64 := by have := HOM.out.1; omega
              go_wp2_with (first
                | (go_at_call 9; ((with_reducible refine (K9.out _ HR2.out.sm).mono ?_); rintro e w5 ⟨⟨o5, n5, c5, rfl, hs5, hf5⟩, hb5⟩; obtain ⟨hF5, hA5⟩ := HR2.out.fresh hf5; have HF5 := Lib.hid hF5; have HA5 := Lib.hid hA5; have hn5 : n5 = M.length := (by obtain ⟨_, _, hx⟩ := hs5.form; cases hx; rfl); subst hn5; have HR5 := Lib.hid (HR2.out.later hb5); obtain ⟨y0, y1⟩ := HR5.out.p.cells; have HR9 := Lib.hid (HR5.out.put hs5 HF5.out HA5.out); obtain ⟨z0, z1⟩ := HR9.out.p.cells; clear hs5 hf5 hb5 hF5 hA5))
                | (go_at_call 17; ((with_reducible refine (K17.out _ _ _ _).mono ?_); rintro e wa ⟨rfl, hba⟩; have HRa := Lib.hid (HR9.out.later hba); clear hba)))
              go_roundw
              case rel => exact ⟨k + 1, _, _, _, by omega, by go_num, Lib.hid (by have := HSK.out; omega), Lib.hid (HRa.out.next HOM.out HSB.out)⟩
              case measure => simp [intOf]; omega
            · have K9 := Lib.hid (fun W h => double_no L i (.slice o L.length c) 0 W h (fun _ _ _ _ _ => Nat.zero_le _) hi)
              have HOM := HOL
              have HSB := HSUB
              try dsimp only at *
              have q64 : ((L.length : Nat) : Int) ≤ 64 := by have := HOM.out.1; omega
              go_wp2_with (first
                | (go_at_call 9; ((with_reducible refine (K9.out _ HR2.out.sm).mono ?_); rintro e w5 ⟨rfl, hb5⟩; have HR5 := Lib.hid (HR2.out.later hb5); obtain ⟨y0, y1⟩ := HR5.out.p.cells; have HR9 := Lib.hid (HR5.out.put HR5.out.sm HR5.out.fm HR5.out.av); obtain ⟨z0, z1⟩ := HR9.out.p.cells; clear hb5))
                | (go_at_call 17; ((with_reducible refine (K17.out _ _ _ _).mono ?_); rintro e wa ⟨rfl, hba⟩; have HRa := Lib.hid (HR9.out.later hba); clear hba)))
              go_roundw
              case rel => exact ⟨k + 1, _, _, _, by omega, by go_num, Lib.hid (by have := HSK.out; omega), Lib.hid (HRa.out.next HOM.out HSB.out)⟩
              case measure => simp [intOf]; omega
          · have h3 : ((d : Int) % 6 == 3) = false := by rw [beq_eq_false_iff_ne]; omega
            by_cases hd4 : d % 6 = 4
            · have h4 : ((d : Int) % 6 == 4) = true := by simp; omega
              clear hd4
              by_cases hi : 0 ≤ i ∧ i < (L.length : Int)
              · obtain ⟨m, rfl⟩ : ∃ m : Nat, i = (m : Int) := ⟨i.toNat, by omega⟩
                have hm : m < L.length := by omega
                have q2 : (m : Int) < (L.length : Int) := by omega
                have K11 := Lib.hid (fun W h => lose_yes L m (.slice o L.length c) HL64.out W h hm)
                have HOM := Lib.hid (HOL.out.drop m)
                have HSB := Lib.hid (drop_sub (i := m) HSUB.out)
                rw [dropL_in hm] at HOM HSB
                generalize L.take m ++ L.drop (m + 1) = M at *
                unfold two at K11
                try dsimp only at *
                have q64 : ((M.length : Nat) : Int) ≤ 64 := by have := HOM.out.1; omega
                go_wp2_with (first
                  | (go_at_call 11; ((with_reducible refine (K11.out _ HR2.out.sm).mono ?_); rintro e w5 ⟨⟨o5, n5, c5, rfl, hs5, hf5⟩, hb5⟩; obtain ⟨hF5, hA5⟩ := HR2.out.fresh hf5; have HF5 := Lib.hid hF5; have HA5 := Lib.hid hA5; have hn5 : n5 = M.length := (by obtain ⟨_, _, hx⟩ := hs5.form; cases hx; rfl); subst hn5; have HR5 := Lib.hid (HR2.out.later hb5); obtain ⟨y0, y1⟩ := HR5.out.p.cells; have HR9 := Lib.hid (HR5.out.put hs5 HF5.out HA5.out); obtain ⟨z0, z1⟩ := HR9.out.p.cells; clear hs5 hf5 hb5 hF5 hA5))
                  | (go_at_call 17; ((with_reducible refine (K17.out _ _ _ _).mono ?_); rintro e wa ⟨rfl, hba⟩; have HRa := Lib.hid (HR9.out.later hba); clear hba)))
                go_roundw
                case rel => exact ⟨k + 1, _, _, _, by omega, by go_num, Lib.hid (by have := HSK.out; omega), Lib.hid (HRa.out.next HOM.out HSB.out)⟩
                case measure => simp [intOf]; omega
              · have K11 := Lib.hid (fun W h => lose_no L i (.slice o L.length c) 0 W h (fun _ _ _ _ _ => Nat.zero_le _) hi)
                have HOM := HOL
                have HSB := HSUB
                try dsimp only at *
                have q64 : ((L.length : Nat) : Int) ≤ 64 := by have := HOM.out.1; omega
                go_wp2_with (first
                  | (go_at_call 11; ((with_reducible refine (K11.out _ HR2.out.sm).mono ?_); rintro e w5 ⟨rfl, hb5⟩; have HR5 := Lib.hid (HR2.out.later hb5); obtain ⟨y0, y1⟩ := HR5.out.p.cells; have HR9 := Lib.hid (HR5.out.put HR5.out.sm HR5.out.fm HR5.out.av); obtain ⟨z0, z1⟩ := HR9.out.p.cells; clear hb5))
                  | (go_at_call 17; ((with_reducible refine (K17.out _ _ _ _).mono ?_); rintro e wa ⟨rfl, hba⟩; have HRa := Lib.hid (HR9.out.later hba); clear hba)))
                go_roundw
                case rel => exact ⟨k + 1, _, _, _, by omega, by go_num, Lib.hid (by have := HSK.out; omega), Lib.hid (HRa.out.next HOM.out HSB.out)⟩
                case measure => simp [intOf]; omega
            · have h4 : ((d : Int) % 6 == 4) = false := by rw [beq_eq_false_iff_ne]; omega
              by_cases hd5 : d % 6 = 5
              · have h5 : ((d : Int) % 6 == 5) = true := by simp; omega
                clear hd5
                have K12 := Lib.hid (fun W h => clear_any L t (.slice o L.length c) HL64.out W h)
                have HOM := Lib.hid (HOL.out.clear t)
                have HSB := Lib.hid (fun y (hy : y ∈ L.filter (keep t)) => HSUB.out y (List.mem_filter.1 hy).1)
                generalize L.filter (keep t) = M at *
                try dsimp only at *
                have q64 : ((M.length : Nat) : Int) ≤ 64 := by have := HOM.out.1; omega
                go_wp2_with (first
                  | (go_at_call 12; ((with_reducible refine (K12.out _ HR2.out.sm).mono ?_); rintro e w5 ⟨⟨o5, n5, c5, rfl, hs5, hf5⟩, hb5⟩; obtain ⟨hF5, hA5⟩ := HR2.out.fresh hf5; have HF5 := Lib.hid hF5; have HA5 := Lib.hid hA5; have hn5 : n5 = M.length := (by obtain ⟨_, _, hx⟩ := hs5.form; cases hx; rfl); subst hn5; have HR5 := Lib.hid (HR2.out.later hb5); obtain ⟨y0, y1⟩ := HR5.out.p.cells; have HR9 := Lib.hid (HR5.out.put hs5 HF5.out HA5.out); obtain ⟨z0, z1⟩ := HR9.out.p.cells; clear hs5 hf5 hb5 hF5 hA5))
                  | (go_at_call 17; ((with_reducible refine (K17.out _ _ _ _).mono ?_); rintro e wa ⟨rfl, hba⟩; have HRa := Lib.hid (HR9.out.later hba); clear hba)))
                go_roundw
                case rel => exact ⟨k + 1, _, _, _, by omega, by go_num, Lib.hid (by have := HSK.out; omega), Lib.hid (HRa.out.next HOM.out HSB.out)⟩
                case measure => simp [intOf]; omega
              · have h5 : ((d : Int) % 6 == 5) = false := by rw [beq_eq_false_iff_ne]; omega
                clear hd5
                have K14 := Lib.hid (fun W h => send_any L t s (.slice o L.length c) HL64.out HOK.out.s W h)
                have HOM := Lib.hid (HOL.out.send ⟨t, s⟩ HOK.out.s)
                have HSB := Lib.hid (send_sub (L := L) (S := S ++ [⟨t, s⟩]) (x := ⟨t, s⟩) (fun y hy => List.mem_append_left _ (HSUB.out y hy)) (by simp))
                have HS3 := Lib.hid (show S.length ≤ 3000000 by have := HSK.out; omega)
                generalize sendL L ⟨t, s⟩ = M at *
                try dsimp only at *
                have q64 : ((M.length : Nat) : Int) ≤ 64 := by have := HOM.out.1; omega
                go_wp2_with (first
                  | (go_at_call 14; ((with_reducible refine (K14.out _ HR2.out.sm).mono ?_); rintro e w5 ⟨⟨o5, n5, c5, rfl, hs5, hf5⟩, hb5⟩; obtain ⟨hF5, hA5⟩ := HR2.out.fresh hf5; have HF5 := Lib.hid hF5; have HA5 := Lib.hid hA5; have hn5 : n5 = M.length := (by obtain ⟨_, _, hx⟩ := hs5.form; cases hx; rfl); subst hn5; have HR5 := Lib.hid (HR2.out.later hb5); obtain ⟨y0, y1⟩ := HR5.out.p.cells; have HR6 := Lib.hid (HR5.out.put hs5 HF5.out HA5.out); obtain ⟨_, a1', a2', _⟩ := HR6.out.a.cells; have HR7 := Lib.hid (HR6.out.later (alloc_below _ (.cells #[.int .u64 (t : Int), .string s] 33))); have HS1 := Lib.hid (sl_one' (w5.setCell ⟨gp, 0, none⟩ (.slice o5 M.length c5)) ⟨t, s⟩ 33 w5.heap.size (by simp [World.setCell])); clear hs5 hf5 hb5 hF5 hA5))
                  | (at_builtin; go_must (refine wpList_append_one_at _ rfl (.tmp 30) (.tmp 36) rfl (gp + 1) _ _ S ⟨t, s⟩ rfl HR7.out.su rfl HS1.out (Nat.succ_le_of_lt (lt_of_heap HR7.out.p)) HS3.out ?_); intro v8 w8 ho8 hg8 _ hn8; have HR9 := Lib.hid (HR7.out.more hg8 ho8 hn8); obtain ⟨z0, z1⟩ := HR9.out.p.cells; clear ho8 hg8 hn8)
                  | (go_at_call 17; ((with_reducible refine (K17.out _ _ _ _).mono ?_); rintro e wa ⟨rfl, hba⟩; have HRa := Lib.hid (HR9.out.later hba); clear hba)))
                go_roundw
                case rel => exact ⟨k + 1, _, _, _, by omega, by go_num, Lib.hid (by rw [List.length_append]; have := HSK.out; simp; omega), Lib.hid (HRa.out.next HOM.out HSB.out)⟩
                case measure => simp [intOf]; omega
      · go_wp2
        go_ret
        exact ⟨rfl, HI.out.b⟩
  · have q120 : (120 : Int) < (l.length : Int) := by omega
    go_enter Try.func4, Try.ntmps4
    go_wp2_with (first
      | (go_at_call 6; ((with_reducible refine (K6.out _).mono ?_); rintro e w1 ⟨rfl, hb⟩; have HB1 := Lib.hid hb; clear hb)))
    go_ret
    exact ⟨rfl, HB1.out⟩
end Go.Proofs.Ytcoadbagjlcagaa
