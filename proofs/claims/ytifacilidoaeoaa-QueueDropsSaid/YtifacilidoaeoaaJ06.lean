/- The law QueueDrops, up to what it answers. -/
import Derived.Test.YtifacilidoaeoaaJ05
set_option linter.unusedVariables false
set_option linter.unusedSimpArgs false
namespace Go.Proofs.Ytifacilidoaeoaa
open Go.RowKit

theorem dd_nodup (l : List Nat) : ∀ k, (dd l k).Nodup
  | 0 => List.nodup_nil
  | k + 1 => by
    have := dd_nodup l k
    unfold dd
    split
    · exact this
    · rename_i h
      rw [List.nodup_append]
      exact ⟨this, by simp, fun a ha b hb e => by rw [List.mem_singleton] at hb; rw [← hb, ← e] at h; exact h ha⟩
theorem dd_pos (l : List Nat) : ∀ k, 0 < k → 0 < (dd l k).length
  | 0, h => absurd h (by omega)
  | k + 1, _ => by
    unfold dd
    split
    · rename_i h
      exact List.length_pos_of_mem h
    · simp
theorem erase_filter {D : List Nat} (h : D.Nodup) (x : Nat) : (D.filter fun y => !decide (y = x)) = D.erase x := by
  rw [List.Nodup.erase_eq_filter h]
  apply List.filter_congr
  intro y _
  by_cases e : y = x <;> simp [e]
theorem Ow.form {w : World} {B : Nat} {v : Value} {l : List Nat} (h : Ow w B v l) (hl : 0 < l.length) : ∃ b c, v = .slice (some ⟨b, 0, none⟩) l.length c ∧ B ≤ b ∧ b < w.heap.size := by
  rcases h.2 with ⟨_, hn⟩ | ⟨g, cap, cur, rfl, h1, h2, _⟩
  · omega
  · exact ⟨g, cap, rfl, h1, lt_of_heap h2⟩
/-- What holds at each turn. -/
def LR (w : World) (g : Nat) (D : List Nat) (wr : World) : Prop :=
  ∃ o n c, Bx wr g (.slice o n c) (.int .i64 64) ∧ Sl (g + 1) wr (.slice o n c) D ∧ w.heap.size ≤ g ∧ Below w.heap.size w wr
/-- A box of one. -/
def B1 (w : World) (g : Nat) (a : Value) : Prop := w.heap[g]? = some (.cells #[a] 29 (0, 0))
theorem B1.cell {w : World} {g : Nat} {a : Value} (h : B1 w g a) : w.cell? ⟨g, 0, none⟩ = some a := (cell_of_row w g 0 _ _ _ h).trans rfl
theorem B1.later {w w' : World} {g : Nat} {a : Value} (h : B1 w g a) (hb : Below w.heap.size w w') : B1 w' g a := (hb.block _ (lt_of_heap h)).trans h
theorem B1.new (w : World) (a : Value) : B1 (w.alloc (.cells #[a] 29)) w.heap.size a := heap_alloc_new w _
theorem bel {w w1 w2 : World} (h : Below w.heap.size w w1) (h2 : Below w1.heap.size w1 w2) : Below w.heap.size w w2 := h.trans (h2.mono h.size)
/-- All that is there ahead of the answer. -/
structure Dr (w : World) (D : List Nat) (id g g10 g11 g15 : Nat) (o : Option Addr) (n c : Nat) (b9 n9 c9 : Nat) (ox : Option Addr) (nx cx : Nat) (oy : Option Addr) (ny cy : Nat) (w8 : World) : Prop where
  q : Bx w8 g (.slice o n c) (.int .i64 64)
  sq : Sl 0 w8 (.slice o n c) D
  a : Sl 0 w8 (.slice (some ⟨b9, 0, none⟩) n9 c9) D
  i : B1 w8 g10 (.int .u64 (id : Int))
  x : Bx w8 g11 (.slice ox nx cx) (.int .i64 64)
  sx : Sl 0 w8 (.slice ox nx cx) (D.erase id)
  y : Bx w8 g15 (.slice oy ny cy) (.int .i64 64)
  sy : Sl 0 w8 (.slice oy ny cy) (D.erase id ++ [id])
  b : Below w.heap.size w w8
theorem Dr.later {w w8 w' : World} {D : List Nat} {id g g10 g11 g15 n c b9 n9 c9 nx cx ny cy : Nat} {o ox oy : Option Addr} (h : Dr w D id g g10 g11 g15 o n c b9 n9 c9 ox nx cx oy ny cy w8) (hb : Below w8.heap.size w8 w') : Dr w D id g g10 g11 g15 o n c b9 n9 c9 ox nx cx oy ny cy w' :=
  ⟨h.q.later hb, h.sq.later hb, h.a.later hb, h.i.later hb, h.x.later hb, h.sx.later hb, h.y.later hb, h.sy.later hb, bel h.b hb⟩

theorem wp_append_at {o : Oper} {a : Act} {W W' : World} {K : Act → World → Prop} {Q : Exit → Act → World → Prop} (s x : Operand) {v u v' : Value} (ho : o.op = .call { callee := .builtin .append, args := #[s, x], argTypes := #[22, 22] }) (hs : a.eval s = v) (hx : a.eval x = u)
    (hr : (Builtin.append_ #[22, 22] o.type #[v, u]).run Try.prog W = .ok v' W') (h : K (a.put o.dst v') W') : o.wp Try.prog a W K Q := by
  unfold Oper.wp execOp
  simp only [ho, resolve, invoke, builtin, Sem.run_bind, Sem.run_pure, Result.andThen_ok, List.map_toArray, List.map_cons, List.map_nil, hs, hx, hr]
  exact h
theorem run_append_nums (W : World) (B : Nat) (v : Value) (K : List Nat) (y gS : Nat) (hown : Ow W B v K) (hu : Sl 0 W (.slice (some ⟨gS, 0, none⟩) 1 1) [y]) (hB : B ≤ W.heap.size) (hk : K.length ≤ 3000000) :
    ∃ o6 n6 c6 w6, (Builtin.append_ #[22, 22] 22 #[v, .slice (some ⟨gS, 0, none⟩) 1 1]).run Try.prog W = .ok (.slice o6 n6 c6) w6 ∧ Ow w6 B (.slice o6 n6 c6) (K ++ [y]) ∧ W.grownBy w6 v.ownBlock := by
  obtain ⟨i0, hi, hz0, hz1, hz2⟩ := info_parts info29
  rcases hu with ⟨h0, _⟩ | ⟨b, off, cap, h0, _, _, _, hr⟩
  · cases h0
  · have e : b = gS ∧ off = 0 := by cases h0; exact ⟨rfl, rfl⟩
    obtain ⟨rfl, rfl⟩ := e
    obtain ⟨v', w', h1, h2, h3, _, _⟩ := run_append_own_at (P := Try.prog) W B 22 22 29 i0 (.int .u64 0) 1 8 Try.underlying22 hi hz0 hz1 hz2 rfl (by decide) v K.length (nc K) hown ⟨b, 0, none⟩ 1 1 (nc [y]) (by simp [nc]) (fun j u hj => by rw [Addr.add_mid]; exact hr j u hj) (nc_one [y]) (by unfold maxLen; omega) (by omega) hB
    have ho : Ow w' B v' (K ++ [y]) := by
      unfold Ow
      rw [List.length_append, nc, List.map_append]
      exact h2
    obtain ⟨o, c, rfl⟩ := ho.sl.form
    exact ⟨o, _, c, w', h1, ho, h3⟩

set_option maxRecDepth 100000 in
set_option maxHeartbeats 8000000 in
theorem drops_any (l : List Nat) (dr : Nat) (hdr : dr ≤ 255) (at0 : Option Addr) (cap b off : Nat) (w : World) (hat : 0 < l.length → at0 = some ⟨b, off, none⟩ ∧ b < w.heap.size) (hc : ∀ k (h : k < l.length), w.cell? ⟨b, off + k, none⟩ = some (.int .u64 (l[k] : Int))) :
    Calls Try.prog 4 #[.slice at0 l.length cap, .int .u8 (dr : Int)] w fun e w' => e = .returned (.bool true) ∧ Below w.heap.size w w' := by
  have HC : Hid (∀ wz, Below w.heap.size w wz → ∀ k (h : k < l.length), wz.cell? ⟨b, off + k, none⟩ = some (.int .u64 (l[k] : Int))) := Lib.hid (fun wz hz k h => (hz.cell (p := ⟨b, off + k, none⟩) (hat (by omega)).2).trans (hc k h))
  have HAT : Hid (0 < l.length → at0 = some ⟨b, off, none⟩) := Lib.hid (fun h => (hat h).1)
  have K5 := Lib.hid awake_any
  have K6 : Hid (∀ w, Calls Try.prog 6 #[.int .i64 64] w fun e w' => e = .returned (.tuple #[.agg #[.slice none 0 0, .int .i64 64], .int .i64 0]) ∧ Below w.heap.size w w') := Lib.hid (fun w => new_any 64 (by omega) w)
  have HD0 : Hid (dd l 0 = []) := Lib.hid rfl
  have HDI : Hid (∀ k (h : k < l.length), l[k] ∈ dd l k → dd l (k + 1) = dd l k) := Lib.hid (fun k h hm => dd_in h hm)
  have HDO : Hid (∀ k (h : k < l.length), l[k] ∉ dd l k → dd l (k + 1) = dd l k ++ [l[k]]) := Lib.hid (fun k h hm => dd_out h hm)
  have HDL := Lib.hid (dd_le l)
  have HDN := Lib.hid (dd_nodup l)
  have HDP := Lib.hid (dd_pos l)
  generalize dd l = PR at *
  clear hat hc
  by_cases h64 : l.length ≤ 64
  case neg =>
    have h64' : (64 : Int) < (l.length : Int) := by omega
    go_enter Try.func4, Try.ntmps4
    go_wp2_with (go_at_call 5; ((with_reducible refine (K5.out _).mono ?_); rintro e w1 ⟨rfl, hb1⟩; have HB1 := Lib.hid hb1; clear hb1))
    go_ret
    exact ⟨rfl, HB1.out⟩
  case pos =>
  by_cases h0 : l.length = 0
  · have h0' : ((l.length : Int) == 0) = true := by simp [h0]
    have h64' : (l.length : Int) ≤ 64 := by omega
    clear HC HAT HDI HDO
    generalize l.length = nl at *
    go_enter Try.func4, Try.ntmps4
    go_wp2_with (go_at_call 5; ((with_reducible refine (K5.out _).mono ?_); rintro e w1 ⟨rfl, hb1⟩; have HB1 := Lib.hid hb1; clear hb1))
    go_ret
    exact ⟨rfl, HB1.out⟩
  have h0' : ((l.length : Int) == 0) = false := by rw [beq_eq_false_iff_ne]; omega
  have h64' : (l.length : Int) ≤ 64 := by omega
  go_enter Try.func4, Try.ntmps4
  go_wp2_with (first
    | (go_at_call 5; ((with_reducible refine (K5.out _).mono ?_); rintro e w1 ⟨rfl, hb1⟩; have HB1 := Lib.hid hb1; clear hb1))
    | (go_at_call 6; ((with_reducible refine (K6.out _).mono ?_); rintro e w2 ⟨rfl, hb2⟩; have HB2 := Lib.hid (HB1.out.trans (hb2.mono HB1.out.size)); clear hb2)))
  have HL0 : Hid (LR w w2.heap.size (PR 0) (w2.alloc (.cells #[.slice none 0 0, .int .i64 64] 25))) := Lib.hid (by
    rw [HD0.out]
    exact ⟨none, 0, 0, Bx.new _ _ _, Sl.nil _ _, HB2.out.size, HB2.out.trans ((alloc_below _ _).mono HB2.out.size)⟩)
  generalize w2.alloc (.cells #[.slice none 0 0, .int .i64 64] 25) = w3 at *
  generalize w2.heap.size = g at *
  go_loopw [8, 34] (fun _ i wr => ∃ k : Nat, k ≤ l.length ∧ i = .int .i64 k ∧ Hid (LR w g (PR k) wr)) (fun _ i _ => l.length - (intOf i).toNat)
  case atStart => exact ⟨0, by omega, rfl, HL0⟩
  case round =>
    obtain ⟨k, hk, rfl, HL⟩ := hrel
    by_cases hlt : k < l.length
    · obtain ⟨o, n, c, hbx, hsl, hg, hbl⟩ := HL.out
      have hcell := HC.out wr hbl k hlt
      obtain rfl := HAT.out (by omega)
      have hple : (PR k).length ≤ 64 := Nat.le_trans (HDL.out k) (by omega)
      have HIN := Lib.hid (HDI.out k hlt)
      have HOUT := Lib.hid (HDO.out k hlt)
      obtain ⟨y, hy⟩ : ∃ y, l[k] = y := ⟨_, rfl⟩
      rw [hy] at hcell HIN HOUT
      obtain ⟨x0c, x1c, x2c, x3c⟩ := hbx.cells
      have HX := Lib.hid hbx
      have HSL := Lib.hid hsl
      have HG := Lib.hid hg
      have HBL := Lib.hid hbl
      have HGW := Lib.hid (Nat.succ_le_of_lt (lt_of_heap hbx))
      have K7 : Hid (Calls Try.prog 7 #[.agg #[.slice o n c, .int .i64 64], .int .u64 (y : Int)] wr fun e w' => (∃ o n c e0, e = .returned (.tuple #[.agg #[.slice o n c, .int .i64 64], .int .i64 e0]) ∧ Sl (g + 1) w' (.slice o n c) (PR (k + 1))) ∧ Below wr.heap.size wr w') := Lib.hid (by
        by_cases hm : y ∈ PR k
        · rw [HIN.out hm]
          exact (put_twice (PR k) 64 y _ (g + 1) (by omega) wr hsl hm).mono fun e w' ⟨h1, h2⟩ => ⟨⟨o, n, c, 11, h1, hsl.later h2⟩, h2⟩
        · rw [HOUT.out hm]
          exact (put_new (PR k) 64 y _ (g + 1) (by omega) wr hsl hm (by have := HDL.out k; omega)).mono fun e w' ⟨⟨o, n, c, h1, h3⟩, h2⟩ => ⟨⟨o, n, c, 0, h1, h3.mono HGW.out⟩, h2⟩)
      clear hy hbx hsl hg hbl hple HIN HOUT
      go_wp2_with (first
        | (go_at_call 7; ((with_reducible refine (K7.out).mono ?_); rintro e w4 ⟨⟨o3, n3, c3, e3, rfl, hs3⟩, hb4⟩; have HB4 := Lib.hid (bel HBL.out hb4); clear x0c x1c x2c x3c; have HXd := Lib.hid (HX.out.later hb4); obtain ⟨x0c, x1c, x2c, x3c⟩ := HXd.out.cells; have HSd := Lib.hid hs3; clear hb4 hs3)))
      go_roundw
      case rel => exact ⟨k + 1, by omega, by go_num, Lib.hid ⟨o3, n3, c3, HXd.out.put _ _, HSd.out.put2 (Nat.lt_succ_self g) _ _, HG.out, put2_below HB4.out HG.out _ _⟩⟩
      case measure => simp [intOf]; omega
    · have hkl : k = l.length := by omega
      subst hkl
      obtain ⟨o, n, c, hbx, hsl, hg, hbl⟩ := HL.out
      have hle := HDL.out l.length
      have hnd := HDN.out l.length
      have hpos := HDP.out l.length (by omega)
      generalize PR l.length = D at *
      obtain ⟨x0c, x1c, x2c, x3c⟩ := hbx.cells
      have hdl : D.length ≤ 64 := by omega
      have K11 : Hid (Calls Try.prog 11 #[.agg #[.slice o n c, .int .i64 64]] wr fun e w' => (∃ b9 c9, e = .returned (.slice (some ⟨b9, 0, none⟩) D.length c9) ∧ Sl 0 w' (.slice (some ⟨b9, 0, none⟩) D.length c9) D) ∧ Below wr.heap.size wr w') :=
        Lib.hid ((all_any D 64 _ (g + 1) (by omega) wr hsl).mono fun e w' ⟨⟨v', h1, h2⟩, h3⟩ => by
          obtain ⟨b9, c9, rfl, _, _⟩ := h2.form hpos
          exact ⟨⟨b9, c9, h1, h2.sl.mono (Nat.zero_le _)⟩, h3⟩)
      have HX := Lib.hid hbx
      have HSQ := Lib.hid (hsl.mono (Nat.zero_le _))
      have HBL := Lib.hid hbl
      obtain ⟨r, hr⟩ : ∃ r, r = dr % D.length := ⟨_, rfl⟩
      have hrl : r < D.length := by rw [hr]; exact Nat.mod_lt _ hpos
      have hrem : (dr : Int).tmod (D.length : Int) = (r : Int) := by rw [hr]; rfl
      obtain ⟨id, hid⟩ : ∃ id, id = D[r] := ⟨_, rfl⟩
      have hmem : id ∈ D := hid ▸ List.getElem_mem hrl
      have HCE : Hid (∀ wz b9 c9, Sl 0 wz (.slice (some ⟨b9, 0, none⟩) D.length c9) D → wz.cell? ⟨b9, r, none⟩ = some (.int .u64 (id : Int))) := Lib.hid (fun wz b9 c9 h => by
        obtain ⟨o', c', b', f', e, h1, h2⟩ := h.cells
        cases e
        have := h1 hpos
        cases this
        have := h2 r hrl
        rw [Nat.zero_add] at this
        rw [this, hid])
      have HND := Lib.hid hnd
      have HMEM := Lib.hid hmem
      have HDD := Lib.hid hdl
      have HPOS := Lib.hid hpos
      obtain ⟨nd, hndl⟩ : ∃ nd, nd = D.length := ⟨_, rfl⟩
      rw [← hndl] at K11 hrl hrem HCE hdl hpos
      have hne : ((nd : Int) == 0) = false := by rw [beq_eq_false_iff_ne]; omega
      have HNDL := Lib.hid hndl
      clear hbx hsl hbl hle hnd hr hid hmem HL hndl
      go_upto_region 12 with (first
        | (go_at_call 11; ((with_reducible refine (K11.out).mono ?_); rintro e w4 ⟨⟨b9, c9, rfl, hs9⟩, hb4⟩; have HX4 := Lib.hid (HX.out.later hb4); have HS4 := Lib.hid (HSQ.out.later hb4); have HA4 := Lib.hid hs9; have HB4 := Lib.hid (bel HBL.out hb4); have hce := HCE.out _ _ _ hs9; clear x0c x1c x2c x3c hb4 hs9)))
      go_upto_region 13 with (fail)
      have HX5 := Lib.hid (HX4.out.later (alloc_below w4 (.cells #[.int .u64 (id : Int)] 29)))
      have HS5 := Lib.hid (HS4.out.later (alloc_below w4 (.cells #[.int .u64 (id : Int)] 29)))
      have HA5 := Lib.hid (HA4.out.later (alloc_below w4 (.cells #[.int .u64 (id : Int)] 29)))
      have HI5 := Lib.hid (B1.new w4 (.int .u64 (id : Int)))
      have HB5 := Lib.hid (bel HB4.out (alloc_below w4 (.cells #[.int .u64 (id : Int)] 29)))
      generalize w4.alloc (.cells #[.int .u64 (id : Int)] 29) = w5 at *
      generalize w4.heap.size = g10 at *
      obtain ⟨x0c, x1c, x2c, x3c⟩ := HX5.out.cells
      have i0c := HI5.out.cell
      have K12 : Hid (Calls Try.prog 12 #[.agg #[.slice o n c, .int .i64 64], .int .u64 (id : Int)] w5 fun e w' => (∃ o n c, e = .returned (.tuple #[.agg #[.slice o n c, .int .i64 64], .bool true]) ∧ Sl 0 w' (.slice o n c) (D.erase id)) ∧ Below w5.heap.size w5 w') :=
        Lib.hid ((drop_yes D 64 id _ 0 (by have := HDD.out; omega) w5 HS5.out HMEM.out).mono fun e w' ⟨⟨o, n, c, h1, h2⟩, h3⟩ => ⟨⟨o, n, c, h1, h2.mono (Nat.zero_le _)⟩, h3⟩)
      go_upto_region 14 with (first
        | (go_at_call 12; ((with_reducible refine (K12.out).mono ?_); rintro e w6 ⟨⟨ox, nx, cx, rfl, hsx⟩, hb6⟩; have HB6 := Lib.hid hb6; have HSX6 := Lib.hid hsx; clear x0c x1c x2c x3c i0c hb6 hsx)))
      have HB7a := Lib.hid (bel HB6.out (alloc_below w6 (.cells #[.slice ox nx cx, .int .i64 64] 25)))
      have HSX7 := Lib.hid (HSX6.out.later (alloc_below w6 (.cells #[.slice ox nx cx, .int .i64 64] 25)))
      have HZ7 := Lib.hid (Bx.new w6 (.slice ox nx cx) (.int .i64 64))
      generalize w6.alloc (.cells #[.slice ox nx cx, .int .i64 64] 25) = w7 at *
      generalize w6.heap.size = g11 at *
      have HX7 := Lib.hid (HX5.out.later HB7a.out)
      have HS7 := Lib.hid (HS5.out.later HB7a.out)
      have HA7 := Lib.hid (HA5.out.later HB7a.out)
      have HI7 := Lib.hid (HI5.out.later HB7a.out)
      have HB7 := Lib.hid (bel HB5.out HB7a.out)
      clear HX4 HS4 HA4 HB4 HX5 HS5 HA5 HI5 HB5 HB6 HSX6 HB7a K12
      obtain ⟨x0c, x1c, x2c, x3c⟩ := HZ7.out.cells
      have i0c := HI7.out.cell
      have HNE : Hid (id ∉ D.erase id) := Lib.hid (fun h => (List.Nodup.mem_erase_iff HND.out).1 h |>.1 rfl)
      have HEL : Hid ((D.erase id).length + 1 = D.length) := Lib.hid (by rw [List.length_erase_of_mem HMEM.out]; have := HPOS.out; omega)
      have K12 : Hid (Calls Try.prog 12 #[.agg #[.slice ox nx cx, .int .i64 64], .int .u64 (id : Int)] w7 fun e w' => e = .returned (.tuple #[.agg #[.slice none 0 0, .int .i64 0], .bool false]) ∧ Below w7.heap.size w7 w') :=
        Lib.hid (drop_no (D.erase id) 64 id _ 0 (by have := HDD.out; have := HEL.out; omega) w7 HSX7.out HNE.out)
      go_upto_region 15 with (first
        | (go_at_call 12; ((with_reducible refine (K12.out).mono ?_); rintro e w8 ⟨rfl, hb8⟩; have HB8 := Lib.hid hb8; clear x0c x1c x2c x3c i0c hb8)))
      have HB9a := Lib.hid (bel HB8.out (alloc_below w8 (.cells #[.slice none 0 0, .int .i64 0] 25)))
      generalize w8.alloc (.cells #[.slice none 0 0, .int .i64 0] 25) = w9 at *
      generalize w8.heap.size = g13 at *
      have HX9 := Lib.hid (HX7.out.later HB9a.out)
      have HS9 := Lib.hid (HS7.out.later HB9a.out)
      have HA9 := Lib.hid (HA7.out.later HB9a.out)
      have HI9 := Lib.hid (HI7.out.later HB9a.out)
      have HB9 := Lib.hid (bel HB7.out HB9a.out)
      have HZ9 := Lib.hid (HZ7.out.later HB9a.out)
      have HSX9 := Lib.hid (HSX7.out.later HB9a.out)
      clear HX7 HS7 HA7 HI7 HB7 HZ7 HSX7 HB8 HB9a K12
      obtain ⟨x0c, x1c, x2c, x3c⟩ := HZ9.out.cells
      have i0c := HI9.out.cell
      have K7 : Hid (Calls Try.prog 7 #[.agg #[.slice ox nx cx, .int .i64 64], .int .u64 (id : Int)] w9 fun e w' => (∃ o n c, e = .returned (.tuple #[.agg #[.slice o n c, .int .i64 64], .int .i64 0]) ∧ Sl 0 w' (.slice o n c) (D.erase id ++ [id])) ∧ Below w9.heap.size w9 w') :=
        Lib.hid ((put_new (D.erase id) 64 id _ 0 (by omega) w9 HSX9.out HNE.out (by have := HDD.out; have := HEL.out; omega)).mono fun e w' ⟨⟨o, n, c, h1, h2⟩, h3⟩ => ⟨⟨o, n, c, h1, h2.mono (Nat.zero_le _)⟩, h3⟩)
      go_upto_region 16 with (first
        | (go_at_call 7; ((with_reducible refine (K7.out).mono ?_); rintro e w10 ⟨⟨oy, ny, cy, rfl, hsy⟩, hb10⟩; have HBa := Lib.hid hb10; have HSYa := Lib.hid hsy; clear x0c x1c x2c x3c i0c hb10 hsy)))
      have HBb := Lib.hid (bel HBa.out (alloc_below w10 (.cells #[.slice oy ny cy, .int .i64 64] 25)))
      have HSYb := Lib.hid (HSYa.out.later (alloc_below w10 (.cells #[.slice oy ny cy, .int .i64 64] 25)))
      have HYb := Lib.hid (Bx.new w10 (.slice oy ny cy) (.int .i64 64))
      generalize w10.alloc (.cells #[.slice oy ny cy, .int .i64 64] 25) = w11 at *
      generalize w10.heap.size = g15 at *
      have HDr : Hid (Dr w D id g g10 g11 g15 o n c b9 nd c9 ox nx cx oy ny cy w11) := Lib.hid ⟨HX9.out.later HBb.out, HS9.out.later HBb.out, HA9.out.later HBb.out, HI9.out.later HBb.out, HZ9.out.later HBb.out, HSX9.out.later HBb.out, HYb.out, HSYb.out, bel HB9.out HBb.out⟩
      clear HX9 HS9 HA9 HI9 HB9 HZ9 HSX9 HBa HBb HSYa HSYb HYb K7 K11 K5 K6 HX HSQ HBL HC HAT HL0 HB1 HB2 HD0 HDI HDO HDL HDN HDP HCE hce
      have K14 : Hid (Calls Try.prog 14 #[.slice (some ⟨b9, 0, none⟩) nd c9] w11 fun e w' => (∃ v, e = .returned v ∧ v ≠ .slice none 0 0 ∧ Ow w' w11.heap.size v D) ∧ Below w11.heap.size w11 w') :=
        Lib.hid ((clone_any D _ 0 (by have := HDD.out; omega) w11 HDr.out.a).mono fun e w' ⟨⟨v, h1, h2⟩, h3⟩ => ⟨⟨v, h1, (by obtain ⟨b, c, rfl, _, _⟩ := h2.form HPOS.out; exact nofun), h2⟩, h3⟩)
      have K13 : Hid (∀ (W : World) (v : Value), v ≠ .slice none 0 0 → Ow W w11.heap.size v D → Below w11.heap.size w11 W → Calls Try.prog 13 #[v, .func (.func 15) #[] #[.pointer (some ⟨g10, 0, none⟩)]] W fun e w' => (∃ o n c, e = .returned (.slice o n c) ∧ Ow w' w11.heap.size (.slice o n c) (D.erase id)) ∧ Below w11.heap.size w11 w') :=
        Lib.hid (fun W v hv ho hb => by
          have h := del_any D id g10 v w11.heap.size (by have := HDD.out; omega) W ho hv (HDr.out.i.later hb).cell (fun g hg e => by have h1 := (ho.lt g hg).1; have h2 := lt_of_heap HDr.out.i; omega)
          rw [erase_filter HND.out] at h
          exact h.mono fun e w' ⟨⟨o, n, c, h1, h2, h3⟩, h4⟩ => ⟨⟨o, n, c, h1, h2⟩, hb.grown h4 hb.size (fun k hk => (ho.lt k hk).1)⟩)
      go_upto_region 17 with (first
        | (go_at_call 14; ((with_reducible refine (K14.out).mono ?_); rintro e w12 ⟨⟨vc, rfl, hvc, hoc⟩, hb12⟩; have HOc := Lib.hid hoc; have HVc := Lib.hid hvc; have HBc := Lib.hid hb12; clear hvc hoc hb12))
        | (go_at_call 13; ((with_reducible refine (K13.out _ _ HVc.out HOc.out HBc.out).mono ?_); rintro e w13 ⟨⟨ow, nw, cw, rfl, how⟩, hb13⟩; have HOw := Lib.hid how; have HBd := Lib.hid hb13; clear how hb13)))
      clear K14 K13 HOc HVc HBc
      obtain rfl : ny = nd := by
        obtain ⟨o', c', h⟩ := HDr.out.sy.form
        cases h
        rw [HNDL.out, List.length_append, List.length_singleton]; exact HEL.out
      have KAx : Hid (∀ wz, Below w11.heap.size w11 wz → Calls Try.prog 11 #[.agg #[.slice ox nx cx, .int .i64 64]] wz fun e w' => (∃ o n c, e = .returned (.slice o n c) ∧ Sl 0 w' (.slice o n c) (D.erase id)) ∧ Below wz.heap.size wz w') :=
        Lib.hid (fun wz hb => (all_any (D.erase id) 64 _ 0 (by have := HDD.out; have := HEL.out; omega) wz (HDr.out.sx.later hb)).mono fun e w' ⟨⟨v', h1, h2⟩, h3⟩ => by
          obtain ⟨o', c', rfl⟩ := h2.sl.form
          exact ⟨⟨o', _, c', h1, h2.sl.mono (Nat.zero_le _)⟩, h3⟩)
      have KAy : Hid (∀ wz, Below w11.heap.size w11 wz → Calls Try.prog 11 #[.agg #[.slice oy ny cy, .int .i64 64]] wz fun e w' => (∃ o n c, e = .returned (.slice o n c) ∧ Sl wz.heap.size w' (.slice o n c) (D.erase id ++ [id])) ∧ Below wz.heap.size wz w') :=
        Lib.hid (fun wz hb => (all_any (D.erase id ++ [id]) 64 _ 0 (by have := HDD.out; have := HEL.out; rw [List.length_append, List.length_singleton]; omega) wz (HDr.out.sy.later hb)).mono fun e w' ⟨⟨v', h1, h2⟩, h3⟩ => by
          obtain ⟨o', c', rfl⟩ := h2.sl.form
          exact ⟨⟨o', _, c', h1, h2.sl⟩, h3⟩)
      have KAq : Hid (∀ wz, Below w11.heap.size w11 wz → Calls Try.prog 11 #[.agg #[.slice o n c, .int .i64 64]] wz fun e w' => (∃ o n c, e = .returned (.slice o n c) ∧ Sl 0 w' (.slice o n c) D) ∧ Below wz.heap.size wz w') :=
        Lib.hid (fun wz hb => (all_any D 64 _ 0 (by have := HDD.out; omega) wz (HDr.out.sq.later hb)).mono fun e w' ⟨⟨v', h1, h2⟩, h3⟩ => by
          obtain ⟨o', c', rfl⟩ := h2.sl.form
          exact ⟨⟨o', _, c', h1, h2.sl.mono (Nat.zero_le _)⟩, h3⟩)
      have KE1 : Hid (∀ wz v u B C, Sl B wz v (D.erase id) → Sl C wz u (D.erase id) → Calls Try.prog 16 #[v, u] wz fun e w' => e = .returned (.bool true) ∧ Below wz.heap.size wz w') := Lib.hid (fun wz v u B C h1 h2 => equal_any _ v u B C (by have := HDD.out; have := HEL.out; omega) wz h1 h2)
      have KE2 : Hid (∀ wz v u B C, Sl B wz v (D.erase id ++ [id]) → Sl C wz u (D.erase id ++ [id]) → Calls Try.prog 16 #[v, u] wz fun e w' => e = .returned (.bool true) ∧ Below wz.heap.size wz w') := Lib.hid (fun wz v u B C h1 h2 => equal_any _ v u B C (by have := HDD.out; have := HEL.out; rw [List.length_append, List.length_singleton]; omega) wz h1 h2)
      have KE3 : Hid (∀ wz v u B C, Sl B wz v D → Sl C wz u D → Calls Try.prog 16 #[v, u] wz fun e w' => e = .returned (.bool true) ∧ Below wz.heap.size wz w') := Lib.hid (fun wz v u B C h1 h2 => equal_any _ v u B C (by have := HDD.out; omega) wz h1 h2)
      have K10 : Hid (∀ w, Calls Try.prog 10 #[.agg #[.slice oy ny cy, .int .i64 64]] w fun e w' => e = .returned (.int .i64 (ny : Int)) ∧ Below w.heap.size w w') := Lib.hid (fun w => len_any oy ny cy 64 w)
      have KAP : Hid (∀ (W : World) (gS : Nat), Ow W w11.heap.size (.slice ow nw cw) (D.erase id) → Sl 0 W (.slice (some ⟨gS, 0, none⟩) 1 1) [id] → w11.heap.size ≤ W.heap.size → ∃ o6 n6 c6 w6, (Builtin.append_ #[22, 22] 22 #[.slice ow nw cw, .slice (some ⟨gS, 0, none⟩) 1 1]).run Try.prog W = .ok (.slice o6 n6 c6) w6 ∧ Ow w6 w11.heap.size (.slice o6 n6 c6) (D.erase id ++ [id]) ∧ W.grownBy w6 (Value.slice ow nw cw).ownBlock) :=
        Lib.hid (fun W gS h1 h2 h3 => run_append_nums W w11.heap.size _ _ id gS h1 h2 h3 (by have := HDD.out; have := HEL.out; omega))
      have HB0 := HBd.out
      have HG0 := Lib.hid (show Below w11.heap.size w11 w13.drew from HB0.drew)
      have HW0 := Lib.hid (show Ow w13.drew w11.heap.size (.slice ow nw cw) (D.erase id) from HOw.out)
      have mkS : Hid (∀ wz, Below w11.heap.size w11 wz → wz.cell? ⟨g11, 0, none⟩ = some (.slice ox nx cx) ∧ wz.cell? ⟨g11, 1, none⟩ = some (.int .i64 64) ∧ wz.cell? ⟨g15, 0, none⟩ = some (.slice oy ny cy) ∧ wz.cell? ⟨g15, 1, none⟩ = some (.int .i64 64) ∧ wz.cell? ⟨g, 0, none⟩ = some (.slice o n c) ∧ wz.cell? ⟨g, 1, none⟩ = some (.int .i64 64) ∧ wz.cell? ⟨g10, 0, none⟩ = some (.int .u64 (id : Int))) := Lib.hid (fun wz h => ⟨(HDr.out.x.later h).cells.1, (HDr.out.x.later h).cells.2.1, (HDr.out.y.later h).cells.1, (HDr.out.y.later h).cells.2.1, (HDr.out.q.later h).cells.1, (HDr.out.q.later h).cells.2.1, (HDr.out.i.later h).cell⟩)
      refine wp_region_held_drew (S := fun wz => wz.cell? ⟨g11, 0, none⟩ = some (.slice ox nx cx) ∧ wz.cell? ⟨g11, 1, none⟩ = some (.int .i64 64) ∧ wz.cell? ⟨g15, 0, none⟩ = some (.slice oy ny cy) ∧ wz.cell? ⟨g15, 1, none⟩ = some (.int .i64 64) ∧ wz.cell? ⟨g, 0, none⟩ = some (.slice o n c) ∧ wz.cell? ⟨g, 1, none⟩ = some (.int .i64 64) ∧ wz.cell? ⟨g10, 0, none⟩ = some (.int .u64 (id : Int))) (by kernel_rfl) (mkS.out _ HG0.out) (fun hHeld => ?_)
      generalize w13.drew = wc0 at *
      refine wpAnyH_take (i := 0) (oi := ⟨some 77, _, _, _, _, _⟩) (v := ?_) rfl (by kernel_rfl) (by kernel_rfl) (by kernel_rfl) (fun _ _ _ h => h) (Or.inl ⟨by rfl, by (intro w hSw; (try dsimp only at hSw); go_simp; try with_reducible rfl)⟩) hHeld ?_
      try simp only [Act.put, List.setIfInBounds_toArray, List.set_cons_zero, List.set_cons_succ]
      refine wpAnyH_take (i := 1) (oi := ⟨some 78, _, _, _, _, _⟩) (v := ?_) rfl (by kernel_rfl) (by kernel_rfl) (by kernel_rfl) (fun _ _ _ h => h) (Or.inl ⟨by rfl, by (intro w hSw; (try dsimp only at hSw); go_simp; try with_reducible rfl)⟩) hHeld ?_
      try simp only [Act.put, List.setIfInBounds_toArray, List.set_cons_zero, List.set_cons_succ]
      refine wpAnyH_take (i := 2) (oi := ⟨some 79, _, _, _, _, _⟩) (v := ?_) rfl (by kernel_rfl) (by kernel_rfl) (by kernel_rfl) (fun _ _ _ h => h) (Or.inl ⟨by rfl, by (intro w hSw; (try dsimp only at hSw); go_simp; try with_reducible rfl)⟩) hHeld ?_
      try simp only [Act.put, List.setIfInBounds_toArray, List.set_cons_zero, List.set_cons_succ]
      refine wpAnyH_take (i := 3) (oi := ⟨some 80, _, _, _, _, _⟩) (v := ?_) rfl (by kernel_rfl) (by kernel_rfl) (by kernel_rfl) (fun _ _ _ h => h) (Or.inl ⟨by rfl, by (intro w hSw; (try dsimp only at hSw); go_simp; try with_reducible rfl)⟩) hHeld ?_
      try simp only [Act.put, List.setIfInBounds_toArray, List.set_cons_zero, List.set_cons_succ]
      refine wpAnyH_take (i := 4) (oi := ⟨some 81, _, _, _, _, _⟩) (v := ?_) rfl (by kernel_rfl) (by kernel_rfl) (by kernel_rfl) (fun _ _ _ h => h) (Or.inl ⟨by rfl, by (intro w hSw; (try dsimp only at hSw); go_simp; try with_reducible rfl)⟩) hHeld ?_
      try simp only [Act.put, List.setIfInBounds_toArray, List.set_cons_zero, List.set_cons_succ]
      refine wpAnyH_take (i := 5) (oi := ⟨some 82, _, _, _, _, _⟩) (v := ?_) rfl (by kernel_rfl) (by kernel_rfl) (by kernel_rfl) (fun _ _ _ h => h) (Or.inl ⟨by rfl, by (intro w hSw; (try dsimp only at hSw); go_simp; try with_reducible rfl)⟩) hHeld ?_
      try simp only [Act.put, List.setIfInBounds_toArray, List.set_cons_zero, List.set_cons_succ]
      refine wpAnyH_take (i := 6) (oi := ⟨some 83, _, _, _, _, _⟩) (v := ?_) rfl (by kernel_rfl) (by kernel_rfl) (by kernel_rfl) (fun _ _ _ h => h) (Or.inl ⟨by rfl, by (intro w hSw; (try dsimp only at hSw); go_simp; try with_reducible rfl)⟩) hHeld ?_
      try simp only [Act.put, List.setIfInBounds_toArray, List.set_cons_zero, List.set_cons_succ]
      refine wpAnyH_take (i := 8) (oi := ⟨some 85, _, _, _, _, _⟩) (v := ?_) rfl (by kernel_rfl) (by kernel_rfl) (by kernel_rfl) (fun _ _ _ h => h) (Or.inl ⟨by rfl, by (intro w hSw; (try dsimp only at hSw); go_simp; try with_reducible rfl)⟩) hHeld ?_
      try simp only [Act.put, List.setIfInBounds_toArray, List.set_cons_zero, List.set_cons_succ]
      refine wpAnyH_ready (rs := [7]) (by kernel_rfl) (by simp) ?_
      refine AllReadyH.cons (o := ⟨some 84, _, _, _, _, _⟩) rfl (fun K hK => ?_) ?_
      · go_simp
        refine (KAx.out _ HG0.out).mono ?_
        rintro ze wc1 ⟨⟨oA, nA, cA, rfl, hsA⟩, hbn⟩
        try go_simp
        have HG1 := Lib.hid (HG0.out.trans (hbn.mono HG0.out.size))
        have HW1 := Lib.hid (Ow.later HW0.out hbn)
        have HA1 := Lib.hid hsA
        clear hsA
        refine hK.out _ _ (mkS.out _ HG1.out) (fun hHeld2 => ?_)
        clear hK K hHeld
        have hHeld := hHeld2
        clear hHeld2
        clear hbn
        try simp only [Act.put, List.setIfInBounds_toArray, List.set_cons_zero, List.set_cons_succ]
        refine wpAnyH_ready (rs := [9]) (by kernel_rfl) (by simp) ?_
        refine AllReadyH.cons (o := ⟨some 86, _, _, _, _, _⟩) rfl (fun K hK => ?_) ?_
        · go_simp
          refine (KE1.out _ _ _ _ _ HA1.out HW1.out.sl).mono ?_
          rintro ze wc2 ⟨rfl, hbn⟩
          try go_simp
          have HG2 := Lib.hid (HG1.out.trans (hbn.mono HG1.out.size))
          have HW2 := Lib.hid (Ow.later HW1.out hbn)
          have HA2 := Lib.hid (Sl.later HA1.out hbn)
          refine hK.out _ _ (mkS.out _ HG2.out) (fun hHeld2 => ?_)
          clear hK K hHeld
          have hHeld := hHeld2
          clear hHeld2
          clear hbn
          try simp only [Act.put, List.setIfInBounds_toArray, List.set_cons_zero, List.set_cons_succ]
          refine wpAnyH_take (i := 10) (oi := ⟨some 87, _, _, _, _, _⟩) (v := ?_) rfl (by kernel_rfl) (by kernel_rfl) (by kernel_rfl) (fun _ _ _ h => h) (Or.inl ⟨by rfl, by (intro w hSw; (try dsimp only at hSw); go_simp; try with_reducible rfl)⟩) hHeld ?_
          try simp only [Act.put, List.setIfInBounds_toArray, List.set_cons_zero, List.set_cons_succ]
          refine wpAnyH_take (i := 11) (oi := ⟨some 88, _, _, _, _, _⟩) (v := ?_) rfl (by kernel_rfl) (by kernel_rfl) (by kernel_rfl) (fun _ _ _ h => h) (Or.inl ⟨by rfl, by (intro w hSw; (try dsimp only at hSw); go_simp; try with_reducible rfl)⟩) hHeld ?_
          try simp only [Act.put, List.setIfInBounds_toArray, List.set_cons_zero, List.set_cons_succ]
          refine wpAnyH_take (i := 12) (oi := ⟨some 89, _, _, _, _, _⟩) (v := ?_) rfl (by kernel_rfl) (by kernel_rfl) (by kernel_rfl) (fun _ _ _ h => h) (Or.inl ⟨by rfl, by (intro w hSw; (try dsimp only at hSw); go_simp; try with_reducible rfl)⟩) hHeld ?_
          try simp only [Act.put, List.setIfInBounds_toArray, List.set_cons_zero, List.set_cons_succ]
          refine wpAnyH_take (i := 13) (oi := ⟨some 90, _, _, _, _, _⟩) (v := ?_) rfl (by kernel_rfl) (by kernel_rfl) (by kernel_rfl) (fun _ _ _ h => h) (Or.inl ⟨by rfl, by (intro w hSw; (try dsimp only at hSw); go_simp; try with_reducible rfl)⟩) hHeld ?_
          try simp only [Act.put, List.setIfInBounds_toArray, List.set_cons_zero, List.set_cons_succ]
          refine wpAnyH_take (i := 14) (oi := ⟨some 91, _, _, _, _, _⟩) (v := ?_) rfl (by kernel_rfl) (by kernel_rfl) (by kernel_rfl) (fun _ _ _ h => h) (Or.inl ⟨by rfl, by (intro w hSw; (try dsimp only at hSw); go_simp; try with_reducible rfl)⟩) hHeld ?_
          try simp only [Act.put, List.setIfInBounds_toArray, List.set_cons_zero, List.set_cons_succ]
          refine wpAnyH_take (i := 15) (oi := ⟨some 92, _, _, _, _, _⟩) (v := ?_) rfl (by kernel_rfl) (by kernel_rfl) (by kernel_rfl) (fun _ _ _ h => h) (Or.inl ⟨by rfl, by (intro w hSw; (try dsimp only at hSw); go_simp; try with_reducible rfl)⟩) hHeld ?_
          try simp only [Act.put, List.setIfInBounds_toArray, List.set_cons_zero, List.set_cons_succ]
          refine wpAnyH_take (i := 16) (oi := ⟨some 93, _, _, _, _, _⟩) (v := ?_) rfl (by kernel_rfl) (by kernel_rfl) (by kernel_rfl) (fun _ _ _ h => h) (Or.inl ⟨by rfl, by (intro w hSw; (try dsimp only at hSw); go_simp; try with_reducible rfl)⟩) hHeld ?_
          try simp only [Act.put, List.setIfInBounds_toArray, List.set_cons_zero, List.set_cons_succ]
          refine wpAnyH_take (i := 18) (oi := ⟨some 95, _, _, _, _, _⟩) (v := ?_) rfl (by kernel_rfl) (by kernel_rfl) (by kernel_rfl) (fun _ _ _ h => h) (Or.inl ⟨by rfl, by (intro w hSw; (try dsimp only at hSw); go_simp; try with_reducible rfl)⟩) hHeld ?_
          try simp only [Act.put, List.setIfInBounds_toArray, List.set_cons_zero, List.set_cons_succ]
          refine wpAnyH_take (i := 19) (oi := ⟨some 96, _, _, _, _, _⟩) (v := ?_) rfl (by kernel_rfl) (by kernel_rfl) (by kernel_rfl) (fun _ _ _ h => h) (Or.inl ⟨by rfl, by (intro w hSw; (try dsimp only at hSw); go_simp; try with_reducible rfl)⟩) hHeld ?_
          try simp only [Act.put, List.setIfInBounds_toArray, List.set_cons_zero, List.set_cons_succ]
          refine wpAnyH_ready (rs := [17, 20]) (by kernel_rfl) (by simp) ?_
          refine AllReadyH.cons (o := ⟨some 94, _, _, _, _, _⟩) rfl (fun K hK => ?_) ?_
          · go_simp
            refine (KAy.out _ HG2.out).mono ?_
            rintro ze wc3 ⟨⟨oB, nB, cB, rfl, hsB⟩, hbn⟩
            try go_simp
            have HG3 := Lib.hid (HG2.out.trans (hbn.mono HG2.out.size))
            have HW3 := Lib.hid (Ow.later HW2.out hbn)
            have HAV := Lib.hid (Av.above hsB HW2.out)
            have HB3 := Lib.hid hsB
            clear hsB
            refine hK.out _ _ (mkS.out _ HG3.out) (fun hHeld2 => ?_)
            clear hK K hHeld
            have hHeld := hHeld2
            clear hHeld2
            clear hbn
            try simp only [Act.put, List.setIfInBounds_toArray, List.set_cons_zero, List.set_cons_succ]
            refine wpAnyH_ready (rs := [20]) (by kernel_rfl) (by simp) ?_
            refine AllReadyH.cons (o := ⟨some 97, _, _, _, _, _⟩) rfl (fun K hK => ?_) ?_
            · go_simp
              have hbn := alloc_below wc3 (.cells #[.int .u64 (id : Int)] 29)
              have HG4 := Lib.hid (HG3.out.trans (hbn.mono HG3.out.size))
              have HW4 := Lib.hid (Ow.later HW3.out hbn)
              have HB4 := Lib.hid (Sl.later HB3.out hbn)
              have HO4 := Lib.hid (sl_one wc3 id 0 (Nat.zero_le _))
              refine hK.out _ _ (mkS.out _ HG4.out) (fun hHeld2 => ?_)
              clear hK K hHeld
              have hHeld := hHeld2
              clear hHeld2
              clear hbn
              try simp only [Act.put, List.setIfInBounds_toArray, List.set_cons_zero, List.set_cons_succ]
              generalize wc3.alloc (.cells #[.int .u64 (id : Int)] 29) = wc4 at *
              generalize wc3.heap.size = gS at *
              refine wpAnyH_ready (rs := [21]) (by kernel_rfl) (by simp) ?_
              refine AllReadyH.cons (o := ⟨some 98, _, _, _, _, _⟩) rfl (fun K hK => ?_) ?_
              · obtain ⟨o6, n6, c6, wc5, hr6, ho6, hg6⟩ := KAP.out wc4 gS HW4.out HO4.out HG4.out.size
                refine wp_append_at (.tmp 95) (.tmp 97) rfl rfl rfl hr6 ?_
                have HV5 := Lib.hid ho6
                have HG5 := Lib.hid (HG4.out.grown hg6 HG4.out.size (fun k hk => (HW4.out.lt k hk).1))
                have HB5 := Lib.hid (HB4.out.grown hg6 HAV.out)
                refine hK.out _ _ (mkS.out _ HG5.out) (fun hHeld2 => ?_)
                clear hK K hHeld
                have hHeld := hHeld2
                clear hHeld2
                clear hr6 ho6 hg6
                try simp only [Act.put, List.setIfInBounds_toArray, List.set_cons_zero, List.set_cons_succ]
                refine wpAnyH_ready (rs := [22]) (by kernel_rfl) (by simp) ?_
                refine AllReadyH.cons (o := ⟨some 99, _, _, _, _, _⟩) rfl (fun K hK => ?_) ?_
                · go_simp
                  refine (KE2.out _ _ _ _ _ HB5.out HV5.out.sl).mono ?_
                  rintro ze wc6 ⟨rfl, hbn⟩
                  try go_simp
                  have HG6 := Lib.hid (HG5.out.trans (hbn.mono HG5.out.size))
                  have HB6 := Lib.hid (Sl.later HB5.out hbn)
                  have HV6 := Lib.hid (Ow.later HV5.out hbn)
                  refine hK.out _ _ (mkS.out _ HG6.out) (fun hHeld2 => ?_)
                  clear hK K hHeld
                  have hHeld := hHeld2
                  clear hHeld2
                  clear hbn
                  try simp only [Act.put, List.setIfInBounds_toArray, List.set_cons_zero, List.set_cons_succ]
                  refine wpAnyH_take (i := 23) (oi := ⟨some 100, _, _, _, _, _⟩) (v := ?_) rfl (by kernel_rfl) (by kernel_rfl) (by kernel_rfl) (fun _ _ _ h => h) (Or.inl ⟨by rfl, by (intro w hSw; (try dsimp only at hSw); go_simp; try with_reducible rfl)⟩) hHeld ?_
                  try simp only [Act.put, List.setIfInBounds_toArray, List.set_cons_zero, List.set_cons_succ]
                  refine wpAnyH_take (i := 24) (oi := ⟨some 101, _, _, _, _, _⟩) (v := ?_) rfl (by kernel_rfl) (by kernel_rfl) (by kernel_rfl) (fun _ _ _ h => h) (Or.inl ⟨by rfl, by (intro w hSw; (try dsimp only at hSw); go_simp; try with_reducible rfl)⟩) hHeld ?_
                  try simp only [Act.put, List.setIfInBounds_toArray, List.set_cons_zero, List.set_cons_succ]
                  refine wpAnyH_take (i := 25) (oi := ⟨some 102, _, _, _, _, _⟩) (v := ?_) rfl (by kernel_rfl) (by kernel_rfl) (by kernel_rfl) (fun _ _ _ h => h) (Or.inl ⟨by rfl, by (intro w hSw; (try dsimp only at hSw); go_simp; try with_reducible rfl)⟩) hHeld ?_
                  try simp only [Act.put, List.setIfInBounds_toArray, List.set_cons_zero, List.set_cons_succ]
                  refine wpAnyH_take (i := 27) (oi := ⟨some 104, _, _, _, _, _⟩) (v := ?_) rfl (by kernel_rfl) (by kernel_rfl) (by kernel_rfl) (fun _ _ _ h => h) (Or.inl ⟨by rfl, by (intro w hSw; (try dsimp only at hSw); go_simp; try with_reducible rfl)⟩) hHeld ?_
                  try simp only [Act.put, List.setIfInBounds_toArray, List.set_cons_zero, List.set_cons_succ]
                  refine wpAnyH_take (i := 28) (oi := ⟨some 105, _, _, _, _, _⟩) (v := ?_) rfl (by kernel_rfl) (by kernel_rfl) (by kernel_rfl) (fun _ _ _ h => h) (Or.inl ⟨by rfl, by (intro w hSw; (try dsimp only at hSw); go_simp; try with_reducible rfl)⟩) hHeld ?_
                  try simp only [Act.put, List.setIfInBounds_toArray, List.set_cons_zero, List.set_cons_succ]
                  refine wpAnyH_ready (rs := [26]) (by kernel_rfl) (by simp) ?_
                  refine AllReadyH.cons (o := ⟨some 103, _, _, _, _, _⟩) rfl (fun K hK => ?_) ?_
                  · go_simp
                    refine (K10.out _).mono ?_
                    rintro ze wc7 ⟨rfl, hbn⟩
                    try go_simp
                    have HG7 := Lib.hid (HG6.out.trans (hbn.mono HG6.out.size))
                    refine hK.out _ _ (mkS.out _ HG7.out) (fun hHeld2 => ?_)
                    clear hK K hHeld
                    have hHeld := hHeld2
                    clear hHeld2
                    clear hbn
                    try simp only [Act.put, List.setIfInBounds_toArray, List.set_cons_zero, List.set_cons_succ]
                    refine wpAnyH_take (i := 29) (oi := ⟨some 106, _, _, _, _, _⟩) (v := ?_) rfl (by kernel_rfl) (by kernel_rfl) (by kernel_rfl) (fun _ _ _ h => h) (Or.inl ⟨by rfl, by (intro w hSw; (try dsimp only at hSw); go_simp; try with_reducible rfl)⟩) hHeld ?_
                    try simp only [Act.put, List.setIfInBounds_toArray, List.set_cons_zero, List.set_cons_succ]
                    refine wpAnyH_take (i := 30) (oi := ⟨some 107, _, _, _, _, _⟩) (v := ?_) rfl (by kernel_rfl) (by kernel_rfl) (by kernel_rfl) (fun _ _ _ h => h) (Or.inl ⟨by rfl, by (intro w hSw; (try dsimp only at hSw); go_simp; try with_reducible rfl)⟩) hHeld ?_
                    try simp only [Act.put, List.setIfInBounds_toArray, List.set_cons_zero, List.set_cons_succ]
                    refine wpAnyH_take (i := 31) (oi := ⟨some 108, _, _, _, _, _⟩) (v := ?_) rfl (by kernel_rfl) (by kernel_rfl) (by kernel_rfl) (fun _ _ _ h => h) (Or.inl ⟨by rfl, by (intro w hSw; (try dsimp only at hSw); go_simp; try with_reducible rfl)⟩) hHeld ?_
                    try simp only [Act.put, List.setIfInBounds_toArray, List.set_cons_zero, List.set_cons_succ]
                    refine wpAnyH_take (i := 32) (oi := ⟨some 109, _, _, _, _, _⟩) (v := ?_) rfl (by kernel_rfl) (by kernel_rfl) (by kernel_rfl) (fun _ _ _ h => h) (Or.inl ⟨by rfl, by (intro w hSw; (try dsimp only at hSw); go_simp; try with_reducible rfl)⟩) hHeld ?_
                    try simp only [Act.put, List.setIfInBounds_toArray, List.set_cons_zero, List.set_cons_succ]
                    refine wpAnyH_take (i := 34) (oi := ⟨some 111, _, _, _, _, _⟩) (v := ?_) rfl (by kernel_rfl) (by kernel_rfl) (by kernel_rfl) (fun _ _ _ h => h) (Or.inl ⟨by rfl, by (intro w hSw; (try dsimp only at hSw); go_simp; try with_reducible rfl)⟩) hHeld ?_
                    try simp only [Act.put, List.setIfInBounds_toArray, List.set_cons_zero, List.set_cons_succ]
                    refine wpAnyH_ready (rs := [33]) (by kernel_rfl) (by simp) ?_
                    refine AllReadyH.cons (o := ⟨some 110, _, _, _, _, _⟩) rfl (fun K hK => ?_) ?_
                    · go_simp
                      refine (KAq.out _ HG7.out).mono ?_
                      rintro ze wc8 ⟨⟨oQ, nQ, cQ, rfl, hsQ⟩, hbn⟩
                      try go_simp
                      have HG8 := Lib.hid (HG7.out.trans (hbn.mono HG7.out.size))
                      have HQ8 := Lib.hid hsQ
                      clear hsQ
                      refine hK.out _ _ (mkS.out _ HG8.out) (fun hHeld2 => ?_)
                      clear hK K hHeld
                      have hHeld := hHeld2
                      clear hHeld2
                      clear hbn
                      try simp only [Act.put, List.setIfInBounds_toArray, List.set_cons_zero, List.set_cons_succ]
                      refine wpAnyH_ready (rs := [35]) (by kernel_rfl) (by simp) ?_
                      refine AllReadyH.cons (o := ⟨some 112, _, _, _, _, _⟩) rfl (fun K hK => ?_) ?_
                      · go_simp
                        refine (KE3.out _ _ _ _ _ HQ8.out (HDr.out.a.later HG8.out)).mono ?_
                        rintro ze wc9 ⟨rfl, hbn⟩
                        try go_simp
                        have HG9 := Lib.hid (HG8.out.trans (hbn.mono HG8.out.size))
                        have HQ9 := Lib.hid (Sl.later HQ8.out hbn)
                        refine hK.out _ _ (mkS.out _ HG9.out) (fun hHeld2 => ?_)
                        clear hK K hHeld
                        have hHeld := hHeld2
                        clear hHeld2
                        clear hbn
                        try simp only [Act.put, List.setIfInBounds_toArray, List.set_cons_zero, List.set_cons_succ]
                        refine wpAnyH_take (i := 36) (oi := ⟨some 113, _, _, _, _, _⟩) (v := ?_) rfl (by kernel_rfl) (by kernel_rfl) (by kernel_rfl) (fun _ _ _ h => h) (Or.inl ⟨by rfl, by (intro w hSw; (try dsimp only at hSw); go_simp; try with_reducible rfl)⟩) hHeld ?_
                        try simp only [Act.put, List.setIfInBounds_toArray, List.set_cons_zero, List.set_cons_succ]
                        refine wpAnyH_take (i := 37) (oi := ⟨some 4, _, _, _, _, _⟩) (v := ?_) rfl (by kernel_rfl) (by kernel_rfl) (by kernel_rfl) (fun _ _ _ h => h) (Or.inl ⟨by rfl, by (intro w hSw; (try dsimp only at hSw); go_simp; try with_reducible rfl)⟩) hHeld ?_
                        try simp only [Act.put, List.setIfInBounds_toArray, List.set_cons_zero, List.set_cons_succ]
                        refine wpAnyH_done (by kernel_rfl) ?_ _
                        simp only [Exit.then]
                        apply_assumption
                        have HF := Lib.hid (bel HDr.out.b HG9.out)
                        go_wp2
                        go_ret
                        exact ⟨rfl, HF.out⟩
                      · exact AllReadyH.nil
                    · exact AllReadyH.nil
                  · exact AllReadyH.nil
                · exact AllReadyH.nil
              · exact AllReadyH.nil
            · exact AllReadyH.nil
          · refine AllReadyH.cons (o := ⟨some 97, _, _, _, _, _⟩) rfl (fun K hK => ?_) ?_
            · go_simp
              have hbn := alloc_below wc2 (.cells #[.int .u64 (id : Int)] 29)
              have HG3 := Lib.hid (HG2.out.trans (hbn.mono HG2.out.size))
              have HW3 := Lib.hid (Ow.later HW2.out hbn)
              have HO3 := Lib.hid (sl_one wc2 id 0 (Nat.zero_le _))
              refine hK.out _ _ (mkS.out _ HG3.out) (fun hHeld2 => ?_)
              clear hK K hHeld
              have hHeld := hHeld2
              clear hHeld2
              clear hbn
              try simp only [Act.put, List.setIfInBounds_toArray, List.set_cons_zero, List.set_cons_succ]
              generalize wc2.alloc (.cells #[.int .u64 (id : Int)] 29) = wc3 at *
              generalize wc2.heap.size = gS at *
              refine wpAnyH_ready (rs := [17]) (by kernel_rfl) (by simp) ?_
              refine AllReadyH.cons (o := ⟨some 94, _, _, _, _, _⟩) rfl (fun K hK => ?_) ?_
              · go_simp
                refine (KAy.out _ HG3.out).mono ?_
                rintro ze wc4 ⟨⟨oB, nB, cB, rfl, hsB⟩, hbn⟩
                try go_simp
                have HG4 := Lib.hid (HG3.out.trans (hbn.mono HG3.out.size))
                have HW4 := Lib.hid (Ow.later HW3.out hbn)
                have HO4 := Lib.hid (Sl.later HO3.out hbn)
                have HAV := Lib.hid (Av.above hsB HW3.out)
                have HB4 := Lib.hid hsB
                clear hsB
                refine hK.out _ _ (mkS.out _ HG4.out) (fun hHeld2 => ?_)
                clear hK K hHeld
                have hHeld := hHeld2
                clear hHeld2
                clear hbn
                try simp only [Act.put, List.setIfInBounds_toArray, List.set_cons_zero, List.set_cons_succ]
                refine wpAnyH_ready (rs := [21]) (by kernel_rfl) (by simp) ?_
                refine AllReadyH.cons (o := ⟨some 98, _, _, _, _, _⟩) rfl (fun K hK => ?_) ?_
                · obtain ⟨o6, n6, c6, wc5, hr6, ho6, hg6⟩ := KAP.out wc4 gS HW4.out HO4.out HG4.out.size
                  refine wp_append_at (.tmp 95) (.tmp 97) rfl rfl rfl hr6 ?_
                  have HV5 := Lib.hid ho6
                  have HG5 := Lib.hid (HG4.out.grown hg6 HG4.out.size (fun k hk => (HW4.out.lt k hk).1))
                  have HB5 := Lib.hid (HB4.out.grown hg6 HAV.out)
                  refine hK.out _ _ (mkS.out _ HG5.out) (fun hHeld2 => ?_)
                  clear hK K hHeld
                  have hHeld := hHeld2
                  clear hHeld2
                  clear hr6 ho6 hg6
                  try simp only [Act.put, List.setIfInBounds_toArray, List.set_cons_zero, List.set_cons_succ]
                  refine wpAnyH_ready (rs := [22]) (by kernel_rfl) (by simp) ?_
                  refine AllReadyH.cons (o := ⟨some 99, _, _, _, _, _⟩) rfl (fun K hK => ?_) ?_
                  · go_simp
                    refine (KE2.out _ _ _ _ _ HB5.out HV5.out.sl).mono ?_
                    rintro ze wc6 ⟨rfl, hbn⟩
                    try go_simp
                    have HG6 := Lib.hid (HG5.out.trans (hbn.mono HG5.out.size))
                    have HB6 := Lib.hid (Sl.later HB5.out hbn)
                    have HV6 := Lib.hid (Ow.later HV5.out hbn)
                    refine hK.out _ _ (mkS.out _ HG6.out) (fun hHeld2 => ?_)
                    clear hK K hHeld
                    have hHeld := hHeld2
                    clear hHeld2
                    clear hbn
                    try simp only [Act.put, List.setIfInBounds_toArray, List.set_cons_zero, List.set_cons_succ]
                    refine wpAnyH_take (i := 23) (oi := ⟨some 100, _, _, _, _, _⟩) (v := ?_) rfl (by kernel_rfl) (by kernel_rfl) (by kernel_rfl) (fun _ _ _ h => h) (Or.inl ⟨by rfl, by (intro w hSw; (try dsimp only at hSw); go_simp; try with_reducible rfl)⟩) hHeld ?_
                    try simp only [Act.put, List.setIfInBounds_toArray, List.set_cons_zero, List.set_cons_succ]
                    refine wpAnyH_take (i := 24) (oi := ⟨some 101, _, _, _, _, _⟩) (v := ?_) rfl (by kernel_rfl) (by kernel_rfl) (by kernel_rfl) (fun _ _ _ h => h) (Or.inl ⟨by rfl, by (intro w hSw; (try dsimp only at hSw); go_simp; try with_reducible rfl)⟩) hHeld ?_
                    try simp only [Act.put, List.setIfInBounds_toArray, List.set_cons_zero, List.set_cons_succ]
                    refine wpAnyH_take (i := 25) (oi := ⟨some 102, _, _, _, _, _⟩) (v := ?_) rfl (by kernel_rfl) (by kernel_rfl) (by kernel_rfl) (fun _ _ _ h => h) (Or.inl ⟨by rfl, by (intro w hSw; (try dsimp only at hSw); go_simp; try with_reducible rfl)⟩) hHeld ?_
                    try simp only [Act.put, List.setIfInBounds_toArray, List.set_cons_zero, List.set_cons_succ]
                    refine wpAnyH_take (i := 27) (oi := ⟨some 104, _, _, _, _, _⟩) (v := ?_) rfl (by kernel_rfl) (by kernel_rfl) (by kernel_rfl) (fun _ _ _ h => h) (Or.inl ⟨by rfl, by (intro w hSw; (try dsimp only at hSw); go_simp; try with_reducible rfl)⟩) hHeld ?_
                    try simp only [Act.put, List.setIfInBounds_toArray, List.set_cons_zero, List.set_cons_succ]
                    refine wpAnyH_take (i := 28) (oi := ⟨some 105, _, _, _, _, _⟩) (v := ?_) rfl (by kernel_rfl) (by kernel_rfl) (by kernel_rfl) (fun _ _ _ h => h) (Or.inl ⟨by rfl, by (intro w hSw; (try dsimp only at hSw); go_simp; try with_reducible rfl)⟩) hHeld ?_
                    try simp only [Act.put, List.setIfInBounds_toArray, List.set_cons_zero, List.set_cons_succ]
                    refine wpAnyH_ready (rs := [26]) (by kernel_rfl) (by simp) ?_
                    refine AllReadyH.cons (o := ⟨some 103, _, _, _, _, _⟩) rfl (fun K hK => ?_) ?_
                    · go_simp
                      refine (K10.out _).mono ?_
                      rintro ze wc7 ⟨rfl, hbn⟩
                      try go_simp
                      have HG7 := Lib.hid (HG6.out.trans (hbn.mono HG6.out.size))
                      refine hK.out _ _ (mkS.out _ HG7.out) (fun hHeld2 => ?_)
                      clear hK K hHeld
                      have hHeld := hHeld2
                      clear hHeld2
                      clear hbn
                      try simp only [Act.put, List.setIfInBounds_toArray, List.set_cons_zero, List.set_cons_succ]
                      refine wpAnyH_take (i := 29) (oi := ⟨some 106, _, _, _, _, _⟩) (v := ?_) rfl (by kernel_rfl) (by kernel_rfl) (by kernel_rfl) (fun _ _ _ h => h) (Or.inl ⟨by rfl, by (intro w hSw; (try dsimp only at hSw); go_simp; try with_reducible rfl)⟩) hHeld ?_
                      try simp only [Act.put, List.setIfInBounds_toArray, List.set_cons_zero, List.set_cons_succ]
                      refine wpAnyH_take (i := 30) (oi := ⟨some 107, _, _, _, _, _⟩) (v := ?_) rfl (by kernel_rfl) (by kernel_rfl) (by kernel_rfl) (fun _ _ _ h => h) (Or.inl ⟨by rfl, by (intro w hSw; (try dsimp only at hSw); go_simp; try with_reducible rfl)⟩) hHeld ?_
                      try simp only [Act.put, List.setIfInBounds_toArray, List.set_cons_zero, List.set_cons_succ]
                      refine wpAnyH_take (i := 31) (oi := ⟨some 108, _, _, _, _, _⟩) (v := ?_) rfl (by kernel_rfl) (by kernel_rfl) (by kernel_rfl) (fun _ _ _ h => h) (Or.inl ⟨by rfl, by (intro w hSw; (try dsimp only at hSw); go_simp; try with_reducible rfl)⟩) hHeld ?_
                      try simp only [Act.put, List.setIfInBounds_toArray, List.set_cons_zero, List.set_cons_succ]
                      refine wpAnyH_take (i := 32) (oi := ⟨some 109, _, _, _, _, _⟩) (v := ?_) rfl (by kernel_rfl) (by kernel_rfl) (by kernel_rfl) (fun _ _ _ h => h) (Or.inl ⟨by rfl, by (intro w hSw; (try dsimp only at hSw); go_simp; try with_reducible rfl)⟩) hHeld ?_
                      try simp only [Act.put, List.setIfInBounds_toArray, List.set_cons_zero, List.set_cons_succ]
                      refine wpAnyH_take (i := 34) (oi := ⟨some 111, _, _, _, _, _⟩) (v := ?_) rfl (by kernel_rfl) (by kernel_rfl) (by kernel_rfl) (fun _ _ _ h => h) (Or.inl ⟨by rfl, by (intro w hSw; (try dsimp only at hSw); go_simp; try with_reducible rfl)⟩) hHeld ?_
                      try simp only [Act.put, List.setIfInBounds_toArray, List.set_cons_zero, List.set_cons_succ]
                      refine wpAnyH_ready (rs := [33]) (by kernel_rfl) (by simp) ?_
                      refine AllReadyH.cons (o := ⟨some 110, _, _, _, _, _⟩) rfl (fun K hK => ?_) ?_
                      · go_simp
                        refine (KAq.out _ HG7.out).mono ?_
                        rintro ze wc8 ⟨⟨oQ, nQ, cQ, rfl, hsQ⟩, hbn⟩
                        try go_simp
                        have HG8 := Lib.hid (HG7.out.trans (hbn.mono HG7.out.size))
                        have HQ8 := Lib.hid hsQ
                        clear hsQ
                        refine hK.out _ _ (mkS.out _ HG8.out) (fun hHeld2 => ?_)
                        clear hK K hHeld
                        have hHeld := hHeld2
                        clear hHeld2
                        clear hbn
                        try simp only [Act.put, List.setIfInBounds_toArray, List.set_cons_zero, List.set_cons_succ]
                        refine wpAnyH_ready (rs := [35]) (by kernel_rfl) (by simp) ?_
                        refine AllReadyH.cons (o := ⟨some 112, _, _, _, _, _⟩) rfl (fun K hK => ?_) ?_
                        · go_simp
                          refine (KE3.out _ _ _ _ _ HQ8.out (HDr.out.a.later HG8.out)).mono ?_
                          rintro ze wc9 ⟨rfl, hbn⟩
                          try go_simp
                          have HG9 := Lib.hid (HG8.out.trans (hbn.mono HG8.out.size))
                          have HQ9 := Lib.hid (Sl.later HQ8.out hbn)
                          refine hK.out _ _ (mkS.out _ HG9.out) (fun hHeld2 => ?_)
                          clear hK K hHeld
                          have hHeld := hHeld2
                          clear hHeld2
                          clear hbn
                          try simp only [Act.put, List.setIfInBounds_toArray, List.set_cons_zero, List.set_cons_succ]
                          refine wpAnyH_take (i := 36) (oi := ⟨some 113, _, _, _, _, _⟩) (v := ?_) rfl (by kernel_rfl) (by kernel_rfl) (by kernel_rfl) (fun _ _ _ h => h) (Or.inl ⟨by rfl, by (intro w hSw; (try dsimp only at hSw); go_simp; try with_reducible rfl)⟩) hHeld ?_
                          try simp only [Act.put, List.setIfInBounds_toArray, List.set_cons_zero, List.set_cons_succ]
                          refine wpAnyH_take (i := 37) (oi := ⟨some 4, _, _, _, _, _⟩) (v := ?_) rfl (by kernel_rfl) (by kernel_rfl) (by kernel_rfl) (fun _ _ _ h => h) (Or.inl ⟨by rfl, by (intro w hSw; (try dsimp only at hSw); go_simp; try with_reducible rfl)⟩) hHeld ?_
                          try simp only [Act.put, List.setIfInBounds_toArray, List.set_cons_zero, List.set_cons_succ]
                          refine wpAnyH_done (by kernel_rfl) ?_ _
                          simp only [Exit.then]
                          apply_assumption
                          have HF := Lib.hid (bel HDr.out.b HG9.out)
                          go_wp2
                          go_ret
                          exact ⟨rfl, HF.out⟩
                        · exact AllReadyH.nil
                      · exact AllReadyH.nil
                    · exact AllReadyH.nil
                  · exact AllReadyH.nil
                · exact AllReadyH.nil
              · exact AllReadyH.nil
            · exact AllReadyH.nil
        · exact AllReadyH.nil
      · exact AllReadyH.nil
end Go.Proofs.Ytifacilidoaeoaa
