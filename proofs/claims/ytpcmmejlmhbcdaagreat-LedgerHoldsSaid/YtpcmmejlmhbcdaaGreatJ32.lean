/- The chapter's example; an act's text.; Layer 16's awake, out of what Died makes of an empty ledger.; Layer 16's awake; a ledger in a box; the law LedgerHolds, plainly.; The law LedgerHolds: acts, == of prints; the loop's frame, and what holds at each turn. -/
import Derived.Test.YtpcmmejlmhbcdaaGreatJ31
import Derived.Test.YtpcmmejlmhbcdaaGreatJ11
import Derived.Test.YtpcmmejlmhbcdaaGreatJ17
import Derived.Test.YtpcmmejlmhbcdaaGreatJ10
import Derived.ChangeKeysEq
set_option linter.unusedVariables false
set_option linter.unusedSimpArgs false
namespace Go.Proofs.YtpcmmejlmhbcdaaGreat.Fi
open Go.RowKit Dk

set_option maxRecDepth 1000000 in
theorem awake_any (w : World) : Calls Tryz.prog 55 #[] w fun e w' => e = .returned (.bool true) ∧ Below w.heap.size w w' := by
  have K7 := Lib.hid (fun w => seal_any ⟨#[97]⟩ (by decide) w)
  have hs : (⟨#[97]⟩ : ByteArray).data.toList = [97] := rfl
  rw [hs] at K7
  have hz : (W.str (sealL [97])).size ≤ 100000 := by
    rw [W.size_str, sealL_len]
    have := (preL_len [97] (by decide)).1
    simp at this
    omega
  have K8 := Lib.hid (fun w => open_any (W.str (sealL [97])) hz w)
  have ho : opV (W.str (sealL [97])) = .tuple #[.string ⟨#[97]⟩, .int .i64 0] := by
    unfold opV
    have : opnL (W.str (sealL [97])).data.toList = some [97] := opn_seal [97] (by decide)
    rw [this]
    rfl
  rw [ho] at K8
  have K24 : Hid (∀ w, Calls Tryz.prog 82 #[] w fun e w' => e = .returned (.bool true) ∧ Below w.heap.size w w') := Lib.hid (fun w => by
    go_enter Tryz.func82, Tryz.ntmps82
    go_wp2_with (first | (go_at_call 107; go_must (refine (W.awake_any _).mono ?_); rintro e w1 ⟨rfl, hb1⟩))
    go_ret
    exact ⟨rfl, hb1⟩)
  have K25 : Hid (∀ w, Calls Tryz.prog 83 #[] w fun e w' => e = .returned (.bool true) ∧ Below w.heap.size w w') := Lib.hid (fun w => by
    go_enter Tryz.func83, Tryz.ntmps83
    go_wp2_with (first | (go_at_call 108; go_must (refine (Dg.awake_sum _).mono ?_); rintro e w1 ⟨rfl, hb1⟩))
    go_ret
    exact ⟨rfl, hb1⟩)
  have K26 : Hid (∀ w, Calls Tryz.prog 84 #[] w fun e w' => e = .returned (.bool true) ∧ Below w.heap.size w w') := Lib.hid (fun w => by
    go_enter Tryz.func84, Tryz.ntmps84
    go_wp2_with (first | (go_at_call 109; go_must (refine (Dk.awake_any _).mono ?_); rintro e w1 ⟨rfl, hb1⟩))
    go_ret
    exact ⟨rfl, hb1⟩)
  have K27 : Hid (∀ w, Calls Tryz.prog 85 #[] w fun e w' => e = .returned (.int .i64 4) ∧ w' = w) := Lib.hid (fun w => by
    go_enter Tryz.func85, Tryz.ntmps85
    go_wp2
    go_ret
    exact ⟨rfl, rfl⟩)
  generalize W.str (sealL [97]) = s at *
  clear hs hz ho
  go_enter Tryz.func55, Tryz.ntmps55
  go_wp2_with (first
    | (go_at_call 71; ((with_reducible refine (K7.out _).mono ?_); rintro e w1 ⟨rfl, hb1⟩))
    | (go_at_call 80; ((with_reducible refine (K8.out _).mono ?_); rintro e w2 ⟨rfl, hb2⟩))
    | (go_at_call 82; ((with_reducible refine (K24.out _).mono ?_); rintro e w3 ⟨rfl, hb3⟩))
    | (go_at_call 83; ((with_reducible refine (K25.out _).mono ?_); rintro e w4 ⟨rfl, hb4⟩))
    | (go_at_call 84; ((with_reducible refine (K26.out _).mono ?_); rintro e w5 ⟨rfl, hb5⟩))
    | (go_at_call 85; ((with_reducible refine (K27.out _).mono ?_); rintro e w6 ⟨rfl, hw6⟩; subst hw6)))
  go_ret
  have c2 := hb1.trans (hb2.mono hb1.size)
  have c3 := c2.trans (hb3.mono c2.size)
  have c4 := c3.trans (hb4.mono c3.size)
  exact ⟨rfl, c4.trans (hb5.mono c4.size)⟩

/-- An act's cells. -/
def actC (a b : ByteArray) (n bb : Nat) (cl : Bool) (f : Int) : Array Value := #[.string a, .string b, .int .u16 (n : Int), .int .u8 (bb : Int), .bool cl, .int .i8 f]
end Go.Proofs.YtpcmmejlmhbcdaaGreat.Fi

namespace Go.Proofs.YtpcmmejlmhbcdaaGreat
open Go.RowKit

theorem awake7u_any (w : World) : Calls Tryz.prog 30 #[] w fun e w' => e = .returned (.bool true) ∧ Below w.heap.size w w' := by
  have K := Lib.hid (fun w => Cd.awake7_any w)
  go_enter Tryz.func30, Tryz.ntmps30
  go_wp2_with (first | (go_at_call 54; ((with_reducible refine (K.out _).mono ?_); rintro e w1 ⟨rfl, hb1⟩)))
  go_ret
  exact ⟨rfl, hb1⟩
theorem awake14u_any (w : World) : Calls Tryz.prog 31 #[] w fun e w' => e = .returned (.bool true) ∧ Below w.heap.size w w' := by
  have K := Lib.hid (fun w => Fi.awake_any w)
  go_enter Tryz.func31, Tryz.ntmps31
  go_wp2_with (first | (go_at_call 55; ((with_reducible refine (K.out _).mono ?_); rintro e w1 ⟨rfl, hb1⟩)))
  go_ret
  exact ⟨rfl, hb1⟩
theorem ec_first (x : Nat) (hx : x < 256) (d : Nat) (h : Bool) : (ec ⟨pk x, d, h⟩).toArray = #[.int .u8 (x : Int), .int .u8 0, .int .u8 0, .int .u8 0, .int .u8 0, .int .u8 0, .int .u8 0, .int .u8 0, .int .u8 0, .int .u8 0, .int .u8 0, .int .u8 0, .int .u8 0, .int .u8 0, .int .u8 0, .int .u8 0, .int .i64 (d : Int), .bool h] := by
  have e : pc (pk x) = (#[.int .u8 (x : Int), .int .u8 0, .int .u8 0, .int .u8 0, .int .u8 0, .int .u8 0, .int .u8 0, .int .u8 0, .int .u8 0, .int .u8 0, .int .u8 0, .int .u8 0, .int .u8 0, .int .u8 0, .int .u8 0, .int .u8 0] : Array Value).toList := by rw [← pc_first x hx]
  unfold ec
  rw [show (⟨pk x, d, h⟩ : En).k = pk x from rfl, e]
  rfl
theorem SlE.len {w : World} {o : Option Addr} {m c : Nat} {L : List En} (h : SlE w (.slice o m c) L) : m = L.length := by
  rcases h with ⟨h, rfl⟩ | ⟨b, off, cap, h, _⟩
  · cases h; rfl
  · cases h; rfl
theorem field_one (w : World) : (Instr.field 46 (.agg #[.int .u8 1, .int .u8 0, .int .u8 0, .int .u8 0, .int .u8 0, .int .u8 0, .int .u8 0, .int .u8 0, .int .u8 0, .int .u8 0, .int .u8 0, .int .u8 0, .int .u8 0, .int .u8 0, .int .u8 0, .int .u8 0, .int .i64 1, .bool true]) 2).run Tryz.prog w = .ok (.bool true) w := by kernel_rfl
theorem field_none (w : World) : (Instr.field 46 (.agg #[.int .u8 1, .int .u8 0, .int .u8 0, .int .u8 0, .int .u8 0, .int .u8 0, .int .u8 0, .int .u8 0, .int .u8 0, .int .u8 0, .int .u8 0, .int .u8 0, .int .u8 0, .int .u8 0, .int .u8 0, .int .u8 0, .int .i64 0, .bool false]) 2).run Tryz.prog w = .ok (.bool false) w := by kernel_rfl
set_option maxRecDepth 100000 in
set_option maxHeartbeats 4000000 in
theorem awake16_of (K : ∀ w, Calls Tryz.prog 14 #[.agg #[.slice none 0 0], .agg (pc (pk 1)).toArray, .int .i64 1] w fun e w' => (∃ o m c, e = .returned (.tuple #[.agg #[.slice o m c], .int .i64 0]) ∧ SlE w' (.slice o m c) [⟨pk 1, 1, true⟩]) ∧ Below w.heap.size w w') (w : World) :
    Calls Tryz.prog 8 #[] w fun e w' => e = .returned (.bool true) ∧ Below w.heap.size w w' := by
  have hp : (pc (pk 1)).toArray = #[.int .u8 1, .int .u8 0, .int .u8 0, .int .u8 0, .int .u8 0, .int .u8 0, .int .u8 0, .int .u8 0, .int .u8 0, .int .u8 0, .int .u8 0, .int .u8 0, .int .u8 0, .int .u8 0, .int .u8 0, .int .u8 0] := pc_first 1 (by omega)
  have he : (ec ⟨pk 1, 1, true⟩).toArray = #[.int .u8 1, .int .u8 0, .int .u8 0, .int .u8 0, .int .u8 0, .int .u8 0, .int .u8 0, .int .u8 0, .int .u8 0, .int .u8 0, .int .u8 0, .int .u8 0, .int .u8 0, .int .u8 0, .int .u8 0, .int .u8 0, .int .i64 1, .bool true] := ec_first 1 (by omega) 1 true
  have he0 : (ec ⟨pk 1, 0, false⟩).toArray = #[.int .u8 1, .int .u8 0, .int .u8 0, .int .u8 0, .int .u8 0, .int .u8 0, .int .u8 0, .int .u8 0, .int .u8 0, .int .u8 0, .int .u8 0, .int .u8 0, .int .u8 0, .int .u8 0, .int .u8 0, .int .u8 0, .int .i64 0, .bool false] := ec_first 1 (by omega) 0 false
  have K14 := Lib.hid (fun w => K w)
  rw [hp] at K14
  have K19 : Hid (∀ w o c, SlE w (.slice o 1 c) [⟨pk 1, 1, true⟩] → Calls Tryz.prog 19 #[.agg #[.slice o 1 c], .agg (pc (pk 1)).toArray] w fun e w' => e = .returned (.agg (ec ⟨pk 1, 1, true⟩).toArray) ∧ Below w.heap.size w w') := Lib.hid (fun w o c h => by
    obtain ⟨o2, c2, e2, hr⟩ := h.form
    cases e2
    have hg : get [⟨pk 1, 1, true⟩] (pk 1) = ⟨pk 1, 1, true⟩ := by simp [get]
    have h := get_any [⟨pk 1, 1, true⟩] (List.pairwise_singleton _ _) (fun e he => by cases List.mem_singleton.1 he; exact pk_top 1 (by omega)) (by simp) o c (pk 1) (pk_top 1 (by omega)) w hr
    rw [hg] at h
    exact h)
  have K19n : Hid (∀ w, Calls Tryz.prog 19 #[.agg #[.slice none 0 0], .agg (pc (pk 1)).toArray] w fun e w' => e = .returned (.agg (ec ⟨pk 1, 0, false⟩).toArray) ∧ Below w.heap.size w w') := Lib.hid (fun w => get_any [] List.Pairwise.nil (fun e he => by cases he) (by simp) none 0 (pk 1) (pk_top 1 (by omega)) w (Or.inl rfl))
  rw [hp, he] at K19
  rw [hp, he0] at K19n
  have A7 := Lib.hid awake7u_any
  have A14 := Lib.hid awake14u_any
  clear hp he he0 K
  go_enter Tryz.func8, Tryz.ntmps8
  go_upto_region 2 with (first
    | (go_at_call 14; ((refine (K14.out _).mono ?_); rintro e w1 ⟨⟨o1, m1, c1, rfl, h1⟩, hb1⟩; have hm1 := h1.len; simp only [List.length_singleton] at hm1; subst hm1; have H1 := Lib.hid h1; have HB1 := Lib.hid hb1; clear h1 hb1)))
  have F1 := field_one
  have F0 := field_none
  have HB := Lib.hid (Below.refl (w1.alloc (.cells #[.slice o1 1 c1] 28)).heap.size (w1.alloc (.cells #[.slice o1 1 c1] 28)))
  have HS : Hid (∀ wz, Below (w1.alloc (.cells #[.slice o1 1 c1] 28)).heap.size (w1.alloc (.cells #[.slice o1 1 c1] 28)) wz → SlE wz (.slice o1 1 c1) [⟨pk 1, 1, true⟩]) := Lib.hid (fun wz h => H1.out.later (bt h))
  go_wp2_with (first
    | (go_at_call 30; ((with_reducible refine (A7.out _).mono ?_); rintro e w2 ⟨rfl, hk⟩; replace HB := Lib.hid (HB.out.trans (hk.mono HB.out.size)); have c0 := box_l HB.out; clear hk))
    | (go_at_call 31; ((with_reducible refine (A14.out _).mono ?_); rintro e w2 ⟨rfl, hk⟩; replace HB := Lib.hid (HB.out.trans (hk.mono HB.out.size)); have c0 := box_l HB.out; clear hk))
    | (go_at_call 19; ((with_reducible refine (K19.out _ _ _ (HS.out _ HB.out)).mono ?_); rintro e w2 ⟨rfl, hk⟩; replace HB := Lib.hid (HB.out.trans (hk.mono HB.out.size)); have c0 := box_l HB.out; clear hk))
    | (go_at_call 19; ((with_reducible refine (K19n.out _).mono ?_); rintro e w2 ⟨rfl, hk⟩; replace HB := Lib.hid (HB.out.trans (hk.mono HB.out.size)); clear hk)))
  go_ret
  exact ⟨rfl, HB1.out.trans ((bt HB.out).mono HB1.out.size)⟩
end Go.Proofs.YtpcmmejlmhbcdaaGreat

namespace Go.Proofs.YtpcmmejlmhbcdaaGreat
open Go.RowKit

theorem awake16_any (w : World) : Calls Tryz.prog 8 #[] w fun e w' => e = .returned (.bool true) ∧ Below w.heap.size w w' :=
  awake16_of (fun w => by
    have h := died_any [] (pk 1) 1 (by omega) (by omega) (Or.inr (by simp)) (by simp [get]) none 0 List.Pairwise.nil (fun e he => by cases he) (by simp) (pk_top 1 (by omega)) w (Or.inl ⟨rfl, rfl⟩)
    have e : wi [] (die 1 (get [] (pk 1))) = [⟨pk 1, 1, true⟩] := by simp [get, die, wi, En.tells]
    rw [e] at h
    exact h) w

/-- A ledger in a box of one cell. -/
structure LBx (w : World) (B : Nat) (L : List En) : Prop where
  sl : ∃ o c, w.cell? ⟨B, 0, none⟩ = some (.slice o L.length c) ∧ SlE w (.slice o L.length c) L
  fz : w.frozen? ⟨B, 0, none⟩ = false
  one : ∀ j, 1 ≤ j → w.cell? ⟨B, j, none⟩ = Option.none
  lt : B < w.heap.size
theorem LBx.later {w w' : World} {B : Nat} {L : List En} (h : LBx w B L) (hb : Below w.heap.size w w') : LBx w' B L := by
  obtain ⟨o, c, h1, h2⟩ := h.sl
  exact ⟨⟨o, c, (hb.cell h.lt).trans h1, h2.later hb⟩, (hb.frozen (p := ⟨B, 0, none⟩) h.lt).trans h.fz, fun j hj => (hb.cell (p := ⟨B, j, none⟩) h.lt).trans (h.one j hj), Nat.lt_of_lt_of_le h.lt hb.size⟩
theorem SlE.box {w : World} {v : Value} {L : List En} (h : SlE w v L) {B : Nat} (h1 : ∀ j, 1 ≤ j → w.cell? ⟨B, j, none⟩ = Option.none) (u : Value) : SlE (w.setCell ⟨B, 0, none⟩ u) v L := by
  refine h.other B (fun b off cap n hv h0 hbB => ?_) u
  subst hbB
  rcases h with ⟨h, _⟩ | ⟨b2, o2, c2, h, _, _, hr⟩
  · rw [h] at hv; cases hv
  · rw [h] at hv
    cases hv
    have hl2 : (rc L).length = L.length * 18 := rc_len _
    have hx : ∃ u, (rc L)[1]? = some u := ⟨_, List.getElem?_eq_getElem (by omega)⟩
    obtain ⟨u, hu⟩ := hx
    have h3 := hr 1 u hu
    rw [h1 _ (by omega)] at h3
    cases h3
/-- What a call answers goes into the box. -/
theorem LBx.put {w w' : World} {B : Nat} {L L' : List En} (h : LBx w B L) (hb : Below w.heap.size w w') {o : Option Addr} {m c : Nat} (hs : SlE w' (.slice o m c) L') : LBx (w'.setCell ⟨B, 0, none⟩ (.slice o m c)) B L' := by
  have h2 := h.later hb
  obtain ⟨o1, c1, hc, _⟩ := h2.sl
  have hm := hs.len
  subst hm
  refine ⟨⟨o, c, ?_, hs.box h2.one _⟩, ?_, fun j hj => ?_, ?_⟩
  · apply World.cell?_setCell_same; exact hc
  · rw [World.frozen?_setCell]; exact h2.fz
  · refine Eq.trans ?_ (h2.one j hj)
    apply World.cell?_setCell_other
    intro e; rw [Addr.mk.injEq] at e; omega
  · simpa [World.setCell] using h2.lt

/-- The nine prints of the law. -/
def kk (j : Nat) : Nat := if j = 8 then pk 200 else pk j
theorem kk_lt {i j : Nat} (hi : i < 9) (hj : j < 9) (h : kk i < kk j) : i < j := by
  unfold kk pk at h
  split at h <;> split at h <;> omega
theorem kk_top (j : Nat) (h : j < 9) : kk j < top := by
  unfold kk
  split
  · exact pk_top 200 (by omega)
  · exact pk_top j (by omega)
theorem few {L : List En} : ∀ (a : Nat), srt L → (∀ e ∈ L, ∃ j, a ≤ j ∧ j < 9 ∧ e.k = kk j) → L.length ≤ 9 - a := by
  induction L with
  | nil => intro a _ _; simp
  | cons e R ih =>
    intro a hs hk
    obtain ⟨h1, h2⟩ := List.pairwise_cons.1 hs
    obtain ⟨j, ha, hj, he⟩ := hk e List.mem_cons_self
    have := ih (j + 1) h2 (fun e' he' => by
      obtain ⟨j', _, hj', he2⟩ := hk e' (List.mem_cons_of_mem _ he')
      have hlt := h1 e' he'
      rw [he, he2] at hlt
      exact ⟨j', kk_lt hj hj' hlt, hj', he2⟩)
    rw [List.length_cons]; omega
/-- What holds at each turn of the law. -/
structure Inv (L : List En) (row : Nat) (held : Bool) : Prop where
  srt : srt L
  keys : ∀ e ∈ L, (∃ j, j < 9 ∧ e.k = kk j) ∧ e.d ≤ 255
  at_p : get L (kk 8) = ⟨kk 8, min row 255, held⟩
theorem Inv.fit {L : List En} {row : Nat} {held : Bool} (h : Inv L row held) : fit L := fun e he => by
  obtain ⟨⟨j, hj, e2⟩, _⟩ := h.keys e he
  rw [e2]; exact kk_top j hj
theorem Inv.len {L : List En} {row : Nat} {held : Bool} (h : Inv L row held) : L.length ≤ 9 :=
  few 0 h.srt (fun e he => by obtain ⟨⟨j, hj, e2⟩, _⟩ := h.keys e he; exact ⟨j, Nat.zero_le _, hj, e2⟩)
theorem Inv.d {L : List En} {row : Nat} {held : Bool} (h : Inv L row held) (q : Nat) : (get L q).d ≤ 255 := by
  cases hh : has L q with
  | true => exact (h.keys _ (get_mem hh)).2
  | false => rw [get_no h.srt hh]; simp
theorem Inv.start : Inv [] 0 false := ⟨List.Pairwise.nil, fun e he => (by cases he), by simp [get]⟩
/-- An entry that is put. -/
theorem keys_mem (L : List En) (x e : En) (he : e ∈ wi L x) : e = x ∨ e ∈ L := by
  unfold wi at he
  rcases List.mem_append.1 he with h | h
  · exact Or.inr (List.mem_filter.1 h).1
  · rcases List.mem_append.1 h with h | h
    · split at h
      · exact Or.inl (List.mem_singleton.1 h)
      · cases h
    · exact Or.inr (List.mem_filter.1 h).1
theorem Inv.put {L : List En} {row : Nat} {held : Bool} (h : Inv L row held) (j : Nat) (hj : j < 9) (d : Nat) (hd : d ≤ 255) (s : Bool) (row' : Nat) (held' : Bool) (hp : j = 8 → d = min row' 255 ∧ s = held') (hn : j ≠ 8 → row' = row ∧ held' = held) : Inv (wi L ⟨kk j, d, s⟩) row' held' := by
  refine ⟨srt_wi _ h.srt, fun e he => ?_, ?_⟩
  · rcases keys_mem L ⟨kk j, d, s⟩ e he with rfl | h2
    · exact ⟨⟨j, hj, rfl⟩, hd⟩
    · exact h.keys e h2
  · rw [get_wi _ h.srt]
    by_cases h8 : j = 8
    · subst h8
      obtain ⟨rfl, rfl⟩ := hp rfl
      rw [if_pos rfl]
      split
      · rfl
      · rename_i ht
        simp only [En.tells, Bool.or_eq_true, decide_eq_true_eq, not_or, Bool.not_eq_true] at ht
        obtain ⟨h1, h2⟩ := ht
        rw [show min row' 255 = 0 by omega, h2]
    · obtain ⟨rfl, rfl⟩ := hn h8
      have hne : kk 8 ≠ kk j := by
        unfold kk pk
        rw [if_pos rfl, if_neg h8]
        omega
      rw [if_neg hne]
      exact h.at_p
end Go.Proofs.YtpcmmejlmhbcdaaGreat

namespace Go.Proofs.YtpcmmejlmhbcdaaGreat
open Go.RowKit

theorem range_set_other {w : World} {b o : Nat} {cs : List Value} (h : w.rangeAt b o cs) {q : Addr} (hq : q.block ≠ b) (u : Value) : (w.setCell q u).rangeAt b o cs := fun j v hj =>
  (World.cell?_setCell_far w _ _ _ hq).trans (h j v hj)
theorem u8info : (Tryz.prog.info? 5).map (fun i => (i.zero, i.size, i.bytes)) = some (some (.int .u8 0), 1, 1) := by kernel_rfl
theorem cells5 : Tryz.prog.cellsOf 5 = 1 := by kernel_rfl
theorem eqP (x y : Int) (w : World) : (Op.equalIn 10000 24 (.agg #[.int .u8 x, .int .u8 0, .int .u8 0, .int .u8 0, .int .u8 0, .int .u8 0, .int .u8 0, .int .u8 0, .int .u8 0, .int .u8 0, .int .u8 0, .int .u8 0, .int .u8 0, .int .u8 0, .int .u8 0, .int .u8 0]) (.agg #[.int .u8 y, .int .u8 0, .int .u8 0, .int .u8 0, .int .u8 0, .int .u8 0, .int .u8 0, .int .u8 0, .int .u8 0, .int .u8 0, .int .u8 0, .int .u8 0, .int .u8 0, .int .u8 0, .int .u8 0, .int .u8 0])).run Tryz.prog w = .ok (decide (x = y)) w := by
  obtain ⟨i, hi, _⟩ := info_parts u8info
  show (Op.equalIn (9999 + 1) 24 _ _).run Tryz.prog w = _
  rw [run_equalIn_array w 9999 _ _ Tryz.underlying24 hi, cells5]
  simp only [show List.range 16 = [0, 1, 2, 3, 4, 5, 6, 7, 8, 9, 10, 11, 12, 13, 14, 15] from rfl, Op.eqItems]
  simp [go_sem]
  by_cases h : x = y <;> simp [h]
theorem eqSame (x : Nat) (hx : x < 256) (w : World) : (Op.equalIn 10000 24 (.agg (pc (pk x)).toArray) (.agg (pc (pk x)).toArray)).run Tryz.prog w = .ok true w := by
  rw [pc_first x hx, eqP]; simp
theorem eqDiff (x y : Nat) (hx : x < 256) (hy : y < 256) (h : x ≠ y) (w : World) : (Op.equalIn 10000 24 (.agg (pc (pk x)).toArray) (.agg (pc (pk y)).toArray)).run Tryz.prog w = .ok false w := by
  rw [pc_first x hx, pc_first y hy, eqP]
  have : ¬ ((x : Int) = (y : Int)) := by omega
  simp [this]
theorem pcs (k : Nat) : (pc k).toArray.size = 16 := by rw [List.size_toArray, pc_len]
theorem info24s (k : Nat) : (Tryz.prog.info? 24).map (·.size) = some (pc k).toArray.size := by rw [pcs]; kernel_rfl
theorem LBx.set_other {w : World} {B : Nat} {L : List En} (h : LBx w B L) : B < w.heap.size := h.lt
/-- Acts in memory. -/
structure Ac where
  d : Nat
  p : Nat
  k : Int
instance : Inhabited Ac := ⟨⟨0, 0, 0⟩⟩
def AcsIn (w : World) (b off : Nat) (l : List Ac) : Prop := ∀ i (h : i < l.length), w.cell? ⟨b, off + i * 3, none⟩ = some (.int .u8 (l[i].d : Int)) ∧ w.cell? ⟨b, off + i * 3 + 1, none⟩ = some (.int .u8 (l[i].p : Int)) ∧ w.cell? ⟨b, off + i * 3 + 2, none⟩ = some (.int .i64 l[i].k) ∧ l[i].d ≤ 255 ∧ l[i].p ≤ 255
def firstLoop : Code → Option Code
  | .loop c => some c
  | .seq a b => match firstLoop a with
    | some c => some c
    | none => firstLoop b
  | .block _ c => firstLoop c
  | .scope c => firstLoop c
  | .cond _ a b => match firstLoop a with
    | some c => some c
    | none => firstLoop b
  | _ => none
noncomputable def bodyC : Code := (Tryz.f5.body.bind firstLoop).getD .skip
/-- The loop's frame. -/
def fw (o : Option Addr) (m cap k b5 : Nat) (x25 x7 x8 : Value) (u : Nat → Value) : Act := ⟨List.toArray [.slice o m cap, .int .u8 (k : Int), u 2, u 3, u 4, .pointer (some ⟨b5, 0, none⟩), .pointer (some ⟨b5 + 1, 0, none⟩), x7, x8, u 9, u 10, u 11, u 12, u 13, u 14, u 15, u 16, u 17, u 18, u 19, u 20, u 21, u 22, .slice o m cap, .int .i64 (m : Int), x25, u 26, u 27, u 28, u 29, u 30, u 31, u 32, u 33, u 34, u 35, u 36, u 37, u 38, u 39, u 40, u 41, u 42, u 43, u 44, u 45, u 46, u 47, u 48, u 49, u 50, u 51, u 52, u 53, u 54, u 55, u 56, u 57, u 58, u 59, u 60, u 61, u 62, u 63, u 64, u 65, u 66, u 67, u 68, u 69, u 70, u 71, u 72, u 73, u 74, u 75, u 76, u 77, u 78, u 79, u 80, u 81, u 82, u 83, u 84, u 85, u 86, u 87, u 88, u 89, u 90, u 91, u 92], []⟩
/-- What holds at each turn. -/
def WI (o : Option Addr) (m cap k b5 : Nat) (w : World) (a : Act) (wr : World) : Prop :=
  ∃ (u : Nat → Value) (i row : Nat) (L : List En) (held : Bool), a = fw o m cap k b5 (.int .i64 (i : Int)) (.int .i64 (row : Int)) (.bool held) u ∧ i ≤ m ∧ row ≤ i ∧ Hid (Inv L row held) ∧ Hid (LBx wr b5 L) ∧ Hid (wr.rangeAt (b5 + 1) 0 (pc (kk 8))) ∧ Hid (Below w.heap.size w wr)
theorem WI.mk {o : Option Addr} {m cap k b5 : Nat} {w wr : World} {a : Act} {x25 x7 x8 : Value} (i row : Nat) (L : List En) (held : Bool) (ha : a = fw o m cap k b5 x25 x7 x8 (fun j => a.tmps.getD j undef)) (h25 : x25 = .int .i64 (i : Int)) (h7 : x7 = .int .i64 (row : Int)) (h8 : x8 = .bool held)
    (h1 : i ≤ m) (h2 : row ≤ i) (h3 : Hid (Inv L row held)) (h4 : Hid (LBx wr b5 L)) (h5 : Hid (wr.rangeAt (b5 + 1) 0 (pc (kk 8)))) (h6 : Hid (Below w.heap.size w wr)) : WI o m cap k b5 w a wr := by
  subst h25; subst h7; subst h8
  exact ⟨_, i, row, L, held, ha, h1, h2, h3, h4, h5, h6⟩
def Wmu (m : Nat) (a : Act) : Nat := m - (intOf (a.tmps.getD 25 undef)).toNat
end Go.Proofs.YtpcmmejlmhbcdaaGreat
