/- config: plain facts for ConfigFinds: trees compared, configs of one listener, rows under turns. -/
import Derived.Test.YtjfjliobencppaaGreatDoorJ23
import Derived.Test.YtjfjliobencppaaGreatDoorJ28
import Derived.Test.YtjfjliobencppaaGreatDoorJ29
set_option linter.unusedVariables false
set_option linter.unusedSimpArgs false
namespace Go.Proofs.YtjfjliobencppaaGreatDoor.Cf
open Go.RowKit

mutual
theorem sameT_iff : ∀ (t u : Tr), sameT t u = true ↔ t = u
  | .mk k n s l, .mk k' n' s' l' => by
    have ih := sameL_iff l l'
    rw [sameT, Bool.and_eq_true, Bool.and_eq_true, Bool.and_eq_true, decide_eq_true_eq, decide_eq_true_eq, decide_eq_true_eq, ih, Tr.mk.injEq, and_assoc, and_assoc]
theorem sameL_iff : ∀ (l m : List Tr), sameL l m = true ↔ l = m
  | [], [] => by simp [sameL]
  | x :: xs, y :: ys => by
    rw [sameL, Bool.and_eq_true, sameT_iff x y, sameL_iff xs ys, List.cons.injEq]
  | [], _ :: _ => by simp [sameL]
  | _ :: _, [] => by simp [sameL]
end
theorem Ep.injv {r s : Ep} (h1 : r.ok) (h2 : s.ok) (h : r.trv = s.trv) : r = s := by
  obtain ⟨p, t⟩ := r
  obtain ⟨p', t'⟩ := s
  simp only [Ep.trv, rowT, strT, numT, Tr.mk.injEq, List.cons.injEq, and_true, true_and] at h
  obtain ⟨e1, e2⟩ := h
  have k := Pl.inj h1.1 h2.1 (str_inj e1)
  have a1 := h1.2
  have a2 := h2.2
  unfold Ep.u at e2
  simp only at *
  rw [k, show t = t' by omega]
theorem Cl.injv {r s : Cl} (h1 : ∀ e ∈ r.e, e.ok) (h2 : ∀ e ∈ s.e, e.ok) (h : r.trv = s.trv) : r = s := by
  obtain ⟨n, l⟩ := r
  obtain ⟨n', l'⟩ := s
  simp only [Cl.trv, rowT, strT, numT, Tr.mk.injEq, List.cons.injEq, and_true, true_and] at h
  obtain ⟨e1, e3⟩ := h
  have k3 : l = l' := map_inj_on (P := fun e : Ep => e.ok) (fun a b => Ep.injv) h1 h2 e3
  rw [e1, k3]
theorem Co.injv {a b : Co} (h1 : a.held) (h2 : b.held) (h : a.trv = b.trv) : a = b := by
  obtain ⟨v, l, c⟩ := a
  obtain ⟨v', l', c'⟩ := b
  simp only [Co.trv, rowT, strT, numT, Tr.mk.injEq, List.cons.injEq, and_true, true_and] at h
  obtain ⟨e1, e2, e3⟩ := h
  have k2 : l = l' := map_inj_on (P := fun l : Ls => l.p.ok) (fun a b => Ls.inj) (fun x hx => (h1.2.1 x hx).1) (fun x hx => (h2.2.1 x hx).1) e2
  have k3 : c = c' := map_inj_on (P := fun x : Cl => ∀ e ∈ x.e, e.ok) (fun a b => Cl.injv) h1.2.2 h2.2.2 e3
  rw [e1, k2, k3]
theorem sameT_co {a b : Co} (ha : a.held) (hb : b.held) : sameT a.trv b.trv = decide (a = b) := by
  by_cases h : a = b
  · subst h
    rw [decide_eq_true rfl]
    exact (sameT_iff _ _).2 rfl
  · rw [decide_eq_false h, Bool.eq_false_iff]
    intro k
    exact h (Co.injv ha hb ((sameT_iff _ _).1 k))
theorem CoIn.cells {w : World} {c0 c1 c2 : Value} {c : Co} (h : CoIn w c0 c1 c2 c) : c0.oneCell' = true ∧ c1.oneCell' = true ∧ c2.oneCell' = true := by
  obtain ⟨rfl, _, h1, h2⟩ := h
  obtain ⟨o, k, rfl⟩ := h1.form
  obtain ⟨o, k, rfl⟩ := h2.form
  exact ⟨rfl, rfl, rfl⟩
/-- The document's Same of two configs in memory. -/
theorem rsame_co {w : World} {c0 c1 c2 d0 d1 d2 : Value} {a b : Co} (ha : CoIn w c0 c1 c2 a) (hb : CoIn w d0 d1 d2 b) (sa : a.sized) (sb : b.sized) :
    Calls Tryz.prog 15 #[.agg #[c0, c1, c2], .agg #[d0, d1, d2]] w (TrP (decide (a = b)) w) := by
  have h := rsame_of a.trv b.trv (fun wz hz => value_any (ha.later hz) sa) (fun wz hz => value_any (hb.later hz) sb) ha.cells hb.cells
  rw [sameT_co ha.held hb.held] at h
  exact h
theorem same_co {w : World} {c0 c1 c2 d0 d1 d2 : Value} {a b : Co} (ha : CoIn w c0 c1 c2 a) (hb : CoIn w d0 d1 d2 b) (sa : a.sized) :
    Calls Tryz.prog 14 #[.agg #[c0, c1, c2], .agg #[d0, d1, d2]] w (TrP (decide (a = b)) w) :=
  same_any ha hb sa.1 sa.2.1 (fun x hx => (sa.2.2.1 x hx).2.1) (fun x hx => (sa.2.2.2 x hx).2)
theorem CoIn.okL {w : World} {c0 c1 c2 : Value} {c : Co} (h : CoIn w c0 c1 c2 c) : ∀ l ∈ c.l, l.name.size ≤ maxLen ∧ l.p.ok ∧ ∀ r ∈ l.r, r.ok := fun l hl => by
  obtain ⟨_, _, ⟨o1, C1, B1, f1, _, _, hE1⟩, _⟩ := h
  obtain ⟨i, hi, rfl⟩ := List.getElem_of_mem hl
  obtain ⟨cs, hr, u, rfl, hn, hp, o, cap, B, f, rfl, ho, hR⟩ := hE1 i hi
  refine ⟨hn, hp, fun r hr => ?_⟩
  obtain ⟨j, hj, rfl⟩ := List.getElem_of_mem hr
  obtain ⟨cs, hr2, hcs, hok⟩ := hR j hj
  exact hok
theorem CoIn.okC {w : World} {c0 c1 c2 : Value} {c : Co} (h : CoIn w c0 c1 c2 c) : ∀ l ∈ c.c, l.name.size ≤ maxLen ∧ ∀ r ∈ l.e, r.ok := fun l hl => by
  obtain ⟨_, _, _, ⟨o1, C1, B1, f1, _, _, hE1⟩⟩ := h
  obtain ⟨i, hi, rfl⟩ := List.getElem_of_mem hl
  obtain ⟨cs, hr, u, rfl, hn, o, cap, B, f, rfl, ho, hR⟩ := hE1 i hi
  refine ⟨hn, fun r hr => ?_⟩
  obtain ⟨j, hj, rfl⟩ := List.getElem_of_mem hr
  obtain ⟨cs, hr2, hcs, hok⟩ := hR j hj
  exact hok
/-- Has the i-th the name? -/
def pLs (L : List Ls) (nm : ByteArray) (i : Nat) : Bool := if h : i < L.length then L[i].name.toList == nm.toList else false
def pCl (L : List Cl) (nm : ByteArray) (i : Nat) : Bool := if h : i < L.length then L[i].name.toList == nm.toList else false
theorem pLs_at {L : List Ls} {nm : ByteArray} {i : Nat} (h : i < L.length) : pLs L nm i = (L[i].name.toList == nm.toList) := dif_pos h
theorem pCl_at {L : List Cl} {nm : ByteArray} {i : Nat} (h : i < L.length) : pCl L nm i = (L[i].name.toList == nm.toList) := dif_pos h
/-- What Listener, Cluster answer. -/
def FlP (L : List Ls) (nm : ByteArray) (w : World) (e : Ending) (w' : World) : Prop := ∃ (r : Int) (x : Ls) (oo : Option Addr) (cc : Nat), e = .returned (.tuple #[.agg #[.string x.name, .int .u8 (x.p.a : Int), .int .u8 (x.p.b : Int), .int .u8 (x.p.c : Int), .int .u8 (x.p.d : Int), .int .u16 (x.p.port : Int), .slice oo x.r.length cc], .bool (decide (0 ≤ r))]) ∧ (FirstP L.length (pLs L nm) r ∧ Rw 4 RtIn w' (.slice oo x.r.length cc) x.r ∧ ∀ k : Nat, r = (k : Int) → ∃ hk : k < L.length, x = L[k]) ∧ Below w.heap.size w w'
def FcP (L : List Cl) (nm : ByteArray) (w : World) (e : Ending) (w' : World) : Prop := ∃ (r : Int) (x : Cl) (oo : Option Addr) (cc : Nat), e = .returned (.tuple #[.agg #[.string x.name, .slice oo x.e.length cc], .bool (decide (0 ≤ r))]) ∧ (FirstP L.length (pCl L nm) r ∧ Rw 6 EpIn w' (.slice oo x.e.length cc) x.e ∧ ∀ k : Nat, r = (k : Int) → ∃ hk : k < L.length, x = L[k]) ∧ Below w.heap.size w w'
theorem find_ls {w : World} {c0 c1 c2 : Value} {c : Co} (h : CoIn w c0 c1 c2 c) (hs : c.sized) (nm : ByteArray) : Calls Tryz.prog 17 #[.agg #[c0, c1, c2], .string nm] w (FlP c.l nm w) := by
  have hok := h.okL
  obtain ⟨rfl, hv, ⟨o1, C1, B1, f1, rfl, ho1, hE1⟩, _⟩ := h
  refine (find_lis c.l nm _ _ o1 C1 B1 f1 hs.1 w ho1 (fun i hi => ?_)).mono ?_
  · obtain ⟨cs, hr, u, rfl, hn, hp, hR⟩ := hE1 i hi
    exact ⟨u, hr 0 _ rfl, hr 1 _ rfl, hr 2 _ rfl, hr 3 _ rfl, hr 4 _ rfl, hr 5 _ rfl, hr 6 _ rfl, fun wx hx => ls_clone hR (hs.2.2.1 _ (List.getElem_mem hi)) wx hx⟩
  · rintro e w' ⟨⟨rfl, hno⟩ | ⟨k, hk, hp, hf, oo, cc, rfl, hown⟩, hb⟩
    · exact ⟨-1, ⟨⟨#[]⟩, ⟨0, 0, 0, 0, 0⟩, []⟩, none, 0, rfl, ⟨Or.inl ⟨rfl, fun i hi => by rw [pLs_at hi]; exact hno _ (List.getElem_mem hi)⟩, ⟨none, 0, 0, 0, rfl, fun h => absurd h (by simp), fun i h => absurd h (by simp)⟩, fun k hk => absurd hk (by omega)⟩, hb⟩
    · refine ⟨(k : Int), c.l[k], oo, cc, by rw [show decide (0 ≤ (k : Int)) = true by rw [decide_eq_true_iff]; omega], ⟨Or.inr ⟨k, rfl, hk, by rw [pLs_at hk]; exact hp, fun j hj => by rw [pLs_at (Nat.lt_trans hj hk)]; exact hf j hj⟩, rw_of_own (fun r _ => rt_len r) hown fun r hr => ⟨rfl, (hok _ (List.getElem_mem hk)).2.2 r hr⟩, fun m hm => ?_⟩, hb⟩
      obtain rfl : k = m := by omega
      exact ⟨hk, rfl⟩
theorem find_cl {w : World} {c0 c1 c2 : Value} {c : Co} (h : CoIn w c0 c1 c2 c) (hs : c.sized) (nm : ByteArray) : Calls Tryz.prog 18 #[.agg #[c0, c1, c2], .string nm] w (FcP c.c nm w) := by
  have hok := h.okC
  obtain ⟨rfl, hv, _, ⟨o1, C1, B1, f1, rfl, ho1, hE1⟩⟩ := h
  refine (find_clu c.c nm _ _ o1 C1 B1 f1 hs.2.1 w ho1 (fun i hi => ?_)).mono ?_
  · obtain ⟨cs, hr, u, rfl, hn, hR⟩ := hE1 i hi
    have hq := hs.2.2.2 _ (List.getElem_mem hi)
    exact ⟨u, hr 0 _ rfl, hr 1 _ rfl, fun wx hx => cl_clone hR hq.1 hq.2 wx hx⟩
  · rintro e w' ⟨⟨rfl, hno⟩ | ⟨k, hk, hp, hf, oo, cc, rfl, hown⟩, hb⟩
    · exact ⟨-1, ⟨⟨#[]⟩, []⟩, none, 0, rfl, ⟨Or.inl ⟨rfl, fun i hi => by rw [pCl_at hi]; exact hno _ (List.getElem_mem hi)⟩, ⟨none, 0, 0, 0, rfl, fun h => absurd h (by simp), fun i h => absurd h (by simp)⟩, fun k hk => absurd hk (by omega)⟩, hb⟩
    · refine ⟨(k : Int), c.c[k], oo, cc, by rw [show decide (0 ≤ (k : Int)) = true by rw [decide_eq_true_iff]; omega], ⟨Or.inr ⟨k, rfl, hk, by rw [pCl_at hk]; exact hp, fun j hj => by rw [pCl_at (Nat.lt_trans hj hk)]; exact hf j hj⟩, rw_of_own (fun r _ => ep_len r) hown fun r hr => ⟨rfl, (hok _ (List.getElem_mem hk)).2 r hr⟩, fun m hm => ?_⟩, hb⟩
      obtain rfl : k = m := by omega
      exact ⟨hk, rfl⟩
/-- A slice's capacity. -/
def Cap (v : Value) : Prop := ∀ o n c, v = .slice o n c → n ≤ c ∧ c ≤ maxLen
theorem Rw.nil {α : Type} {k : Nat} {R : World → List Value → α → Prop} (w : World) : Rw k R w (.slice none 0 0) [] := ⟨none, 0, 0, 0, rfl, fun h => absurd h (by simp), fun i h => absurd h (by simp)⟩
/-- One of a list, cut out. -/
theorem Rw.cut {α : Type} {k : Nat} {R : World → List Value → α → Prop} {w : World} {b off n C C' i : Nat} {l : List α} (h : Rw k R w (.slice (some ⟨b, off, none⟩) n C) l) (hi : i < l.length) : Rw k R w (.slice (some ⟨b, off + i * k, none⟩) 1 C') [l[i]] := by
  obtain ⟨o, cap, b', off', h1, h2, h3⟩ := h
  obtain ⟨ho, hb⟩ := h2 (by omega)
  cases h1
  cases ho
  refine ⟨_, _, _, _, rfl, fun _ => ⟨rfl, hb⟩, fun j hj => ?_⟩
  have hj0 : j = 0 := by simpa using hj
  subst hj0
  obtain ⟨cs, h4, h5⟩ := h3 i hi
  exact ⟨cs, by rwa [Nat.zero_mul, Nat.add_zero], h5⟩
/-- A row of one. -/
theorem Rw.one {α : Type} {k g T C : Nat} {R : World → List Value → α → Prop} {w : World} {cs : List Value} {x : α} (h : Bk w g cs.toArray T) (hR : R w cs x) : Rw k R w (.slice (some ⟨g, 0, none⟩) 1 C) [x] := by
  refine ⟨_, _, _, _, rfl, fun _ => ⟨rfl, lt_of_heap h⟩, fun j hj => ?_⟩
  have hj0 : j = 0 := by simpa using hj
  subst hj0
  refine ⟨cs, fun i v hv => ?_, hR⟩
  rw [Nat.zero_mul, Nat.add_zero, Nat.zero_add]
  exact (cell_of_row _ _ _ _ _ _ h).trans (by simpa using hv)
theorem bk_ne {w : World} {g g' T T' : Nat} {cs cs' : Array Value} (h : Bk w g cs T) (h' : Bk w g' cs' T') (ht : T ≠ T') : g ≠ g' := by
  intro e
  subst e
  have h2 : _ = some (Obj.cells cs T (0, 0)) := h
  have h3 : _ = some (Obj.cells cs' T' (0, 0)) := h'
  rw [h2] at h3
  cases h3
  exact ht rfl
/-- A row of routes whose hosts are written to; of endpoints whose weights are. -/
def StrRow (B : Nat) (w : World) (v : Value) (n T : Nat) : Prop := ∃ o c, v = .slice o n c ∧ (0 < n → ∃ g cur, o = some ⟨g, 0, none⟩ ∧ B ≤ g ∧ Bk w g cur 62 ∧ ∀ j, j < n → ∃ s : ByteArray, cur[j * 4]? = some (.string s) ∧ s.size ≤ T)
def IntRow (B : Nat) (w : World) (v : Value) (n : Nat) : Prop := ∃ o c, v = .slice o n c ∧ (0 < n → ∃ g cur, o = some ⟨g, 0, none⟩ ∧ B ≤ g ∧ Bk w g cur 64 ∧ ∀ j, j < n → ∃ s : Int, cur[j * 6 + 5]? = some (.int .i64 s))
theorem StrRow.set {B n T : Nat} {w : World} {v : Value} {g i T' : Nat} {cur : Array Value} {s : ByteArray} (h : StrRow B w v n T) (hg : Bk w g cur 62) (hT : T ≤ T') (hs : s.size ≤ T') : StrRow B (w.setCell ⟨g, i * 4, none⟩ (.string s)) v n T' := by
  obtain ⟨o, c, rfl, h⟩ := h
  refine ⟨o, c, rfl, fun hp => ?_⟩
  obtain ⟨g', cur', rfl, hB, hk, hE⟩ := h hp
  by_cases e : g' = g
  · subst e
    refine ⟨g', cur'.setIfInBounds (i * 4) (.string s), rfl, hB, hk.set _, fun j hj => ?_⟩
    obtain ⟨t, h1, h2⟩ := hE j hj
    by_cases ej : i * 4 = j * 4
    · have hl := (Array.getElem?_eq_some_iff.1 h1).1
      exact ⟨s, by rw [ej, Array.getElem?_setIfInBounds_self_of_lt hl], hs⟩
    · exact ⟨t, by rw [Array.getElem?_setIfInBounds_ne ej]; exact h1, by omega⟩
  · refine ⟨g', cur', rfl, hB, hk.away e _ _, fun j hj => ?_⟩
    obtain ⟨t, h1, h2⟩ := hE j hj
    exact ⟨t, h1, by omega⟩
theorem StrRow.away {B n T : Nat} {w : World} {v : Value} {g j T' : Nat} {cur : Array Value} (h : StrRow B w v n T) (hg : Bk w g cur T') (ht : 62 ≠ T') (u : Value) : StrRow B (w.setCell ⟨g, j, none⟩ u) v n T := by
  obtain ⟨o, c, rfl, h⟩ := h
  refine ⟨o, c, rfl, fun hp => ?_⟩
  obtain ⟨g', cur', rfl, hB, hk, hE⟩ := h hp
  exact ⟨g', cur', rfl, hB, hk.away (bk_ne hk hg ht) _ _, hE⟩
theorem IntRow.set {B n : Nat} {w : World} {v : Value} {g i : Nat} {cur : Array Value} {s : Int} (h : IntRow B w v n) (hg : Bk w g cur 64) : IntRow B (w.setCell ⟨g, i * 6 + 5, none⟩ (.int .i64 s)) v n := by
  obtain ⟨o, c, rfl, h⟩ := h
  refine ⟨o, c, rfl, fun hp => ?_⟩
  obtain ⟨g', cur', rfl, hB, hk, hE⟩ := h hp
  by_cases e : g' = g
  · subst e
    refine ⟨g', cur'.setIfInBounds (i * 6 + 5) (.int .i64 s), rfl, hB, hk.set _, fun j hj => ?_⟩
    obtain ⟨t, h1⟩ := hE j hj
    by_cases ej : i * 6 + 5 = j * 6 + 5
    · have hl := (Array.getElem?_eq_some_iff.1 h1).1
      exact ⟨s, by rw [ej, Array.getElem?_setIfInBounds_self_of_lt hl]⟩
    · exact ⟨t, by rw [Array.getElem?_setIfInBounds_ne ej]; exact h1⟩
  · exact ⟨g', cur', rfl, hB, hk.away e _ _, hE⟩
theorem IntRow.away {B n : Nat} {w : World} {v : Value} {g j T' : Nat} {cur : Array Value} (h : IntRow B w v n) (hg : Bk w g cur T') (ht : 64 ≠ T') (u : Value) : IntRow B (w.setCell ⟨g, j, none⟩ u) v n := by
  obtain ⟨o, c, rfl, h⟩ := h
  refine ⟨o, c, rfl, fun hp => ?_⟩
  obtain ⟨g', cur', rfl, hB, hk, hE⟩ := h hp
  exact ⟨g', cur', rfl, hB, hk.away (bk_ne hk hg ht) _ _, hE⟩
theorem StrRow.of {B : Nat} {w : World} {v : Value} {T : Nat} {l : List Rt} (h : w.ownsRow B 62 4 v l.length (l.flatMap Rt.cs)) (hT : ∀ r ∈ l, r.host.size ≤ T) : StrRow B w v l.length T := by
  rcases h.2 with ⟨rfl, hn⟩ | ⟨g, cap, cur, rfl, h0, hg, h1, h2, h3, h4⟩
  · exact ⟨none, 0, by rw [hn], fun hp => absurd hp (by omega)⟩
  · refine ⟨_, cap, rfl, fun _ => ⟨g, cur, rfl, h0, hg, fun j hj => ⟨l[j].host, ?_, hT _ (List.getElem_mem hj)⟩⟩⟩
    have k1 := h.cells (g := g) rfl (j * 4 + 0) (.string l[j].host) (flat_at (fun r _ => rt_len r) hj 0 _ rfl)
    rw [Addr.add_mid, cell_of_row _ _ _ _ _ _ hg] at k1
    simpa using k1
theorem IntRow.of {B : Nat} {w : World} {v : Value} {l : List Ep} (h : w.ownsRow B 64 6 v l.length (l.flatMap Ep.cs)) : IntRow B w v l.length := by
  rcases h.2 with ⟨rfl, hn⟩ | ⟨g, cap, cur, rfl, h0, hg, h1, h2, h3, h4⟩
  · exact ⟨none, 0, by rw [hn], fun hp => absurd hp (by omega)⟩
  · refine ⟨_, cap, rfl, fun _ => ⟨g, cur, rfl, h0, hg, fun j hj => ⟨l[j].w, ?_⟩⟩⟩
    have k1 := h.cells (g := g) rfl (j * 6 + 5) (.int .i64 l[j].w) (flat_at (fun r _ => ep_len r) hj 5 _ rfl)
    rw [Addr.add_mid, cell_of_row _ _ _ _ _ _ hg] at k1
    simpa using k1
end Go.Proofs.YtjfjliobencppaaGreatDoor.Cf
