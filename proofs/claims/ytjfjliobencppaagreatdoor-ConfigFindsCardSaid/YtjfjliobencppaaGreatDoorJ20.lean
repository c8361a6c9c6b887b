/- config: own rows of structs; what the document's lists look like in memory.; config: To, plainly; what it builds. -/
import Derived.Test.YtjfjliobencppaaGreatDoorJ19
import Derived.Laws.AppendOwnNone
import Derived.Maps.AppendAt
set_option linter.unusedVariables false
set_option linter.unusedSimpArgs false
namespace Go.Proofs.YtjfjliobencppaaGreatDoor.Cf
open Go.RowKit

theorem own_keep {w w' : World} {B t k n : Nat} {v : Value} {xs : List Value} (h : w.ownsRow B t k v n xs) (hk : ∀ g cs, B ≤ g → v.ownBlock = some g → w.heap[g]? = some (.cells cs t (0, 0)) → w'.heap[g]? = w.heap[g]?) : w'.ownsRow B t k v n xs := by
  refine ⟨h.1, ?_⟩
  rcases h.2 with hn | ⟨g, cap, cur, h1, h2, h3, h4⟩
  · exact Or.inl hn
  · exact Or.inr ⟨g, cap, cur, h1, h2, (hk g cur h2 (by rw [h1]; rfl) h3).trans h3, h4⟩
theorem own_later {w w' : World} {B t k n : Nat} {v : Value} {xs : List Value} (h : w.ownsRow B t k v n xs) (hb : Below w.heap.size w w') : w'.ownsRow B t k v n xs := own_keep h fun g cs _ _ hg => hb.block g (lt_of_heap hg)
theorem own_block {w : World} {B t k n g : Nat} {v : Value} {xs : List Value} (h : w.ownsRow B t k v n xs) (hg : v.ownBlock = some g) : ∃ cs, w.heap[g]? = some (.cells cs t (0, 0)) ∧ B ≤ g := by
  rcases h.2 with ⟨rfl, _⟩ | ⟨q, cap, cur, rfl, h2, h3, h4⟩
  · cases hg
  · cases hg; exact ⟨cur, h3, h2⟩
theorem own_mono {w : World} {B B' t k n : Nat} {v : Value} {xs : List Value} (h : w.ownsRow B t k v n xs) (hb : B' ≤ B) : w.ownsRow B' t k v n xs := by
  refine ⟨h.1, ?_⟩
  rcases h.2 with hn | ⟨g, cap, cur, h1, h2, h3, h4⟩
  · exact Or.inl hn
  · exact Or.inr ⟨g, cap, cur, h1, by omega, h3, h4⟩
/-- A row is kept where another row, of another type, grows; where a box of another type is stored to. -/
theorem own_grown {w w' : World} {B t k n B' t' k' n' : Nat} {v v' : Value} {xs xs' : List Value} (h : w.ownsRow B t k v n xs) (h' : w.ownsRow B' t' k' v' n' xs') (hg : w.grownBy w' v'.ownBlock) (ht : t ≠ t') : w'.ownsRow B t k v n xs :=
  own_keep h fun g cs _ _ hgg => hg.block g (lt_of_heap hgg) fun e => by
    obtain ⟨cs', h2, _⟩ := own_block h' e.symm
    rw [hgg] at h2
    cases h2
    exact ht rfl
theorem own_set {w : World} {B t k n q t' : Nat} {v : Value} {xs : List Value} {cs : Array Value} (h : w.ownsRow B t k v n xs) (hq : Bk w q cs t') (ht : t ≠ t') (j : Nat) (u : Value) : (w.setCell ⟨q, j, none⟩ u).ownsRow B t k v n xs :=
  own_keep h fun g c _ _ hgg => heap_setCell_other _ _ g _ fun e => by
    have e' : g = q := e
    subst e'
    have h2 : _ = some (Obj.cells cs t' (0, 0)) := hq
    rw [hgg] at h2
    cases h2
    exact ht rfl
theorem Bk.grown {w w' : World} {q t B' t' k' n' : Nat} {v' : Value} {cs : Array Value} {xs' : List Value} (h : Bk w q cs t) (h' : w.ownsRow B' t' k' v' n' xs') (hg : w.grownBy w' v'.ownBlock) (ht : t ≠ t') : Bk w' q cs t :=
  (hg.block q (lt_of_heap h) fun e => by
    obtain ⟨cs', h2, _⟩ := own_block h' e.symm
    have h3 : _ = some (Obj.cells cs t (0, 0)) := h
    rw [h3] at h2
    cases h2
    exact ht rfl).trans h
theorem Bk.set {w : World} {g i : Nat} {cs : Array Value} {T : TypeId} (h : Bk w g cs T) (v : Value) : Bk (w.setCell ⟨g, i, none⟩ v) g (cs.setIfInBounds i v) T := heap_setCell_same w g i cs T v h
theorem Bk.away {w : World} {g q : Nat} {cs : Array Value} {T : TypeId} (h : Bk w g cs T) (hq : g ≠ q) (j : Nat) (v : Value) : Bk (w.setCell ⟨q, j, none⟩ v) g cs T := (heap_setCell_other _ ⟨q, j, none⟩ g _ hq).trans h

/-- What is asked of an element's type: its cells, not too many bytes. -/
def Ty (P : Program) (e k : Nat) : Bool := match P.info? e with
  | some i => match i.zero with
    | some z => decide (i.size = k ∧ z.cells.size = k ∧ i.bytes ≤ 200)
    | none => false
  | none => false
theorem Ty.parts {P : Program} {e k : Nat} (h : Ty P e k = true) : ∃ i z, P.info? e = some i ∧ i.zero = some z ∧ i.size = k ∧ z.cells.size = k ∧ i.bytes ≤ 200 := by
  unfold Ty at h
  split at h
  · rename_i i hi
    split at h
    · rename_i z hz
      obtain ⟨h1, h2, h3⟩ := of_decide_eq_true h
      exact ⟨i, z, hi, hz, h1, h2, h3⟩
    · cases h
  · cases h
/-- 'a = append(a, x)', a the call's own, x newly built. -/
theorem wpList_append_one (W : World) {ops : Array Oper} {rest : List Oper} {o : Oper} {a : Act} {Q : Exit → Act → World → Prop} (hgd : o.guard = none) (s x : Operand) {st e k : Nat} (hU : Tryz.prog.underlying st = some (.slice e)) (hT : Ty Tryz.prog e k = true) (hk0 : 0 < k)
    (ho : o.op = .call { callee := .builtin .append, args := #[s, x], argTypes := #[st, st] })
    (B : Nat) (v : Value) (n : Nat) (xs cs : List Value) (gS : Nat) (hs : a.eval s = v) (hown : W.ownsRow B e k v n xs) (hx : a.eval x = .slice (some ⟨gS, 0, none⟩) 1 1) (hu : Bk W gS cs.toArray e) (hl : cs.length = k) (h1 : ∀ v ∈ cs, v.oneCell' = true) (hB : B ≤ W.heap.size) (hn : n ≤ 1000000)
    (h : ∀ v' w', w'.ownsRow B e k v' (n + 1) (xs ++ cs) → W.grownBy w' v.ownBlock → Below B W w' → (v'.ownBlock = v.ownBlock ∨ v'.ownBlock = some W.heap.size) → wpList Tryz.prog ops Q rest (a.put o.dst v') w') : wpList Tryz.prog ops Q (o :: rest) a W := by
  obtain ⟨i0, z, hi, hz0, hz1, hz2, hz3⟩ := Ty.parts hT
  refine wpList_append_own_at W hgd s x st ho B e i0 z k i0.bytes hU hi hz0 hz1 rfl hz2 hk0 v n xs hs hown ⟨gS, 0, none⟩ 1 1 cs hx (by omega) ?_ h1 ?_ ?_ hB ?_
  · intro j u hj
    rw [Addr.add_mid, Nat.zero_add, cell_of_row _ _ _ _ _ _ hu]
    simpa using hj
  · unfold maxLen; omega
  · have := Nat.mul_le_mul (show n + 1 ≤ 1000001 by omega) hz3
    omega
  · intro v' w' r1 r2 _ r4
    exact h v' w' r1 r2 ((Below.refl B W).grown r2 hB (fun g hg => (hown.lt g hg).1)) r4
theorem alloc_at {w : World} {g : Nat} (cs : Array Value) (t : TypeId) (hg : g = w.heap.size) : Bk (w.alloc (.cells cs t)) g cs t := by
  subst hg
  exact heap_alloc_new w _
end Go.Proofs.YtjfjliobencppaaGreatDoor.Cf

namespace Go.Proofs.YtjfjliobencppaaGreatDoor.Cf
open Go.RowKit

theorem flat_at {α : Type} {f : α → List Value} {k : Nat} : ∀ {l : List α} (hk : ∀ a ∈ l, (f a).length = k) {i : Nat} (hi : i < l.length) (j : Nat) (v : Value), (f l[i])[j]? = some v → (l.flatMap f)[i * k + j]? = some v
  | [], _, i, hi, _, _, _ => absurd hi (by simp)
  | a :: R, hk, 0, hi, j, v, hv => by
    have hv' : (f a)[j]? = some v := hv
    have hj := (List.getElem?_eq_some_iff.1 hv').1
    simp only [List.flatMap_cons, Nat.zero_mul, Nat.zero_add]
    rw [List.getElem?_append_left hj]
    exact hv'
  | a :: R, hk, i + 1, hi, j, v, hv => by
    have ih := flat_at (l := R) (fun a ha => hk a (List.mem_cons_of_mem _ ha)) (i := i) (by simpa using hi) j v (by simpa using hv)
    have h0 := hk a (List.mem_cons_self ..)
    simp only [List.flatMap_cons]
    rw [List.getElem?_append_right (by rw [h0, Nat.succ_mul]; omega), h0, show (i + 1) * k + j - k = i * k + j by rw [Nat.succ_mul]; omega]
    exact ih
/-- An own row is a slice of such structs. -/
theorem rw_of_own {α : Type} {k t B : Nat} {w : World} {v : Value} {l : List α} {f : α → List Value} {R : World → List Value → α → Prop} (hk : ∀ a ∈ l, (f a).length = k) (h : w.ownsRow B t k v l.length (l.flatMap f)) (hR : ∀ a ∈ l, R w (f a) a) : Rw k R w v l := by
  rcases h.2 with ⟨rfl, hn⟩ | ⟨g, cap, cur, rfl, h0, hg, h1, h2, h3, h4⟩
  · have e := List.eq_nil_of_length_eq_zero hn
    subst e
    exact ⟨none, 0, 0, 0, rfl, fun h => absurd h (by simp), fun i h => absurd h (by simp)⟩
  · refine ⟨_, cap, g, 0, rfl, fun _ => ⟨rfl, lt_of_heap hg⟩, fun i hi => ⟨f l[i], fun j u hj => ?_, hR _ (List.getElem_mem hi)⟩⟩
    have := h.cells (g := g) rfl (i * k + j) u (flat_at hk hi j u hj)
    rw [Addr.add_mid] at this
    rw [Nat.add_assoc]
    exact this
theorem rw_map {α β : Type} {k : Nat} {w : World} {v : Value} {l : List β} (g : β → α) {R : World → List Value → α → Prop} (h : Rw k (fun w cs b => R w cs (g b)) w v l) : Rw k R w v (l.map g) := by
  obtain ⟨o, cap, b, off, h1, h2, h3⟩ := h
  refine ⟨o, cap, b, off, by rw [h1, List.length_map], fun hp => h2 (by rwa [List.length_map] at hp), fun i hi => ?_⟩
  rw [List.length_map] at hi
  obtain ⟨cs, h4, h5⟩ := h3 i hi
  exact ⟨cs, h4, by rw [List.getElem_map]; exact h5⟩
theorem rt_len (r : Rt) : r.cs.length = 4 := rfl
theorem ep_len (e : Ep) : e.cs.length = 6 := rfl
theorem rt_one (r : Rt) : ∀ v ∈ r.cs, v.oneCell' = true := by
  intro v hv
  simp only [Rt.cs, List.mem_cons, List.not_mem_nil, or_false] at hv
  rcases hv with rfl | rfl | rfl | rfl <;> rfl
theorem ep_one (e : Ep) : ∀ v ∈ e.cs, v.oneCell' = true := by
  intro v hv
  simp only [Ep.cs, Pl.cs, List.cons_append, List.nil_append, List.mem_cons, List.not_mem_nil, or_false] at hv
  rcases hv with rfl | rfl | rfl | rfl | rfl | rfl <;> rfl

/-- A listener with the slice of what is within. -/
def llcs (p : Ls × Value) : List Value := .string p.1.name :: (p.1.p.cs ++ [p.2])
theorem ll_len (p : Ls × Value) : (llcs p).length = 7 := rfl
/-- A row of them that the call has made. -/
def LlR (w : World) (B : Nat) (V : Value) (L : List Ls) : Prop :=
  ∃ PL : List (Ls × Value), PL.map Prod.fst = L ∧ w.ownsRow B 85 7 V PL.length (PL.flatMap llcs) ∧ ∀ p ∈ PL, w.ownsRow B 86 4 p.2 p.1.r.length (p.1.r.flatMap Rt.cs)
theorem LlR.nil (w : World) (B : Nat) : LlR w B (.slice none 0 0) [] := ⟨[], rfl, World.ownsRow_nil _ _ _ _, fun p hp => by cases hp⟩
theorem LlR.later {w w' : World} {B : Nat} {V : Value} {L : List Ls} (h : LlR w B V L) (hb : Below w.heap.size w w') : LlR w' B V L := by
  obtain ⟨PL, h1, h2, h3⟩ := h
  exact ⟨PL, h1, own_later h2 hb, fun p hp => own_later (h3 p hp) hb⟩
theorem LlR.set {w : World} {B q t' : Nat} {V : Value} {L : List Ls} {cs : Array Value} (h : LlR w B V L) (hq : Bk w q cs t') (h1 : 85 ≠ t') (h2 : 86 ≠ t') (j : Nat) (u : Value) : LlR (w.setCell ⟨q, j, none⟩ u) B V L := by
  obtain ⟨PL, e1, e2, e3⟩ := h
  exact ⟨PL, e1, own_set e2 hq h1 j u, fun p hp => own_set (e3 p hp) hq h2 j u⟩
theorem LlR.grown {w w' : World} {B B' t' k' n' : Nat} {V v' : Value} {L : List Ls} {xs' : List Value} (h : LlR w B V L) (h' : w.ownsRow B' t' k' v' n' xs') (hg : w.grownBy w' v'.ownBlock) (h1 : 85 ≠ t') (h2 : 86 ≠ t') : LlR w' B V L := by
  obtain ⟨PL, e1, e2, e3⟩ := h
  exact ⟨PL, e1, own_grown e2 h' hg h1, fun p hp => own_grown (e3 p hp) h' hg h2⟩
theorem LlR.rows {w : World} {B : Nat} {V : Value} {L : List Ls} (h : LlR w B V L) (hok : ∀ l ∈ L, l.name.size ≤ maxLen ∧ l.p.ok ∧ ∀ r ∈ l.r, r.ok) : Rw 7 LsIn w V L := by
  obtain ⟨PL, rfl, h2, h3⟩ := h
  refine rw_map Prod.fst (rw_of_own (fun p _ => ll_len p) h2 fun p hp => ?_)
  have hk := hok p.1 (List.mem_map.2 ⟨p, hp, rfl⟩)
  exact ⟨p.2, rfl, hk.1, hk.2.1, rw_of_own (fun r _ => rt_len r) (h3 p hp) fun r hr => ⟨rfl, hk.2.2 r hr⟩⟩

/-- A cluster with the slice of what is within. -/
def cccs (p : Cl × Value) : List Value := [.string p.1.name, p.2]
theorem cc_len (p : Cl × Value) : (cccs p).length = 2 := rfl
/-- A row of them that the call has made. -/
def CcR (w : World) (B : Nat) (V : Value) (L : List Cl) : Prop :=
  ∃ PL : List (Cl × Value), PL.map Prod.fst = L ∧ w.ownsRow B 74 2 V PL.length (PL.flatMap cccs) ∧ ∀ p ∈ PL, w.ownsRow B 77 6 p.2 p.1.e.length (p.1.e.flatMap Ep.cs)
theorem CcR.nil (w : World) (B : Nat) : CcR w B (.slice none 0 0) [] := ⟨[], rfl, World.ownsRow_nil _ _ _ _, fun p hp => by cases hp⟩
theorem CcR.later {w w' : World} {B : Nat} {V : Value} {L : List Cl} (h : CcR w B V L) (hb : Below w.heap.size w w') : CcR w' B V L := by
  obtain ⟨PL, h1, h2, h3⟩ := h
  exact ⟨PL, h1, own_later h2 hb, fun p hp => own_later (h3 p hp) hb⟩
theorem CcR.set {w : World} {B q t' : Nat} {V : Value} {L : List Cl} {cs : Array Value} (h : CcR w B V L) (hq : Bk w q cs t') (h1 : 74 ≠ t') (h2 : 77 ≠ t') (j : Nat) (u : Value) : CcR (w.setCell ⟨q, j, none⟩ u) B V L := by
  obtain ⟨PL, e1, e2, e3⟩ := h
  exact ⟨PL, e1, own_set e2 hq h1 j u, fun p hp => own_set (e3 p hp) hq h2 j u⟩
theorem CcR.rows {w : World} {B : Nat} {V : Value} {L : List Cl} (h : CcR w B V L) (hok : ∀ l ∈ L, l.name.size ≤ maxLen ∧ ∀ r ∈ l.e, r.ok) : Rw 2 ClIn w V L := by
  obtain ⟨PL, rfl, h2, h3⟩ := h
  refine rw_map Prod.fst (rw_of_own (fun p _ => cc_len p) h2 fun p hp => ?_)
  have hk := hok p.1 (List.mem_map.2 ⟨p, hp, rfl⟩)
  exact ⟨p.2, rfl, hk.1, rw_of_own (fun r _ => ep_len r) (h3 p hp) fun r hr => ⟨rfl, hk.2 r hr⟩⟩
end Go.Proofs.YtjfjliobencppaaGreatDoor.Cf
