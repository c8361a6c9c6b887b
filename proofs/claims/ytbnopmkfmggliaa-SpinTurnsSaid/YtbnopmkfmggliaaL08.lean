/- Rows of numbers as arguments, opened.; SpinUp, plainly: who is down isn't chosen, and stays; where one alone is up nothing turns. A row of numbers that a call owns. -/
import Derived.Test.YtbnopmkfmggliaaL07
import Derived.ChangeSame
import Derived.OpenShut
import Derived.Deep.Slices
set_option linter.unusedVariables false
set_option linter.unusedSimpArgs false
namespace Go.Proofs.Ytbnopmkfmggliaa
open Go.ChangeShapes Go.WideShapes Go.RowKit Go.Deep

theorem cells3 : Try.prog.cellsOf 3 = 1 := by kernel_rfl
theorem wf_int {n : Int} (h : (Lit.int .i64 n).wf = true) : -9223372036854775808 ≤ n ∧ n ≤ 9223372036854775807 := by
  simp [Lit.wf, IntKind.min, IntKind.max, IntKind.signed, IntKind.bits] at h; omega
section
variable {H : Type} {enc : TypeId × Value → H} {w : World} {sp : Nat → Bool} {held : Bool}
set_option maxRecDepth 100000 in
theorem open_ints {fuel : Nat} {at0 : Option Addr} {n cap : Nat} {x : DataW H × List MemPlace} (h : DataW.trod enc Try.prog w 0 sp held fuel 22 [.slice at0 n cap] = some x) :
    ∃ (l : List Int) (b off : Nat), n = l.length ∧ (∀ x ∈ l, -9223372036854775808 ≤ x ∧ x ≤ 9223372036854775807) ∧ (0 < l.length → at0 = some ⟨b, off, none⟩ ∧ b < w.heap.size) ∧ DIn w b off l := by
  rcases open_slice Try.underlying22 h with ⟨hcs, _⟩ | ⟨a, len, cap', m, n', D, Pl, hcs, hb, hl, hm, hmm, hx, hi⟩
  · simp only [List.cons.injEq, Value.slice.injEq, and_true] at hcs
    obtain ⟨rfl, rfl, rfl⟩ := hcs
    exact ⟨[], 0, 0, rfl, by simp, fun h => absurd h (by simp), fun k h => absurd h (by simp)⟩
  · simp only [List.cons.injEq, Value.slice.injEq, and_true] at hcs
    obtain ⟨rfl, rfl, rfl⟩ := hcs
    have hnm : n ≤ m := by rw [hmm]; split <;> omega
    obtain ⟨b, off, spot⟩ := a
    have each : ∀ i, i < n → ∃ q : Int, w.cell? ((⟨b, off, spot⟩ : Addr).add i) = some (.int .i64 q) ∧ (-9223372036854775808 ≤ q ∧ q ≤ 9223372036854775807) := by
      intro i hlt
      obtain ⟨cs', h1, h2⟩ := hi i (by omega)
      rw [cells3] at h1
      obtain ⟨_, hlen2, hcell⟩ := World.cells?_some h1
      obtain ⟨q, e1, _, hwf⟩ := DataW.trod_int Try.underlying3 h2
      subst e1
      have h0 := hcell 0 (by simp)
      rw [Nat.mul_one] at h0
      refine ⟨q, ?_, wf_int hwf⟩
      have ez : ((⟨b, off, spot⟩ : Addr).add i).add 0 = (⟨b, off, spot⟩ : Addr).add i := by unfold Addr.add; simp
      rw [ez] at h0
      exact h0
    obtain ⟨q, hq⟩ := choose_lt each
    have hspot : 0 < n → spot = none ∧ b < w.heap.size := by
      intro hp
      have h0 := (hq 0 hp).1
      have hs := World.cell?_spot h0
      have hbl := World.block_lt_of_cell? w _ h0
      unfold Addr.add at hs hbl
      simp at hs hbl
      exact ⟨hs, hbl⟩
    refine ⟨(List.range n).map q, b, off, by simp, ?_, ?_, ?_⟩
    · intro x hx
      simp at hx
      obtain ⟨i, hi, rfl⟩ := hx
      exact (hq i hi).2
    · intro hp
      have h1 := hspot (by simpa using hp)
      exact ⟨by rw [h1.1], h1.2⟩
    · intro k hk
      have hk' : k < n := by simpa using hk
      have hs := (hspot (by omega)).1
      subst hs
      obtain ⟨hc, hok⟩ := hq k hk'
      rw [plain_add] at hc
      simp only [List.getElem_map, List.getElem_range]
      exact hc
end
end Go.Proofs.Ytbnopmkfmggliaa

namespace Go.Proofs.Ytbnopmkfmggliaa
open Go.RowKit
open Fl

theorem tC_one {up : Nat → Bool} {h u : Nat → Int} {n one : Nat} (hup : ∀ i, i < n → (up i = true ↔ i = one)) : ∀ k : Nat, k ≤ n → tC up h u k = if one < k then some one else none
  | 0, _ => by rw [if_neg (by omega)]; rfl
  | k + 1, hk => by
    have ih := tC_one (h := h) (u := u) hup k (by omega)
    rw [tC]
    by_cases e : k = one
    · subst e
      rw [if_pos ((hup k (by omega)).2 rfl), ih, if_neg (by omega), if_pos (by omega)]
    · rw [if_neg (fun h => e ((hup k (by omega)).1 h)), ih]
      by_cases h1 : one < k
      · rw [if_pos h1, if_pos (by omega)]
      · rw [if_neg h1, if_neg (by omega)]
theorem tS_one {up : Nat → Bool} {u : Nat → Int} {n one : Nat} (hup : ∀ i, i < n → (up i = true ↔ i = one)) : ∀ k : Nat, k ≤ n → tS up u k = if one < k then u one else 0
  | 0, _ => by rw [if_neg (by omega)]; rfl
  | k + 1, hk => by
    have ih := tS_one (u := u) hup k (by omega)
    rw [tS]
    by_cases e : k = one
    · subst e
      rw [if_pos ((hup k (by omega)).2 rfl), ih, if_neg (by omega), if_pos (by omega)]; omega
    · rw [if_neg (fun h => e ((hup k (by omega)).1 h)), ih]
      by_cases h1 : one < k
      · rw [if_pos h1, if_pos (by omega)]
      · rw [if_neg h1, if_neg (by omega)]
theorem nH_one {up : Nat → Bool} {h u : Nat → Int} {n one : Nat} (hup : ∀ i, i < n → (up i = true ↔ i = one)) (ho : one < n) (i : Nat) : nH up h u n i = h i := by
  unfold nH
  rw [tC_one hup n (Nat.le_refl _), if_pos ho]
  simp only [tS_one hup n (Nat.le_refl _), if_pos ho]
  unfold upd tH
  by_cases e : i = one
  · subst e; rw [if_pos rfl]; omega
  · rw [if_neg e, if_neg (fun h => e ((hup i h.1).1 h.2))]
theorem nH_down {up : Nat → Bool} {h u : Nat → Int} {n d : Nat} (hd : up d = false) : nH up h u n d = h d := by
  unfold nH
  cases hc : tC up h u n with
  | none => rfl
  | some j =>
    have hj := (tC_lt hc).2
    simp only
    have e : d ≠ j := fun e => by subst e; rw [hd] at hj; cases hj
    rw [upd_other _ _ e]
    unfold tH
    rw [if_neg (fun h => by rw [hd] at h; cases h.2)]
theorem nH_bound {up : Nat → Bool} {h u : Nat → Int} {n : Nat} {B : Int} (hB : 0 ≤ B) (hn : n ≤ 8) (hu : ∀ i, 0 ≤ u i ∧ u i ≤ 100) (hh : ∀ i, -B ≤ h i ∧ h i ≤ B) (i : Nat) : -(B + 800) ≤ nH up h u n i ∧ nH up h u n i ≤ B + 800 := by
  have hs := tS_bound (up := up) (u := u) (n := n) (fun i _ => hu i) n (Nat.le_refl _)
  have h1 := hh i
  have h2 := hu i
  unfold nH
  cases hc : tC up h u n with
  | none => simp only; omega
  | some j =>
    have h3 := hh j
    have h4 := hu j
    simp only
    unfold upd tH
    split
    · omega
    · split <;> omega
/-- All but one. -/
def oth (one k : Nat) : List Int := ((List.range k).filter (fun i => decide (i ≠ one))).map (fun i : Nat => (i : Int))
theorem oth_step (one k : Nat) : oth one (k + 1) = if k = one then oth one k else oth one k ++ [(k : Int)] := by
  unfold oth
  rw [List.range_succ, List.filter_append, List.map_append]
  by_cases e : k = one
  · rw [if_pos e]; simp [e]
  · rw [if_neg e]; simp [e]
theorem oth_len (one : Nat) : ∀ k : Nat, (oth one k).length ≤ k
  | 0 => by simp [oth]
  | k + 1 => by
    have := oth_len one k
    rw [oth_step]
    split
    · omega
    · simp; omega
theorem oth_up (one n : Nat) (i : Nat) (hi : i < n) : upL (oth one n) i = true ↔ i = one := by
  unfold upL oth
  simp only [Bool.not_eq_true', decide_eq_false_iff_not, List.mem_map, List.mem_filter, List.mem_range, decide_eq_true_eq]
  constructor
  · intro h
    by_cases e : i = one
    · exact e
    · exact absurd ⟨i, ⟨hi, e⟩, rfl⟩ h
  · rintro rfl ⟨j, ⟨_, hj⟩, he⟩
    exact hj (by omega)
def ivs (l : List Int) : List Value := l.map fun x => .int .i64 x
/-- 'l = append(l, x)' of one number, l nil or the call's own. -/
theorem wpList_append_int (W : World) {ops : Array Oper} {rest : List Oper} {o : Oper} {a : Act} {Q : Exit → Act → World → Prop} (hgd : o.guard = none) (s x : Operand)
    (ho : o.op = .call { callee := .builtin .append, args := #[s, x], argTypes := #[22, 22] })
    (B : Nat) (v : Value) (k : Nat) (l : List Int) (hs : a.eval s = v) (hown : W.ownsRow B 3 1 v k (ivs l))
    (q : Int) (hx : a.eval x = .slice (some ⟨W.heap.size, 0, none⟩) 1 1)
    (hk : k + 1 ≤ 1000) (hB : B ≤ W.heap.size)
    (h : ∀ v' w', w'.ownsRow B 3 1 v' (k + 1) (ivs (l ++ [q])) → Below B W w' → (∀ g, g < W.heap.size → v.ownBlock ≠ some g → w'.heap[g]? = W.heap[g]?) → wpList Try.prog ops Q rest (a.put o.dst v') w') :
    wpList Try.prog ops Q (o :: rest) a (W.alloc (.cells #[.int .i64 q] 3)) := by
  obtain ⟨i0, hi, hz0, hz1, hz2⟩ := info_parts info3
  refine wpList_append_own _ hgd s x 22 ho B 3 i0 (.int .i64 0) 1 8 Try.underlying22 hi hz0 hz1 hz2 rfl (by decide) v k (ivs l) hs (hown.alloc _) ⟨W.heap.size, 0, none⟩ 1 1 [.int .i64 q] hx rfl ?_ ?_ ?_ ?_ ?_ ?_
  · intro j u hj
    match j, hj with
    | 0, hj => simp at hj; subst hj; simp [Addr.add]
  · intro u hu; simp at hu; subst hu; rfl
  · unfold maxLen; omega
  · omega
  · simp; omega
  · intro v' w' h1 h2 _
    have e : ivs l ++ [.int .i64 q] = ivs (l ++ [q]) := by simp [ivs]
    rw [e] at h1
    refine h v' w' h1 ?_ ?_
    · refine (((Below.refl B W).alloc hB _).grown h2 (by simp; omega) ?_)
      intro g hg
      exact (hown.lt g hg).1
    · intro g hg hne
      rw [← Below.heap_alloc W (.cells #[.int .i64 q] 3) g hg]
      exact h2.block g (by simp; omega) (fun e => hne e.symm)
/-- A slice that holds these numbers. -/
structure OL (w : World) (v : Value) (L : List Int) : Prop where
  v : ∃ (o : Option Addr) (cap g : Nat), v = .slice o L.length cap ∧ (0 < L.length → o = some ⟨g, 0, none⟩ ∧ ∃ cur : Array Value, w.heap[g]? = some (.cells cur 3 (0, 0)) ∧ ∀ k (h : k < L.length), cur[k]? = some (.int .i64 L[k]))
theorem OL.of {w : World} {B : Nat} {v : Value} {L : List Int} (h : w.ownsRow B 3 1 v L.length (ivs L)) : OL w v L := by
  rcases h.2 with ⟨rfl, h0⟩ | ⟨g, cap, cur, rfl, _, hh, _, _, _, ht⟩
  · exact ⟨none, 0, 0, by rw [h0], fun hp => by omega⟩
  · refine ⟨some ⟨g, 0, none⟩, cap, g, rfl, fun _ => ⟨rfl, cur, hh, fun k hk => ?_⟩⟩
    have hc := h.cellAt k (by omega)
    rw [cell_of_row w g k _ _ _ hh] at hc
    rw [hc]
    simp [ivs, hk]
theorem OL.block {w w' : World} {v : Value} {L : List Int} (h : OL w v L) (hb : ∀ (g : Nat) (cur : Array Value), w.heap[g]? = some (Obj.cells cur 3 (0, 0)) → w'.heap[g]? = w.heap[g]?) : OL w' v L := by
  obtain ⟨o, cap, g, hv, hc⟩ := h.v
  exact ⟨o, cap, g, hv, fun hp => by
    obtain ⟨h1, cur, h2, h3⟩ := hc hp
    exact ⟨h1, cur, (hb g cur h2).trans h2, h3⟩⟩
theorem OL.later {w w' : World} {v : Value} {L : List Int} (h : OL w v L) (hb : Below w.heap.size w w') : OL w' v L := h.block (fun g cur h => hb.block g (lt_of_heap h))
theorem OL.row {w : World} {v : Value} {L : List Int} (h : OL w v L) {q : Nat} {hh u : Nat → Int} {n : Nat} (H : NS w q hh u n) (cs : Array Value) : OL (w.setRow q cs) v L := h.block (fun g cur hg => setRow_other w q g _ (fun e => by
  subst e
  unfold NS at H
  rw [H] at hg
  simp at hg))
theorem OL.din {w : World} {v : Value} {L : List Int} (h : OL w v L) : ∃ (o : Option Addr) (cap g : Nat), v = .slice o L.length cap ∧ (0 < L.length → o = some ⟨g, 0, none⟩ ∧ g < w.heap.size) ∧ DIn w g 0 L := by
  obtain ⟨o, cap, g, hv, hc⟩ := h.v
  refine ⟨o, cap, g, hv, fun hp => ?_, fun k hk => ?_⟩
  · obtain ⟨h1, cur, h2, _⟩ := hc hp
    exact ⟨h1, lt_of_heap h2⟩
  · obtain ⟨h1, cur, h2, h3⟩ := hc (by omega)
    rw [Nat.zero_add, cell_of_row w g k _ _ _ h2]
    exact h3 k hk
theorem yieldsIf_load_ns {ops : Array Oper} {S : World → Prop} {op : Oper} {a : Act} (hw : Region.wanted op (yielded ops a.tmps) = true) (x : Operand) (ho : op.op = .load 28 x)
    (g : Nat) (hx : a.eval x = .pointer (some ⟨g, 0, none⟩)) {h u : Nat → Int} {n : Nat} (hS : ∀ w, S w → NS w g h u n) : YieldsIf Try.prog ops S op (spV h u n) a :=
  .inl ⟨hw, fun w hw' => by
    unfold execOp
    simp only [ho, hx, Instr.loadAt, Instr.sureAddr, Sem.run_bind, Sem.run_pure, Result.andThen_ok, (hS w hw').load]
    rfl⟩
end Go.Proofs.Ytbnopmkfmggliaa
