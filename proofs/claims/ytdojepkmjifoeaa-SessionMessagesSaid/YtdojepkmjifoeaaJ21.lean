/- Rows of numbers in memory, one put behind. -/
import Derived.Test.YtdojepkmjifoeaaJ18
set_option linter.unusedVariables false
set_option linter.unusedSimpArgs false
namespace Go.Proofs.Ytdojepkmjifoeaa
open Go.RowKit

def nval (n : Nat) : Value := .int .u64 (n : Int)
theorem info22n : (Try.prog.info? 22).map (fun i => (i.zero, i.size, i.bytes)) = some (some (.int .u64 0), 1, 8) := by kernel_rfl
/-- A row of numbers. -/
def NRow (ρ : Option Nat) (o : Option Addr) (cap : Nat) (xs : List Nat) (w : World) : Prop :=
  (o = none ∧ cap = 0 ∧ ρ = none ∧ xs = []) ∨ ∃ (r : Nat) (cur : Array Value), ρ = some r ∧ o = some ⟨r, 0, none⟩ ∧ w.heap[r]? = some (.cells cur 22 (0, 0)) ∧ xs.length ≤ cap ∧ cap ≤ maxLen ∧ cur.size = cap ∧ cur.toList.take xs.length = xs.map nval
theorem NRow.nil (w : World) : NRow none none 0 [] w := Or.inl ⟨rfl, rfl, rfl, rfl⟩
theorem NRow.keep {ρ : Option Nat} {o : Option Addr} {cap : Nat} {xs : List Nat} {w w' : World} (h : NRow ρ o cap xs w) (hk : ∀ r, ρ = some r → w'.heap[r]? = w.heap[r]?) : NRow ρ o cap xs w' := by
  rcases h with h | ⟨r, cur, h1, h2, h4, h5⟩
  · exact Or.inl h
  · exact Or.inr ⟨r, cur, h1, h2, (hk r h1).trans h4, h5⟩
theorem NRow.lt {ρ : Option Nat} {o : Option Addr} {cap : Nat} {xs : List Nat} {w : World} (h : NRow ρ o cap xs w) (r : Nat) (hr : ρ = some r) : r < w.heap.size := by
  rcases h with ⟨_, _, h, _⟩ | ⟨q, cur, h1, _, h4, _⟩
  · rw [h] at hr; cases hr
  · rw [h1] at hr; cases hr; exact lt_of_heap h4
theorem NRow.cell {ρ : Option Nat} {o : Option Addr} {cap : Nat} {xs : List Nat} {w : World} (h : NRow ρ o cap xs w) (j : Nat) (hj : j < xs.length) : ∃ r, ρ = some r ∧ o = some ⟨r, 0, none⟩ ∧ w.cell? ⟨r, j, none⟩ = some (.int .u64 (xs[j] : Int)) := by
  rcases h with ⟨_, _, _, h0⟩ | ⟨r, cur, h1, h2, h4, _, _, _, htk⟩
  · subst h0; exact absurd hj (by simp)
  · refine ⟨r, h1, h2, ?_⟩
    rw [cell_of_row w r j _ _ _ h4, ← Array.getElem?_toList]
    have := congrArg (fun l => l[j]?) htk
    simp only [List.getElem?_take, List.getElem?_map] at this
    rw [if_pos hj, List.getElem?_eq_getElem hj] at this
    rw [this]; rfl
theorem NRow.later {ρ : Option Nat} {o : Option Addr} {cap : Nat} {xs : List Nat} {w w' : World} (h : NRow ρ o cap xs w) (hb : Below w.heap.size w w') : NRow ρ o cap xs w' := h.keep (fun r hr => hb.block r (h.lt r hr))
theorem nval_len (xs : List Nat) : (xs.map nval).length = xs.length := by simp

theorem nrow_append (g : Nat) (ty : TypeId) (w : World) (ρ : Option Nat) (o : Option Addr) (cap : Nat) (xs : List Nat) (hR : NRow ρ o cap xs w) (hn : xs.length + 1 ≤ 1000000000) (a : Addr) (n : Nat) (hnew : w.cell? (a.add 0) = some (.int .u64 (n : Int))) :
    ∃ o' cap' w' ρ', (Builtin.append_ #[23, 23] ty #[.slice o xs.length cap, .slice (some a) 1 1]).run Try.prog w = .ok (.slice o' (xs.length + 1) cap') w' ∧ NRow ρ' o' cap' (xs ++ [n]) w' ∧ Nxt ρ ρ' w ∧ Chg g ρ w w' := by
  obtain ⟨i, hi, hz, hsz, hby⟩ := info_parts info22n
  have hml : (xs.length + 1 : Nat) ≤ maxLen := by unfold maxLen; omega
  have hnl : [nval n].length = 1 * i.size := by rw [hsz]; rfl
  have hnews : ∀ j u, [nval n][j]? = some u → w.cell? (a.add j) = some u := by
    intro j u hj
    match j, hj with
    | 0, hj => simp at hj; subst hj; exact hnew
  have h1 : ∀ u ∈ [nval n], u.oneCell' = true := by intro u hu; simp at hu; subst hu; rfl
  have hxl : (xs ++ [n]).length = xs.length + 1 := by simp
  have hmap : (xs ++ [n]).map nval = xs.map nval ++ [nval n] := by simp
  have fresh : ∀ old, NRow (some w.heap.size) (some ⟨w.heap.size, 0, none⟩) (grownCap w (xs.length + 1) old 22) (xs ++ [n]) (w.drew.alloc (.cells ((xs.map nval).toArray ++ [nval n].toArray ++ Builtin.zeroCells (Value.int .u64 0).cells (grownCap w (xs.length + 1) old 22 - (xs.length + 1))) 22)) := by
    intro old
    have hge := grownCap_ge w (xs.length + 1) old 22
    refine Or.inr ⟨w.heap.size, _, rfl, rfl, heap_alloc_new w.drew _, by rw [hxl]; exact hge, grownCap_le_maxLen w (xs.length + 1) old 22 hml, ?_, ?_⟩
    · have hz4 : (Value.int .u64 0).cells.size = 1 := rfl
      simp only [Array.size_append, List.size_toArray, size_zeroCells, hz4, nval_len, List.length_singleton]
      omega
    · have hl2 : (xs ++ [n]).length = (xs.map nval ++ [nval n]).length := by simp
      rw [hmap, hl2]
      simp only [Array.toList_append]
      exact List.take_left
  rcases hR with ⟨rfl, rfl, rfl, rfl⟩ | ⟨r, cur, rfl, rfl, hg, hnc, hcm, hcs, htk⟩
  · have hr := run_append_nil (P := Try.prog) w 23 ty 22 i _ Try.underlying23 hi hz a 1 1 [nval n] hnl hnews (by omega) (by omega) (by rw [hby]; omega)
    have hf := fresh 0
    simp only [List.map_nil, List.nil_append, Array.empty_append, List.length_nil, Nat.zero_add] at hf
    exact ⟨_, _, _, _, hr, hf, Or.inr ⟨_, rfl, Nat.le_refl _⟩, grown_chg _ _ _ _⟩
  · by_cases hroom : xs.length + 1 ≤ cap
    · have hr := run_append_room (P := Try.prog) w 23 ty 22 i Try.underlying23 hi r xs.length cap cur hg a 1 1 [nval n] hnl hnews h1 hroom (by rw [hsz, hcs, List.length_singleton]; omega)
      rw [hsz] at hr
      refine ⟨_, _, _, some r, hr, Or.inr ⟨r, _, rfl, rfl, setRow_heap w r cur _ 22 _ hg, by rw [hxl]; exact hroom, hcm, ?_, ?_⟩, Or.inl rfl, rfl, rfl, rfl, by simp, fun k _ _ hk => setRow_other w r k _ (fun e => hk (by rw [e]))⟩
      · simp only [List.size_toArray, List.length_append, List.length_take, List.length_drop, Array.length_toList, List.length_singleton]
        omega
      · have hl2 : (xs ++ [n]).length = (xs.map nval ++ [nval n]).length := by simp
        rw [Nat.mul_one, htk, hmap, hl2]
        exact List.take_left
    · have holds : ∀ j u, (xs.map nval)[j]? = some u → w.cell? ((⟨r, 0, none⟩ : Addr).add j) = some u := by
        intro j u hj
        have hjl : j < xs.length := by have := (List.getElem?_eq_some_iff.1 hj).1; simpa using this
        rw [plain_add, cell_of_row w r j _ _ _ hg, ← Array.getElem?_toList]
        have := congrArg (fun l => l[j]?) htk
        simp only [List.getElem?_take] at this
        rw [if_pos hjl] at this
        rw [this]; exact hj
      have hr := run_append_grow (P := Try.prog) w 23 ty 22 i _ Try.underlying23 hi hz ⟨r, 0, none⟩ xs.length cap (xs.map nval) (by rw [hsz, nval_len]; omega) holds a 1 1 [nval n] hnl hnews (by omega) (by omega) (by rw [hby]; exact growslice_fits (by omega) (by omega))
      exact ⟨_, _, _, _, hr, fresh cap, Or.inr ⟨_, rfl, Nat.le_refl _⟩, grown_chg _ _ _ _⟩
theorem wpList_nrow {w : World} {o : Oper} {a : Act} {ops : Array Oper} {rest : List Oper} {Q : Exit → Act → World → Prop} (s x : Operand) (hgd : o.guard = none)
    (ho : o.op = .call { callee := .builtin .append, args := #[s, x], argTypes := #[23, 23] })
    (g : Nat) (ρ : Option Nat) (oo : Option Addr) (cap : Nat) (xs : List Nat) (hR : NRow ρ oo cap xs w) (q : Nat) (hq : q = xs.length) (hn : q + 1 ≤ 1000000000) (ad : Addr) (n : Nat) (hnew : w.cell? (ad.add 0) = some (.int .u64 (n : Int)))
    (hs : a.eval s = .slice oo q cap) (hx : a.eval x = .slice (some ad) 1 1)
    (h : ∀ o' cap' w' ρ', NRow ρ' o' cap' (xs ++ [n]) w' → Nxt ρ ρ' w → Chg g ρ w w' → wpList Try.prog ops Q rest (a.put o.dst (.slice o' (q + 1) cap')) w') : wpList Try.prog ops Q (o :: rest) a w := by
  subst hq
  refine wpList_plain hgd fun K' hK' => ?_
  obtain ⟨o', cap', w', ρ', hr, h2, h3, h4⟩ := nrow_append g o.type w ρ oo cap xs hR hn ad n hnew
  unfold Oper.wp execOp
  simp only [ho, resolve, invoke, builtin, Sem.run_bind, Sem.run_pure, Result.andThen_ok, List.map_toArray, List.map_cons, List.map_nil, hs, hx, hr]
  exact hK' _ _ (h o' cap' w' ρ' h2 h3 h4)
theorem num_new (w : World) (n : Nat) : (w.alloc (.cells #[.int .u64 (n : Int)] 22)).cell? ((⟨w.heap.size, 0, none⟩ : Addr).add 0) = some (.int .u64 (n : Int)) := by simp [Addr.add]
end Go.Proofs.Ytdojepkmjifoeaa
