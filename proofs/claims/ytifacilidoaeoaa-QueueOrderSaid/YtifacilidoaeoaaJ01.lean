/- Rows of numbers as slices; Grow of nil; append to an own row.; Index, Contains; New, Len, Room, the chapter's example; All.; Put, without, Take, Drop.; Take, Drop. -/
import Derived.Test.YtifacilidoaeoaaRows
import Derived.WalkKit
import Derived.WalkLawsBesides
import Derived.Outline
import Derived.Laws.IdiomStrings
import Derived.Lib.Hide
import Derived.WalkSpells
import Derived.Deep.DeepCutAuto
import Derived.Deep.CutBlock
import Derived.Deep.QuietTactic
import Derived.BigQuiet
import Derived.Deep.RegionHeld3
import Derived.Deep.LoopGhost
import Derived.StillTailTactics
import Derived.Deep.RegionWith
import Derived.Deep.DeepFit
import Derived.Deep.Light
import Derived.Deep.RegionLaw
import Derived.Laws.Externs
import Derived.Laws.Rows
import Derived.Laws.AppendOwnNone
import Derived.Carry
import Derived.Test.YtifacilidoaeoaaJ00
set_option linter.unusedVariables false
set_option linter.unusedSimpArgs false
namespace Go.Proofs.Ytifacilidoaeoaa
open Go.RowKit

theorem lt_of_heap {w : World} {g : Nat} {o : Obj} (h : w.heap[g]? = some o) : g < w.heap.size := (Array.getElem?_eq_some_iff.1 h).1
theorem alloc_below (w : World) (o : Obj) : Below w.heap.size w (w.alloc o) := (Below.refl _ _).alloc (Nat.le_refl _) _
theorem bt {w w1 : World} {o : Obj} (h : Below (w.alloc o).heap.size (w.alloc o) w1) : Below w.heap.size w w1 := (alloc_below w o).trans (h.mono (by simp))
theorem rng_lt {w : World} {b o : Nat} {cs : List Value} (h : w.rangeAt b o cs) (hn : 0 < cs.length) : b < w.heap.size := World.block_lt_of_cell? w _ (h 0 _ (List.getElem?_eq_getElem hn))
theorem rng_keep {w w' : World} {b o : Nat} {cs : List Value} (h : w.rangeAt b o cs) (hk : 0 < cs.length → w'.heap[b]? = w.heap[b]?) : w'.rangeAt b o cs := fun j v hj => by
  have := (List.getElem?_eq_some_iff.1 hj).1
  rw [World.cell?_of_block (w := w) (a := ⟨b, o + j, none⟩) (hk (by omega))]
  exact h j v hj
theorem rng_later {w w' : World} {b o : Nat} {cs : List Value} (h : w.rangeAt b o cs) (hb : Below w.heap.size w w') : w'.rangeAt b o cs := rng_keep h fun hn => hb.block _ (rng_lt h hn)

def nv (n : Nat) : Value := .int .u64 (n : Int)
def nc (l : List Nat) : List Value := l.map nv
theorem nc_len (l : List Nat) : (nc l).length = l.length := by simp [nc]
theorem nc_one (l : List Nat) : ∀ v ∈ nc l, v.oneCell' = true := by
  intro v hv
  simp only [nc, List.mem_map] at hv
  obtain ⟨e, _, rfl⟩ := hv
  rfl
theorem nc_get (l : List Nat) (j : Nat) (h : j < l.length) : (nc l)[j]? = some (.int .u64 (l[j] : Int)) := by simp [nc, nv, h]
theorem info29 : (Try.prog.info? 29).map (fun i => (i.zero, i.size, i.bytes)) = some (some (.int .u64 0), 1, 8) := by kernel_rfl

/-- A slice of numbers, no block of it ahead of B. -/
def Sl (B : Nat) (w : World) (v : Value) (l : List Nat) : Prop :=
  (v = .slice none 0 0 ∧ l = []) ∨ ∃ b off cap, v = .slice (some ⟨b, off, none⟩) l.length cap ∧ l.length ≤ cap ∧ cap ≤ maxLen ∧ B ≤ b ∧ w.rangeAt b off (nc l)
theorem Sl.later {B : Nat} {w w' : World} {v : Value} {l : List Nat} (h : Sl B w v l) (hb : Below w.heap.size w w') : Sl B w' v l := by
  rcases h with h | ⟨b, off, cap, h1, h2, h3, h4, h5⟩
  · exact Or.inl h
  · exact Or.inr ⟨b, off, cap, h1, h2, h3, h4, rng_later h5 hb⟩
theorem Sl.mono {B B' : Nat} {w : World} {v : Value} {l : List Nat} (h : Sl B w v l) (hB : B' ≤ B) : Sl B' w v l := by
  rcases h with h | ⟨b, off, cap, h1, h2, h3, h4, h5⟩
  · exact Or.inl h
  · exact Or.inr ⟨b, off, cap, h1, h2, h3, by omega, h5⟩
theorem Sl.set {B : Nat} {w : World} {v : Value} {l : List Nat} (h : Sl B w v l) (p : Addr) (hp : p.block < B) (u : Value) : Sl B (w.setCell p u) v l := by
  rcases h with h | ⟨b, off, cap, h1, h2, h3, h4, h5⟩
  · exact Or.inl h
  · exact Or.inr ⟨b, off, cap, h1, h2, h3, h4, rng_keep h5 fun _ => heap_setCell_other _ _ _ _ (by omega)⟩
theorem Sl.form {B : Nat} {w : World} {v : Value} {l : List Nat} (h : Sl B w v l) : ∃ o cap, v = .slice o l.length cap := by
  rcases h with ⟨rfl, rfl⟩ | ⟨b, off, cap, rfl, _⟩
  · exact ⟨none, 0, rfl⟩
  · exact ⟨_, cap, rfl⟩
theorem Sl.nil (B : Nat) (w : World) : Sl B w (.slice none 0 0) [] := Or.inl ⟨rfl, rfl⟩
theorem Sl.cells {B : Nat} {w : World} {v : Value} {l : List Nat} (h : Sl B w v l) : ∃ o cap b off, v = .slice o l.length cap ∧ (0 < l.length → o = some ⟨b, off, none⟩) ∧ ∀ j (hj : j < l.length), w.cell? ⟨b, off + j, none⟩ = some (.int .u64 (l[j] : Int)) := by
  rcases h with ⟨rfl, rfl⟩ | ⟨b, off, cap, rfl, _, _, _, h5⟩
  · exact ⟨none, 0, 0, 0, rfl, fun h => absurd h (by simp), fun j hj => absurd hj (by simp)⟩
  · exact ⟨_, cap, b, off, rfl, fun _ => rfl, fun j hj => h5 j _ (nc_get l j hj)⟩

/-- An own row of numbers. -/
def Ow (w : World) (B : Nat) (v : Value) (l : List Nat) : Prop := w.ownsRow B 29 1 v l.length (nc l)
theorem Ow.sl {w : World} {B : Nat} {v : Value} {l : List Nat} (h : Ow w B v l) : Sl B w v l := by
  rcases h.2 with ⟨rfl, hn⟩ | ⟨g, cap, cur, rfl, h0, hg, h1, h2, h3, h4⟩
  · exact Or.inl ⟨rfl, List.eq_nil_of_length_eq_zero hn⟩
  · refine Or.inr ⟨g, 0, cap, rfl, h1, h2, h0, fun j v hj => ?_⟩
    have := h.cells (g := g) rfl j v hj
    rwa [Addr.add_mid] at this
theorem Ow.nil (w : World) (B : Nat) : Ow w B (.slice none 0 0) [] := World.ownsRow_nil _ _ _ _

/-- 'a = append(a, s...)', a the call's own. -/
theorem wpList_append_nums (W : World) {ops : Array Oper} {rest : List Oper} {o : Oper} {a : Act} {Q : Exit → Act → World → Prop} (hgd : o.guard = none) (s x : Operand)
    (ho : o.op = .call { callee := .builtin .append, args := #[s, x], argTypes := #[22, 22] })
    (B C : Nat) (v u : Value) (K L : List Nat) (hs : a.eval s = v) (hown : Ow W B v K) (hx : a.eval x = u) (hu : Sl C W u L) (hB : B ≤ W.heap.size) (hk : K.length + L.length ≤ 3000000)
    (h : ∀ v' w', Ow w' B v' (K ++ L) → Below B W w' → wpList Try.prog ops Q rest (a.put o.dst v') w') : wpList Try.prog ops Q (o :: rest) a W := by
  obtain ⟨i0, hi, hz0, hz1, hz2⟩ := info_parts info29
  rcases hu with ⟨rfl, rfl⟩ | ⟨b, off, cap, rfl, _, _, _, hr⟩
  · refine wpList_append_own_none hgd s x 22 ho B 29 i0 1 Try.underlying22 hi v K.length (nc K) hs hown hx ?_
    have := h v W (by rw [List.append_nil]; exact hown) (Below.refl _ _)
    exact this
  · refine wpList_append_own _ hgd s x 22 ho B 29 i0 (.int .u64 0) 1 8 Try.underlying22 hi hz0 hz1 hz2 rfl (by decide) v K.length (nc K) hs hown ⟨b, off, none⟩ L.length cap (nc L) hx (by rw [nc_len]; omega) ?_ (nc_one L) ?_ ?_ hB ?_
    · intro j u hj
      rw [Addr.add_mid]; exact hr j u hj
    · unfold maxLen; omega
    · omega
    · intro v' w' h1 h2 _
      refine h v' w' ?_ ?_
      · unfold Ow
        rw [List.length_append, nc, List.map_append]
        exact h1
      · refine (Below.refl B W).grown h2 hB ?_
        intro g hg
        exact (hown.lt g hg).1
/-- What slices.Grow makes of nil. -/
theorem grow_any (n : Nat) (hn : n ≤ 3000000) (w : World) : Calls Try.prog 22 #[.slice none 0 0, .int .i64 n] w fun e w' => (∃ v, e = .returned v ∧ Ow w' w.heap.size v []) ∧ Below w.heap.size w w' := by
  by_cases h0 : n = 0
  · subst h0
    refine (Try.slices_Grow_room none 0 0 0 w (by omega) (by omega) (by omega) (by omega)).mono ?_
    rintro e w' ⟨rfl, rfl⟩
    exact ⟨⟨_, rfl, Ow.nil _ _⟩, Below.refl _ _⟩
  · obtain ⟨i0, hi, hz0, hz1, hz2⟩ := info_parts info29
    refine (Try.slices_Grow_grow i0 (.int .u64 0) hi hz0 (by rw [hz1]; decide) none 0 0 n [] w (by omega) (by omega) (by rw [hz2]; omega) (by omega) (by simp) (fun _ => rfl) (fun a ha => by cases ha)).mono ?_
    rintro e w' ⟨rfl, rfl⟩
    refine ⟨⟨_, rfl, ?_⟩, ?_⟩
    · refine ⟨rfl, Or.inr ⟨w.heap.size, _, _, rfl, Nat.le_refl _, heap_alloc_new w.drew _, Nat.zero_le _, grownCap_le_maxLen w _ _ _ (by unfold maxLen; omega), ?_, by simp [nc]⟩⟩
      have hge := grownCap_ge w (0 + n) 0 29
      rw [Nat.zero_add] at hge
      have hz : (Value.int .u64 0).cells.size = 1 := by rfl
      simp only [Array.size_append, size_zeroCells, hz]
      simp
      omega
    · exact ((Below.refl w.heap.size w).drew).alloc (Nat.le_refl _) _

/-- Two rows, by their number. -/
def tw {α : Type} (a b : α) : Nat → α
  | 0 => a
  | _ => b
/-- Those ahead of one. -/
def pre (A B : List Nat) : Nat → List Nat
  | 0 => []
  | k + 1 => pre A B k ++ tw A B k
theorem pre_len (A B : List Nat) (k : Nat) : (pre A B (k + 1)).length = (pre A B k).length + (tw A B k).length := by simp [pre]
theorem pre_le (A B : List Nat) (m : Nat) (hA : A.length ≤ m) (hB : B.length ≤ m) : ∀ k, (pre A B k).length ≤ k * m
  | 0 => by simp [pre]
  | k + 1 => by
    have := pre_le A B m hA hB k
    have h2 : (tw A B k).length ≤ m := by
      match k with
      | 0 => exact hA
      | _ + 1 => exact hB
    rw [pre_len, Nat.succ_mul]; omega

set_option maxRecDepth 100000 in
set_option maxHeartbeats 2000000 in
theorem concat_any (A B : List Nat) (a b : Value) (g C : Nat) (w : World) (hlA : A.length ≤ 1000000) (hlB : B.length ≤ 1000000)
    (ha : Sl C w a A) (hb : Sl C w b B) (c0 : w.cell? ⟨g, 0, none⟩ = some a) (c1 : w.cell? ⟨g, 1, none⟩ = some b) :
    Calls Try.prog 18 #[.slice (some ⟨g, 0, none⟩) 2 2] w fun e w' => (∃ o n c, e = .returned (.slice o n c) ∧ Sl w.heap.size w' (.slice o n c) (A ++ B)) ∧ Below w.heap.size w w' := by
  have HC : Hid (∀ wz, Below w.heap.size w wz → ∀ k, k < 2 → wz.cell? ⟨g, k, none⟩ = some (tw a b k) ∧ Sl C wz (tw a b k) (tw A B k)) := Lib.hid (fun wz hz k hk => by
    have hg := World.block_lt_of_cell? w _ c0
    match k, hk with
    | 0, _ => exact ⟨(hz.cell hg).trans c0, ha.later hz⟩
    | 1, _ => exact ⟨(hz.cell (p := ⟨g, 1, none⟩) hg).trans c1, hb.later hz⟩)
  have HLE : Hid (∀ k, k ≤ 2 → (pre A B k).length ≤ 2000000) := Lib.hid (fun k hk => by
    have := pre_le A B 1000000 hlA hlB k
    have : k * 1000000 ≤ 2 * 1000000 := Nat.mul_le_mul_right _ hk
    omega)
  have HPL := Lib.hid (pre_len A B)
  have HFIN : Hid (pre A B 2 = A ++ B) := Lib.hid (by simp [pre, tw])
  have HPS : Hid (∀ k, pre A B (k + 1) = pre A B k ++ tw A B k) := Lib.hid (fun k => rfl)
  have HP0 : Hid (pre A B 0 = []) := Lib.hid rfl
  generalize hPR : pre A B = PR at *
  generalize hTH : tw A B = TH at *
  generalize hTV : tw a b = TV at *
  clear hPR hTH hTV ha hb c0 c1 hlA hlB
  go_enter Try.func18, Try.ntmps18
  go_wp2
  go_loopw [3, 5, 11] (fun x _ y wr => w = wr ∧ ∃ k : Nat, k ≤ 2 ∧ y = .int .i64 k ∧ x = .int .i64 ((PR k).length : Nat)) (fun _ _ y _ => 2 - (intOf y).toNat)
  case atStart => exact ⟨rfl, 0, by omega, rfl, by rw [HP0.out]; rfl⟩
  case round =>
    obtain ⟨rfl, k, hk, rfl, rfl⟩ := hrel
    by_cases hlt : k < 2
    · obtain ⟨hcell, hsl⟩ := HC.out w (Below.refl _ _) k hlt
      obtain ⟨o, cap, hv⟩ := hsl.form
      rw [hv] at hcell
      have e1 := HPL.out k
      have e2 := HLE.out k hk
      have e3 := HLE.out (k + 1) (by omega)
      obtain ⟨p1, hp1⟩ : ∃ p, p = (PR k).length := ⟨_, rfl⟩
      obtain ⟨p2, hp2⟩ : ∃ p, p = (TH k).length := ⟨_, rfl⟩
      obtain ⟨p3, hp3⟩ : ∃ p, p = (PR (k + 1)).length := ⟨_, rfl⟩
      rw [← hp2] at hcell
      rw [← hp1, ← hp2, ← hp3] at e1
      rw [← hp1] at e2
      rw [← hp3] at e3
      rw [← hp1]
      have q1 : (k : Int) < 2 := by omega
      have e4 : (p1 : Int) + (p2 : Int) = (p3 : Int) := by omega
      have HP3 := Lib.hid hp3
      clear hsl hv hp1 hp2 hp3 e1
      go_wp2
      go_roundw
      case rel => exact ⟨by simp, k + 1, by omega, by go_num, by rw [← HP3.out]⟩
      case measure => simp [intOf]; omega
    · have hk3 : k = 2 := by omega
      subst hk3
      have e3 := HLE.out 2 (by omega)
      have KG := Lib.hid (grow_any (PR 2).length (by omega) w)
      generalize (PR 2).length = p at *
      go_wp2_with (first
        | (go_at_call 22; ((with_reducible refine (KG.out).mono ?_); rintro x w5 ⟨⟨v5, rfl, ho5⟩, hb5⟩; have HO5 := Lib.hid ho5; have HB5 := Lib.hid hb5; clear ho5 hb5)))
      go_loopw [6, 8, 27] (fun x _ y wz => ∃ k : Nat, k ≤ 2 ∧ y = .int .i64 k ∧ Hid (Ow wz w.heap.size x (PR k)) ∧ Hid (Below w.heap.size w wz)) (fun _ _ y _ => 2 - (intOf y).toNat)
      case atStart => exact ⟨0, by omega, rfl, by rw [HP0.out]; exact HO5, HB5⟩
      case round =>
        obtain ⟨k, hk, rfl, HO, HB⟩ := hrel
        by_cases hlt : k < 2
        · obtain ⟨hcell, hsl⟩ := HC.out wr HB.out k hlt
          have HSL := Lib.hid hsl
          have e1 := HPL.out k
          have e3 := HLE.out (k + 1) (by omega)
          have HE := Lib.hid (show (PR k).length + (TH k).length ≤ 3000000 by omega)
          have hBs := HB.out.size
          have HBs := Lib.hid hBs
          obtain ⟨t, ht⟩ : ∃ t, t = TV k := ⟨_, rfl⟩
          rw [← ht] at hcell HSL
          have q1 : (k : Int) < 2 := by omega
          clear hsl e1 e3 hBs ht
          go_wp2_with (first
            | (at_builtin; go_must (refine wpList_append_nums wr rfl (.tmp 31) (.tmp 32) rfl w.heap.size C _ t (PR k) (TH k) rfl HO.out rfl HSL.out HBs.out HE.out ?_); intro v6 w6 ho6 hb6; have HO6 := Lib.hid ho6; have HB6 := Lib.hid hb6; clear ho6 hb6))
          go_roundw
          case rel => exact ⟨k + 1, by omega, by go_num, by rw [HPS.out]; exact HO6, Lib.hid (HB.out.trans HB6.out)⟩
          case measure => simp [intOf]; omega
        · have hk3 : k = 2 := by omega
          subst hk3
          go_wp2
          go_ret
          have := HO.out.sl
          rw [HFIN.out] at this
          obtain ⟨o, c, h⟩ := this.form
          subst h
          exact ⟨⟨_, _, _, rfl, this⟩, HB.out⟩
end Go.Proofs.Ytifacilidoaeoaa

namespace Go.Proofs.Ytifacilidoaeoaa
open Go.RowKit

/-- A queue as a value. -/
def qV (v : Value) (m : Nat) : Value := .agg #[v, .int .i64 (m : Int)]
/-- Where one is, or -1. -/
def ix (l : List Nat) (x : Nat) : Int := if x ∈ l then (l.idxOf x : Int) else -1
theorem ix_yes {l : List Nat} {x k : Nat} (hk : k < l.length) (he : l[k] = x) (hn : ∀ j (h : j < l.length), j < k → l[j] ≠ x) : ix l x = (k : Int) := by
  have hm : x ∈ l := he ▸ List.getElem_mem hk
  unfold ix
  rw [if_pos hm]
  have h1 : l.idxOf x < l.length := List.idxOf_lt_length_iff.2 hm
  have h2 : l[l.idxOf x] = x := List.getElem_idxOf h1
  have h3 : ¬ (l.idxOf x < k) := fun h => hn _ h1 h h2
  have h4 : ¬ (k < l.idxOf x) := fun h => by
    have := List.not_of_lt_findIdx (p := fun y => y == x) h
    simp [he] at this
  have : l.idxOf x = k := by omega
  rw [this]
theorem ix_no {l : List Nat} {x : Nat} (hn : ∀ j (h : j < l.length), l[j] ≠ x) : ix l x = -1 := by
  unfold ix
  rw [if_neg]
  intro hm
  obtain ⟨j, hj, he⟩ := List.getElem_of_mem hm
  exact hn j hj he

theorem index_any (l : List Nat) (x : Nat) (v : Value) (B : Nat) (hcap : l.length ≤ 1000000000) (w : World) (hs : Sl B w v l) :
    Calls Try.prog 19 #[v, .int .u64 (x : Int)] w fun e w' => e = .returned (.int .i64 (ix l x)) ∧ w = w' := by
  obtain ⟨at0, cap, b, off, rfl, hat, hc⟩ := hs.cells
  have HC := Lib.hid hc
  have HAT := Lib.hid hat
  have HI : Hid (∀ k (hk : k < l.length), l[k] = x → (∀ j (h : j < l.length), j < k → l[j] ≠ x) → ix l x = (k : Int)) := Lib.hid (fun k hk he hn => ix_yes hk he hn)
  have HJ : Hid ((∀ j (h : j < l.length), l[j] ≠ x) → ix l x = -1) := Lib.hid ix_no
  generalize ix l x = r at *
  clear hc hat hs
  go_enter Try.func19, Try.ntmps19
  go_wp2
  go_loop [5, 8] (fun _ i => ∃ k : Nat, k ≤ l.length ∧ i = .int .i64 k ∧ Hid (∀ j (h : j < l.length), j < k → l[j] ≠ x)) (fun _ i => l.length - (intOf i).toNat)
  case atStart => exact ⟨0, by omega, rfl, Lib.hid (fun j _ h => absurd h (by omega))⟩
  case round =>
    obtain ⟨k, hk, rfl, HN⟩ := hrel
    by_cases hlt : k < l.length
    · have hcell := HC.out k hlt
      obtain rfl := HAT.out (by omega)
      obtain ⟨y, hy⟩ : ∃ y, l[k] = y := ⟨_, rfl⟩
      have HY := Lib.hid hy
      rw [hy] at hcell
      clear hy
      by_cases e : x = y
      · subst e
        go_wp2
        go_ret
        rw [HI.out k hlt HY.out HN.out]
        exact ⟨rfl, rfl⟩
      · have e' : ((x : Int) == (y : Int)) = false := by rw [beq_eq_false_iff_ne]; omega
        have HE := Lib.hid e
        clear e
        go_wp2
        go_round
        case rel =>
          refine ⟨k + 1, by omega, by go_num, Lib.hid (fun j hj h => ?_)⟩
          by_cases ej : j = k
          · subst ej; rw [HY.out]; exact fun h => HE.out h.symm
          · exact HN.out j hj (by omega)
        case measure => simp [intOf]; omega
    · go_wp2
      go_ret
      rw [HJ.out (fun j hj => HN.out j hj (by omega))]
      exact ⟨rfl, rfl⟩

theorem ix_ge (l : List Nat) (x : Nat) : decide (0 ≤ ix l x) = decide (x ∈ l) := by
  unfold ix
  split <;> simp_all
theorem contains_any (l : List Nat) (x : Nat) (v : Value) (B : Nat) (hcap : l.length ≤ 1000000000) (w : World) (hs : Sl B w v l) :
    Calls Try.prog 8 #[v, .int .u64 (x : Int)] w fun e w' => e = .returned (.bool (decide (x ∈ l))) ∧ w = w' := by
  have K := Lib.hid (index_any l x v B hcap w hs)
  obtain ⟨d, hd⟩ : ∃ d, d = decide (x ∈ l) := ⟨_, rfl⟩
  have h := ix_ge l x
  rw [← hd] at h ⊢
  obtain ⟨o, c, rfl⟩ := hs.form
  generalize ix l x = r at *
  clear hs hd
  go_enter Try.func8, Try.ntmps8
  go_wp2_with ((go_at_call 19; ((with_reducible refine (K.out).mono ?_); rintro e w1 ⟨rfl, rfl⟩)))
  go_ret
  exact ⟨rfl, rfl⟩

theorem len_any (o : Option Addr) (n c m : Nat) (w : World) : Calls Try.prog 10 #[.agg #[.slice o n c, .int .i64 (m : Int)]] w fun e w' => e = .returned (.int .i64 (n : Int)) ∧ Below w.heap.size w w' := by
  have HB := Lib.hid (alloc_below w (.cells #[.slice o n c, .int .i64 (m : Int)] 25))
  go_enter Try.func10, Try.ntmps10
  go_wp2
  go_ret
  exact ⟨rfl, HB.out⟩
theorem room_any (o : Option Addr) (n c m : Nat) (hn : n ≤ 1000000000) (hm : m ≤ 1000000000) (w : World) : Calls Try.prog 17 #[.agg #[.slice o n c, .int .i64 (m : Int)]] w fun e w' => e = .returned (.int .i64 ((m : Int) - (n : Int))) ∧ Below w.heap.size w w' := by
  have HB := Lib.hid (alloc_below w (.cells #[.slice o n c, .int .i64 (m : Int)] 25))
  go_enter Try.func17, Try.ntmps17
  go_wp2
  go_ret
  exact ⟨rfl, HB.out⟩
theorem new_any (m : Nat) (hm : m ≤ 64) (w : World) : Calls Try.prog 6 #[.int .i64 (m : Int)] w fun e w' => e = .returned (.tuple #[.agg #[.slice none 0 0, .int .i64 (m : Int)], .int .i64 0]) ∧ Below w.heap.size w w' := by
  have HB := Lib.hid (alloc_below w (.cells #[.slice none 0 0, .int .i64 0] 25))
  have hm' : (m : Int) ≤ 64 := by omega
  go_enter Try.func6, Try.ntmps6
  go_wp2
  refine bodyPost_ret (v := .tuple #[.agg #[.slice none 0 0, .int .i64 (m : Int)], .int .i64 0]) (by simp [results, Try.results6, go_sem, *]) rfl ⟨rfl, ?_⟩
  exact alloc_below _ _

theorem awake_any (w : World) : Calls Try.prog 5 #[] w fun e w' => e = .returned (.bool true) ∧ Below w.heap.size w w' := by
  have K6 : Hid (∀ w, Calls Try.prog 6 #[.int .i64 3] w fun e w' => e = .returned (.tuple #[.agg #[.slice none 0 0, .int .i64 3], .int .i64 0]) ∧ Below w.heap.size w w') := Lib.hid (fun w => new_any 3 (by omega) w)
  have K17 : Hid (∀ w, Calls Try.prog 17 #[.agg #[.slice none 0 0, .int .i64 3]] w fun e w' => e = .returned (.int .i64 3) ∧ Below w.heap.size w w') := Lib.hid (fun w => room_any none 0 0 3 (by omega) (by omega) w)
  have K10 : Hid (∀ w, Calls Try.prog 10 #[.agg #[.slice none 0 0, .int .i64 3]] w fun e w' => e = .returned (.int .i64 0) ∧ Below w.heap.size w w') := Lib.hid (fun w => len_any none 0 0 3 w)
  go_enter Try.func5, Try.ntmps5
  go_wp2_with (first
    | (go_at_call 6; ((with_reducible refine (K6.out _).mono ?_); rintro e w1 ⟨rfl, hb1⟩; have HB1 := Lib.hid hb1; clear hb1))
    | (go_at_call 17; ((with_reducible refine (K17.out _).mono ?_); rintro e w2 ⟨rfl, hb2⟩; have HB2 := Lib.hid hb2; have h2a := (hb2.cell (p := ⟨w1.heap.size, 0, none⟩) (by simp)); have h2b := (hb2.cell (p := ⟨w1.heap.size, 1, none⟩) (by simp)); simp at h2a h2b; clear hb2))
    | (go_at_call 10; ((with_reducible refine (K10.out _).mono ?_); rintro e w3 ⟨rfl, hb3⟩; have HB3 := Lib.hid hb3; clear hb3)))
  go_ret
  exact ⟨rfl, HB1.out.trans ((bt (HB2.out.trans (HB3.out.mono HB2.out.size))).mono HB1.out.size)⟩
end Go.Proofs.Ytifacilidoaeoaa

namespace Go.Proofs.Ytifacilidoaeoaa
open Go.RowKit

theorem sl_one (w : World) (x B : Nat) (hB : B ≤ w.heap.size) : Sl B (w.alloc (.cells #[.int .u64 (x : Int)] 29)) (.slice (some ⟨w.heap.size, 0, none⟩) 1 1) [x] :=
  Or.inr ⟨w.heap.size, 0, 1, rfl, Nat.le_refl _, by unfold maxLen; omega, hB, fun j v hj => by
    have := (List.getElem?_eq_some_iff.1 hj).1
    rw [nc_len] at this
    have h0 : j = 0 := by simpa using this
    subst h0
    rw [cell_of_row _ _ _ _ _ _ (heap_alloc_new w _)]
    simpa [nc, nv] using hj⟩
/-- A box of two. -/
def Bx (w : World) (g : Nat) (a b : Value) : Prop := w.heap[g]? = some (.cells #[a, b] 25 (0, 0))
theorem Bx.cells {w : World} {g : Nat} {a b : Value} (h : Bx w g a b) : w.cell? ⟨g, 0, none⟩ = some a ∧ w.cell? ⟨g, 1, none⟩ = some b ∧ w.frozen? ⟨g, 0, none⟩ = false ∧ w.frozen? ⟨g, 1, none⟩ = false :=
  ⟨(cell_of_row w g 0 _ _ _ h).trans rfl, (cell_of_row w g 1 _ _ _ h).trans rfl, frozen_of_row w g 0 _ _ h, frozen_of_row w g 1 _ _ h⟩
theorem Bx.later {w w' : World} {g : Nat} {a b : Value} (h : Bx w g a b) (hb : Below w.heap.size w w') : Bx w' g a b := (hb.block _ (lt_of_heap h)).trans h
theorem Bx.new (w : World) (a b : Value) : Bx (w.alloc (.cells #[a, b] 25)) w.heap.size a b := heap_alloc_new w _
theorem Bx.put {w : World} {g : Nat} {a b : Value} (h : Bx w g a b) (a' b' : Value) : Bx ((w.setCell ⟨g, 0, none⟩ a').setCell ⟨g, 1, none⟩ b') g a' b' := by
  have h1 : _ = some (Obj.cells #[a', b] 25 (0, 0)) := heap_setCell_same w g 0 _ 25 a' h
  exact heap_setCell_same _ g 1 _ 25 b' h1
theorem Bx.other {w : World} {g q : Nat} {a b : Value} (h : Bx w q a b) (hq : q ≠ g) (a' b' : Value) : Bx ((w.setCell ⟨g, 0, none⟩ a').setCell ⟨g, 1, none⟩ b') q a b :=
  (heap_setCell_other _ ⟨g, 1, none⟩ q _ hq).trans ((heap_setCell_other _ ⟨g, 0, none⟩ q _ hq).trans h)
theorem Sl.put2 {B : Nat} {w : World} {v : Value} {l : List Nat} (h : Sl B w v l) {g : Nat} (hg : g < B) (a b : Value) : Sl B ((w.setCell ⟨g, 0, none⟩ a).setCell ⟨g, 1, none⟩ b) v l := (h.set _ hg _).set _ hg _
theorem put2_below {B : Nat} {w w' : World} (h : Below B w w') {g : Nat} (hg : B ≤ g) (a b : Value) : Below B w ((w'.setCell ⟨g, 0, none⟩ a).setCell ⟨g, 1, none⟩ b) := (h.setCell (p := ⟨g, 0, none⟩) hg _).setCell (p := ⟨g, 1, none⟩) hg _
theorem Sl.drewn {B : Nat} {w : World} {v : Value} {l : List Nat} (h : Sl B w v l) : Sl B w.drew v l := h
theorem two_new (w : World) (a b : Value) (t : TypeId) : (w.alloc (.cells #[a, b] t)).cell? ⟨w.heap.size, 0, none⟩ = some a ∧ (w.alloc (.cells #[a, b] t)).cell? ⟨w.heap.size, 1, none⟩ = some b := ⟨by simp, by simp⟩

/-- Put where it waits. -/
theorem put_twice (l : List Nat) (m x : Nat) (v : Value) (B : Nat) (hl : l.length ≤ 1000000) (w : World) (hs : Sl B w v l) (hx : x ∈ l) :
    Calls Try.prog 7 #[qV v m, .int .u64 (x : Int)] w fun e w' => e = .returned (.tuple #[qV v m, .int .i64 11]) ∧ Below w.heap.size w w' := by
  have HB0 := Lib.hid (show Below w.heap.size w ((w.alloc (.cells #[v, .int .i64 (m : Int)] 25)).alloc (.cells #[.slice none 0 0, .int .i64 0] 25)) from bt (alloc_below _ _))
  have K8 := Lib.hid (contains_any l x v B (by omega) _ (hs.later HB0.out))
  rw [decide_eq_true hx] at K8
  obtain ⟨o, c, rfl⟩ := hs.form
  unfold qV at *
  clear hs hx
  go_enter Try.func7, Try.ntmps7
  go_wp2_with (first
    | (go_at_call 8; ((with_reducible refine (K8.out).mono ?_); rintro e w1 ⟨rfl, rfl⟩)))
  refine bodyPost_ret (v := .tuple #[.agg #[.slice o l.length c, .int .i64 (m : Int)], .int .i64 11]) (by simp [results, Try.results7, go_sem, *]) rfl ⟨rfl, ?_⟩
  exact bt (alloc_below _ _)

set_option maxRecDepth 100000 in
set_option maxHeartbeats 4000000 in
/-- Put where there is room. -/
theorem put_new (l : List Nat) (m x : Nat) (v : Value) (B : Nat) (hm : m ≤ 1000000) (w : World) (hs : Sl B w v l) (hx : x ∉ l) (hlt : l.length < m) :
    Calls Try.prog 7 #[qV v m, .int .u64 (x : Int)] w fun e w' => (∃ o n c, e = .returned (.tuple #[qV (.slice o n c) m, .int .i64 0]) ∧ Sl w.heap.size w' (.slice o n c) (l ++ [x])) ∧ Below w.heap.size w w' := by
  have HB0 := Lib.hid (show Below w.heap.size w ((w.alloc (.cells #[v, .int .i64 (m : Int)] 25)).alloc (.cells #[.slice none 0 0, .int .i64 0] 25)) from bt (alloc_below _ _))
  have K8 := Lib.hid (contains_any l x v B (by omega) _ (hs.later HB0.out))
  rw [decide_eq_false hx] at K8
  have HXa := Lib.hid ((Bx.new w v (.int .i64 (m : Int))).later (alloc_below _ (.cells #[.slice none 0 0, .int .i64 0] 25)))
  have HYa := Lib.hid (Bx.new (w.alloc (.cells #[v, .int .i64 (m : Int)] 25)) (.slice none 0 0) (.int .i64 0))
  rw [show (w.alloc (.cells #[v, .int .i64 (m : Int)] 25)).heap.size = w.heap.size + 1 by simp] at HYa
  have HVa := Lib.hid (hs.later HB0.out)
  obtain ⟨o, c, rfl⟩ := hs.form
  have K17 := Lib.hid (fun w => room_any o l.length c m (by omega) (by omega) w)
  have KC : Hid (∀ (W : World) (gS gT : Nat), Sl 0 W (.slice o l.length c) l → Sl 0 W (.slice (some ⟨gS, 0, none⟩) 1 1) [x] → W.cell? ⟨gT, 0, none⟩ = some (.slice o l.length c) → W.cell? ⟨gT, 1, none⟩ = some (.slice (some ⟨gS, 0, none⟩) 1 1) →
      Calls Try.prog 18 #[.slice (some ⟨gT, 0, none⟩) 2 2] W fun e w' => (∃ o n c, e = .returned (.slice o n c) ∧ Sl W.heap.size w' (.slice o n c) (l ++ [x])) ∧ Below W.heap.size W w') :=
    Lib.hid (fun W gS gT h1 h2 h3 h4 => concat_any l [x] _ _ gT 0 W (by omega) (by simp) h1 h2 h3 h4)
  have hne : ((m : Int) - (l.length : Int) == 0) = false := by rw [beq_eq_false_iff_ne]; omega
  have HM := Lib.hid hm
  have HLT := Lib.hid hlt
  clear hs hx hm hlt
  generalize (m : Int) - (l.length : Int) = rm at *
  unfold qV at *
  go_enter Try.func7, Try.ntmps7
  go_wp2_with (first
    | (go_at_call 8; ((with_reducible refine (K8.out).mono ?_); rintro e w1 ⟨rfl, rfl⟩))
    | (go_at_call 17; ((with_reducible refine (K17.out _).mono ?_); rintro e w2 ⟨rfl, hb2⟩; have HBs := Lib.hid (HB0.out.trans (hb2.mono HB0.out.size)); have HXs := Lib.hid (HXa.out.later hb2); have HYs := Lib.hid (HYa.out.later hb2); have HVs := Lib.hid (HVa.out.later hb2); clear hb2 HB0 HXa HYa HVa K8 K17)))
  have HB0 := Lib.hid (show Below w.heap.size w w2.drew from HBs.out.drew)
  have HX0 := Lib.hid (show Bx w2.drew w.heap.size (.slice o l.length c) (.int .i64 (m : Int)) from HXs.out)
  have HY0 := Lib.hid (show Bx w2.drew (w.heap.size + 1) (.slice none 0 0) (.int .i64 0) from HYs.out)
  have HV0 := Lib.hid (show Sl B w2.drew (.slice o l.length c) l from HVs.out.drewn)
  have mkS : Hid (∀ wz, Bx wz w.heap.size (.slice o l.length c) (.int .i64 (m : Int)) → wz.cell? ⟨w.heap.size, 0, none⟩ = some (.slice o l.length c) ∧ wz.cell? ⟨w.heap.size, 1, none⟩ = some (.int .i64 (m : Int)) ∧ Hid True) := Lib.hid (fun wz h => ⟨h.cells.1, h.cells.2.1, Lib.hid True.intro⟩)
  refine wp_region_held_drew (S := fun wz => wz.cell? ⟨w.heap.size, 0, none⟩ = some (.slice o l.length c) ∧ wz.cell? ⟨w.heap.size, 1, none⟩ = some (.int .i64 (m : Int)) ∧ Hid True) (by kernel_rfl) (mkS.out _ HX0.out) (fun hHeld => ?_)
  generalize w2.drew = wc0 at *
  refine wpAnyH_take (i := 0) (oi := ⟨some 15, _, _, _, _, _⟩) (v := ?_) rfl (by kernel_rfl) (by kernel_rfl) (by kernel_rfl) (fun _ _ _ h => h) (Or.inl ⟨by rfl, by (intro w hSw; (try dsimp only at hSw); go_simp; try with_reducible rfl)⟩) hHeld ?_
  try simp only [Act.put, List.setIfInBounds_toArray, List.set_cons_zero, List.set_cons_succ]
  refine wpAnyH_take (i := 1) (oi := ⟨some 16, _, _, _, _, _⟩) (v := ?_) rfl (by kernel_rfl) (by kernel_rfl) (by kernel_rfl) (fun _ _ _ h => h) (Or.inl ⟨by rfl, by (intro w hSw; (try dsimp only at hSw); go_simp; try with_reducible rfl)⟩) hHeld ?_
  try simp only [Act.put, List.setIfInBounds_toArray, List.set_cons_zero, List.set_cons_succ]
  refine wpAnyH_take (i := 2) (oi := ⟨some 17, _, _, _, _, _⟩) (v := ?_) rfl (by kernel_rfl) (by kernel_rfl) (by kernel_rfl) (fun _ _ _ h => h) (Or.inl ⟨by rfl, by (intro w hSw; (try dsimp only at hSw); go_simp; try with_reducible rfl)⟩) hHeld ?_
  try simp only [Act.put, List.setIfInBounds_toArray, List.set_cons_zero, List.set_cons_succ]
  refine wpAnyH_take (i := 6) (oi := ⟨some 21, _, _, _, _, _⟩) (v := ?_) rfl (by kernel_rfl) (by kernel_rfl) (by kernel_rfl) (fun _ _ _ h => h) (Or.inl ⟨by rfl, by (intro w hSw; (try dsimp only at hSw); go_simp; try with_reducible rfl)⟩) hHeld ?_
  try simp only [Act.put, List.setIfInBounds_toArray, List.set_cons_zero, List.set_cons_succ]
  refine wpAnyH_take (i := 7) (oi := ⟨some 22, _, _, _, _, _⟩) (v := ?_) rfl (by kernel_rfl) (by kernel_rfl) (by kernel_rfl) (fun _ _ _ h => h) (Or.inl ⟨by rfl, by (intro w hSw; (try dsimp only at hSw); go_simp; try with_reducible rfl)⟩) hHeld ?_
  try simp only [Act.put, List.setIfInBounds_toArray, List.set_cons_zero, List.set_cons_succ]
  refine wpAnyH_ready (rs := [3]) (by kernel_rfl) (by simp) ?_
  refine AllReadyH.cons (o := ⟨some 18, _, _, _, _, _⟩) rfl (fun K hK => ?_) ?_
  · go_simp
    have hbn := alloc_below wc0 (.cells #[.int .u64 (x : Int)] 29)
    have HX1 := Lib.hid (Bx.later HX0.out hbn)
    have HY1 := Lib.hid (Bx.later HY0.out hbn)
    have HV1 := Lib.hid (Sl.later HV0.out hbn)
    have HS1 := Lib.hid (sl_one wc0 x 0 (Nat.zero_le _))
    have HB1 := Lib.hid (HB0.out.trans (hbn.mono HB0.out.size))
    refine hK.out _ _ (mkS.out _ HX1.out) (fun hHeld2 => ?_)
    clear hK K hHeld
    have hHeld := hHeld2
    clear hHeld2
    clear hbn
    try simp only [Act.put, List.setIfInBounds_toArray, List.set_cons_zero, List.set_cons_succ]
    generalize wc0.alloc (.cells #[.int .u64 (x : Int)] 29) = wc1 at *
    generalize wc0.heap.size = gS at *
    refine wpAnyH_ready (rs := [4]) (by kernel_rfl) (by simp) ?_
    refine AllReadyH.cons (o := ⟨some 19, _, _, _, _, _⟩) rfl (fun K hK => ?_) ?_
    · go_simp
      have hbn := alloc_below wc1 (.cells #[.slice o l.length c, .slice (some ⟨gS, 0, none⟩) 1 1] 22)
      have HX2 := Lib.hid (Bx.later HX1.out hbn)
      have HY2 := Lib.hid (Bx.later HY1.out hbn)
      have HV2 := Lib.hid (Sl.later HV1.out hbn)
      have HS2 := Lib.hid (Sl.later HS1.out hbn)
      have HT2 := Lib.hid (two_new wc1 (.slice o l.length c) (.slice (some ⟨gS, 0, none⟩) 1 1) 22)
      have HB2 := Lib.hid (HB1.out.trans (hbn.mono HB1.out.size))
      refine hK.out _ _ (mkS.out _ HX2.out) (fun hHeld2 => ?_)
      clear hK K hHeld
      have hHeld := hHeld2
      clear hHeld2
      clear hbn
      try simp only [Act.put, List.setIfInBounds_toArray, List.set_cons_zero, List.set_cons_succ]
      generalize wc1.alloc (.cells #[.slice o l.length c, .slice (some ⟨gS, 0, none⟩) 1 1] 22) = wc2 at *
      generalize wc1.heap.size = gT at *
      refine wpAnyH_ready (rs := [5]) (by kernel_rfl) (by simp) ?_
      refine AllReadyH.cons (o := ⟨some 20, _, _, _, _, _⟩) rfl (fun K hK => ?_) ?_
      · go_simp
        refine (KC.out _ gS gT (HV2.out.mono (Nat.zero_le _)) HS2.out HT2.out.1 HT2.out.2).mono ?_
        rintro ze wc3 ⟨⟨o3, n3, c3, rfl, hs3⟩, hbn⟩
        try go_simp
        have HX3 := Lib.hid (Bx.later HX2.out hbn)
        have HY3 := Lib.hid (Bx.later HY2.out hbn)
        have HV3 := Lib.hid (Sl.later HV2.out hbn)
        have HS3 := Lib.hid (Sl.later HS2.out hbn)
        have HR3 := Lib.hid hs3
        clear hs3
        have HB3 := Lib.hid (HB2.out.trans (hbn.mono HB2.out.size))
        refine hK.out _ _ (mkS.out _ HX3.out) (fun hHeld2 => ?_)
        clear hK K hHeld
        have hHeld := hHeld2
        clear hHeld2
        clear hbn
        try simp only [Act.put, List.setIfInBounds_toArray, List.set_cons_zero, List.set_cons_succ]
        refine wpAnyH_take (i := 8) (oi := ⟨some 23, _, _, _, _, _⟩) (v := ?_) rfl (by kernel_rfl) (by kernel_rfl) (by kernel_rfl) (fun _ _ _ h => h) (Or.inl ⟨by rfl, by (intro w hSw; (try dsimp only at hSw); go_simp; try with_reducible rfl)⟩) hHeld ?_
        try simp only [Act.put, List.setIfInBounds_toArray, List.set_cons_zero, List.set_cons_succ]
        refine wpAnyH_ready (rs := [9]) (by kernel_rfl) (by simp) ?_
        refine AllReadyH.cons (o := ⟨none, _, _, _, _, _⟩) rfl (fun K hK => ?_) ?_
        · obtain ⟨y0, y1, y2, y3⟩ := HY3.out.cells
          go_simp
          have HY4 := Lib.hid (HY3.out.put (.slice o3 n3 c3) (.int .i64 (m : Int)))
          have HX4 := Lib.hid (HX3.out.other (g := w.heap.size + 1) (by omega) (.slice o3 n3 c3) (.int .i64 (m : Int)))
          have HR4 := Lib.hid (Sl.put2 HR3.out (g := w.heap.size + 1) (lt_of_heap HY2.out) (.slice o3 n3 c3) (.int .i64 (m : Int)))
          have HB4 := Lib.hid (put2_below HB3.out (g := w.heap.size + 1) (by omega) (.slice o3 n3 c3) (.int .i64 (m : Int)))
          refine hK.out _ _ (mkS.out _ HX4.out) (fun hHeld2 => ?_)
          clear hK K hHeld
          have hHeld := hHeld2
          clear hHeld2
          clear y0 y1 y2 y3
          try simp only [Act.put, List.setIfInBounds_toArray, List.set_cons_zero, List.set_cons_succ]
          generalize ((wc3.setCell ⟨w.heap.size + 1, 0, none⟩ (.slice o3 n3 c3)).setCell ⟨w.heap.size + 1, 1, none⟩ (.int .i64 (m : Int))) = wc4 at *
          refine wpAnyH_take (i := 10) (oi := ⟨some 5, _, _, _, _, _⟩) (v := ?_) rfl (by kernel_rfl) (by kernel_rfl) (by kernel_rfl) (fun _ _ _ h => h) (Or.inl ⟨by rfl, by (intro w hSw; (try dsimp only at hSw); go_simp; try with_reducible rfl)⟩) hHeld ?_
          try simp only [Act.put, List.setIfInBounds_toArray, List.set_cons_zero, List.set_cons_succ]
          refine wpAnyH_done (by kernel_rfl) ?_ _
          simp only [Exit.then]
          apply_assumption
          obtain ⟨y0, y1, y2, y3⟩ := HY4.out.cells
          have HF := Lib.hid (HR4.out.mono HB2.out.size)
          have HBF := Lib.hid HB4.out
          try go_wp2
          refine bodyPost_ret (v := .tuple #[.agg #[.slice o3 n3 c3, .int .i64 (m : Int)], .int .i64 0]) (by simp [results, Try.results7, go_sem, *]) rfl ⟨⟨o3, n3, c3, rfl, HF.out⟩, HBF.out⟩
        · exact AllReadyH.nil
      · exact AllReadyH.nil
    · exact AllReadyH.nil
  · exact AllReadyH.nil
theorem sl_head {B : Nat} {w : World} {v : Value} {l : List Nat} (hs : Sl B w v l) (i : Nat) (hi : i ≤ l.length) :
    ∃ o c, (∀ W, (Instr.sliceAt 22 v none (some (.int .i64 (i : Int))) none).run Try.prog W = .ok (.slice o i c) W) ∧ ∀ wz, Below w.heap.size w wz → Sl B wz (.slice o i c) (l.take i) := by
  have hu : Try.prog.underlying 22 = some (.slice (Try.prog.elem 22)) := by kernel_rfl
  have hz : ∀ W, (sizeOf (Try.prog.elem 22)).run Try.prog W = .ok 1 W := fun W => by rw [show Try.prog.elem 22 = 29 by kernel_rfl]; go_simp
  rcases hs with ⟨rfl, rfl⟩ | ⟨b, off, cap, rfl, h2, h3, h4, h5⟩
  · have h0 : i = 0 := by simpa using hi
    subst h0
    refine ⟨none, 0, fun W => ?_, fun wz _ => Or.inl ⟨rfl, rfl⟩⟩
    rw [run_sliceAt_slice (w := W) 22 _ _ _ _ hu, run_slice_h (w := W) 22 _ _ _ hu .i64 _ (by omega) (by omega), hz]
    simp [Result.andThen, sliced]
  · have ht : (l.take i).length = i := by rw [List.length_take]; omega
    refine ⟨some ⟨b, off, none⟩, cap, fun W => ?_, fun wz hb => Or.inr ⟨b, off, cap, by rw [ht], by omega, h3, h4, fun j u hj => ?_⟩⟩
    · rw [run_sliceAt_slice (w := W) 22 _ _ _ _ hu, run_slice_h (w := W) 22 _ _ _ hu .i64 _ (by omega) (by omega), hz]
      simp [Result.andThen, sliced, Addr.add]
    · refine rng_later h5 hb j u ?_
      have := (List.getElem?_eq_some_iff.1 hj).1
      rw [nc_len, ht] at this
      simp only [nc, List.map_take] at hj ⊢
      rwa [List.getElem?_take_of_lt this] at hj
theorem sl_tail {B : Nat} {w : World} {v : Value} {l : List Nat} (hs : Sl B w v l) (i : Nat) (hi : i ≤ l.length) :
    ∃ o n c, (∀ W, (Instr.sliceAt 22 v (some (.int .i64 (i : Int))) none none).run Try.prog W = .ok (.slice o n c) W) ∧ ∀ wz, Below w.heap.size w wz → Sl B wz (.slice o n c) (l.drop i) := by
  have hu : Try.prog.underlying 22 = some (.slice (Try.prog.elem 22)) := by kernel_rfl
  have hz : ∀ W, (sizeOf (Try.prog.elem 22)).run Try.prog W = .ok 1 W := fun W => by rw [show Try.prog.elem 22 = 29 by kernel_rfl]; go_simp
  rcases hs with ⟨rfl, rfl⟩ | ⟨b, off, cap, rfl, h2, h3, h4, h5⟩
  · have h0 : i = 0 := by simpa using hi
    subst h0
    refine ⟨none, 0, 0, fun W => ?_, fun wz _ => Or.inl ⟨rfl, rfl⟩⟩
    rw [run_sliceAt_slice (w := W) 22 _ _ _ _ hu, run_slice_l (w := W) 22 _ _ _ hu .i64 _ (by omega) (by omega), hz]
    simp [Result.andThen, sliced]
  · have ht : (l.drop i).length = l.length - i := by rw [List.length_drop]
    refine ⟨if cap = i then some ⟨b, off, none⟩ else some ⟨b, off + i, none⟩, l.length - i, cap - i, fun W => ?_, fun wz hb => ?_⟩
    · rw [run_sliceAt_slice (w := W) 22 _ _ _ _ hu, run_slice_l (w := W) 22 _ _ _ hu .i64 _ (by omega) (by omega), hz]
      simp [Result.andThen, sliced, Addr.add_mid]
    · by_cases hc : cap = i
      · rw [if_pos hc]
        have h0 : l.drop i = [] := List.eq_nil_of_length_eq_zero (by omega)
        exact Or.inr ⟨b, off, cap - i, by rw [ht], by omega, by omega, h4, by rw [h0]; intro j u hj; cases hj⟩
      · rw [if_neg hc]
        refine Or.inr ⟨b, off + i, cap - i, by rw [ht], by omega, by omega, h4, fun j u hj => ?_⟩
        rw [Nat.add_assoc]
        refine rng_later h5 hb (i + j) u ?_
        simp only [nc, List.map_drop, List.getElem?_drop] at hj
        exact hj

set_option maxRecDepth 100000 in
set_option maxHeartbeats 4000000 in
/-- The others, when the one at that place goes. -/
theorem without_any (l : List Nat) (m i : Nat) (v : Value) (B : Nat) (hl : l.length ≤ 1000000) (w : World) (hs : Sl B w v l) (hi : i < l.length) :
    Calls Try.prog 20 #[qV v m, .int .i64 (i : Int)] w fun e w' => (∃ o n c, e = .returned (qV (.slice o n c) m) ∧ Sl w.heap.size w' (.slice o n c) (l.take i ++ l.drop (i + 1))) ∧ Below w.heap.size w w' := by
  have HBs := Lib.hid (show Below w.heap.size w ((w.alloc (.cells #[v, .int .i64 (m : Int)] 25)).alloc (.cells #[.slice none 0 0, .int .i64 0] 25)) from bt (alloc_below _ _))
  have HXs := Lib.hid ((Bx.new w v (.int .i64 (m : Int))).later (alloc_below _ (.cells #[.slice none 0 0, .int .i64 0] 25)))
  have HYs := Lib.hid (Bx.new (w.alloc (.cells #[v, .int .i64 (m : Int)] 25)) (.slice none 0 0) (.int .i64 0))
  rw [show (w.alloc (.cells #[v, .int .i64 (m : Int)] 25)).heap.size = w.heap.size + 1 by simp] at HYs
  have HVs := Lib.hid (hs.later HBs.out)
  obtain ⟨oA, cA, hsA, hA⟩ := sl_head hs i (by omega)
  obtain ⟨oB, nB, cB, hsB, hB⟩ := sl_tail hs (i + 1) (by omega)
  have HSA := Lib.hid hA
  have HSB := Lib.hid hB
  obtain ⟨o, c, rfl⟩ := hs.form
  have KC : Hid (∀ (W : World) (gT : Nat), Sl B W (.slice oA i cA) (l.take i) → Sl B W (.slice oB nB cB) (l.drop (i + 1)) → W.cell? ⟨gT, 0, none⟩ = some (.slice oA i cA) → W.cell? ⟨gT, 1, none⟩ = some (.slice oB nB cB) →
      Calls Try.prog 18 #[.slice (some ⟨gT, 0, none⟩) 2 2] W fun e w' => (∃ o n c, e = .returned (.slice o n c) ∧ Sl W.heap.size w' (.slice o n c) (l.take i ++ l.drop (i + 1))) ∧ Below W.heap.size W w') :=
    Lib.hid (fun W gT h1 h2 h3 h4 => concat_any _ _ _ _ gT B W (by rw [List.length_take]; omega) (by rw [List.length_drop]; omega) h1 h2 h3 h4)
  obtain ⟨i1, hi1⟩ : ∃ i1, i1 = i + 1 := ⟨_, rfl⟩
  rw [← hi1] at hsB HSB KC
  have e1 : (i : Int) + 1 = (i1 : Int) := by omega
  have e2 : IntKind.i64.wrap (i1 : Int) = (i1 : Int) := IntWalk.i64_in _ ⟨by omega, by omega⟩
  rw [← hi1]
  clear hs hA hB hi1 hi hl
  unfold qV at *
  obtain ⟨w2, hw2⟩ : ∃ w2, w2 = ((w.alloc (.cells #[.slice o l.length c, .int .i64 (m : Int)] 25)).alloc (.cells #[.slice none 0 0, .int .i64 0] 25)) := ⟨_, rfl⟩
  rw [← hw2] at HBs HXs HYs HVs
  go_enter Try.func20, Try.ntmps20
  go_upto_region 1 with (fail)
  rw [← hw2]
  clear hw2
  have HB0 := Lib.hid (show Below w.heap.size w w2.drew from HBs.out.drew)
  have HX0 := Lib.hid (show Bx w2.drew w.heap.size (.slice o l.length c) (.int .i64 (m : Int)) from HXs.out)
  have HY0 := Lib.hid (show Bx w2.drew (w.heap.size + 1) (.slice none 0 0) (.int .i64 0) from HYs.out)
  have HV0 := Lib.hid (show Sl B w2.drew (.slice o l.length c) l from HVs.out.drewn)
  have mkS : Hid (∀ wz, Bx wz w.heap.size (.slice o l.length c) (.int .i64 (m : Int)) → wz.cell? ⟨w.heap.size, 0, none⟩ = some (.slice o l.length c) ∧ wz.cell? ⟨w.heap.size, 1, none⟩ = some (.int .i64 (m : Int)) ∧ Hid True) := Lib.hid (fun wz h => ⟨h.cells.1, h.cells.2.1, Lib.hid True.intro⟩)
  refine wp_region_held_drew (S := fun wz => wz.cell? ⟨w.heap.size, 0, none⟩ = some (.slice o l.length c) ∧ wz.cell? ⟨w.heap.size, 1, none⟩ = some (.int .i64 (m : Int)) ∧ Hid True) (by kernel_rfl) (mkS.out _ HX0.out) (fun hHeld => ?_)
  generalize w2.drew = wc0 at *
  refine wpAnyH_take (i := 0) (oi := ⟨some 5, _, _, _, _, _⟩) (v := ?_) rfl (by kernel_rfl) (by kernel_rfl) (by kernel_rfl) (fun _ _ _ h => h) (Or.inl ⟨by rfl, by (intro w hSw; (try dsimp only at hSw); go_simp; try with_reducible rfl)⟩) hHeld ?_
  try simp only [Act.put, List.setIfInBounds_toArray, List.set_cons_zero, List.set_cons_succ]
  refine wpAnyH_take (i := 1) (oi := ⟨some 6, _, _, _, _, _⟩) (v := ?_) rfl (by kernel_rfl) (by kernel_rfl) (by kernel_rfl) (fun _ _ _ h => h) (Or.inl ⟨by rfl, by (intro w hSw; (try dsimp only at hSw); go_simp; try with_reducible rfl)⟩) hHeld ?_
  try simp only [Act.put, List.setIfInBounds_toArray, List.set_cons_zero, List.set_cons_succ]
  refine wpAnyH_take (i := 2) (oi := ⟨some 7, _, _, _, _, _⟩) (v := ?_) rfl (by kernel_rfl) (by kernel_rfl) (by kernel_rfl) (fun _ _ _ h => h) (Or.inl ⟨by rfl, by (intro w hSw; (try dsimp only at hSw); go_simp; try with_reducible rfl)⟩) hHeld ?_
  try simp only [Act.put, List.setIfInBounds_toArray, List.set_cons_zero, List.set_cons_succ]
  refine wpAnyH_take (i := 3) (oi := ⟨some 8, _, _, _, _, _⟩) (v := ?_) rfl (by kernel_rfl) (by kernel_rfl) (by kernel_rfl) (fun _ _ _ h => h) (Or.inl ⟨by rfl, by (intro w hSw; (try dsimp only at hSw); go_simp; try with_reducible rfl)⟩) hHeld ?_
  try simp only [Act.put, List.setIfInBounds_toArray, List.set_cons_zero, List.set_cons_succ]
  refine wpAnyH_take (i := 4) (oi := ⟨some 9, _, _, _, _, _⟩) (v := ?_) rfl (by kernel_rfl) (by kernel_rfl) (by kernel_rfl) (fun _ _ _ h => h) (Or.inl ⟨by rfl, by (intro w hSw; (try dsimp only at hSw); go_simp; try with_reducible rfl)⟩) hHeld ?_
  try simp only [Act.put, List.setIfInBounds_toArray, List.set_cons_zero, List.set_cons_succ]
  refine wpAnyH_take (i := 5) (oi := ⟨some 10, _, _, _, _, _⟩) (v := ?_) rfl (by kernel_rfl) (by kernel_rfl) (by kernel_rfl) (fun _ _ _ h => h) (Or.inl ⟨by rfl, by (intro w hSw; (try dsimp only at hSw); go_simp; try with_reducible rfl)⟩) hHeld ?_
  try simp only [Act.put, List.setIfInBounds_toArray, List.set_cons_zero, List.set_cons_succ]
  refine wpAnyH_take (i := 6) (oi := ⟨some 11, _, _, _, _, _⟩) (v := ?_) rfl (by kernel_rfl) (by kernel_rfl) (by kernel_rfl) (fun _ _ _ h => h) (Or.inl ⟨by rfl, by (intro w hSw; (try dsimp only at hSw); go_simp; try with_reducible rfl)⟩) hHeld ?_
  try simp only [Act.put, List.setIfInBounds_toArray, List.set_cons_zero, List.set_cons_succ]
  refine wpAnyH_take (i := 7) (oi := ⟨some 12, _, _, _, _, _⟩) (v := ?_) rfl (by kernel_rfl) (by kernel_rfl) (by kernel_rfl) (fun _ _ _ h => h) (Or.inl ⟨by rfl, by (intro w hSw; (try dsimp only at hSw); go_simp; try with_reducible rfl)⟩) hHeld ?_
  try simp only [Act.put, List.setIfInBounds_toArray, List.set_cons_zero, List.set_cons_succ]
  refine wpAnyH_take (i := 8) (oi := ⟨some 13, _, _, _, _, _⟩) (v := ?_) rfl (by kernel_rfl) (by kernel_rfl) (by kernel_rfl) (fun _ _ _ h => h) (Or.inl ⟨by rfl, by (intro w hSw; (try dsimp only at hSw); go_simp; try with_reducible rfl)⟩) hHeld ?_
  try simp only [Act.put, List.setIfInBounds_toArray, List.set_cons_zero, List.set_cons_succ]
  refine wpAnyH_take (i := 11) (oi := ⟨some 16, _, _, _, _, _⟩) (v := ?_) rfl (by kernel_rfl) (by kernel_rfl) (by kernel_rfl) (fun _ _ _ h => h) (Or.inl ⟨by rfl, by (intro w hSw; (try dsimp only at hSw); go_simp; try with_reducible rfl)⟩) hHeld ?_
  try simp only [Act.put, List.setIfInBounds_toArray, List.set_cons_zero, List.set_cons_succ]
  refine wpAnyH_take (i := 12) (oi := ⟨some 17, _, _, _, _, _⟩) (v := ?_) rfl (by kernel_rfl) (by kernel_rfl) (by kernel_rfl) (fun _ _ _ h => h) (Or.inl ⟨by rfl, by (intro w hSw; (try dsimp only at hSw); go_simp; try with_reducible rfl)⟩) hHeld ?_
  try simp only [Act.put, List.setIfInBounds_toArray, List.set_cons_zero, List.set_cons_succ]
  refine wpAnyH_ready (rs := [9]) (by kernel_rfl) (by simp) ?_
  refine AllReadyH.cons (o := ⟨some 14, _, _, _, _, _⟩) rfl (fun K hK => ?_) ?_
  · go_simp
    have hbn := alloc_below wc0 (.cells #[.slice oA i cA, .slice oB nB cB] 22)
    have HX1 := Lib.hid (Bx.later HX0.out hbn)
    have HY1 := Lib.hid (Bx.later HY0.out hbn)
    have HV1 := Lib.hid (Sl.later HV0.out hbn)
    have HT1 := Lib.hid (two_new wc0 (.slice oA i cA) (.slice oB nB cB) 22)
    have HB1 := Lib.hid (HB0.out.trans (hbn.mono HB0.out.size))
    refine hK.out _ _ (mkS.out _ HX1.out) (fun hHeld2 => ?_)
    clear hK K hHeld
    have hHeld := hHeld2
    clear hHeld2
    clear hbn
    try simp only [Act.put, List.setIfInBounds_toArray, List.set_cons_zero, List.set_cons_succ]
    generalize wc0.alloc (.cells #[.slice oA i cA, .slice oB nB cB] 22) = wc1 at *
    generalize wc0.heap.size = gT at *
    refine wpAnyH_ready (rs := [10]) (by kernel_rfl) (by simp) ?_
    refine AllReadyH.cons (o := ⟨some 15, _, _, _, _, _⟩) rfl (fun K hK => ?_) ?_
    · go_simp
      refine (KC.out _ gT (HSA.out _ HB1.out) (HSB.out _ HB1.out) HT1.out.1 HT1.out.2).mono ?_
      rintro ze wc2 ⟨⟨o3, n3, c3, rfl, hs3⟩, hbn⟩
      try go_simp
      have HX2 := Lib.hid (Bx.later HX1.out hbn)
      have HY2 := Lib.hid (Bx.later HY1.out hbn)
      have HV2 := Lib.hid (Sl.later HV1.out hbn)
      have HR2 := Lib.hid hs3
      clear hs3
      have HB2 := Lib.hid (HB1.out.trans (hbn.mono HB1.out.size))
      refine hK.out _ _ (mkS.out _ HX2.out) (fun hHeld2 => ?_)
      clear hK K hHeld
      have hHeld := hHeld2
      clear hHeld2
      clear hbn
      try simp only [Act.put, List.setIfInBounds_toArray, List.set_cons_zero, List.set_cons_succ]
      refine wpAnyH_take (i := 13) (oi := ⟨some 18, _, _, _, _, _⟩) (v := ?_) rfl (by kernel_rfl) (by kernel_rfl) (by kernel_rfl) (fun _ _ _ h => h) (Or.inl ⟨by rfl, by (intro w hSw; (try dsimp only at hSw); go_simp; try with_reducible rfl)⟩) hHeld ?_
      try simp only [Act.put, List.setIfInBounds_toArray, List.set_cons_zero, List.set_cons_succ]
      refine wpAnyH_ready (rs := [14]) (by kernel_rfl) (by simp) ?_
      refine AllReadyH.cons (o := ⟨none, _, _, _, _, _⟩) rfl (fun K hK => ?_) ?_
      · obtain ⟨y0, y1, y2, y3⟩ := HY2.out.cells
        go_simp
        have HY3 := Lib.hid (HY2.out.put (.slice o3 n3 c3) (.int .i64 (m : Int)))
        have HX3 := Lib.hid (HX2.out.other (g := w.heap.size + 1) (by omega) (.slice o3 n3 c3) (.int .i64 (m : Int)))
        have HR3 := Lib.hid (Sl.put2 HR2.out (g := w.heap.size + 1) (lt_of_heap HY1.out) (.slice o3 n3 c3) (.int .i64 (m : Int)))
        have HB3 := Lib.hid (put2_below HB2.out (g := w.heap.size + 1) (by omega) (.slice o3 n3 c3) (.int .i64 (m : Int)))
        refine hK.out _ _ (mkS.out _ HX3.out) (fun hHeld2 => ?_)
        clear hK K hHeld
        have hHeld := hHeld2
        clear hHeld2
        clear y0 y1 y2 y3
        try simp only [Act.put, List.setIfInBounds_toArray, List.set_cons_zero, List.set_cons_succ]
        generalize ((wc2.setCell ⟨w.heap.size + 1, 0, none⟩ (.slice o3 n3 c3)).setCell ⟨w.heap.size + 1, 1, none⟩ (.int .i64 (m : Int))) = wc3 at *
        refine wpAnyH_done (by kernel_rfl) ?_ _
        simp only [Exit.then]
        apply_assumption
        obtain ⟨y0, y1, y2, y3⟩ := HY3.out.cells
        have HF := Lib.hid (HR3.out.mono HB1.out.size)
        have HBF := Lib.hid HB3.out
        try go_wp2
        refine bodyPost_ret (v := .agg #[.slice o3 n3 c3, .int .i64 (m : Int)]) (by simp [results, Try.results20, go_sem, *]) rfl ⟨⟨o3, n3, c3, rfl, HF.out⟩, HBF.out⟩
      · exact AllReadyH.nil
    · exact AllReadyH.nil
  · exact AllReadyH.nil
end Go.Proofs.Ytifacilidoaeoaa

namespace Go.Proofs.Ytifacilidoaeoaa
open Go.RowKit

set_option maxRecDepth 100000 in
set_option maxHeartbeats 4000000 in
/-- Take where one waits. -/
theorem take_any (t : List Nat) (x0 m : Nat) (v : Value) (B : Nat) (hl : t.length ≤ 900000) (w : World) (hs : Sl B w v (x0 :: t)) :
    Calls Try.prog 9 #[qV v m] w fun e w' => (∃ o n c, e = .returned (.tuple #[qV (.slice o n c) m, .int .u64 (x0 : Int), .bool true]) ∧ Sl w.heap.size w' (.slice o n c) t) ∧ Below w.heap.size w w' := by
  have HBs := Lib.hid (show Below w.heap.size w ((w.alloc (.cells #[v, .int .i64 (m : Int)] 25)).alloc (.cells #[.slice none 0 0, .int .i64 0] 25)) from bt (alloc_below _ _))
  have HXs := Lib.hid ((Bx.new w v (.int .i64 (m : Int))).later (alloc_below _ (.cells #[.slice none 0 0, .int .i64 0] 25)))
  have HYs := Lib.hid (Bx.new (w.alloc (.cells #[v, .int .i64 (m : Int)] 25)) (.slice none 0 0) (.int .i64 0))
  rw [show (w.alloc (.cells #[v, .int .i64 (m : Int)] 25)).heap.size = w.heap.size + 1 by simp] at HYs
  have HVs := Lib.hid (hs.later HBs.out)
  rcases hs with ⟨_, h⟩ | ⟨b, off, c, rfl, h2, h3, h4, h5⟩
  · cases h
  have hc0 := h5 0 (.int .u64 (x0 : Int)) rfl
  rw [Nat.add_zero] at hc0
  have HCE : Hid (∀ wz, Below w.heap.size w wz → wz.cell? ⟨b, off, none⟩ = some (.int .u64 (x0 : Int))) := Lib.hid (fun wz hb => (hb.cell (World.block_lt_of_cell? _ _ hc0)).trans hc0)
  have K20 : Hid (∀ W, Sl B W (.slice (some ⟨b, off, none⟩) (x0 :: t).length c) (x0 :: t) → Calls Try.prog 20 #[.agg #[.slice (some ⟨b, off, none⟩) (x0 :: t).length c, .int .i64 (m : Int)], .int .i64 0] W fun e w' => (∃ o n c, e = .returned (.agg #[.slice o n c, .int .i64 (m : Int)]) ∧ Sl W.heap.size w' (.slice o n c) t) ∧ Below W.heap.size W w') :=
    Lib.hid (fun W h => without_any (x0 :: t) m 0 _ B (by simp; omega) W h (by simp))
  obtain ⟨nl, hnl⟩ : ∃ nl, nl = (x0 :: t).length := ⟨_, rfl⟩
  have hpos : (0 : Int) < (nl : Int) := by rw [hnl]; simp only [List.length_cons]; omega
  have hpos' : 0 < nl := by omega
  have hne : ((nl : Int) == 0) = false := by rw [beq_eq_false_iff_ne]; omega
  rw [← hnl] at HVs HXs HYs HBs K20 ⊢
  clear hnl h2 h3 h4 h5 hc0 hl
  unfold qV at *
  obtain ⟨w2, hw2⟩ : ∃ w2, w2 = ((w.alloc (.cells #[.slice (some ⟨b, off, none⟩) nl c, .int .i64 (m : Int)] 25)).alloc (.cells #[.slice none 0 0, .int .i64 0] 25)) := ⟨_, rfl⟩
  rw [← hw2] at HBs HXs HYs HVs
  go_enter Try.func9, Try.ntmps9
  go_upto_region 3 with (fail)
  rw [← hw2]
  clear hw2
  have HB0 := Lib.hid (show Below w.heap.size w w2.drew from HBs.out.drew)
  have HX0 := Lib.hid (show Bx w2.drew w.heap.size (.slice (some ⟨b, off, none⟩) nl c) (.int .i64 (m : Int)) from HXs.out)
  have HY0 := Lib.hid (show Bx w2.drew (w.heap.size + 1) (.slice none 0 0) (.int .i64 0) from HYs.out)
  have HV0 := Lib.hid (show Sl B w2.drew (.slice (some ⟨b, off, none⟩) nl c) (x0 :: t) from HVs.out.drewn)
  have mkS : Hid (∀ wz, Bx wz w.heap.size (.slice (some ⟨b, off, none⟩) nl c) (.int .i64 (m : Int)) → Below w.heap.size w wz → wz.cell? ⟨w.heap.size, 0, none⟩ = some (.slice (some ⟨b, off, none⟩) nl c) ∧ wz.cell? ⟨w.heap.size, 1, none⟩ = some (.int .i64 (m : Int)) ∧ wz.cell? ⟨b, off, none⟩ = some (.int .u64 (x0 : Int))) := Lib.hid (fun wz h hb => ⟨h.cells.1, h.cells.2.1, HCE.out wz hb⟩)
  refine wp_region_held_drew (S := fun wz => wz.cell? ⟨w.heap.size, 0, none⟩ = some (.slice (some ⟨b, off, none⟩) nl c) ∧ wz.cell? ⟨w.heap.size, 1, none⟩ = some (.int .i64 (m : Int)) ∧ wz.cell? ⟨b, off, none⟩ = some (.int .u64 (x0 : Int))) (by kernel_rfl) (mkS.out _ HX0.out HB0.out) (fun hHeld => ?_)
  generalize w2.drew = wc0 at *
  refine wpAnyH_take (i := 0) (oi := ⟨some 10, _, _, _, _, _⟩) (v := ?_) rfl (by kernel_rfl) (by kernel_rfl) (by kernel_rfl) (fun _ _ _ h => h) (Or.inl ⟨by rfl, by (intro w hSw; (try dsimp only at hSw); go_simp; try with_reducible rfl)⟩) hHeld ?_
  try simp only [Act.put, List.setIfInBounds_toArray, List.set_cons_zero, List.set_cons_succ]
  refine wpAnyH_take (i := 2) (oi := ⟨some 12, _, _, _, _, _⟩) (v := ?_) rfl (by kernel_rfl) (by kernel_rfl) (by kernel_rfl) (fun _ _ _ h => h) (Or.inl ⟨by rfl, by (intro w hSw; (try dsimp only at hSw); go_simp; try with_reducible rfl)⟩) hHeld ?_
  try simp only [Act.put, List.setIfInBounds_toArray, List.set_cons_zero, List.set_cons_succ]
  refine wpAnyH_take (i := 3) (oi := ⟨some 13, _, _, _, _, _⟩) (v := ?_) rfl (by kernel_rfl) (by kernel_rfl) (by kernel_rfl) (fun _ _ _ h => h) (Or.inl ⟨by rfl, by (intro w hSw; (try dsimp only at hSw); go_simp; try with_reducible rfl)⟩) hHeld ?_
  try simp only [Act.put, List.setIfInBounds_toArray, List.set_cons_zero, List.set_cons_succ]
  refine wpAnyH_take (i := 4) (oi := ⟨some 14, _, _, _, _, _⟩) (v := ?_) rfl (by kernel_rfl) (by kernel_rfl) (by kernel_rfl) (fun _ _ _ h => h) (Or.inl ⟨by rfl, by (intro w hSw; (try dsimp only at hSw); go_simp; try with_reducible rfl)⟩) hHeld ?_
  try simp only [Act.put, List.setIfInBounds_toArray, List.set_cons_zero, List.set_cons_succ]
  refine wpAnyH_take (i := 5) (oi := ⟨some 15, _, _, _, _, _⟩) (v := ?_) rfl (by kernel_rfl) (by kernel_rfl) (by kernel_rfl) (fun _ _ _ h => h) (Or.inl ⟨by rfl, by (intro w hSw; (try dsimp only at hSw); go_simp; try with_reducible rfl)⟩) hHeld ?_
  try simp only [Act.put, List.setIfInBounds_toArray, List.set_cons_zero, List.set_cons_succ]
  refine wpAnyH_ready (rs := [1]) (by kernel_rfl) (by simp) ?_
  refine AllReadyH.cons (o := ⟨some 11, _, _, _, _, _⟩) rfl (fun K hK => ?_) ?_
  · go_simp
    refine (K20.out _ HV0.out).mono ?_
    rintro ze wc1 ⟨⟨o3, n3, c3, rfl, hs3⟩, hbn⟩
    try go_simp
    have HX1 := Lib.hid (Bx.later HX0.out hbn)
    have HY1 := Lib.hid (Bx.later HY0.out hbn)
    have HV1 := Lib.hid (Sl.later HV0.out hbn)
    have HR1 := Lib.hid hs3
    clear hs3
    have HB1 := Lib.hid (HB0.out.trans (hbn.mono HB0.out.size))
    refine hK.out _ _ (mkS.out _ HX1.out HB1.out) (fun hHeld2 => ?_)
    clear hK K hHeld
    have hHeld := hHeld2
    clear hHeld2
    clear hbn
    try simp only [Act.put, List.setIfInBounds_toArray, List.set_cons_zero, List.set_cons_succ]
    refine wpAnyH_ready (rs := [6]) (by kernel_rfl) (by simp) ?_
    refine AllReadyH.cons (o := ⟨none, _, _, _, _, _⟩) rfl (fun K hK => ?_) ?_
    · obtain ⟨y0, y1, y2, y3⟩ := HY1.out.cells
      go_simp
      have HY2 := Lib.hid (HY1.out.put (.slice o3 n3 c3) (.int .i64 (m : Int)))
      have HX2 := Lib.hid (HX1.out.other (g := w.heap.size + 1) (by omega) (.slice o3 n3 c3) (.int .i64 (m : Int)))
      have HR2 := Lib.hid (Sl.put2 HR1.out (g := w.heap.size + 1) (lt_of_heap HY0.out) (.slice o3 n3 c3) (.int .i64 (m : Int)))
      have HB2 := Lib.hid (put2_below HB1.out (g := w.heap.size + 1) (by omega) (.slice o3 n3 c3) (.int .i64 (m : Int)))
      refine hK.out _ _ (mkS.out _ HX2.out HB2.out) (fun hHeld2 => ?_)
      clear hK K hHeld
      have hHeld := hHeld2
      clear hHeld2
      clear y0 y1 y2 y3
      try simp only [Act.put, List.setIfInBounds_toArray, List.set_cons_zero, List.set_cons_succ]
      generalize ((wc1.setCell ⟨w.heap.size + 1, 0, none⟩ (.slice o3 n3 c3)).setCell ⟨w.heap.size + 1, 1, none⟩ (.int .i64 (m : Int))) = wc2 at *
      refine wpAnyH_take (i := 7) (oi := ⟨some 3, _, _, _, _, _⟩) (v := ?_) rfl (by kernel_rfl) (by kernel_rfl) (by kernel_rfl) (fun _ _ _ h => h) (Or.inl ⟨by rfl, by (intro w hSw; (try dsimp only at hSw); go_simp; try with_reducible rfl)⟩) hHeld ?_
      try simp only [Act.put, List.setIfInBounds_toArray, List.set_cons_zero, List.set_cons_succ]
      refine wpAnyH_take (i := 8) (oi := ⟨some 4, _, _, _, _, _⟩) (v := ?_) rfl (by kernel_rfl) (by kernel_rfl) (by kernel_rfl) (fun _ _ _ h => h) (Or.inl ⟨by rfl, by (intro w hSw; (try dsimp only at hSw); go_simp; try with_reducible rfl)⟩) hHeld ?_
      try simp only [Act.put, List.setIfInBounds_toArray, List.set_cons_zero, List.set_cons_succ]
      refine wpAnyH_done (by kernel_rfl) ?_ _
      simp only [Exit.then]
      apply_assumption
      obtain ⟨y0, y1, y2, y3⟩ := HY2.out.cells
      have HF := Lib.hid (HR2.out.mono HB0.out.size)
      have HBF := Lib.hid HB2.out
      try go_wp2
      refine bodyPost_ret (v := .tuple #[.agg #[.slice o3 n3 c3, .int .i64 (m : Int)], .int .u64 (x0 : Int), .bool true]) (by simp [results, Try.results9, go_sem, *]) rfl ⟨⟨o3, n3, c3, rfl, HF.out⟩, HBF.out⟩
    · exact AllReadyH.nil
  · exact AllReadyH.nil
theorem ix_mem {l : List Nat} {x : Nat} (h : x ∈ l) : ix l x = (l.idxOf x : Int) := if_pos h
theorem ix_out {l : List Nat} {x : Nat} (h : x ∉ l) : ix l x = -1 := if_neg h
theorem erase_parts {l : List Nat} {x : Nat} (h : x ∈ l) : l.take (l.idxOf x) ++ l.drop (l.idxOf x + 1) = l.erase x := by
  rw [← List.eraseIdx_eq_take_drop_succ, List.erase_eq_eraseIdx_of_idxOf rfl]
/-- Drop of one that waits. -/
theorem drop_yes (l : List Nat) (m x : Nat) (v : Value) (B : Nat) (hl : l.length ≤ 1000000) (w : World) (hs : Sl B w v l) (hx : x ∈ l) :
    Calls Try.prog 12 #[qV v m, .int .u64 (x : Int)] w fun e w' => (∃ o n c, e = .returned (.tuple #[qV (.slice o n c) m, .bool true]) ∧ Sl w.heap.size w' (.slice o n c) (l.erase x)) ∧ Below w.heap.size w w' := by
  have HB0 := Lib.hid (show Below w.heap.size w ((w.alloc (.cells #[v, .int .i64 (m : Int)] 25)).alloc (.cells #[.slice none 0 0, .int .i64 0] 25)) from bt (alloc_below _ _))
  have HYs := Lib.hid (Bx.new (w.alloc (.cells #[v, .int .i64 (m : Int)] 25)) (.slice none 0 0) (.int .i64 0))
  rw [show (w.alloc (.cells #[v, .int .i64 (m : Int)] 25)).heap.size = w.heap.size + 1 by simp] at HYs
  have K19 := Lib.hid (index_any l x v B (by omega) _ (hs.later HB0.out))
  rw [ix_mem hx] at K19
  have K20 := Lib.hid (without_any l m (l.idxOf x) v B hl _ (hs.later HB0.out) (List.idxOf_lt_length_iff.2 hx))
  rw [erase_parts hx] at K20
  have h0 : decide ((l.idxOf x : Int) < 0) = false := by simp
  generalize l.erase x = l2 at *
  generalize l.idxOf x = i at *
  obtain ⟨o, c, rfl⟩ := hs.form
  unfold qV at *
  clear hs hx
  go_enter Try.func12, Try.ntmps12
  go_wp2_with (first
    | (go_at_call 19; ((with_reducible refine (K19.out).mono ?_); rintro e w1 ⟨rfl, rfl⟩))
    | (go_at_call 20; ((with_reducible refine (K20.out).mono ?_); rintro e w2 ⟨⟨o3, n3, c3, rfl, hs3⟩, hb3⟩; have HS3 := Lib.hid hs3; have HB3 := Lib.hid hb3; obtain ⟨y0, y1, y2, y3⟩ := (HYs.out.later hb3).cells; clear hs3 hb3)))
  obtain ⟨z0, z1, z2, z3⟩ := ((HYs.out.later HB3.out).put (.slice o3 n3 c3) (.int .i64 (m : Int))).cells
  have HF := Lib.hid ((HS3.out.put2 (g := w.heap.size + 1) (by simp) (.slice o3 n3 c3) (.int .i64 (m : Int))).mono HB0.out.size)
  have HBF := Lib.hid (put2_below (HB0.out.trans (HB3.out.mono HB0.out.size)) (g := w.heap.size + 1) (by omega) (.slice o3 n3 c3) (.int .i64 (m : Int)))
  refine bodyPost_ret (v := .tuple #[.agg #[.slice o3 n3 c3, .int .i64 (m : Int)], .bool true]) (by simp [results, Try.results12, go_sem, *]) rfl ⟨⟨o3, n3, c3, rfl, HF.out⟩, HBF.out⟩
/-- Drop of one that doesn't wait. -/
theorem drop_no (l : List Nat) (m x : Nat) (v : Value) (B : Nat) (hl : l.length ≤ 1000000) (w : World) (hs : Sl B w v l) (hx : x ∉ l) :
    Calls Try.prog 12 #[qV v m, .int .u64 (x : Int)] w fun e w' => e = .returned (.tuple #[.agg #[.slice none 0 0, .int .i64 0], .bool false]) ∧ Below w.heap.size w w' := by
  have HB0 := Lib.hid (show Below w.heap.size w ((w.alloc (.cells #[v, .int .i64 (m : Int)] 25)).alloc (.cells #[.slice none 0 0, .int .i64 0] 25)) from bt (alloc_below _ _))
  have K19 := Lib.hid (index_any l x v B (by omega) _ (hs.later HB0.out))
  rw [ix_out hx] at K19
  obtain ⟨o, c, rfl⟩ := hs.form
  unfold qV at *
  clear hs hx
  go_enter Try.func12, Try.ntmps12
  go_wp2_with (first
    | (go_at_call 19; ((with_reducible refine (K19.out).mono ?_); rintro e w1 ⟨rfl, rfl⟩)))
  refine bodyPost_ret (v := .tuple #[.agg #[.slice none 0 0, .int .i64 0], .bool false]) (by simp [results, Try.results12, go_sem, *]) rfl ⟨rfl, ?_⟩
  exact bt (alloc_below _ _)

end Go.Proofs.Ytifacilidoaeoaa
