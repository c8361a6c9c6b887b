/- DERIVED: THE SHELF's CONTRACTS AT THIS DUMP, IN PLAIN WORDS (tools/lay-plain.mjs out of 'YtpcmmejlmhbcdaaGreatShelfG.lean', which tools/lay-shelf.mjs wrote): THE SAME DECLARATIONS UNDER THE SAME NAMES: 'import', 'namespace', 'open', 'def', 'theorem' AND NOTHING ELSE: no command of the shelf's: FOR A HAND-IN. Each laying: the table of numbers ('.._ren') and one theorem, a field a fact of the dump's own or the kernel's comparison; each contract: ONE APPLICATION.; Rows of entries as slices; Grow; Concat of rows.; Concat of three rows of entries. -/
import Derived.Shelf.Spec.SlicesGrow
import Derived.Ground.Names8Prog
import Derived.Test.YtpcmmejlmhbcdaaGreatProg
import Derived.Test.YtpcmmejlmhbcdaaGreatJ06
import Derived.Laws.AppendOwnNone
set_option linter.unusedVariables false
set_option linter.unusedSimpArgs false
namespace Go.Proofs
open Go.Shelf
def Tryz.lays8g_ren : Go.Shelf.Ren := ⟨fun | 4 => 86 | n => n, fun | 22 => 26 | 25 => 46 | 3 => 3 | 4 => 4 | 9 => 9 | 20 => 20 | 0 => 0 | n => n, fun | n => n⟩
theorem Tryz.lays8g : Go.Proofs.Lays8.n4 Tryz.prog Tryz.lays8g_ren := {
  mixed := by kernel_rfl
  f4 := ⟨Tryz.f86.name, by decide, Tryz.func86.trans (congrArg some (by kernel_rfl))⟩
  t0 := Tryz.underlying0
  a0 := Tryz.isAgg0
  z0 := Tryz.sizeOf0
  v0 := Tryz.zeroValue0
  t3 := Tryz.underlying3
  a3 := Tryz.isAgg3
  z3 := Tryz.sizeOf3
  v3 := Tryz.zeroValue3
  t4 := Tryz.underlying4
  a4 := Tryz.isAgg4
  z4 := Tryz.sizeOf4
  v4 := Tryz.zeroValue4
  t9 := Tryz.underlying9
  a9 := Tryz.isAgg9
  z9 := Tryz.sizeOf9
  v9 := Tryz.zeroValue9
  t20 := Tryz.underlying20
  a20 := Tryz.isAgg20
  z20 := Tryz.sizeOf20
  v20 := Tryz.zeroValue20
  t22 := Tryz.underlying26
  a22 := Tryz.isAgg26
  z22 := Tryz.sizeOf26
  v22 := Tryz.zeroValue26 }
open Go.RowKit Go.Lib in
theorem Tryz.slices_Grow_grow (i0 : TypeInfo) (z : Value) (hi0 : Tryz.prog.info? 46 = some i0) (hz0 : i0.zero = some z) (hs0 : 0 < i0.size)
    (base : Option Addr) (l c n : Nat) (cs : List Value) (w : World) (hlc : l ≤ c) (hroom : c < l + n) (hbig : (l + n) * i0.bytes ≤ 140737488355328) (h63 : l + n ≤ 4611686018427387904)
    (hcl : cs.length = c * i0.size) (hnil : base = none → c = 0) (hcs : ∀ a, base = some a → ∀ j v, cs[j]? = some v → w.cell? (a.add j) = some v) :
    Calls Tryz.prog 86 #[.slice base l c, .int .i64 n] w fun e w' =>
      e = .returned (.slice (some ⟨w.heap.size, 0, none⟩) l (grownCap w (l + n) c 46)) ∧
      w' = w.drew.alloc (.cells (cs.toArray ++ Builtin.zeroCells z.cells (l + n - c) ++ Builtin.zeroCells z.cells (grownCap w (l + n) c 46 - (l + n))) 46) := Any8.slices_Grow_grow Tryz.lays8g i0 z hi0 hz0 hs0 base l c n cs w hlc hroom hbig h63 hcl hnil hcs
open Go.RowKit Go.Lib in
theorem Tryz.slices_Grow_room (base : Option Addr) (l c n : Nat) (w : World) (hlc : l ≤ c) (hc63 : c ≤ 9223372036854775807) (hn63 : n ≤ 9223372036854775807) (hroom : l + n ≤ c) :
    Calls Tryz.prog 86 #[.slice base l c, .int .i64 n] w fun e w' => e = .returned (.slice base l c) ∧ w' = w := Any8.slices_Grow_room Tryz.lays8g base l c n w hlc hc63 hn63 hroom
end Go.Proofs

namespace Go.Proofs.YtpcmmejlmhbcdaaGreat
open Go.RowKit

/-- A slice of entries. -/
def SlE (w : World) (v : Value) (L : List En) : Prop :=
  (v = .slice none 0 0 ∧ L = []) ∨ ∃ b off cap, v = .slice (some ⟨b, off, none⟩) L.length cap ∧ L.length ≤ cap ∧ cap ≤ maxLen ∧ w.rangeAt b off (rc L)
theorem SlE.later {w w' : World} {v : Value} {L : List En} (h : SlE w v L) (hb : Below w.heap.size w w') : SlE w' v L := by
  rcases h with h | ⟨b, off, cap, h1, h2, h3, h4⟩
  · exact Or.inl h
  · exact Or.inr ⟨b, off, cap, h1, h2, h3, range_later h4 hb⟩
theorem SlE.form {w : World} {v : Value} {L : List En} (h : SlE w v L) : ∃ o cap, v = .slice o L.length cap ∧ RowE w o L := by
  rcases h with ⟨rfl, rfl⟩ | ⟨b, off, cap, rfl, _, _, h4⟩
  · exact ⟨none, 0, rfl, Or.inl rfl⟩
  · exact ⟨_, cap, rfl, Or.inr ⟨b, off, rfl, h4⟩⟩
theorem rc_one (L : List En) : ∀ v ∈ rc L, v.oneCell' = true := by
  intro v hv
  simp only [rc, List.mem_flatMap] at hv
  obtain ⟨e, _, hv⟩ := hv
  exact ec_one e v hv
theorem Try.info46 : (Tryz.prog.info? 46).map (fun i => (i.zero, i.size, i.bytes)) = some (some (.agg z46), 18, 32) := by kernel_rfl
/-- An own row of entries. -/
def OwE (w : World) (B : Nat) (v : Value) (L : List En) : Prop := w.ownsRow B 46 18 v L.length (rc L)
theorem OwE.sl {w : World} {B : Nat} {v : Value} {L : List En} (h : OwE w B v L) : SlE w v L := by
  rcases h.2 with ⟨rfl, hn⟩ | ⟨g, cap, cur, rfl, _, hg, h1, h2, h3, h4⟩
  · exact Or.inl ⟨rfl, List.eq_nil_of_length_eq_zero hn⟩
  · refine Or.inr ⟨g, 0, cap, rfl, h1, h2, fun j v hj => ?_⟩
    have := h.cells (g := g) rfl j v hj
    rwa [Addr.add_mid] at this
theorem OwE.nil (w : World) (B : Nat) : OwE w B (.slice none 0 0) [] := World.ownsRow_nil _ _ _ _

/-- 'a = append(a, s...)', a the call's own. -/
theorem wpList_append_ents (W : World) {ops : Array Oper} {rest : List Oper} {o : Oper} {a : Act} {Q : Exit → Act → World → Prop} (hgd : o.guard = none) (s x : Operand)
    (ho : o.op = .call { callee := .builtin .append, args := #[s, x], argTypes := #[26, 26] })
    (B : Nat) (v u : Value) (K L : List En) (hs : a.eval s = v) (hown : OwE W B v K) (hx : a.eval x = u) (hu : SlE W u L) (hB : B ≤ W.heap.size) (hk : K.length + L.length ≤ 3000000)
    (h : ∀ v' w', OwE w' B v' (K ++ L) → Below B W w' → wpList Tryz.prog ops Q rest (a.put o.dst v') w') : wpList Tryz.prog ops Q (o :: rest) a W := by
  obtain ⟨i0, hi, hz0, hz1, hz2⟩ := info_parts Try.info46
  rcases hu with ⟨rfl, rfl⟩ | ⟨b, off, cap, rfl, _, _, hr⟩
  · refine wpList_append_own_none hgd s x 26 ho B 46 i0 18 Tryz.underlying26 hi v K.length (rc K) hs hown hx ?_
    have := h v W (by rw [List.append_nil]; exact hown) (Below.refl _ _)
    exact this
  · refine wpList_append_own _ hgd s x 26 ho B 46 i0 (.agg z46) 18 32 Tryz.underlying26 hi hz0 hz1 hz2 rfl (by decide) v K.length (rc K) hs hown ⟨b, off, none⟩ L.length cap (rc L) hx (rc_len L) ?_ (rc_one L) ?_ ?_ hB ?_
    · intro j u hj
      rw [Addr.add_mid]; exact hr j u hj
    · unfold maxLen; omega
    · omega
    · intro v' w' h1 h2 _
      refine h v' w' ?_ ?_
      · unfold OwE
        rw [List.length_append, rc_append]
        exact h1
      · refine (Below.refl B W).grown h2 hB ?_
        intro g hg
        exact (hown.lt g hg).1
/-- What slices.Grow makes of nil. -/
theorem grow_any (n : Nat) (hn : n ≤ 3000000) (w : World) : Calls Tryz.prog 86 #[.slice none 0 0, .int .i64 n] w fun e w' => (∃ v, e = .returned v ∧ OwE w' w.heap.size v []) ∧ Below w.heap.size w w' := by
  by_cases h0 : n = 0
  · subst h0
    refine (Tryz.slices_Grow_room none 0 0 0 w (by omega) (by omega) (by omega) (by omega)).mono ?_
    rintro e w' ⟨rfl, rfl⟩
    exact ⟨⟨_, rfl, OwE.nil _ _⟩, Below.refl _ _⟩
  · obtain ⟨i0, hi, hz0, hz1, hz2⟩ := info_parts Try.info46
    refine (Tryz.slices_Grow_grow i0 (.agg z46) hi hz0 (by rw [hz1]; decide) none 0 0 n [] w (by omega) (by omega) (by rw [hz2]; omega) (by omega) (by simp) (fun _ => rfl) (fun a ha => by cases ha)).mono ?_
    rintro e w' ⟨rfl, rfl⟩
    refine ⟨⟨_, rfl, ?_⟩, ?_⟩
    · refine ⟨rfl, Or.inr ⟨w.heap.size, _, _, rfl, Nat.le_refl _, heap_alloc_new w.drew _, Nat.zero_le _, grownCap_le_maxLen w _ _ _ (by unfold maxLen; omega), ?_, by simp [rc]⟩⟩
      have hge := grownCap_ge w (0 + n) 0 46
      rw [Nat.zero_add] at hge
      have hz : (Value.agg z46).cells.size = 18 := by rfl
      simp only [Array.size_append, size_zeroCells, hz]
      simp
      omega
    · exact ((Below.refl w.heap.size w).drew).alloc (Nat.le_refl _) _
end Go.Proofs.YtpcmmejlmhbcdaaGreat

namespace Go.Proofs.YtpcmmejlmhbcdaaGreat
open Go.RowKit

/-- Three rows, by their number. -/
def th (A B C : List En) : Nat → List En
  | 0 => A
  | 1 => B
  | _ => C
def thv (a b c : Value) : Nat → Value
  | 0 => a
  | 1 => b
  | _ => c
/-- Those ahead of one. -/
def pre (A B C : List En) : Nat → List En
  | 0 => []
  | k + 1 => pre A B C k ++ th A B C k
theorem pre_len (A B C : List En) (k : Nat) : (pre A B C (k + 1)).length = (pre A B C k).length + (th A B C k).length := by simp [pre]
theorem pre_le (A B C : List En) (m : Nat) (hA : A.length ≤ m) (hB : B.length ≤ m) (hC : C.length ≤ m) : ∀ k, (pre A B C k).length ≤ k * m
  | 0 => by simp [pre]
  | k + 1 => by
    have := pre_le A B C m hA hB hC k
    have h2 : (th A B C k).length ≤ m := by
      match k with
      | 0 => exact hA
      | 1 => exact hB
      | _ + 2 => exact hC
    rw [pre_len, Nat.succ_mul]; omega

set_option maxRecDepth 100000 in
set_option maxHeartbeats 2000000 in
theorem concat_any (A B C : List En) (a b c : Value) (g : Nat) (w : World) (hlA : A.length ≤ 1000000) (hlB : B.length ≤ 1000000) (hlC : C.length ≤ 1000000)
    (ha : SlE w a A) (hb : SlE w b B) (hc : SlE w c C) (c0 : w.cell? ⟨g, 0, none⟩ = some a) (c1 : w.cell? ⟨g, 1, none⟩ = some b) (c2 : w.cell? ⟨g, 2, none⟩ = some c) :
    Calls Tryz.prog 57 #[.slice (some ⟨g, 0, none⟩) 3 3] w fun e w' => (∃ v, e = .returned v ∧ OwE w' w.heap.size v (A ++ (B ++ C))) ∧ Below w.heap.size w w' := by
  have HC : Hid (∀ wz, Below w.heap.size w wz → ∀ k, k < 3 → wz.cell? ⟨g, k, none⟩ = some (thv a b c k) ∧ SlE wz (thv a b c k) (th A B C k)) := Lib.hid (fun wz hz k hk => by
    have hg := World.block_lt_of_cell? w _ c0
    match k, hk with
    | 0, _ => exact ⟨(hz.cell hg).trans c0, ha.later hz⟩
    | 1, _ => exact ⟨(hz.cell (p := ⟨g, 1, none⟩) hg).trans c1, hb.later hz⟩
    | 2, _ => exact ⟨(hz.cell (p := ⟨g, 2, none⟩) hg).trans c2, hc.later hz⟩)
  have HLE : Hid (∀ k, k ≤ 3 → (pre A B C k).length ≤ 3000000) := Lib.hid (fun k hk => by
    have := pre_le A B C 1000000 hlA hlB hlC k
    have : k * 1000000 ≤ 3 * 1000000 := Nat.mul_le_mul_right _ hk
    omega)
  have HPL := Lib.hid (pre_len A B C)
  have HFIN : Hid (pre A B C 3 = A ++ (B ++ C)) := Lib.hid (by simp [pre, th])
  have HPS : Hid (∀ k, pre A B C (k + 1) = pre A B C k ++ th A B C k) := Lib.hid (fun k => rfl)
  have HP0 : Hid (pre A B C 0 = []) := Lib.hid rfl
  generalize hPR : pre A B C = PR at *
  generalize hTH : th A B C = TH at *
  generalize hTV : thv a b c = TV at *
  clear hPR hTH hTV ha hb hc c0 c1 c2 hlA hlB hlC
  go_enter Tryz.func57, Tryz.ntmps57
  go_wp2
  go_loopw [3, 5, 11] (fun x _ y wr => w = wr ∧ ∃ k : Nat, k ≤ 3 ∧ y = .int .i64 k ∧ x = .int .i64 ((PR k).length : Nat)) (fun _ _ y _ => 3 - (intOf y).toNat)
  case atStart => exact ⟨rfl, 0, by omega, rfl, by rw [HP0.out]; rfl⟩
  case round =>
    obtain ⟨rfl, k, hk, rfl, rfl⟩ := hrel
    by_cases hlt : k < 3
    · obtain ⟨hcell, hsl⟩ := HC.out w (Below.refl _ _) k hlt
      obtain ⟨o, cap, hv, _⟩ := hsl.form
      rw [hv] at hcell
      have e1 := HPL.out k
      have e2 := HLE.out k hk
      have e3 := HLE.out (k + 1) (by omega)
      obtain ⟨p1, hp1⟩ : ∃ p, p = (PR k).length := ⟨_, rfl⟩
      obtain ⟨p2, hp2⟩ : ∃ p, p = (TH k).length := ⟨_, rfl⟩
      obtain ⟨p3, hp3⟩ : ∃ p, p = (PR (k + 1)).length := ⟨_, rfl⟩
      rw [← hp2] at hcell
      rw [← hp1, ← hp2, ← hp3] at e1
      rw [← hp1] at e2
      rw [← hp3] at e3
      rw [← hp1]
      have q1 : (k : Int) < 3 := by omega
      have e4 : (p1 : Int) + (p2 : Int) = (p3 : Int) := by omega
      have HP3 := Lib.hid hp3
      clear hsl hv hp1 hp2 hp3 e1
      go_wp2
      go_roundw
      case rel => exact ⟨by simp, k + 1, by omega, by go_num, by rw [← HP3.out]⟩
      case measure => simp [intOf]; omega
    · have hk3 : k = 3 := by omega
      subst hk3
      have e3 := HLE.out 3 (by omega)
      have KG := Lib.hid (grow_any (PR 3).length e3 w)
      generalize (PR 3).length = p at *
      go_wp2_with (first
        | (go_at_call 86; ((with_reducible refine (KG.out).mono ?_); rintro x w5 ⟨⟨v5, rfl, ho5⟩, hb5⟩; have HO5 := Lib.hid ho5; have HB5 := Lib.hid hb5; clear ho5 hb5)))
      go_loopw [6, 8, 27] (fun x _ y wz => ∃ k : Nat, k ≤ 3 ∧ y = .int .i64 k ∧ Hid (OwE wz w.heap.size x (PR k)) ∧ Hid (Below w.heap.size w wz)) (fun _ _ y _ => 3 - (intOf y).toNat)
      case atStart => exact ⟨0, by omega, rfl, by rw [HP0.out]; exact HO5, HB5⟩
      case round =>
        obtain ⟨k, hk, rfl, HO, HB⟩ := hrel
        by_cases hlt : k < 3
        · obtain ⟨hcell, hsl⟩ := HC.out wr HB.out k hlt
          have HSL := Lib.hid hsl
          have e1 := HPL.out k
          have e3 := HLE.out (k + 1) (by omega)
          have HE := Lib.hid (show (PR k).length + (TH k).length ≤ 3000000 by omega)
          have hBs := HB.out.size
          have HBs := Lib.hid hBs
          obtain ⟨t, ht⟩ : ∃ t, t = TV k := ⟨_, rfl⟩
          rw [← ht] at hcell HSL
          have q1 : (k : Int) < 3 := by omega
          clear hsl e1 e3 hBs ht
          go_wp2_with (first
            | (at_builtin; go_must (refine wpList_append_ents wr rfl (.tmp 31) (.tmp 32) rfl w.heap.size _ t (PR k) (TH k) rfl HO.out rfl HSL.out HBs.out HE.out ?_); intro v6 w6 ho6 hb6; have HO6 := Lib.hid ho6; have HB6 := Lib.hid hb6; clear ho6 hb6))
          go_roundw
          case rel => exact ⟨k + 1, by omega, by go_num, by rw [HPS.out]; exact HO6, Lib.hid (HB.out.trans HB6.out)⟩
          case measure => simp [intOf]; omega
        · have hk3 : k = 3 := by omega
          subst hk3
          go_wp2
          go_ret
          exact ⟨⟨_, rfl, by rw [← HFIN.out]; exact HO.out⟩, HB.out⟩
end Go.Proofs.YtpcmmejlmhbcdaaGreat
