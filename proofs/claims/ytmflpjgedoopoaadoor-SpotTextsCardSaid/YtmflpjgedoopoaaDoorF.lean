/- Slices of strings: how they read, and append; a text cut by a byte. -/
import Derived.Test.YtmflpjgedoopoaaDoorC
namespace Go.Proofs.YtmflpjgedoopoaaDoor
open Go.RowKit

/-- The string of a list of bytes. -/
def str (l : List UInt8) : ByteArray := ⟨l.toArray⟩
theorem str_data (l : List UInt8) : (str l).data.toList = l := rfl
theorem str_of (s : ByteArray) : str s.data.toList = s := Lib.mk_data s
theorem str_size (l : List UInt8) : (str l).size = l.length := Lib.size_eq (str l)
theorem str_inj {a b : List UInt8} (h : str a = str b) : a = b := by rw [← str_data a, h, str_data]
theorem str_extract (s : ByteArray) (a b : Nat) : s.extract a b = str ((s.data.toList.drop a).take (b - a)) := Lib.extract_eq s a b
/-- Cells of texts. -/
def scells (l : List (List UInt8)) : List Value := l.map fun p => .string (str p)
theorem scells_snoc (l : List (List UInt8)) (p : List UInt8) : scells l ++ [.string (str p)] = scells (l ++ [p]) := by simp [scells]
theorem scells_len (l : List (List UInt8)) : (scells l).length = l.length := by simp [scells]
theorem scells_at (l : List (List UInt8)) (j : Nat) (h : j < l.length) : (scells l)[j]? = some (.string (str (l.getD j []))) := by
  simp [scells, h]

/-- What a slice of strings reads as. -/
def Reads (w : World) (v : Value) (l : List (List UInt8)) : Prop :=
  ∃ a c, v = .slice a l.length c ∧ l.length ≤ c ∧ l.length ≤ 4294967296 ∧ (0 < l.length → ∃ b o, a = some ⟨b, o, none⟩ ∧ b < w.heap.size ∧ ∀ j, j < l.length → w.cell? ⟨b, o + j, none⟩ = some (.string (str (l.getD j []))))
theorem Reads.later {w w' : World} {v : Value} {l : List (List UInt8)} (h : Reads w v l) (hb : Below w.heap.size w w') : Reads w' v l := by
  obtain ⟨a, c, hv, hc, hN, h⟩ := h
  refine ⟨a, c, hv, hc, hN, fun h0 => ?_⟩
  obtain ⟨b, o, ha, hbl, hcell⟩ := h h0
  exact ⟨b, o, ha, Nat.lt_of_lt_of_le hbl hb.size, fun j hj => by rw [hb.cell (p := ⟨b, o + j, none⟩) hbl]; exact hcell j hj⟩
theorem reads_own {w : World} {B : Nat} {v : Value} {l : List (List UInt8)} (h : w.ownsRow B 9 1 v l.length (scells l)) (hl : l.length ≤ 4294967296) : Reads w v l := by
  rcases h.2 with ⟨rfl, h0⟩ | ⟨g, cap, cur, rfl, hg, hcur, hcap, _⟩
  · exact ⟨none, 0, by rw [h0], by omega, hl, fun h => by omega⟩
  · refine ⟨_, cap, rfl, hcap, hl, fun _ => ⟨g, 0, rfl, (h.lt g rfl).2, fun j hj => ?_⟩⟩
    have := h.cells (g := g) rfl j _ (scells_at l j hj)
    rw [show (⟨g, 0, none⟩ : Addr).add j = ⟨g, 0 + j, none⟩ by unfold Addr.add; by_cases e : j = 0 <;> simp [e]] at this
    exact this

theorem own_later {B : Nat} {e : TypeId} {k : Nat} {v : Value} {n : Nat} {xs : List Value} {w w' : World} (h : w.ownsRow B e k v n xs) (hb : Below w.heap.size w w') : w'.ownsRow B e k v n xs :=
  h.kept (row := none) ⟨hb.os, hb.tape, hb.output, hb.size, fun j hj _ => hb.block j hj⟩ (by cases hv : v.ownBlock <;> simp)
theorem str_full {p : List UInt8} (h : p ≠ []) : (str p).toList.isEmpty = false ∧ (!(str p).toList.isEmpty) = true := by
  rw [Lib.toList_data, str_data]
  cases p with
  | nil => exact absurd rfl h
  | cons a t => exact ⟨rfl, rfl⟩

theorem str_neq {p q : List UInt8} (h : p ≠ q) : ((str p).toList == (str q).toList) = false := by
  rw [Lib.toList_data, Lib.toList_data, str_data, str_data, beq_eq_false_iff_ne]; exact h

theorem info9 : (Tryd.prog.info? 9).map (fun i => (i.zero, i.size, i.bytes)) = some (some (.string ByteArray.empty), 1, 16) := by kernel_rfl

/-- 'out = append(out, p)' of one text, out nil or the call's own. -/
theorem wpList_append_str (W : World) {ops : Array Oper} {rest : List Oper} {o : Oper} {a : Act} {Q : Exit → Act → World → Prop} (hgd : o.guard = none) (s x : Operand)
    (ho : o.op = .call { callee := .builtin .append, args := #[s, x], argTypes := #[28, 28] })
    (B : Nat) (v : Value) (l : List (List UInt8)) (hs : a.eval s = v) (hown : W.ownsRow B 9 1 v l.length (scells l))
    (y : ByteArray) (p : List UInt8) (hy : y = str p) (hx : a.eval x = .slice (some ⟨W.heap.size, 0, none⟩) 1 1)
    (hk : l.length + 1 ≤ 4294967296) (hB : B ≤ W.heap.size)
    (h : ∀ v' w', w'.ownsRow B 9 1 v' (l ++ [p]).length (scells (l ++ [p])) → Below B W w' → wpList Tryd.prog ops Q rest (a.put o.dst v') w') :
    wpList Tryd.prog ops Q (o :: rest) a (W.alloc (.cells #[.string y] 9)) := by
  subst hy
  obtain ⟨i0, hi, hz0, hz1, hz2⟩ := info_parts info9
  refine wpList_append_own _ hgd s x 28 ho B 9 i0 (.string ByteArray.empty) 1 16 Tryd.underlying28 hi hz0 hz1 hz2 rfl (by decide) v l.length (scells l) hs (hown.alloc _) ⟨W.heap.size, 0, none⟩ 1 1 [.string (str p)] hx rfl ?_ ?_ ?_ ?_ ?_ ?_
  · intro j u hj
    match j, hj with
    | 0, hj => simp at hj; subst hj; simp [Addr.add]
  · intro u hu; simp at hu; subst hu; rfl
  · unfold maxLen; omega
  · omega
  · simp; omega
  · intro v' w' h1 h2 _
    rw [scells_snoc l p, show l.length + 1 = (l ++ [p]).length by simp] at h1
    refine h v' w' h1 ?_
    refine (((Below.refl B W).alloc hB _).grown h2 (by simp; omega) ?_)
    intro g hg
    exact (hown.lt g hg).1

/-- Where the text behind 'at' has the byte first at k. -/
theorem cut_step (c : UInt8) (l : List UInt8) (a k : Nat) (hak : a ≤ k) (hk : k < l.length) (hc : l.getD k 0 = c) (hn : ∀ j, a ≤ j → j < k → l.getD j 0 ≠ c) :
    cut c (l.drop a) = (l.drop a).take (k - a) :: cut c (l.drop (k + 1)) := by
  have e : l.drop a = (l.drop a).take (k - a) ++ c :: l.drop (k + 1) := by
    conv => lhs; rw [← List.take_append_drop (k - a) (l.drop a)]
    rw [List.drop_drop, show a + (k - a) = k by omega, List.drop_eq_getElem_cons hk]
    rw [List.getD_eq_getElem?_getD, List.getElem?_eq_getElem hk] at hc
    rw [← hc]; rfl
  have hnot : c ∉ (l.drop a).take (k - a) := by
    intro hm
    obtain ⟨j, hj, ej⟩ := List.mem_iff_getElem.1 hm
    simp at hj ej
    refine hn (a + j) (by omega) (by omega) ?_
    rw [List.getD_eq_getElem?_getD, List.getElem?_eq_getElem (by omega)]; simpa using ej
  rw [e, cut_append_none hnot, ← e]
theorem cut_last (c : UInt8) (l : List UInt8) (a : Nat) (hn : ∀ j, a ≤ j → j < l.length → l.getD j 0 ≠ c) : cut c (l.drop a) = [(l.drop a).take (l.length - a)] := by
  rw [List.take_of_length_le (by simp), cut_none]
  intro hm
  obtain ⟨j, hj, ej⟩ := List.mem_iff_getElem.1 hm
  simp at hj ej
  refine hn (a + j) (by omega) (by omega) ?_
  rw [List.getD_eq_getElem?_getD, List.getElem?_eq_getElem (by omega)]; simpa using ej
theorem cut_le (c : UInt8) (l : List UInt8) : (cut c l).length ≤ l.length + 1 := by rw [cut_length]; have := List.count_le_length (a := c) (l := l); omega

/-- An answer that is a slice of strings. -/
def Gives (w : World) (l : List (List UInt8)) (e : Ending) (w' : World) : Prop := ∃ v, e = .returned v ∧ Reads w' v l ∧ Below w.heap.size w w'
def CutJ (c : UInt8) (l : List UInt8) (k a : Nat) (acc : List (List UInt8)) : Prop :=
  acc.length ≤ k ∧ (k ≤ l.length → a ≤ k ∧ acc ++ cut c (l.drop a) = cut c l ∧ ∀ j, a ≤ j → j < k → l.getD j 0 ≠ c) ∧ (l.length < k → acc = cut c l)

set_option maxHeartbeats 1000000 in
theorem rcut_any (s : ByteArray) (c : UInt8) (w : World) (hs : s.size ≤ 4294967280) :
    Calls Tryd.prog 45 #[.string s, .int .u8 (c.toNat : Int)] w (Gives w (cut c s.data.toList)) := by
  have HL := Lib.hid (Lib.size_eq s)
  have hB := Lib.hid (Below.refl w.heap.size w)
  have hO := Lib.hid (World.ownsRow_nil w w.heap.size 9 1)
  go_enter Tryd.func45, Tryd.ntmps45
  go_wp2
  go_loopw [5, 6, 7] (fun o t i wr => ∃ (k a : Nat) (acc : List (List UInt8)), k ≤ s.size + 1 ∧ t = .int .i64 a ∧ i = .int .i64 k ∧ wr.ownsRow w.heap.size 9 1 o acc.length (scells acc) ∧ Below w.heap.size w wr ∧ Hid (CutJ c s.data.toList k a acc)) (fun _ _ i _ => s.size + 1 - (intOf i).toNat)
  case atStart => exact ⟨0, 0, [], by omega, rfl, rfl, hO.out, hB.out, Lib.hid ⟨Nat.zero_le _, fun _ => ⟨Nat.zero_le _, rfl, fun j _ h => absurd h (by omega)⟩, fun h => absurd h (by omega)⟩⟩
  case round =>
    obtain ⟨k, a, acc, hk, rfl, rfl, hown, hb, hj⟩ := hrel
    have hbs := hb.size
    have hacc : acc.length ≤ k := hj.out.1
    by_cases hle : k ≤ s.size
    · have hak : a ≤ k := (hj.out.2.1 (by rw [← HL.out]; exact hle)).1
      by_cases heq : k = s.size
      · subst heq
        have NX : Hid (CutJ c s.data.toList (s.size + 1) (s.size + 1) (acc ++ [(s.data.toList.drop a).take (s.size - a)])) := Lib.hid (by
          obtain ⟨h1, h2, h3⟩ := hj.out.2.1 (by rw [← HL.out]; exact Nat.le_refl _)
          refine ⟨by simp; exact hacc, fun h => absurd h (by rw [← HL.out]; omega), fun _ => ?_⟩
          have := cut_last c s.data.toList a (fun j hj1 hj2 => h3 j hj1 (by rw [← HL.out] at hj2; exact hj2))
          rw [← h2, this, HL.out])
        have hx := str_extract s a s.size
        have HX := Lib.hid hx
        clear hx
        go_wp2_with (first
          | (at_builtin; go_must (refine wpList_append_str wr rfl (.tmp 25) (.tmp 30) rfl w.heap.size u5 acc rfl hown _ _ HX.out rfl (by omega) (by omega) ?_); intro v1 w1 hown1 hb1))
        go_roundw
        case rel => exact ⟨s.size + 1, s.size + 1, _, by omega, by go_num, by go_num, hown1, hb.trans hb1, NX⟩
        case measure => simp [intOf] <;> omega
      · have hlt : k < s.size := by omega
        have q0 := neq_int heq
        have hn0 := getD_at s k hlt
        by_cases hc : s[k] = c
        · have NX : Hid (CutJ c s.data.toList (k + 1) (k + 1) (acc ++ [(s.data.toList.drop a).take (k - a)])) := Lib.hid (by
            obtain ⟨h1, h2, h3⟩ := hj.out.2.1 (by rw [← HL.out]; omega)
            refine ⟨by simp; exact hacc, fun h => ⟨Nat.le_refl _, ?_, fun j a b => absurd b (by omega)⟩, fun h => absurd h (by rw [← HL.out]; omega)⟩
            have := cut_step c s.data.toList a k h1 (by rw [← HL.out]; exact hlt) (hn0.trans hc) h3
            rw [← h2, this]; simp)
          have HX := Lib.hid (str_extract s a k)
          have hcn : s[k].toNat = c.toNat := by rw [hc]
          clear hn0 hc heq
          go_wp2_with (first
            | (at_builtin; go_must (refine wpList_append_str wr rfl (.tmp 25) (.tmp 30) rfl w.heap.size u5 acc rfl hown _ _ HX.out rfl (by omega) (by omega) ?_); intro v1 w1 hown1 hb1))
          go_roundw
          case rel => exact ⟨k + 1, k + 1, _, by omega, by go_num, by go_num, hown1, hb.trans hb1, NX⟩
          case measure => simp [intOf] <;> omega
        · have NX : Hid (CutJ c s.data.toList (k + 1) a acc) := Lib.hid (by
            obtain ⟨h1, h2, h3⟩ := hj.out.2.1 (by rw [← HL.out]; omega)
            refine ⟨by omega, fun h => ⟨by omega, h2, ?_⟩, fun h => absurd h (by rw [← HL.out]; omega)⟩
            intro j hj1 hj2
            by_cases e : j = k
            · subst e; rw [hn0]; exact hc
            · exact h3 j hj1 (by omega))
          have hcn : ((s[k].toNat : Int) == (c.toNat : Int)) = false := neq_int (fun h => hc (by rw [byte_eq]; exact h))
          clear hn0 hc heq
          go_wp2
          go_roundw
          case rel => exact ⟨k + 1, a, _, by omega, rfl, by go_num, hown, hb, NX⟩
          case measure => simp [intOf] <;> omega
    · have hacc2 : acc = cut c s.data.toList := hj.out.2.2 (by rw [← HL.out]; omega)
      have HA := Lib.hid hacc2
      clear hacc2
      have hkk : ¬ (k : Int) ≤ s.size := by omega
      go_wp2
      go_ret
      refine ⟨_, rfl, ?_, hb⟩
      rw [← HA.out]
      exact reads_own hown (by omega)
end Go.Proofs.YtmflpjgedoopoaaDoor
