/- Walks of digest.divided and digest.primes.; Blocks of words of 32 bits.; Walk of digest.Keys.; Walks of digest.start, digest.Keys. -/
import Derived.Test.YtpcmmejlmhbcdaaGreatJ18
import Derived.Laws.Rows
set_option linter.unusedVariables false
set_option linter.unusedSimpArgs false
namespace Go.Proofs.YtpcmmejlmhbcdaaGreat.Dg
open Go.RowKit

def ucells (l : List Nat) : List Value := l.map fun p : Nat => .int .u64 (p : Int)

theorem divided_any (n : Nat) (l : List Nat) (hn : n < 1000000) (hl : ∀ p ∈ l, 2 ≤ p ∧ p ≤ 1000) (hlen : l.length ≤ 64) (at0 : Option Addr) (m cap g : Nat) (hm : m = l.length) (w : World)
    (hat : 0 < l.length → at0 = some ⟨g, 0, none⟩) (hc : ∀ k (h : k < l.length), w.cell? ⟨g, k, none⟩ = some (.int .u64 (l[k] : Int))) :
    Calls Tryz.prog 152 #[.int .u64 (n : Int), .slice at0 m cap] w fun e w' => e = .returned (.bool (divB n l)) ∧ w = w' := by
  subst hm
  obtain ⟨D, hD⟩ : ∃ D, divB n l = D := ⟨_, rfl⟩
  rw [hD]
  have HD := Lib.hid hD
  have HC := Lib.hid hc
  have HAT := Lib.hid hat
  have HL := Lib.hid hl
  clear hD hc hat hl
  go_enter Tryz.func152, Tryz.ntmps152
  go_wp2
  go_loop [9] (fun i => ∃ (k : Nat), k ≤ l.length ∧ i = .int .i64 k ∧ Hid (divB n (l.drop k) = D)) (fun i => l.length - (intOf i).toNat)
  case atStart => exact ⟨0, by omega, rfl, HD⟩
  case round =>
    obtain ⟨k, hk, rfl, hD⟩ := hrel
    by_cases hlt : k < l.length
    · have hcell := HC.out k hlt
      obtain rfl := HAT.out (by omega)
      have hin := HL.out l[k] (List.getElem_mem hlt)
      have hd := hD.out
      rw [List.drop_eq_getElem_cons hlt] at hd
      have hd2 : ((n % l[k] == 0) || divB n (l.drop (k + 1))) = D := hd
      generalize l[k] = p at *
      by_cases h : n % p = 0
      · have hz : ((n : Int) % (p : Int) == 0) = true := by rw [beq_iff_eq]; omega
        have HE : Hid (D = true) := Lib.hid (by rw [← hd2, h]; rfl)
        clear hd hd2 hD h
        go_wp2
        go_ret
        rw [HE.out]
        exact ⟨rfl, rfl⟩
      · have hz : ((n : Int) % (p : Int) == 0) = false := by rw [beq_eq_false_iff_ne]; omega
        have HE : Hid (divB n (l.drop (k + 1)) = D) := Lib.hid (by rw [← hd2, show (n % p == 0) = false from by rw [beq_eq_false_iff_ne]; exact h]; rfl)
        clear hd hd2 hD h
        go_wp2
        go_round
        case rel => exact ⟨k + 1, by omega, by go_num, HE⟩
        case measure => simp [intOf]; omega
    · have hd := hD.out
      rw [List.drop_of_length_le (by omega)] at hd
      have HE : Hid (D = false) := Lib.hid (by rw [← hd]; rfl)
      clear hd hD
      go_wp2
      go_ret
      rw [HE.out]
      exact ⟨rfl, rfl⟩

theorem Tryz.info78 : (Tryz.prog.info? 78).map (fun i => (i.zero, i.size, i.bytes)) = some (some (.int .u64 0), 1, 8) := by kernel_rfl
theorem ucells_snoc (l : List Nat) (p : Nat) : ucells l ++ [.int .u64 (p : Int)] = ucells (l ++ [p]) := by simp [ucells]
/-- 'l = append(l, p)' of one number, l nil or the call's own. -/
theorem wpList_append_u64 (W : World) {ops : Array Oper} {rest : List Oper} {o : Oper} {a : Act} {Q : Exit → Act → World → Prop} (hgd : o.guard = none) (s x : Operand)
    (ho : o.op = .call { callee := .builtin .append, args := #[s, x], argTypes := #[64, 64] })
    (B : Nat) (v : Value) (k : Nat) (l : List Nat) (hs : a.eval s = v) (hown : W.ownsRow B 78 1 v k (ucells l))
    (c : Int) (p : Nat) (hcp : c = (p : Int)) (hx : a.eval x = .slice (some ⟨W.heap.size, 0, none⟩) 1 1)
    (hk : k + 1 ≤ 1000) (hB : B ≤ W.heap.size)
    (h : ∀ v' w', w'.ownsRow B 78 1 v' (k + 1) (ucells (l ++ [p])) → Below B W w' → wpList Tryz.prog ops Q rest (a.put o.dst v') w') :
    wpList Tryz.prog ops Q (o :: rest) a (W.alloc (.cells #[.int .u64 c] 78)) := by
  subst hcp
  obtain ⟨i0, hi, hz0, hz1, hz2⟩ := info_parts Tryz.info78
  refine wpList_append_own _ hgd s x 64 ho B 78 i0 (.int .u64 0) 1 8 Tryz.underlying64 hi hz0 hz1 hz2 rfl (by decide) v k (ucells l) hs (hown.alloc _) ⟨W.heap.size, 0, none⟩ 1 1 [.int .u64 (p : Int)] hx rfl ?_ ?_ ?_ ?_ ?_ ?_
  · intro j u hj
    match j, hj with
    | 0, hj => simp at hj; subst hj; simp [Addr.add]
  · intro u hu; simp at hu; subst hu; rfl
  · unfold maxLen; omega
  · omega
  · simp; omega
  · intro v' w' h1 h2 _
    rw [ucells_snoc l p] at h1
    refine h v' w' h1 (((Below.refl B W).alloc hB _).grown h2 (by simp; omega) ?_)
    intro g hg
    exact (hown.lt g hg).1
/-- What is known of a row that the call owns, for those that read it. -/
theorem owns_read {B n : Nat} {v : Value} {l : List Nat} {wr : World} (h : wr.ownsRow B 78 1 v n (ucells l)) :
    ∃ (at0 : Option Addr) (cap g : Nat), v = .slice at0 n cap ∧ n = l.length ∧ (0 < l.length → at0 = some ⟨g, 0, none⟩) ∧ (∀ k (hk : k < l.length), wr.cell? ⟨g, k, none⟩ = some (.int .u64 (l[k] : Int))) ∧ (0 < l.length → B ≤ g) := by
  have hn : n = l.length := by have := h.1; simp [ucells] at this; omega
  rcases h.2 with ⟨rfl, h0⟩ | ⟨g, cap, cur, rfl, hbg, _⟩
  · exact ⟨none, 0, 0, by rw [h0], hn, fun h => by omega, fun k hk => by omega, fun h => by omega⟩
  · refine ⟨some ⟨g, 0, none⟩, cap, g, rfl, hn, fun _ => rfl, fun k hk => ?_, fun _ => hbg⟩
    rw [h.cellAt k (by omega)]
    unfold ucells
    rw [List.getElem?_map, List.getElem?_eq_getElem hk]; rfl

/-- The row of primes that a call gives. -/
def PrimesR (n K : Nat) (w : World) (e : Ending) (w' : World) : Prop :=
  ∃ v, e = .returned v ∧ w'.ownsRow w.heap.size 78 1 v n (ucells (upto (K + 1))) ∧ Below w.heap.size w w'

set_option maxRecDepth 1000000 in
theorem primes_any (n K : Nat) (hK : K ≤ 900) (h1 : (upto K).length + 1 = n) (h2 : (upto (K + 1)).length = n) (hn : n ≤ 64) (w : World) :
    Calls Tryz.prog 133 #[.int .i64 (n : Int)] w (PrimesR n K w) := by
  have HU : Hid (∀ k, k ≤ K → (upto k).length < n) := Lib.hid (fun k hk => upto_lt (K := K) (by omega) hk)
  have H2 := Lib.hid h2
  clear h1 h2
  go_enter Tryz.func133, Tryz.ntmps133
  go_wp2
  go_loopw [3, 4] (fun v q wr => ∃ (k m : Nat), k ≤ K + 1 ∧ q = .int .u64 ((k : Int) + 2) ∧ Hid (m = (upto k).length) ∧ Hid (wr.ownsRow w.heap.size 78 1 v m (ucells (upto k))) ∧ Hid (Below w.heap.size w wr)) (fun _ q _ => K + 3 - (intOf q).toNat)
  case atStart => exact ⟨0, 0, by omega, rfl, Lib.hid rfl, Lib.hid (World.ownsRow_nil w w.heap.size 78 1), Lib.hid (Below.refl _ _)⟩
  case round =>
    obtain ⟨k, m, hk, rfl, hm, hown, hb⟩ := hrel
    obtain ⟨at0, cap, g, rfl, -, hat, hc, -⟩ := owns_read hown.out
    have HAT := Lib.hid hat
    have HC := Lib.hid hc
    clear hat hc
    by_cases hlt : k ≤ K
    · have hmn : m < n := by rw [hm.out]; exact HU.out k hlt
      have hm64 : m ≤ 63 := by omega
      have KD : Hid (∀ wx, (∀ j (h : j < (upto k).length), wx.cell? ⟨g, j, none⟩ = some (.int .u64 ((upto k)[j] : Int))) → Calls Tryz.prog 152 #[.int .u64 ((k : Int) + 2), .slice at0 m cap] wx fun e w' => e = .returned (.bool (divB (k + 2) (upto k))) ∧ wx = w') := Lib.hid (fun wx hwx =>
        divided_any (k + 2) (upto k) (by omega) (fun p hp => by have := upto_bd k p hp; omega) (by rw [← hm.out]; omega) at0 m cap g hm.out wx HAT.out hwx)
      have hw3 : IntKind.u64.wrap ((k : Int) + 2 + 1) = (k : Int) + 2 + 1 := IntWalk.u64_in _ ⟨by omega, by omega⟩
      have hn' : n ≤ 64 := hn
      have hb0 := hb.out.size
      by_cases hdv : divB (k + 2) (upto k) = true
      · have hu : upto (k + 1) = upto k := by rw [upto_succ, if_pos hdv]
        have HM2 : Hid (m = (upto (k + 1)).length) := Lib.hid (by rw [hu]; exact hm.out)
        have HO2 : Hid (wr.ownsRow w.heap.size 78 1 (.slice at0 m cap) m (ucells (upto (k + 1)))) := Lib.hid (by rw [hu]; exact hown.out)
        rw [hdv] at KD
        clear hu hdv hown hm
        go_wp2_with ((go_at_call 152; ((with_reducible refine (KD.out _ HC.out).mono ?_); rintro e w1 ⟨rfl, rfl⟩)))
        go_roundw
        case rel => exact ⟨k + 1, m, by omega, by go_num, HM2, HO2, hb⟩
        case measure => simp [intOf]; omega
      · have hu : upto (k + 1) = upto k ++ [k + 2] := by rw [upto_succ, if_neg hdv]
        have hdf : divB (k + 2) (upto k) = false := by simpa using hdv
        have HM2 : Hid (m + 1 = (upto (k + 1)).length) := Lib.hid (by rw [hu, List.length_append, ← hm.out]; rfl)
        rw [hdf] at KD
        have HU2 := Lib.hid hu
        clear hu hdv hdf hm
        go_wp2_with (first
          | (go_at_call 152; ((with_reducible refine (KD.out _ HC.out).mono ?_); rintro e w1 ⟨rfl, rfl⟩))
          | (at_builtin; go_must (refine wpList_append_u64 wr rfl (.tmp 15) (.tmp 17) rfl w.heap.size (.slice at0 m cap) m (upto k) rfl hown.out _ (k + 2) (by omega) rfl (by omega) hb0 ?_); intro v' w' hown3 hb3))
        go_roundw
        case rel => exact ⟨k + 1, m + 1, by omega, by go_num, HM2, by rw [HU2.out]; exact Lib.hid hown3, Lib.hid (hb.out.trans hb3)⟩
        case measure => simp [intOf]; omega
    · obtain rfl : k = K + 1 := by omega
      obtain rfl : m = n := hm.out.trans H2.out
      clear hlt
      go_wp2
      go_ret
      exact ⟨_, rfl, hown.out, hb.out⟩
end Go.Proofs.YtpcmmejlmhbcdaaGreat.Dg

namespace Go.Proofs.YtpcmmejlmhbcdaaGreat.Dg
open Go.RowKit

/-- The cells of words. -/
def u32c (l : List Nat) : Array Value := (l.map fun x : Nat => Value.int .u32 (x : Int)).toArray
theorem u32c_size (l : List Nat) : (u32c l).size = l.length := by simp [u32c]
theorem u32c_get (l : List Nat) (j : Nat) (h : j < l.length) : (u32c l)[j]? = some (.int .u32 (l[j] : Int)) := by
  simp [u32c, h]
theorem u32c_set (l : List Nat) (j x : Nat) : (u32c l).setIfInBounds j (.int .u32 (x : Int)) = u32c (l.set j x) := by
  apply Array.ext'
  simp [u32c, List.map_set]
theorem u32c_one (l : List Nat) : (u32c l).all (·.oneCell') = true := by
  rw [Array.all_eq_true_iff_forall_mem]
  intro v hv
  simp [u32c] at hv
  obtain ⟨x, _, rfl⟩ := hv
  rfl
/-- A block that holds words. -/
def UB (g : Nat) (T : TypeId) (l : List Nat) (w : World) : Prop := w.heap[g]? = some (.cells (u32c l) T (0, 0))
theorem lt_of_some {w : World} {g : Nat} {o : Obj} (h : w.heap[g]? = some o) : g < w.heap.size := by
  rcases Nat.lt_or_ge g w.heap.size with hlt | hge
  · exact hlt
  · rw [Array.getElem?_eq_none hge] at h; cases h
section
variable {g : Nat} {T : TypeId} {l : List Nat} {w w' : World}
theorem UB.lt (h : UB g T l w) : g < w.heap.size := lt_of_some h
theorem UB.later (h : UB g T l w) (hb : Below w.heap.size w w') : UB g T l w' := (hb.block _ h.lt).trans h
theorem UB.cell (h : UB g T l w) (j : Nat) (hj : j < l.length) : w.cell? ⟨g, j, none⟩ = some (.int .u32 (l[j] : Int)) := by
  rw [cell_of_row w g j _ _ _ h, u32c_get l j hj]
theorem UB.frozen (h : UB g T l w) (j : Nat) : w.frozen? ⟨g, j, none⟩ = false := frozen_of_row w g j _ _ h
theorem UB.put (h : UB g T l w) (j x : Nat) : UB g T (l.set j x) (w.setCell ⟨g, j, none⟩ (.int .u32 (x : Int))) := by
  have := heap_setCell_same w g j _ _ (.int .u32 (x : Int)) h
  rw [u32c_set] at this
  exact this
theorem UB.other (h : UB g T l w) {a : Addr} (v : Value) (hne : g ≠ a.block) : UB g T l (w.setCell a v) := (heap_setCell_other w a g v hne).trans h
theorem UB.load (h : UB g T l w) (ty : TypeId) {n : Nat} {e : TypeId} (hu : Tryz.prog.underlying ty = some (.array n e)) (hi : (Tryz.prog.info? ty).map (·.size) = some l.length) :
    (loadVar ty ⟨g, 0, none⟩).run Tryz.prog w = .ok (.agg (u32c l)) w :=
  run_loadVar_row w g T ty (u32c l) (0, 0) (.array n e) h hu rfl (by rw [hi, u32c_size])
theorem UB.store (h : UB g T l w) (ty : TypeId) (l2 : List Nat) (hi : (Tryz.prog.info? ty).map (·.size) = some l2.length) (hs : l.length = l2.length) :
    (storeVar ty ⟨g, 0, none⟩ (.agg (u32c l2))).run Tryz.prog w = .ok () (w.setRow g (u32c l2)) :=
  run_storeVar_row w g T ty (u32c l) (u32c l2) h (by rw [hi, u32c_size]) (by rw [u32c_size, u32c_size, hs]) (u32c_one l2)
theorem UB.row (h : UB g T l w) (l2 : List Nat) : UB g T l2 (w.setRow g (u32c l2)) := setRow_heap w g _ _ T _ h
theorem UB.rowOther (h : UB g T l w) {g2 : Nat} (l2 : List Nat) (hne : g ≠ g2) : UB g T l (w.setRow g2 (u32c l2)) := by
  unfold UB
  rw [setRow_other w g2 g _ hne]; exact h
end
/-- Loads and stores of whole blocks, in a walk. -/
theorem wpList_load_ub {w : World} {ops : Array Oper} {rest : List Oper} {o : Oper} {a : Act} {Q : Exit → Act → World → Prop} (hgd : o.guard = none) (ty : TypeId) (x : Operand) (ho : o.op = .load ty x)
    {g : Nat} {T : TypeId} {l : List Nat} (h : UB g T l w) {n : Nat} {e : TypeId} (hu : Tryz.prog.underlying ty = some (.array n e)) (hi : (Tryz.prog.info? ty).map (·.size) = some l.length) (hx : a.eval x = .pointer (some ⟨g, 0, none⟩))
    (hk : wpList Tryz.prog ops Q rest (a.put o.dst (.agg (u32c l))) w) : wpList Tryz.prog ops Q (o :: rest) a w :=
  wpList_load_row hgd ty x ho g hx T (u32c l) (0, 0) (.array n e) h hu rfl (by rw [hi, u32c_size]) hk
theorem wpList_store_ub {w : World} {ops : Array Oper} {rest : List Oper} {o : Oper} {a : Act} {Q : Exit → Act → World → Prop} (hgd : o.guard = none) (ty : TypeId) (x y : Operand) (ho : o.op = .store ty x y)
    {g : Nat} {T : TypeId} {l l2 : List Nat} (h : UB g T l w) (hi : (Tryz.prog.info? ty).map (·.size) = some l2.length) (hs : l.length = l2.length) (hx : a.eval x = .pointer (some ⟨g, 0, none⟩)) (hy : a.eval y = .agg (u32c l2))
    (hk : wpList Tryz.prog ops Q rest (a.put o.dst undef) (w.setRow g (u32c l2))) : wpList Tryz.prog ops Q (o :: rest) a w :=
  wpList_plain hgd fun _ hK => wp_store_row ty x y ho g (u32c l2) hx hy T (u32c l) h (by rw [hi, u32c_size]) (by rw [u32c_size, u32c_size, hs]) (u32c_one l2) (hK _ _ hk)
theorem below_row {B : Nat} {a w : World} (h : Below B a w) {g : Nat} (hg : B ≤ g) (cs : Array Value) : Below B a (w.setRow g cs) :=
  ⟨h.os, h.tape, h.output, by rw [size_setRow]; exact h.size, fun k hk => by rw [setRow_other w g k cs (by omega)]; exact h.block k hk⟩
theorem ub_new (w : World) (l : List Nat) (T : TypeId) : UB w.heap.size T l (w.alloc (.cells (u32c l) T)) := heap_alloc_new w _
theorem root_any (p d : Nat) (hp : p < 1000) (hd : d = 2 ∨ d = 3) (w : World) :
    Calls Tryz.prog 134 #[.int .u64 (p : Int), .int .i64 (d : Int)] w fun e w' => e = .returned (.int .u32 (root p d : Nat)) ∧ w = w' := by
  refine root_core p d (p * 2 ^ (32 * d - 64)) (rootL (33 + 1) (p * 2 ^ (32 * d - 64)) d 0) (d : Int) rfl ?_ (Lib.hid rfl) w
  rcases hd with rfl | rfl
  · refine Or.inl ⟨rfl, ?_⟩
    rw [IntWalk.u64_in _ ⟨by omega, by omega⟩]; simp
  · refine Or.inr ⟨rfl, ?_⟩
    rw [IntWalk.u64_in _ ⟨by omega, by omega⟩]; simp
end Go.Proofs.YtpcmmejlmhbcdaaGreat.Dg

namespace Go.Proofs.YtpcmmejlmhbcdaaGreat.Dg
open Go.RowKit

set_option maxRecDepth 100000 in
theorem keys_zero : (#[.int .u32 0, .int .u32 0, .int .u32 0, .int .u32 0, .int .u32 0, .int .u32 0, .int .u32 0, .int .u32 0, .int .u32 0, .int .u32 0, .int .u32 0, .int .u32 0, .int .u32 0, .int .u32 0, .int .u32 0, .int .u32 0, .int .u32 0, .int .u32 0, .int .u32 0, .int .u32 0, .int .u32 0, .int .u32 0, .int .u32 0, .int .u32 0, .int .u32 0, .int .u32 0, .int .u32 0, .int .u32 0, .int .u32 0, .int .u32 0, .int .u32 0, .int .u32 0, .int .u32 0, .int .u32 0, .int .u32 0, .int .u32 0, .int .u32 0, .int .u32 0, .int .u32 0, .int .u32 0, .int .u32 0, .int .u32 0, .int .u32 0, .int .u32 0, .int .u32 0, .int .u32 0, .int .u32 0, .int .u32 0, .int .u32 0, .int .u32 0, .int .u32 0, .int .u32 0, .int .u32 0, .int .u32 0, .int .u32 0, .int .u32 0, .int .u32 0, .int .u32 0, .int .u32 0, .int .u32 0, .int .u32 0, .int .u32 0, .int .u32 0, .int .u32 0] : Array Value) = u32c (List.replicate 64 0) := by kernel_rfl
theorem keys_info : (Tryz.prog.info? 176).map (·.size) = some 64 := by kernel_rfl
set_option maxRecDepth 100000 in
theorem keys_at (k : Nat) (hk : k < 64) : ∃ h : k < (upto (309 + 1)).length, root ((upto (309 + 1))[k]'h) 3 = KS[k]'hk := by
  have hl : (upto (309 + 1)).length = 64 := upto_64.2
  have hl2 : (upto 310).length = 64 := upto_64.2
  refine ⟨by omega, ?_⟩
  have h := keys_are
  have h2 : ((upto (309 + 1)).map fun p => root p 3)[k]'(by simp; omega) = KS[k]'hk := by
    simp only [h]; rfl
  rw [List.getElem_map] at h2
  exact h2
set_option maxRecDepth 100000 in
def keys_done (k : Nat) : List Nat := KS.take k ++ List.replicate (64 - k) 0
set_option maxRecDepth 100000 in
theorem keys_step (k : Nat) (hk : k < 64) : (keys_done k).set k (KS[k]'hk) = keys_done (k + 1) := by
  have hl : KS.length = 64 := rfl
  unfold keys_done
  rw [List.set_append_right _ _ (by simp; omega)]
  rw [show 64 - k = (64 - (k + 1)) + 1 by omega, List.replicate_succ]
  rw [show k - (KS.take k).length = 0 by simp; omega]
  rw [List.take_succ_eq_append_getElem (by omega), List.append_assoc, List.set_cons_zero]
  rfl

set_option maxRecDepth 1000000 in
set_option maxHeartbeats 1000000 in
theorem keys_any (w : World) : Calls Tryz.prog 121 #[] w fun e w' => e = .returned (.agg (u32c KS)) ∧ Below w.heap.size w w' := by
  have KP := Lib.hid (fun w => primes_any 64 309 (by omega) (by rw [upto_64.1]) upto_64.2 (by omega) w)
  go_enter Tryz.func121, Tryz.ntmps121
  go_wp2_with fail
  rw [keys_zero]
  have hd0 : keys_done 0 = List.replicate 64 0 := rfl
  rw [← hd0]
  have U1 := Lib.hid (ub_new w (keys_done 0) 176)
  have B1 := Lib.hid (show Below w.heap.size w (w.alloc (.cells (u32c (keys_done 0)) 176)) from (Below.refl _ _).alloc (Nat.le_refl _) _)
  have S1 : (w.alloc (.cells (u32c (keys_done 0)) 176)).heap.size = w.heap.size + 1 := by simp
  have U2 := Lib.hid (ub_new (w.alloc (.cells (u32c (keys_done 0)) 176)) (keys_done 0) 176)
  rw [S1] at U2
  have V1 := Lib.hid (UB.later U1.out (show Below _ _ ((w.alloc (.cells (u32c (keys_done 0)) 176)).alloc (.cells (u32c (keys_done 0)) 176)) from (Below.refl _ _).alloc (Nat.le_refl _) _))
  have B2 := Lib.hid (show Below w.heap.size w ((w.alloc (.cells (u32c (keys_done 0)) 176)).alloc (.cells (u32c (keys_done 0)) 176)) from B1.out.alloc (by simp) _)
  have S2 : ((w.alloc (.cells (u32c (keys_done 0)) 176)).alloc (.cells (u32c (keys_done 0)) 176)).heap.size = w.heap.size + 2 := by simp
  clear U1 B1 S1 hd0
  generalize (w.alloc (.cells (u32c (keys_done 0)) 176)).alloc (.cells (u32c (keys_done 0)) 176) = W2 at *
  refine (KP.out _).mono ?_
  rintro e w1 ⟨v, rfl, hown, hb⟩
  rw [S2] at hown
  obtain ⟨at0, cap, g, rfl, -, hat, hc, hg⟩ := owns_read hown
  have hl : (upto (309 + 1)).length = 64 := upto_64.2
  have HAT : Hid (at0 = some ⟨g, 0, none⟩) := Lib.hid (hat (by omega))
  have HG := Lib.hid (hg (by omega))
  have HC := Lib.hid hc
  replace U2 := Lib.hid (U2.out.later hb)
  replace V1 := Lib.hid (V1.out.later hb)
  replace B2 := Lib.hid (B2.out.trans (hb.mono (by omega)))
  clear hat hc hg hown hb hl S2
  obtain rfl := HAT.out
  go_wp2
  go_loopw [6] (fun i wr => ∃ (k : Nat), k ≤ 64 ∧ i = .int .i64 k ∧ Hid (UB (w.heap.size + 1) 176 (keys_done k) wr) ∧ Hid (UB w.heap.size 176 (keys_done 0) wr) ∧ Hid (Below w.heap.size w wr) ∧ Hid (∀ j (hj : j < (upto (309 + 1)).length), wr.cell? ⟨g, j, none⟩ = some (.int .u64 ((upto (309 + 1))[j] : Int)))) (fun i _ => 64 - (intOf i).toNat)
  case atStart => exact ⟨0, by omega, rfl, U2, V1, B2, HC⟩
  case round =>
    obtain ⟨k, hk, rfl, hU, hV, hB, hC⟩ := hrel
    by_cases hlt : k < 64
    · obtain ⟨hp, hr⟩ := keys_at k hlt
      have hcell := hC.out k hp
      have hpb := upto_bd (309 + 1) _ (List.getElem_mem hp)
      have KR : Hid (∀ w, Calls Tryz.prog 134 #[.int .u64 ((upto (309 + 1))[k] : Int), .int .i64 3] w fun e w' => e = .returned (.int .u32 (KS[k]'hlt : Nat)) ∧ w = w') := Lib.hid (fun w => by
        have := root_any ((upto (309 + 1))[k]) 3 (by omega) (by omega) w
        rw [hr] at this
        exact this)
      have hst := keys_step k hlt
      have hlen : k < (keys_done k).length := by unfold keys_done; have hL : KS.length = 64 := rfl; simp; omega
      have hput := hU.out.put k (KS[k]'hlt)
      rw [hst] at hput
      have HP := Lib.hid hput
      have HV2 := Lib.hid (hV.out.other (a := ⟨w.heap.size + 1, k, none⟩) (.int .u32 ((KS[k]'hlt : Nat) : Int)) (by simp))
      have HB2 := Lib.hid (hB.out.setCell (p := ⟨w.heap.size + 1, k, none⟩) (show w.heap.size ≤ w.heap.size + 1 by omega) (.int .u32 ((KS[k]'hlt : Nat) : Int)))
      have HC2 : Hid (∀ j (hj : j < (upto (309 + 1)).length), (wr.setCell ⟨w.heap.size + 1, k, none⟩ (.int .u32 ((KS[k]'hlt : Nat) : Int))).cell? ⟨g, j, none⟩ = some (.int .u64 ((upto (309 + 1))[j] : Int))) := Lib.hid (fun j hj => by
        rw [World.cell?_of_block (w := wr) (heap_setCell_other wr ⟨w.heap.size + 1, k, none⟩ g _ (by have := HG.out; simp; omega))]
        exact hC.out j hj)
      have c0 := hU.out.cell k hlen
      have f0 := hU.out.frozen k
      clear hput hst hr hpb hC hU hV hB
      generalize (upto (309 + 1))[k] = p at *
      generalize KS[k]'hlt = x at *
      generalize (keys_done k)[k] = y at *
      clear hlen
      go_wp2_with ((go_at_call 134; ((with_reducible refine (KR.out _).mono ?_); rintro e w1 ⟨rfl, rfl⟩)))
      go_roundw
      case rel => exact ⟨k + 1, by omega, by go_num, HP, HV2, HB2, HC2⟩
      case measure => simp [intOf]; omega
    · obtain rfl : k = 64 := by omega
      have hfin : keys_done 64 = KS := rfl
      rw [hfin] at hU
      have hU3 := hV.out.row KS
      have hB3 := below_row hB.out (Nat.le_refl _) (u32c KS)
      have HU3 := Lib.hid hU3
      have HB3 := Lib.hid hB3
      clear hU3 hB3 hlt hB
      go_wp2_with (first
        | (refine wpList_load_ub rfl 176 (.tmp 1) rfl hU.out Tryz.underlying176 keys_info rfl ?_)
        | (refine wpList_store_ub rfl 176 (.tmp 0) (.tmp 16) rfl hV.out (l2 := KS) keys_info rfl rfl rfl ?_))
      refine bodyPost_ret (v := .agg (u32c KS)) ?_ rfl ⟨rfl, HB3.out⟩
      exact results_cell_row rfl _ _ w.heap.size 176 (u32c KS) (0, 0) _ rfl HU3.out Tryz.underlying176 rfl keys_info
end Go.Proofs.YtpcmmejlmhbcdaaGreat.Dg

namespace Go.Proofs.YtpcmmejlmhbcdaaGreat.Dg
open Go.RowKit

theorem start_zero : (#[.int .u32 0, .int .u32 0, .int .u32 0, .int .u32 0, .int .u32 0, .int .u32 0, .int .u32 0, .int .u32 0] : Array Value) = u32c (List.replicate 8 0) := by kernel_rfl
theorem start_info : (Tryz.prog.info? 178).map (·.size) = some 8 := by kernel_rfl
theorem start_at (k : Nat) (hk : k < 8) : ∃ h : k < (upto (17 + 1)).length, root ((upto (17 + 1))[k]'h) 2 = HS[k]'hk := by
  have hl : (upto (17 + 1)).length = 8 := upto_8.2
  have hl2 : (upto 18).length = 8 := upto_8.2
  refine ⟨by omega, ?_⟩
  have h := start_is
  have h2 : ((upto (17 + 1)).map fun p => root p 2)[k]'(by simp; omega) = HS[k]'hk := by
    simp only [h]; rfl
  rw [List.getElem_map] at h2
  exact h2
def start_done (k : Nat) : List Nat := HS.take k ++ List.replicate (8 - k) 0
theorem start_step (k : Nat) (hk : k < 8) : (start_done k).set k (HS[k]'hk) = start_done (k + 1) := by
  have hl : HS.length = 8 := rfl
  unfold start_done
  rw [List.set_append_right _ _ (by simp; omega)]
  rw [show 8 - k = (8 - (k + 1)) + 1 by omega, List.replicate_succ]
  rw [show k - (HS.take k).length = 0 by simp; omega]
  rw [List.take_succ_eq_append_getElem (by omega), List.append_assoc, List.set_cons_zero]
  rfl

set_option maxRecDepth 1000000 in
set_option maxHeartbeats 1000000 in
theorem start_any (w : World) : Calls Tryz.prog 122 #[] w fun e w' => e = .returned (.agg (u32c HS)) ∧ Below w.heap.size w w' := by
  have KP := Lib.hid (fun w => primes_any 8 17 (by omega) (by rw [upto_8.1]) upto_8.2 (by omega) w)
  go_enter Tryz.func122, Tryz.ntmps122
  go_wp2_with fail
  rw [start_zero]
  have hd0 : start_done 0 = List.replicate 8 0 := rfl
  rw [← hd0]
  have U1 := Lib.hid (ub_new w (start_done 0) 178)
  have B1 := Lib.hid (show Below w.heap.size w (w.alloc (.cells (u32c (start_done 0)) 178)) from (Below.refl _ _).alloc (Nat.le_refl _) _)
  have S1 : (w.alloc (.cells (u32c (start_done 0)) 178)).heap.size = w.heap.size + 1 := by simp
  have U2 := Lib.hid (ub_new (w.alloc (.cells (u32c (start_done 0)) 178)) (start_done 0) 178)
  rw [S1] at U2
  have V1 := Lib.hid (UB.later U1.out (show Below _ _ ((w.alloc (.cells (u32c (start_done 0)) 178)).alloc (.cells (u32c (start_done 0)) 178)) from (Below.refl _ _).alloc (Nat.le_refl _) _))
  have B2 := Lib.hid (show Below w.heap.size w ((w.alloc (.cells (u32c (start_done 0)) 178)).alloc (.cells (u32c (start_done 0)) 178)) from B1.out.alloc (by simp) _)
  have S2 : ((w.alloc (.cells (u32c (start_done 0)) 178)).alloc (.cells (u32c (start_done 0)) 178)).heap.size = w.heap.size + 2 := by simp
  clear U1 B1 S1 hd0
  generalize (w.alloc (.cells (u32c (start_done 0)) 178)).alloc (.cells (u32c (start_done 0)) 178) = W2 at *
  refine (KP.out _).mono ?_
  rintro e w1 ⟨v, rfl, hown, hb⟩
  rw [S2] at hown
  obtain ⟨at0, cap, g, rfl, -, hat, hc, hg⟩ := owns_read hown
  have hl : (upto (17 + 1)).length = 8 := upto_8.2
  have HAT : Hid (at0 = some ⟨g, 0, none⟩) := Lib.hid (hat (by omega))
  have HG := Lib.hid (hg (by omega))
  have HC := Lib.hid hc
  replace U2 := Lib.hid (U2.out.later hb)
  replace V1 := Lib.hid (V1.out.later hb)
  replace B2 := Lib.hid (B2.out.trans (hb.mono (by omega)))
  clear hat hc hg hown hb hl S2
  obtain rfl := HAT.out
  go_wp2
  go_loopw [6] (fun i wr => ∃ (k : Nat), k ≤ 8 ∧ i = .int .i64 k ∧ Hid (UB (w.heap.size + 1) 178 (start_done k) wr) ∧ Hid (UB w.heap.size 178 (start_done 0) wr) ∧ Hid (Below w.heap.size w wr) ∧ Hid (∀ j (hj : j < (upto (17 + 1)).length), wr.cell? ⟨g, j, none⟩ = some (.int .u64 ((upto (17 + 1))[j] : Int)))) (fun i _ => 8 - (intOf i).toNat)
  case atStart => exact ⟨0, by omega, rfl, U2, V1, B2, HC⟩
  case round =>
    obtain ⟨k, hk, rfl, hU, hV, hB, hC⟩ := hrel
    by_cases hlt : k < 8
    · obtain ⟨hp, hr⟩ := start_at k hlt
      have hcell := hC.out k hp
      have hpb := upto_bd (17 + 1) _ (List.getElem_mem hp)
      have KR : Hid (∀ w, Calls Tryz.prog 134 #[.int .u64 ((upto (17 + 1))[k] : Int), .int .i64 2] w fun e w' => e = .returned (.int .u32 (HS[k]'hlt : Nat)) ∧ w = w') := Lib.hid (fun w => by
        have := root_any ((upto (17 + 1))[k]) 2 (by omega) (by omega) w
        rw [hr] at this
        exact this)
      have hst := start_step k hlt
      have hlen : k < (start_done k).length := by unfold start_done; have hL : HS.length = 8 := rfl; simp; omega
      have hput := hU.out.put k (HS[k]'hlt)
      rw [hst] at hput
      have HP := Lib.hid hput
      have HV2 := Lib.hid (hV.out.other (a := ⟨w.heap.size + 1, k, none⟩) (.int .u32 ((HS[k]'hlt : Nat) : Int)) (by simp))
      have HB2 := Lib.hid (hB.out.setCell (p := ⟨w.heap.size + 1, k, none⟩) (show w.heap.size ≤ w.heap.size + 1 by omega) (.int .u32 ((HS[k]'hlt : Nat) : Int)))
      have HC2 : Hid (∀ j (hj : j < (upto (17 + 1)).length), (wr.setCell ⟨w.heap.size + 1, k, none⟩ (.int .u32 ((HS[k]'hlt : Nat) : Int))).cell? ⟨g, j, none⟩ = some (.int .u64 ((upto (17 + 1))[j] : Int))) := Lib.hid (fun j hj => by
        rw [World.cell?_of_block (w := wr) (heap_setCell_other wr ⟨w.heap.size + 1, k, none⟩ g _ (by have := HG.out; simp; omega))]
        exact hC.out j hj)
      have c0 := hU.out.cell k hlen
      have f0 := hU.out.frozen k
      clear hput hst hr hpb hC hU hV hB
      generalize (upto (17 + 1))[k] = p at *
      generalize HS[k]'hlt = x at *
      generalize (start_done k)[k] = y at *
      clear hlen
      go_wp2_with ((go_at_call 134; ((with_reducible refine (KR.out _).mono ?_); rintro e w1 ⟨rfl, rfl⟩)))
      go_roundw
      case rel => exact ⟨k + 1, by omega, by go_num, HP, HV2, HB2, HC2⟩
      case measure => simp [intOf]; omega
    · obtain rfl : k = 8 := by omega
      have hfin : start_done 8 = HS := rfl
      rw [hfin] at hU
      have hU3 := hV.out.row HS
      have hB3 := below_row hB.out (Nat.le_refl _) (u32c HS)
      have HU3 := Lib.hid hU3
      have HB3 := Lib.hid hB3
      clear hU3 hB3 hlt hB
      go_wp2_with (first
        | (refine wpList_load_ub rfl 178 (.tmp 1) rfl hU.out Tryz.underlying178 start_info rfl ?_)
        | (refine wpList_store_ub rfl 178 (.tmp 0) (.tmp 16) rfl hV.out (l2 := HS) start_info rfl rfl rfl ?_))
      refine bodyPost_ret (v := .agg (u32c HS)) ?_ rfl ⟨rfl, HB3.out⟩
      exact results_cell_row rfl _ _ w.heap.size 178 (u32c HS) (0, 0) _ rfl HU3.out Tryz.underlying178 rfl start_info
end Go.Proofs.YtpcmmejlmhbcdaaGreat.Dg
