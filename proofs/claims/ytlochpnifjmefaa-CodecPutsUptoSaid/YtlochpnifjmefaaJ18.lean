/- The document's Put.; A box that holds bytes of the call's own: a string put behind them. -/
import Derived.Test.YtlochpnifjmefaaJ17
import Derived.Lib.AppendStr
set_option linter.unusedVariables false
set_option linter.unusedSimpArgs false
namespace Go.Proofs.Ytlochpnifjmefaa
open Go.RowKit

/-- What Put answers: the error, the writing. -/
def putC (t : Tr) : Nat := if sndT t = false then 10 else if 6 < deepT t then 8 else if 8192 < (txtT t).length then 5 else 0
def putS (t : Tr) : ByteArray := if putC t = 0 then str (txtT t) else ⟨#[]⟩

set_option maxRecDepth 100000 in
theorem rput_value (t : Tr) (a : Int) (b : Nat) (s : ByteArray) (o : Option Addr) (m cap : Nat) (w : World) (hd : deepT t ≤ 1000000000) (hz : (txtT t).length ≤ 100000000) (hv : VIn w t (.int .i64 a) (.int .u64 (b : Int)) (.string s) (.slice o m cap)) :
    Calls Try.prog 12 #[.agg #[.int .i64 a, .int .u64 (b : Int), .string s, .slice o m cap]] w fun e w' => e = .returned (.tuple #[.string (putS t), .int .i64 (putC t : Nat)]) ∧ Below w.heap.size w w' := by
  have H0 := Lib.hid (VW.new w (.int .i64 a) (.int .u64 (b : Int)) (.string s) (.slice o m cap) 37)
  obtain ⟨c0, c1, c2, c3⟩ := H0.out.1
  obtain ⟨w0, hw0⟩ : ∃ w0, w0 = w.alloc (.cells #[.int .i64 a, .int .u64 (b : Int), .string s, .slice o m cap] 37) := ⟨_, rfl⟩
  rw [← hw0] at c0 c1 c2 c3 H0
  have K1 : Hid (∀ wz, Below w.heap.size w wz → Calls Try.prog 35 #[.agg #[.int .i64 a, .int .u64 (b : Int), .string s, .slice o m cap]] wz fun e w' => e = .returned (.bool (sndT t)) ∧ Below wz.heap.size wz w') := Lib.hid (fun wz hb => bare_any t _ _ _ _ wz (hv.later hb))
  have K2 : Hid (∀ wz, Below w.heap.size w wz → Calls Try.prog 15 #[.agg #[.int .i64 a, .int .u64 (b : Int), .string s, .slice o m cap]] wz fun e w' => e = .returned (.int .i64 (deepT t : Nat)) ∧ Below wz.heap.size wz w') := Lib.hid (fun wz hb => rdeep_any t _ _ _ _ wz hd (hv.later hb))
  have HW := Lib.hid hw0
  clear hw0
  by_cases h1 : sndT t = false
  · have e1 : putC t = 10 := by unfold putC; rw [if_pos h1]
    have e2 : putS t = ⟨#[]⟩ := by unfold putS; rw [if_neg (by omega)]
    rw [e1, e2]
    rw [h1] at K1
    clear e1 e2 K2 h1 c0 c1 c2 c3 hd hz hv
    go_enter Try.func12, Try.ntmps12
    go_wp2_with fail
    rw [← HW.out]
    refine (K1.out _ H0.out.2.2).mono ?_
    rintro r w1 ⟨rfl, hb1⟩
    have HE := Lib.hid (H0.out.2.2.trans (hb1.mono H0.out.2.2.size))
    clear hb1
    go_wp2
    go_ret2
    exact ⟨rfl, HE.out⟩
  · have h1' : sndT t = true := by simpa using h1
    rw [h1'] at K1
    by_cases h2 : 6 < deepT t
    · have e1 : putC t = 8 := by unfold putC; rw [if_neg h1, if_pos h2]
      have e2 : putS t = ⟨#[]⟩ := by unfold putS; rw [if_neg (by omega)]
      rw [e1, e2]
      have h2' : ((deepT t : Nat) : Int) > 6 := by omega
      generalize deepT t = dd at *
      clear e1 e2 h1 h1' c0 c1 c2 c3 hz hv h2
      go_enter Try.func12, Try.ntmps12
      go_wp2_with fail
      rw [← HW.out]
      refine (K1.out _ H0.out.2.2).mono ?_
      rintro r w1 ⟨rfl, hb1⟩
      have H1 := Lib.hid (H0.out.later hb1)
      obtain ⟨c0, c1, c2, c3⟩ := H1.out.1
      clear hb1 H0
      go_wp2_with fail
      refine (K2.out _ H1.out.2.2).mono ?_
      rintro r w2 ⟨rfl, hb2⟩
      have HE := Lib.hid (H1.out.2.2.trans (hb2.mono H1.out.2.2.size))
      clear hb2 c0 c1 c2 c3
      go_wp2
      go_ret2
      exact ⟨rfl, HE.out⟩
    · have K3 : Hid (∀ wz, Below w.heap.size w wz → Calls Try.prog 36 #[.agg #[.int .i64 a, .int .u64 (b : Int), .string s, .slice o m cap]] wz fun e w' => e = .returned (.string (str (txtT t))) ∧ Below wz.heap.size wz w') := Lib.hid (fun wz hb => rtxt_any t _ _ _ _ wz h1' hz (hv.later hb))
      have hts : (str (txtT t)).size = (txtT t).length := size_str _
      have h2' : ¬ ((deepT t : Nat) : Int) > 6 := by omega
      by_cases h3 : 8192 < (txtT t).length
      · have e1 : putC t = 5 := by unfold putC; rw [if_neg h1, if_neg h2, if_pos h3]
        have e2 : putS t = ⟨#[]⟩ := by unfold putS; rw [if_neg (by omega)]
        rw [e1, e2]
        have h3' : ((str (txtT t)).size : Int) > 8192 := by rw [hts]; omega
        generalize deepT t = dd at *
        generalize str (txtT t) = T at *
        clear e1 e2 h1 h1' c0 c1 c2 c3 hz hv h2 h3 hts
        go_enter Try.func12, Try.ntmps12
        go_wp2_with fail
        rw [← HW.out]
        refine (K1.out _ H0.out.2.2).mono ?_
        rintro r w1 ⟨rfl, hb1⟩
        have H1 := Lib.hid (H0.out.later hb1)
        obtain ⟨c0, c1, c2, c3⟩ := H1.out.1
        clear hb1 H0
        go_wp2_with fail
        refine (K2.out _ H1.out.2.2).mono ?_
        rintro r w2 ⟨rfl, hb2⟩
        have H2 := Lib.hid (H1.out.later hb2)
        clear hb2 c0 c1 c2 c3 H1
        obtain ⟨c0, c1, c2, c3⟩ := H2.out.1
        go_wp2_with fail
        refine (K3.out _ H2.out.2.2).mono ?_
        rintro r w3 ⟨rfl, hb3⟩
        have HE := Lib.hid (H2.out.2.2.trans (hb3.mono H2.out.2.2.size))
        clear hb3 c0 c1 c2 c3
        go_wp2
        go_ret2
        exact ⟨rfl, HE.out⟩
      · have e1 : putC t = 0 := by unfold putC; rw [if_neg h1, if_neg h2, if_neg h3]
        have e2 : putS t = str (txtT t) := by unfold putS; rw [if_pos e1]
        rw [e1, e2]
        have h3' : ¬ ((str (txtT t)).size : Int) > 8192 := by rw [hts]; omega
        generalize deepT t = dd at *
        generalize str (txtT t) = T at *
        clear e1 e2 h1 h1' c0 c1 c2 c3 hz hv h2 h3 hts
        go_enter Try.func12, Try.ntmps12
        go_wp2_with fail
        rw [← HW.out]
        refine (K1.out _ H0.out.2.2).mono ?_
        rintro r w1 ⟨rfl, hb1⟩
        have H1 := Lib.hid (H0.out.later hb1)
        obtain ⟨c0, c1, c2, c3⟩ := H1.out.1
        clear hb1 H0
        go_wp2_with fail
        refine (K2.out _ H1.out.2.2).mono ?_
        rintro r w2 ⟨rfl, hb2⟩
        have H2 := Lib.hid (H1.out.later hb2)
        clear hb2 c0 c1 c2 c3 H1
        obtain ⟨c0, c1, c2, c3⟩ := H2.out.1
        go_wp2_with fail
        refine (K3.out _ H2.out.2.2).mono ?_
        rintro r w3 ⟨rfl, hb3⟩
        have HE := Lib.hid (H2.out.2.2.trans (hb3.mono H2.out.2.2.size))
        clear hb3 c0 c1 c2 c3
        go_wp2
        go_ret2
        exact ⟨rfl, HE.out⟩
theorem rput_tree (t : Tr) (c0 c1 c2 c3 : Value) (w : World) (hd : deepT t ≤ 1000000000) (hz : (txtT t).length ≤ 100000000) (hv : VIn w t c0 c1 c2 c3) :
    Calls Try.prog 12 #[.agg #[c0, c1, c2, c3]] w fun e w' => e = .returned (.tuple #[.string (putS t), .int .i64 (putC t : Nat)]) ∧ Below w.heap.size w w' := by
  obtain ⟨a, b, s, o, m, cap, rfl, rfl, rfl, rfl⟩ := hv.cells
  exact rput_value t a b s o m cap w hd hz hv
end Go.Proofs.Ytlochpnifjmefaa

namespace Go.Proofs.Ytlochpnifjmefaa
open Go.RowKit

/-- Nothing has changed but one box and one row. -/
def Chg (g : Nat) (ρ : Option Nat) (w w' : World) : Prop := w'.os = w.os ∧ w'.tape = w.tape ∧ w'.output = w.output ∧ w.heap.size ≤ w'.heap.size ∧ ∀ k, k < w.heap.size → k ≠ g → ρ ≠ some k → w'.heap[k]? = w.heap[k]?
/-- A row is the old one, or a new one. -/
def Nxt (ρ ρ' : Option Nat) (w : World) : Prop := ρ' = ρ ∨ ∃ k, ρ' = some k ∧ w.heap.size ≤ k
theorem Chg.refl (g : Nat) (ρ : Option Nat) (w : World) : Chg g ρ w w := ⟨rfl, rfl, rfl, Nat.le_refl _, fun _ _ _ _ => rfl⟩
theorem Chg.trans {g : Nat} {ρ ρ1 : Option Nat} {w w1 w2 : World} (h : Chg g ρ w w1) (hn : Nxt ρ ρ1 w) (h2 : Chg g ρ1 w1 w2) : Chg g ρ w w2 := by
  obtain ⟨a1, a2, a3, a4, a5⟩ := h
  obtain ⟨b1, b2, b3, b4, b5⟩ := h2
  refine ⟨b1.trans a1, b2.trans a2, b3.trans a3, Nat.le_trans a4 b4, fun k hk hg hr => (b5 k (by omega) hg ?_).trans (a5 k hk hg hr)⟩
  rcases hn with rfl | ⟨q, rfl, hq⟩
  · exact hr
  · intro e
    cases e
    omega
theorem Nxt.trans {ρ ρ1 ρ2 : Option Nat} {w w1 : World} (h : Nxt ρ ρ1 w) (hs : w.heap.size ≤ w1.heap.size) (h2 : Nxt ρ1 ρ2 w1) : Nxt ρ ρ2 w := by
  rcases h2 with rfl | ⟨k, rfl, hk⟩
  · exact h
  · exact Or.inr ⟨k, rfl, Nat.le_trans hs hk⟩
theorem Chg.of_below {g : Nat} {ρ : Option Nat} {w w' : World} (h : Below w.heap.size w w') : Chg g ρ w w' := ⟨h.os, h.tape, h.output, h.size, fun k hk _ _ => h.block k hk⟩
theorem Chg.below {g B : Nat} {ρ : Option Nat} {w w' : World} (h : Chg g ρ w w') (hg : B ≤ g) (hr : ∀ k, ρ = some k → B ≤ k) (hs : B ≤ w.heap.size) : Below B w w' :=
  ⟨h.1, h.2.1, h.2.2.1, h.2.2.2.1, fun k hk => h.2.2.2.2 k (by omega) (by omega) (fun e => by have := hr k e; omega)⟩

/-- A row of bytes. -/
def Row (ρ : Option Nat) (o : Option Addr) (cap : Nat) (L : List UInt8) (w : World) : Prop :=
  (o = none ∧ cap = 0 ∧ ρ = none ∧ L = []) ∨ ∃ (r : Nat) (cur : Array Value), ρ = some r ∧ o = some ⟨r, 0, none⟩ ∧ L ≠ [] ∧ w.heap[r]? = some (.cells cur 5 (0, 0)) ∧ L.length ≤ cap ∧ cap ≤ maxLen ∧ cur.size = cap ∧ cur.toList.take L.length = bcells L
theorem bcells_len (l : List UInt8) : (bcells l).length = l.length := by simp [bcells]
theorem bcells_app (a b : List UInt8) : bcells (a ++ b) = bcells a ++ bcells b := by simp [bcells]
theorem info5 : (Try.prog.info? 5).map (fun i => (i.zero, i.size, i.bytes)) = some (some (.int .u8 0), 1, 1) := by kernel_rfl

theorem grown_row (w : World) (L : List UInt8) (s : ByteArray) (old : Nat) (hne : L ++ s.data.toList ≠ []) (hl : L.length + s.size ≤ 100000) :
    Row (some w.heap.size) (some ⟨w.heap.size, 0, none⟩) (grownCap w (L.length + s.size) old 5) (L ++ s.data.toList) (w.drew.alloc (.cells ((bcells L).toArray ++ (Lib.strCells s).toArray ++ Builtin.zeroCells (Value.int .u8 0).cells (grownCap w (L.length + s.size) old 5 - (L.length + s.size))) 5)) := by
  have hsl : s.data.toList.length = s.size := by simp
  have hge := grownCap_ge w (L.length + s.size) old 5
  have hcm : grownCap w (L.length + s.size) old 5 ≤ maxLen := grownCap_le_maxLen w (L.length + s.size) old 5 (by unfold maxLen; omega)
  refine Or.inr ⟨w.heap.size, _, rfl, rfl, hne, heap_alloc_new w.drew _, by rw [List.length_append, hsl]; exact hge, hcm, ?_, ?_⟩
  · have hz1 : (Value.int IntKind.u8 0).cells.size = 1 := rfl
    simp only [Array.size_append, List.size_toArray, size_zeroCells, hz1, bcells_len, Lib.strCells_length]
    omega
  · have e : bcells (L ++ s.data.toList) = bcells L ++ Lib.strCells s := bcells_app _ _
    rw [e]
    have hlen : (L ++ s.data.toList).length = (bcells L ++ Lib.strCells s).length := by rw [List.length_append, List.length_append, bcells_len, Lib.strCells_length, hsl]
    simp only [Array.toList_append, List.append_assoc]
    rw [← List.append_assoc, hlen]
    exact List.take_left
theorem grown_chg (g : Nat) (ρ : Option Nat) (w : World) (o : Obj) : Chg g ρ w (w.drew.alloc o) := ⟨rfl, rfl, rfl, by simp, fun k hk _ _ => heap_alloc_old w.drew _ hk⟩

theorem plain_add (g j : Nat) : (⟨g, 0, none⟩ : Addr).add j = ⟨g, j, none⟩ := by simp [Addr.add]; intro e; exact e.symm
set_option maxRecDepth 100000 in
theorem row_append (g : Nat) (w : World) (ρ : Option Nat) (o : Option Addr) (cap : Nat) (L : List UInt8) (hR : Row ρ o cap L w) (s : ByteArray) (hl : L.length + s.size ≤ 100000) (ty : TypeId) :
    ∃ o' cap' w' ρ', (Builtin.append_ #[69, 9] ty #[.slice o L.length cap, .string s]).run Try.prog w = .ok (.slice o' (L ++ s.data.toList).length cap') w' ∧ Row ρ' o' cap' (L ++ s.data.toList) w' ∧ Nxt ρ ρ' w ∧ Chg g ρ w w' ∧ (∀ k, w.heap.size ≤ k → k < w'.heap.size → ρ' = some k) := by
  obtain ⟨i, hi, hz, hsz, hby⟩ := info_parts info5
  have hsl : s.data.toList.length = s.size := by simp
  rcases hR with ⟨rfl, rfl, rfl, rfl⟩ | ⟨r, cur, rfl, rfl, hne, hg, hlc, hcm, hcs, htk⟩
  · by_cases hm : s.size = 0
    · have hsn : s.data.toList = [] := List.eq_nil_of_length_eq_zero (by rw [hsl]; exact hm)
      refine ⟨none, 0, w, none, ?_, Or.inl ⟨rfl, rfl, rfl, by rw [hsn]; rfl⟩, Or.inl rfl, Chg.refl _ _ _, fun k h1 h2 => absurd h1 (by omega)⟩
      have hf := Lib.run_firstCells_string (P := Try.prog) w 1 s
      rw [hm] at hf
      have hn : Lib.strCells s = [] := List.eq_nil_of_length_eq_zero (by rw [Lib.strCells_length]; exact hm)
      simp [Builtin.append_, run_underlying Try.underlying69, run_underlying Try.underlying9, sizeOf, typeInfo, hi, hsz, Builtin.lenOf, hm, hf, hsn, hn]
    · have hr := run_append_nil_string (P := Try.prog) w 69 9 ty 5 i (.int .u8 0) Try.underlying69 Try.underlying9 hi hz s (by omega) (by omega) (by rw [hby]; omega)
      have hgr := grown_row w [] s 0 (by intro e; apply hm; rw [← hsl]; simpa using congrArg List.length e) (by simpa using hl)
      have e1 : (s.data.map fun b => Value.int .u8 b.toNat) = (Lib.strCells s).toArray := by
        apply Array.ext'
        simp [Lib.strCells]
      rw [e1] at hr
      simp only [List.length_nil, Nat.zero_add, List.nil_append, show bcells [] = [] from rfl, Array.empty_append] at hgr ⊢
      refine ⟨_, _, _, some w.heap.size, ?_, hgr, Or.inr ⟨_, rfl, Nat.le_refl _⟩, grown_chg _ _ _ _, fun k h1 h2 => ?_⟩
      · rw [hsl]; exact hr
      · simp at h2; congr 1; omega
  · by_cases hroom : L.length + s.size ≤ cap
    · have hr := Lib.run_append_room_string (P := Try.prog) w 69 9 ty 5 i Try.underlying69 Try.underlying9 hi hsz r L.length cap cur hg s hroom (by omega)
      refine ⟨_, _, _, some r, by rw [List.length_append, hsl]; exact hr, Or.inr ⟨r, _, rfl, rfl, by simp [hne], setRow_heap w r cur _ 5 _ hg, by rw [List.length_append, hsl]; exact hroom, hcm, ?_, ?_⟩, Or.inl rfl, ⟨rfl, rfl, rfl, by simp, fun k _ _ hk => setRow_other w r k _ (fun e => hk (by rw [e]))⟩, fun k h1 h2 => by rw [size_setRow] at h2; omega⟩
      · simp only [List.size_toArray, List.length_append, List.length_take, List.length_drop, Array.length_toList, Lib.strCells_length]
        omega
      · have e : bcells (L ++ s.data.toList) = bcells L ++ Lib.strCells s := bcells_app _ _
        have hlen : (L ++ s.data.toList).length = (bcells L ++ Lib.strCells s).length := by rw [List.length_append, List.length_append, bcells_len, Lib.strCells_length, hsl]
        rw [e, htk, hlen]
        exact List.take_left
    · have holds : ∀ j u, (bcells L)[j]? = some u → w.cell? ((⟨r, 0, none⟩ : Addr).add j) = some u := by
        intro j u hj
        have hjl : j < L.length := by rw [← bcells_len]; exact (List.getElem?_eq_some_iff.1 hj).1
        rw [plain_add, cell_of_row w r j _ _ _ hg, ← Array.getElem?_toList]
        have := congrArg (fun l => l[j]?) htk
        simp only [List.getElem?_take, hjl, if_true] at this
        rw [this]; exact hj
      have hr := Lib.run_append_grow_string (P := Try.prog) w 69 9 ty 5 i (.int .u8 0) Try.underlying69 Try.underlying9 hi hz ⟨r, 0, none⟩ L.length cap (bcells L) (by rw [hsz, bcells_len]; omega) holds s (by omega) (by omega) (by rw [hby]; exact growslice_fits (by omega) (by omega))
      have hgr := grown_row w L s cap (by simp [hne]) hl
      refine ⟨_, _, _, some w.heap.size, by rw [List.length_append, hsl]; exact hr, hgr, Or.inr ⟨_, rfl, Nat.le_refl _⟩, grown_chg _ _ _ _, fun k h1 h2 => ?_⟩
      simp at h2; congr 1; omega
end Go.Proofs.Ytlochpnifjmefaa
