/- Walk of file.Save.; The chapter's example; an act's text.; A Save that has room, plainly. -/
import Derived.Test.YtjkpopdjmmgbbabGreatJ22
set_option linter.unusedVariables false
set_option linter.unusedSimpArgs false
namespace Go.Proofs.YtjkpopdjmmgbbabGreat.Fi
open Go.RowKit Dk
section
variable {w : World} {K : Nat → Prop} {D : Nat} {g : Gh} {st : St} {name by_ t T : ByteArray}
/-- By a goto to the end; to the next step. -/
def Go1 (w : World) (K : Nat → Prop) (D : Nat) (g : Gh) (st : St) (name by_ t T : ByteArray) (k n : Nat) : Prop := ∀ (a' : Act) (w' : World) (E : Nat), E ≠ 0 → a' = fr D name by_ t (E : Int) (k : Int) (fun i => a'.tmps.getD i undef) → SvR w K D g st name by_ T E w' → ∃ m, m < n ∧ JR w K D g st name by_ t T 1 m a' w'
def Go0 (w : World) (K : Nat → Prop) (D : Nat) (g : Gh) (st : St) (name by_ t T : ByteArray) (k n : Nat) : Prop := ∀ (a' : Act) (w' : World) (E : Nat), E = 0 → a' = fr D name by_ t 0 ((k + 1 : Nat) : Int) (fun i => a'.tmps.getD i undef) → (∃ gk sk, SvAt w K D g st name by_ T (k + 1) w' gk sk) → ∃ m, m < n ∧ JR w K D g st name by_ t T 0 m a' w'
set_option maxRecDepth 1000000 in
set_option maxHeartbeats 4000000 in
theorem pass_k0 (K7 : ∀ w, Calls Tryz.prog 11 #[.string t] w fun e w' => e = .returned (.string T) ∧ Below w.heap.size w w') (hby : by_.size ≤ 1000000000) (hT : T.size ≤ 100000) (hfew : g.nn + 10 ≤ 900000 ∧ st.P.length + 10 ≤ 1000000 ∧ st.steps + 10 ≤ 1000000000) (n : Nat) (u : Nat → Value) (wz : World) (G1 : Hid (Go1 w K D g st name by_ t T 0 n)) (G0 : Hid (Go0 w K D g st name by_ t T 0 n)) (HS : Hid (∃ gk sk, SvAt w K D g st name by_ T 0 wz gk sk)) :
    Code.wp Tryz.prog (labT 0) (Exit.jumps (JR w K D g st name by_ t T) n (bodyPost Tryz.prog Tryz.f6 (SvQ w K D g st name by_ T))) (fr D name by_ t 0 (0 : Nat) u) wz := by
  have H7 := Lib.hid K7
  have K39 : Hid (∀ w7, Below wz.heap.size wz w7 → Calls Tryz.prog 16 #[.pointer (some ⟨D, 0, none⟩), .string by_, .string T] w7 (StepQ w K D g st name by_ T 0)) := Lib.hid (fun w7 hb => by
    obtain ⟨gk, sk, h⟩ := HS.out
    exact (h.later hb).write hby hT hfew)
  unfold fr
  clear HS K7 hby hT hfew
  conv => arg 2; whnf
  go_wp2_with (first
    | (go_at_call 11; ((with_reducible refine (H7.out _).mono ?_); rintro e w7 ⟨rfl, hb7⟩; have HB7 := Lib.hid hb7; clear hb7))
    | (go_at_call 16; ((with_reducible refine (K39.out _ HB7.out).mono ?_); rintro e w8 ⟨E, rfl, h0, h1⟩; have HE := Lib.hid (And.intro h0 h1); clear h0 h1)))
  · rename_i h
    have hE : E ≠ 0 := by simpa using h
    go_step3
    exact G1.out _ _ E hE rfl (HE.out.2 hE)
  · have hE : E = 0 := by
      have hh : ((E : Int) != 0) = false := by assumption
      simpa using hh
    subst hE
    go_step3
    exact G0.out _ _ 0 rfl rfl (HE.out.1 rfl)
set_option maxRecDepth 1000000 in
set_option maxHeartbeats 4000000 in
theorem pass_k1 (hby : by_.size ≤ 1000000000) (hfew : g.nn + 10 ≤ 900000 ∧ st.P.length + 10 ≤ 1000000 ∧ st.steps + 10 ≤ 1000000000) (n : Nat) (u : Nat → Value) (wz : World) (G1 : Hid (Go1 w K D g st name by_ t T 1 n)) (G0 : Hid (Go0 w K D g st name by_ t T 1 n)) (HS : Hid (∃ gk sk, SvAt w K D g st name by_ T 1 wz gk sk)) :
    Code.wp Tryz.prog (labT 0) (Exit.jumps (JR w K D g st name by_ t T) n (bodyPost Tryz.prog Tryz.f6 (SvQ w K D g st name by_ T))) (fr D name by_ t 0 (1 : Nat) u) wz := by
  have KC : Hid (Calls Tryz.prog 17 #[.pointer (some ⟨D, 0, none⟩), .string by_] wz (StepQ w K D g st name by_ T 1)) := Lib.hid (by
    obtain ⟨gk, sk, h⟩ := HS.out
    exact h.sync hby hfew)
  unfold fr
  clear HS hby hfew
  conv => arg 2; whnf
  go_wp2_with (first
    | (go_at_call 17; ((with_reducible refine (KC.out).mono ?_); rintro e w8 ⟨E, rfl, h0, h1⟩; have HE := Lib.hid (And.intro h0 h1); clear h0 h1)))
  · rename_i h
    have hE : E ≠ 0 := by simpa using h
    go_step3
    exact G1.out _ _ E hE rfl (HE.out.2 hE)
  · have hE : E = 0 := by
      have hh : ((E : Int) != 0) = false := by assumption
      simpa using hh
    subst hE
    go_step3
    exact G0.out _ _ 0 rfl rfl (HE.out.1 rfl)
set_option maxRecDepth 1000000 in
set_option maxHeartbeats 4000000 in
theorem pass_k2 (hby : by_.size ≤ 1000000000) (hnm : name.size ≤ 1000000000) (hfew : g.nn + 10 ≤ 900000 ∧ st.P.length + 10 ≤ 1000000 ∧ st.steps + 10 ≤ 1000000000) (n : Nat) (u : Nat → Value) (wz : World) (G1 : Hid (Go1 w K D g st name by_ t T 2 n)) (G0 : Hid (Go0 w K D g st name by_ t T 2 n)) (HS : Hid (∃ gk sk, SvAt w K D g st name by_ T 2 wz gk sk)) :
    Code.wp Tryz.prog (labT 0) (Exit.jumps (JR w K D g st name by_ t T) n (bodyPost Tryz.prog Tryz.f6 (SvQ w K D g st name by_ T))) (fr D name by_ t 0 (2 : Nat) u) wz := by
  have KC : Hid (Calls Tryz.prog 18 #[.pointer (some ⟨D, 0, none⟩), .string by_, .string name] wz (StepQ w K D g st name by_ T 2)) := Lib.hid (by
    obtain ⟨gk, sk, h⟩ := HS.out
    exact h.rename hby hnm hfew)
  unfold fr
  clear HS hby hnm hfew
  conv => arg 2; whnf
  go_wp2_with (first
    | (go_at_call 18; ((with_reducible refine (KC.out).mono ?_); rintro e w8 ⟨E, rfl, h0, h1⟩; have HE := Lib.hid (And.intro h0 h1); clear h0 h1)))
  · rename_i h
    have hE : E ≠ 0 := by simpa using h
    go_step3
    exact G1.out _ _ E hE rfl (HE.out.2 hE)
  · have hE : E = 0 := by
      have hh : ((E : Int) != 0) = false := by assumption
      simpa using hh
    subst hE
    go_step3
    exact G0.out _ _ 0 rfl rfl (HE.out.1 rfl)
set_option maxRecDepth 1000000 in
set_option maxHeartbeats 4000000 in
theorem pass_k3 (hfew : g.nn + 10 ≤ 900000 ∧ st.P.length + 10 ≤ 1000000 ∧ st.steps + 10 ≤ 1000000000) (n : Nat) (u : Nat → Value) (wz : World) (G1 : Hid (Go1 w K D g st name by_ t T 3 n)) (HS : Hid (∃ gk sk, SvAt w K D g st name by_ T 3 wz gk sk)) :
    Code.wp Tryz.prog (labT 0) (Exit.jumps (JR w K D g st name by_ t T) n (bodyPost Tryz.prog Tryz.f6 (SvQ w K D g st name by_ T))) (fr D name by_ t 0 (3 : Nat) u) wz := by
  have KC : Hid (Calls Tryz.prog 19 #[.pointer (some ⟨D, 0, none⟩)] wz fun e w' => ∃ E : Nat, e = .returned (.int .i64 (E : Int)) ∧ SvR w K D g st name by_ T E w') := Lib.hid (by
    obtain ⟨gk, sk, h⟩ := HS.out
    exact h.dir hfew)
  unfold fr
  clear HS hfew
  conv => arg 2; whnf
  go_wp2_with (first
    | (go_at_call 19; ((with_reducible refine (KC.out).mono ?_); rintro e w8 ⟨E, rfl, h1⟩; have HE := Lib.hid h1; clear h1)))
  · rename_i h
    have hE : E ≠ 0 := by simpa using h
    go_step3
    exact G1.out _ _ E hE rfl HE.out
  · go_step3
    simp only [Exit.then]
    apply_assumption
    go_wp2
    simp only [Exit.jumps]
    exact bodyPost_ret (v := .int .i64 (E : Int)) (by simp [results, Tryz.results6, go_sem]) rfl ⟨E, rfl, HE.out⟩
theorem pass_0t (K7 : ∀ w, Calls Tryz.prog 11 #[.string t] w fun e w' => e = .returned (.string T) ∧ Below w.heap.size w w') (hby : by_.size ≤ 1000000000) (hnm : name.size ≤ 1000000000) (hT : T.size ≤ 100000) (hfew : g.nn + 10 ≤ 900000 ∧ st.P.length + 10 ≤ 1000000 ∧ st.steps + 10 ≤ 1000000000)
    (n : Nat) (a : Act) (wz : World) (hJ : J0 w K D g st name by_ t T n a wz) : Code.wp Tryz.prog (labT 0) (Exit.jumps (JR w K D g st name by_ t T) n (bodyPost Tryz.prog Tryz.f6 (SvQ w K D g st name by_ T))) a wz := by
  obtain ⟨u, k, hk, hn, rfl, HS⟩ := hJ
  have go1 : Hid (Go1 w K D g st name by_ t T k n) := Lib.hid (fun a' w' E hE ha hr => ⟨0, by omega, Or.inr ⟨rfl, _, k, E, rfl, ha, Lib.hid hr⟩⟩)
  have go0 : k ≤ 2 → Hid (Go0 w K D g st name by_ t T k n) := fun hk2 => Lib.hid (fun a' w' E hE ha hr => ⟨10 - (k + 1), by omega, Or.inl ⟨rfl, _, k + 1, by omega, rfl, ha, Lib.hid hr⟩⟩)
  obtain rfl | rfl | rfl | rfl : k = 0 ∨ k = 1 ∨ k = 2 ∨ k = 3 := by omega
  · exact pass_k0 K7 hby hT hfew n u wz go1 (go0 (by omega)) HS
  · exact pass_k1 hby hfew n u wz go1 (go0 (by omega)) HS
  · exact pass_k2 hby hnm hfew n u wz go1 (go0 (by omega)) HS
  · exact pass_k3 hfew n u wz go1 HS
set_option maxRecDepth 1000000 in
theorem pass_1 (n : Nat) (a : Act) (wz : World) (hJ : J1 w K D g st name by_ t T n a wz) : Code.wp Tryz.prog (labC 1) (Exit.jumps (JR w K D g st name by_ t T) n (bodyPost Tryz.prog Tryz.f6 (SvQ w K D g st name by_ T))) a wz := by
  have h := pass_1t n a wz hJ
  conv => arg 2; whnf
  apply wp_seq_k
  intro K hK
  apply wp_skip
  simp only [Exit.then]
  apply hK
  exact h
set_option maxRecDepth 1000000 in
theorem pass_0 (K7 : ∀ w, Calls Tryz.prog 11 #[.string t] w fun e w' => e = .returned (.string T) ∧ Below w.heap.size w w') (hby : by_.size ≤ 1000000000) (hnm : name.size ≤ 1000000000) (hT : T.size ≤ 100000) (hfew : g.nn + 10 ≤ 900000 ∧ st.P.length + 10 ≤ 1000000 ∧ st.steps + 10 ≤ 1000000000)
    (n : Nat) (a : Act) (wz : World) (hJ : J0 w K D g st name by_ t T n a wz) : Code.wp Tryz.prog (labC 0) (Exit.jumps (JR w K D g st name by_ t T) n (bodyPost Tryz.prog Tryz.f6 (SvQ w K D g st name by_ T))) a wz := by
  have h := pass_0t K7 hby hnm hT hfew n a wz hJ
  conv => arg 2; whnf
  apply wp_seq_k
  intro K hK
  apply wp_skip
  simp only [Exit.then]
  apply hK
  exact h
set_option maxRecDepth 1000000 in
set_option maxHeartbeats 4000000 in
theorem save_core (K7 : ∀ w, Calls Tryz.prog 11 #[.string t] w fun e w' => e = .returned (.string T) ∧ Below w.heap.size w w') (hby : by_.size ≤ 1000000000) (hnm : name.size ≤ 1000000000) (hT : T.size ≤ 100000) (hfew : g.nn + 10 ≤ 900000 ∧ st.P.length + 10 ≤ 1000000 ∧ st.steps + 10 ≤ 1000000000)
    (ht : t.size ≤ 16384) (hne : name ≠ by_) (h : DW w K D g st) :
    Calls Tryz.prog 6 #[.pointer (some ⟨D, 0, none⟩), .string name, .string by_, .string t] w (SvQ w K D g st name by_ T) := by
  have HP : Hid (∀ l n a wz, JR w K D g st name by_ t T l n a wz → ∃ rest, (Tryz.f6.body.bind scopeIn).bind (fun c => findLabel c l) = some rest ∧ rest.wp Tryz.prog (Exit.jumps (JR w K D g st name by_ t T) n (bodyPost Tryz.prog Tryz.f6 (SvQ w K D g st name by_ T))) a wz) := Lib.hid (fun l n a wz hJ => by
    rcases hJ with ⟨rfl, hj⟩ | ⟨rfl, hj⟩
    · exact ⟨labC 0, rfl, pass_0 K7 hby hnm hT hfew n a wz hj⟩
    · exact ⟨labC 1, rfl, pass_1 n a wz hj⟩)
  have HF : Hid (∀ (a' : Act), a' = fr D name by_ t 0 (0 : Nat) (fun i => a'.tmps.getD i undef) → Code.wp Tryz.prog (labT 0) (Exit.jumps (JR w K D g st name by_ t T) 10 (bodyPost Tryz.prog Tryz.f6 (SvQ w K D g st name by_ T))) a' w) := Lib.hid (fun a' ha => by
    have := pass_0t K7 hby hnm hT hfew 10 a' w ⟨_, 0, by omega, rfl, ha, Lib.hid ⟨g, st, SvAt.start h (Below.refl _ _)⟩⟩
    exact this)
  have h1 : ¬ (t.size : Int) > 16384 := by omega
  have h2 : (name.toList == by_.toList) = false := by
    rw [beq_eq_false_iff_ne]
    intro e
    rw [Lib.toList_data, Lib.toList_data] at e
    exact hne (ByteArray.ext (Array.ext' e))
  clear K7 hby hnm hT hfew ht hne h
  go_enter Tryz.func6, Tryz.ntmps6
  go_wp2
  refine wp_scope_labels (fun l n a wz => JR w K D g st name by_ t T l n a wz) 10 ?_ (fun l n a wz h => HP.out l n a wz h)
  go_wp2
  go_step3
  simp only [Exit.then]
  apply_assumption
  refine HF.out _ ?_
  rfl
end
/-- A sealed text. -/
def sealB (t : ByteArray) : ByteArray := W.str (sealL t.data.toList)
theorem sealB_size (t : ByteArray) (h : t.size ≤ 100000) : (sealB t).size ≤ t.size + 21 := by
  unfold sealB
  rw [W.size_str, sealL_len]
  have hl : t.data.toList.length = t.size := rfl
  have := (preL_len t.data.toList (by omega)).1
  omega
theorem save_any {w : World} {K : Nat → Prop} {D : Nat} {g : Gh} {st : St} (h : DW w K D g st) (name by_ t : ByteArray) (hby : by_.size ≤ 1000000000) (hnm : name.size ≤ 1000000000) (hfew : g.nn + 10 ≤ 900000 ∧ st.P.length + 10 ≤ 1000000 ∧ st.steps + 10 ≤ 1000000000) (ht : t.size ≤ 16384) (hne : name ≠ by_) :
    Calls Tryz.prog 6 #[.pointer (some ⟨D, 0, none⟩), .string name, .string by_, .string t] w (SvQ w K D g st name by_ (sealB t)) :=
  save_core (fun w => seal_any t (by omega) w) hby hnm (by have := sealB_size t (by omega); omega) hfew ht hne h
end Go.Proofs.YtjkpopdjmmgbbabGreat.Fi

namespace Go.Proofs.YtjkpopdjmmgbbabGreat.Fi
open Go.RowKit Dk

set_option maxRecDepth 1000000 in
theorem awake_any (w : World) : Calls Tryz.prog 4 #[] w fun e w' => e = .returned (.bool true) ∧ Below w.heap.size w w' := by
  have K7 := Lib.hid (fun w => seal_any ⟨#[97]⟩ (by decide) w)
  have hs : (⟨#[97]⟩ : ByteArray).data.toList = [97] := rfl
  rw [hs] at K7
  have hz : (W.str (sealL [97])).size ≤ 100000 := by
    rw [W.size_str, sealL_len]
    have := (preL_len [97] (by decide)).1
    simp at this
    omega
  have K8 := Lib.hid (fun w => open_any (W.str (sealL [97])) hz w)
  have ho : opV (W.str (sealL [97])) = .tuple #[.string ⟨#[97]⟩, .int .i64 0] := by
    unfold opV
    have : opnL (W.str (sealL [97])).data.toList = some [97] := opn_seal [97] (by decide)
    rw [this]
    rfl
  rw [ho] at K8
  have K24 : Hid (∀ w, Calls Tryz.prog 12 #[] w fun e w' => e = .returned (.bool true) ∧ Below w.heap.size w w') := Lib.hid (fun w => by
    go_enter Tryz.func12, Tryz.ntmps12
    go_wp2_with (first | (go_at_call 28; go_must (refine (W.awake_any _).mono ?_); rintro e w1 ⟨rfl, hb1⟩))
    go_ret
    exact ⟨rfl, hb1⟩)
  have K25 : Hid (∀ w, Calls Tryz.prog 13 #[] w fun e w' => e = .returned (.bool true) ∧ Below w.heap.size w w') := Lib.hid (fun w => by
    go_enter Tryz.func13, Tryz.ntmps13
    go_wp2_with (first | (go_at_call 29; go_must (refine (Dg.awake_sum _).mono ?_); rintro e w1 ⟨rfl, hb1⟩))
    go_ret
    exact ⟨rfl, hb1⟩)
  have K26 : Hid (∀ w, Calls Tryz.prog 14 #[] w fun e w' => e = .returned (.bool true) ∧ Below w.heap.size w w') := Lib.hid (fun w => by
    go_enter Tryz.func14, Tryz.ntmps14
    go_wp2_with (first | (go_at_call 30; go_must (refine (Dk.awake_any _).mono ?_); rintro e w1 ⟨rfl, hb1⟩))
    go_ret
    exact ⟨rfl, hb1⟩)
  have K27 : Hid (∀ w, Calls Tryz.prog 15 #[] w fun e w' => e = .returned (.int .i64 4) ∧ w' = w) := Lib.hid (fun w => by
    go_enter Tryz.func15, Tryz.ntmps15
    go_wp2
    go_ret
    exact ⟨rfl, rfl⟩)
  generalize W.str (sealL [97]) = s at *
  clear hs hz ho
  go_enter Tryz.func4, Tryz.ntmps4
  go_wp2_with (first
    | (go_at_call 11; ((with_reducible refine (K7.out _).mono ?_); rintro e w1 ⟨rfl, hb1⟩))
    | (go_at_call 10; ((with_reducible refine (K8.out _).mono ?_); rintro e w2 ⟨rfl, hb2⟩))
    | (go_at_call 12; ((with_reducible refine (K24.out _).mono ?_); rintro e w3 ⟨rfl, hb3⟩))
    | (go_at_call 13; ((with_reducible refine (K25.out _).mono ?_); rintro e w4 ⟨rfl, hb4⟩))
    | (go_at_call 14; ((with_reducible refine (K26.out _).mono ?_); rintro e w5 ⟨rfl, hb5⟩))
    | (go_at_call 15; ((with_reducible refine (K27.out _).mono ?_); rintro e w6 ⟨rfl, hw6⟩; subst hw6)))
  go_ret
  have c2 := hb1.trans (hb2.mono hb1.size)
  have c3 := c2.trans (hb3.mono c2.size)
  have c4 := c3.trans (hb4.mono c3.size)
  exact ⟨rfl, c4.trans (hb5.mono c4.size)⟩

/-- An act's cells. -/
def actC (a b : ByteArray) (n bb : Nat) (cl : Bool) (f : Int) : Array Value := #[.string a, .string b, .int .u16 (n : Int), .int .u8 (bb : Int), .bool cl, .int .i8 f]
set_option maxRecDepth 100000 in
set_option maxHeartbeats 2000000 in
theorem text_any (a b : ByteArray) (n bb : Nat) (cl : Bool) (f : Int) (hn : n ≤ 65535) (hb : bb ≤ 255) (w : World) :
    Calls Tryz.prog 7 #[.agg (actC a b n bb cl f)] w fun e w' => ∃ x : ByteArray, e = .returned (.string x) ∧ x.size ≤ 3000 ∧ Below w.heap.size w w' := by
  unfold actC
  obtain ⟨z, hz⟩ : ∃ z : Nat, z = n % 3000 := ⟨_, rfl⟩
  have ez : (n : Int) % 3000 = (z : Int) := by omega
  have hzl : z < 3000 := by omega
  have hmk := fun w => run_make_row' (P := Tryz.prog) 51 5 (.int .u8 0) 1 Tryz.underlying51 info5 rfl .u16 .u16 z (by omega) (by omega) w
  rw [made_bytes] at hmk
  have hmk2 : ∀ w, (Instr.makeSlice 51 (.int .u16 ((n : Int) % 3000)) (.int .u16 ((n : Int) % 3000))).run Tryz.prog w = .ok (.slice (some ⟨w.heap.size, 0, none⟩) z z) (w.alloc (.cells (bcl (List.replicate z 0)).toArray 5)) := fun w => by rw [ez]; exact hmk w
  clear hmk ez hz
  have HBX := Lib.hid (heap_new w (.cells #[.string a, .string b, .int .u16 (n : Int), .int .u8 (bb : Int), .bool cl, .int .i8 f] 34))
  have HLT := Lib.hid (alloc_lt w (.cells #[.string a, .string b, .int .u16 (n : Int), .int .u8 (bb : Int), .bool cl, .int .i8 f] 34))
  have HB0 := Lib.hid (alloc_below w (.cells #[.string a, .string b, .int .u16 (n : Int), .int .u8 (bb : Int), .bool cl, .int .i8 f] 34))
  have HSZ : Hid ((w.alloc (.cells #[.string a, .string b, .int .u16 (n : Int), .int .u8 (bb : Int), .bool cl, .int .i8 f] 34)).heap.size = w.heap.size + 1) := Lib.hid (by simp)
  go_enter Tryz.func7, Tryz.ntmps7
  go_wp2
  generalize w.alloc (.cells #[.string a, .string b, .int .u16 (n : Int), .int .u8 (bb : Int), .bool cl, .int .i8 f] 34) = wa at *
  go_loopw [11] (fun v wr => ∃ (i : Nat) (l : List UInt8), i ≤ z ∧ v = .int .i64 (i : Int) ∧ Hid (l.length = z ∧ BB (w.heap.size + 1) 5 l wr ∧ Below w.heap.size w wr ∧ wr.heap[w.heap.size]? = some (.cells #[.string a, .string b, .int .u16 (n : Int), .int .u8 (bb : Int), .bool cl, .int .i8 f] 34 (0, 0)))) (fun v _ => z - (intOf v).toNat)
  case atStart => exact ⟨0, List.replicate z 0, by omega, rfl, Lib.hid ⟨by simp, by rw [← HSZ.out]; exact bb_new wa _ 5, HB0.out.alloc (by have := HLT.out; omega) _, ((alloc_below wa _).block _ HLT.out).trans HBX.out⟩⟩
  case round =>
    obtain ⟨i, l, hi, rfl, HL⟩ := hrel
    by_cases hlt : i < z
    · have k4 : wr.cell? ⟨w.heap.size, 3, none⟩ = some (.int .u8 (bb : Int)) := cell_of_row wr w.heap.size 3 _ _ _ HL.out.2.2.2
      have kx := HL.out.2.1.cell i (by rw [HL.out.1]; exact hlt)
      have kf := HL.out.2.1.frozen i
      have q1 : (0 : Int) ≤ (i : Int) := by omega
      have q2 : (i : Int) < (z : Int) := by omega
      go_wp2
      go_roundw
      case rel =>
        obtain ⟨x, hx⟩ : ∃ x : UInt8, (bb : Int) = ((x.toNat : Nat) : Int) := ⟨UInt8.ofNat bb, by
          rw [UInt8.toNat_ofNat']; omega⟩
        rw [hx]
        exact ⟨i + 1, l.set i x, by omega, by go_num, Lib.hid ⟨by rw [List.length_set]; exact HL.out.1, HL.out.2.1.put i x, HL.out.2.2.1.setCell (p := ⟨w.heap.size + 1, i, none⟩) (by show w.heap.size ≤ w.heap.size + 1; omega) _, (heap_setCell_other _ _ _ _ (by show w.heap.size ≠ w.heap.size + 1; omega)).trans (by rw [← hx]; exact HL.out.2.2.2)⟩⟩
      case measure => simp [intOf]; omega
    · have hconv := conv_bb HL.out.2.1
      rw [HL.out.1] at hconv
      go_wp2
      go_ret
      exact ⟨⟨l.toArray⟩, rfl, (by show l.length ≤ 3000; rw [HL.out.1]; omega), HL.out.2.2.1⟩
end Go.Proofs.YtjkpopdjmmgbbabGreat.Fi

namespace Go.Proofs.YtjkpopdjmmgbbabGreat.Fi
open Go.RowKit Dk Go.Maps

def spareN : ByteArray := ⟨#[115, 112, 97, 114, 101]⟩
/-- What each name has: a disk on which nothing is under way. -/
structure Tx (st : St) (tx : ByteArray → Option ByteArray) : Prop where
  up : st.down = false
  fuse : st.fuse = -1
  p : st.P = []
  no : ∀ s, tx s = none → hasN st.N s = false
  yes : ∀ s T, tx s = some T → ∃ c, Leads st.N (nk s) c ∧ (st.F c).1 = T ∧ T.size ≤ 3100
theorem step_on {st : St} (h : st.fuse = -1) : stepE st = 0 ∧ (stepS st).down = st.down ∧ (stepS st).fuse = -1 := by
  unfold stepE stepS
  rw [if_neg (by rw [h]; omega), if_neg (by rw [h]; omega)]
  refine ⟨rfl, rfl, ?_⟩
  show (if 0 < st.fuse then st.fuse - 1 else st.fuse) = -1
  rw [if_neg (by rw [h]; omega), h]
theorem hasN_put {N : Dm} {a s : ByteArray} {c : Nat} (h : hasN (N.put (nk a) (fl c)) s = true) : s = a ∨ hasN N s = true := by
  by_cases e : s = a
  · exact Or.inl e
  · unfold hasN at h
    rw [Maps.has_put_other (fun e' => e (nk_inj e'))] at h
    exact Or.inr h
theorem hasN_dels : ∀ (l : List ByteArray) (N : Dm) (s : ByteArray), hasN (delsN N l) s = true → s ∉ l ∧ hasN N s = true
  | [], N, s, h => ⟨by simp, h⟩
  | a :: l, N, s, h => by
    obtain ⟨h1, h2⟩ := hasN_dels l (N.del (nk a)) s h
    by_cases e : s = a
    · subst e
      unfold hasN at h2
      rw [Maps.has_del_same] at h2
      cases h2
    · unfold hasN at h2
      rw [Maps.has_del_other (fun e' => e (nk_inj e'))] at h2
      exact ⟨by simp [e, h1], h2⟩
theorem tidy_dels : ∀ (l : List ByteArray) (N : Dm), Maps.Tidy N → Maps.Tidy (delsN N l)
  | [], N, h => h
  | s :: l, N, h => tidy_dels l (N.del (nk s)) (h.del _)
/-- How many names there are behind one alone, however often, is gone. -/
theorem size_dels (s : ByteArray) : ∀ (l : List ByteArray) (N : Dm), Maps.Tidy N → (∀ x ∈ l, x = s) → l ≠ [] → hasN N s = true → Maps.size (delsN N l) + 1 = Maps.size N
  | [], N, h, hl, hn, hs => absurd rfl hn
  | a :: l, N, h, hl, hn, hs => by
    have ea : a = s := hl a (by simp)
    subst ea
    have h1 := Maps.size_del (k := nk a) h
    rw [if_pos (show Maps.has N (nk a) = true from hs)] at h1
    have gone : ∀ (l : List ByteArray) (M : Dm), Maps.Tidy M → (∀ x ∈ l, x = a) → hasN M a = false → Maps.size (delsN M l) = Maps.size M := by
      intro l
      induction l with
      | nil => intro M _ _ _; rfl
      | cons b l ih =>
        intro M hM hb hf
        have eb : b = a := hb b (by simp)
        subst eb
        have h2 := Maps.size_del (k := nk b) hM
        rw [if_neg (by rw [show Maps.has M (nk b) = false from hf]; simp)] at h2
        have h3 := ih (M.del (nk b)) (hM.del _) (fun x hx => hb x (by simp [hx])) Maps.has_del_same
        show Maps.size (delsN (M.del (nk b)) l) = _
        omega
    have h4 := gone l (N.del (nk a)) (h.del _) (fun x hx => hl x (by simp [hx])) Maps.has_del_same
    show Maps.size (delsN (N.del (nk a)) l) + 1 = _
    omega
theorem mem_addF {N : Dm} : ∀ (l : List (List UInt8)) (acc : List Nat) (d : Nat), d ∈ l.foldl (addF N) acc → d ∈ acc ∨ ∃ s ∈ l, atN N (sN s) = d
  | [], acc, d, h => Or.inl h
  | s :: l, acc, d, h => by
    rcases mem_addF l (addF N acc s) d h with h1 | ⟨x, hx, e⟩
    · unfold addF at h1
      split at h1
      · exact Or.inl h1
      · rcases List.mem_append.1 h1 with h2 | h2
        · exact Or.inl h2
        · exact Or.inr ⟨s, by simp, (List.mem_singleton.1 h2).symm⟩
    · exact Or.inr ⟨x, by simp [hx], e⟩
theorem len_addF {N : Dm} : ∀ (l : List (List UInt8)) (acc : List Nat), (l.foldl (addF N) acc).length ≤ acc.length + l.length
  | [], acc => by simp
  | s :: l, acc => by
    have h1 := len_addF (N := N) l (addF N acc s)
    have h2 : (addF N acc s).length ≤ acc.length + 1 := by unfold addF; split <;> simp
    show ((l.foldl (addF N) (addF N acc s))).length ≤ _
    simp only [List.length_cons]
    omega
theorem sumF_le' {F : Nat → ByteArray × ByteArray} (m : Nat) : ∀ (fs : List Nat), (∀ d ∈ fs, (F d).1.size ≤ m) → sumF F fs ≤ fs.length * m
  | [], _ => by simp [sumF]
  | d :: fs, h => by
    have h1 := sumF_le' m fs (fun x hx => h x (by simp [hx]))
    have h2 := h d (by simp)
    unfold sumF at *
    simp only [List.map_cons, List.sum_cons, List.length_cons]
    rw [Nat.add_mul]
    omega
theorem keysN_len {N : Dm} (h : Maps.Tidy N) : (keysN N).length = Maps.size N := by
  obtain ⟨es, rfl, _⟩ := h
  unfold keysN
  rw [List.length_mergeSort]
  simp [strKeys, Maps.size]
theorem Tx.used {st : St} {tx : ByteArray → Option ByteArray} (h : Tx st tx) (ht : Maps.Tidy st.N) (hk : ∀ s ∈ keysN st.N, hasN st.N (sN s) = true) : usedN st ≤ Maps.size st.N * 3100 := by
  unfold usedN
  have h1 := sumF_le' (F := st.F) 3100 (filesN st.N) (fun d hd => by
    rcases mem_addF (keysN st.N) [] d hd with h1 | ⟨s, hs, e⟩
    · cases h1
    · cases hx : tx (sN s) with
      | none => exact absurd ((hk s hs).symm.trans (h.no _ hx)) (by simp)
      | some T =>
        obtain ⟨c, h2, h3, h4⟩ := h.yes _ _ hx
        rw [← e, at_of_leads h2, h3]
        exact h4)
  have h2 : (filesN st.N).length ≤ Maps.size st.N := by
    have := len_addF (N := st.N) (keysN st.N) []
    rw [keysN_len ht] at this
    rw [List.length_nil, Nat.zero_add] at this
    exact this
  exact Nat.le_trans h1 (Nat.mul_le_mul_right 3100 h2)
/-- A Save that has room is done. -/
theorem save_ok {st : St} {tx : ByteArray → Option ByteArray} {s0 T : ByteArray} {E : Nat} {s' : St} (h : Tx st tx) (ht : Maps.Tidy st.N) (hfil : Fil st.N) (hsp : tx spareN = none) (hne : s0 ≠ spareN) (hnm : nmB s0 = true) (hT : T.size ≤ 3100)
    (few : Maps.size st.N < 16) (room : usedN st + T.size ≤ st.room) (hq : Sv0 s0 spareN T st (E, s')) :
    E = 0 ∧ Tx s' (fun s => if s = s0 then some T else tx s) ∧ Maps.size s'.N = (if hasN st.N s0 = true then Maps.size st.N else Maps.size st.N + 1) ∧ s'.room = st.room := by
  obtain ⟨nf, hnf, hq⟩ := hq
  have hm := ht.isMap
  have hspn : hasN st.N spareN = false := h.no _ hsp
  have hne' : ∀ s c, Leads st.N (nk s) c → nf ≠ c := fun s c hc e => hnf (Or.inl ⟨nk s, by rw [e]; exact hc⟩)
  obtain ⟨f0, f1, f2⟩ := step_on h.fuse
  obtain ⟨n1, n2, n3, n4, n5⟩ := stepS_N st
  have hpre : preW st spareN T = 0 := by
    have ho : oldN st spareN = 0 := if_neg (by rw [hspn]; simp)
    unfold preW
    rw [if_neg (by rw [h.up]; simp), if_neg (by show ¬ (nmB spareN = false); decide), if_neg (fun e => by omega), if_neg (by rw [ho]; omega)]
  have hw : writeE st spareN T = 0 := by unfold writeE; rw [if_pos hpre, f0]
  rw [if_pos hw] at hq
  obtain ⟨s1, hs1⟩ : ∃ s1, s1 = writeS st spareN T nf := ⟨_, rfl⟩
  have e1 : s1 = turnS { stepS st with F := setF st.F nf (T, ⟨#[]⟩) } ⟨0, nf, [], spareN⟩ := by
    rw [hs1]
    unfold writeS
    rw [if_pos hpre, if_pos f0, if_neg (by rw [hspn]; simp)]
  rw [← hs1] at hq
  clear hs1
  have a1 : s1.N = st.N.put (nk spareN) (fl nf) := by
    have e0 : s1.N = doT (stepS st).N ⟨0, nf, [], spareN⟩ := by rw [e1]; rfl
    rw [e0, n1]
    unfold doT
    rw [if_neg (fun e => e.1 rfl), if_neg (by show ¬ (0 : Nat) = 2; omega)]
    rfl
  have a4 : s1.F = setF st.F nf (T, ⟨#[]⟩) := by rw [e1]; rfl
  have a5 : s1.down = false := by rw [e1]; exact f1.trans h.up
  have a6 : s1.fuse = -1 := by rw [e1]; exact f2
  have a7 : s1.room = st.room := by rw [e1]; exact n5
  clear e1 n1 n2 n3 n4 n5 f0 f1 f2
  have hL1 : Leads s1.N (nk spareN) nf := by rw [a1]; exact (leads_put hm (key_lit _)).2 (Or.inl ⟨rfl, rfl⟩)
  have hat : atN s1.N spareN = nf := at_of_leads hL1
  have hf1 : findE s1 spareN = 0 := by unfold findE; rw [if_neg (by rw [a5]; simp), if_pos (show hasN s1.N spareN = true from hL1.1)]
  unfold Sv1 at hq
  obtain ⟨f0, f1, f2⟩ := step_on a6
  obtain ⟨n1, n2, n3, n4, n5⟩ := stepS_N s1
  have hs : syncE s1 spareN = 0 := by unfold syncE onE; rw [if_pos hf1, f0]
  have hoS : onS s1 spareN = stepS s1 := by unfold onS; rw [if_pos hf1]
  rw [if_pos hs] at hq
  obtain ⟨s2, hs2⟩ : ∃ s2, s2 = syncS s1 spareN := ⟨_, rfl⟩
  have e2 : s2 = { stepS s1 with F := setF s1.F nf ((s1.F nf).1, (s1.F nf).1) } := by
    rw [hs2]
    unfold syncS
    rw [if_pos (show onE s1 spareN = 0 from hs), hoS, hat]
  rw [← hs2] at hq
  clear hs2
  have b1 : s2.N = s1.N := by rw [e2]; exact n1
  have b4 : ∀ c, (s2.F c).1 = (if c = nf then T else (st.F c).1) := fun c => by
    rw [e2]
    show (setF s1.F nf _ c).1 = _
    rw [a4]
    unfold setF
    by_cases hc : c = nf
    · rw [if_pos hc, if_pos hc, if_pos rfl]
    · rw [if_neg hc, if_neg hc, if_neg hc]
  have b5 : s2.down = false := by rw [e2]; exact f1.trans a5
  have b6 : s2.fuse = -1 := by rw [e2]; exact f2
  have b7 : s2.room = st.room := by rw [e2]; exact n5.trans a7
  clear e2 n1 n2 n3 n4 n5 f0 f1 f2 hoS hs
  have hL2 : Leads s2.N (nk spareN) nf := by rw [b1]; exact hL1
  have hat2 : atN s2.N spareN = nf := at_of_leads hL2
  have hf2 : findE s2 spareN = 0 := by unfold findE; rw [if_neg (by rw [b5]; simp), if_pos (show hasN s2.N spareN = true from hL2.1)]
  have hpR : preR s2 spareN s0 = 0 := by
    unfold preR
    rw [if_pos hf2, if_neg (by rw [hnm]; simp)]
  obtain ⟨ls, hls, hq⟩ := hq
  obtain ⟨f0, f1, f2⟩ := step_on b6
  obtain ⟨n1, n2, n3, n4, n5⟩ := stepS_N s2
  have hne2 : spareN ≠ s0 := fun e => hne e.symm
  have hr : renE s2 spareN s0 = 0 := by unfold renE; rw [if_pos hpR, if_neg hne2, f0]
  rw [if_pos hr] at hq
  have hls' : ∀ s, s ∈ ls ↔ s = spareN := fun s => by
    rw [hls hpR hne2 f0 s, hat2]
    constructor
    · rintro ⟨h1, h2⟩
      rw [b1, a1] at h1
      rcases hasN_put h1 with e | e
      · exact e
      · exfalso
        by_cases hss : s = spareN
        · rw [hss, hspn] at e; cases e
        · have hlm : Leads st.N (nk s) (atN st.N s) := leads_of hfil e
          have hl1 : Leads s2.N (nk s) (atN st.N s) := by
            rw [b1, a1]
            exact (leads_put hm (key_lit _)).2 (Or.inr ⟨fun e' => hss (nk_inj e'), hlm⟩)
          have := at_of_leads hl1
          rw [h2] at this
          exact hne' s _ hlm this
    · rintro rfl
      exact ⟨hL2.1, hat2⟩
  obtain ⟨s3, hs3⟩ : ∃ s3, s3 = renS s2 spareN s0 ls := ⟨_, rfl⟩
  have e3 : s3 = turnS (stepS s2) ⟨1, nf, ls, s0⟩ := by
    rw [hs3]
    unfold renS
    rw [if_pos ⟨hpR, hne2⟩, if_pos f0, hat2]
  rw [← hs3] at hq
  clear hs3
  have c1 : s3.N = (delsN s2.N ls).put (nk s0) (fl nf) := by
    have e0 : s3.N = doT (stepS s2).N ⟨1, nf, ls, s0⟩ := by rw [e3]; rfl
    rw [e0, n1]
    unfold doT
    rw [if_neg (fun e => e.2 spareN hL2.1 hat2), if_neg (by show ¬ (1 : Nat) = 2; omega)]
  have c4 : s3.F = s2.F := by rw [e3]; exact n2
  have c5 : s3.down = false := by rw [e3]; exact f1.trans b5
  have c6 : s3.fuse = -1 := by rw [e3]; exact f2
  have c7 : s3.room = st.room := by rw [e3]; exact n5.trans b7
  clear e3 n1 n2 n3 n4 n5 f0 f1 f2 hr
  unfold Sv3 at hq
  obtain ⟨f0, f1, f2⟩ := step_on c6
  obtain ⟨n1, n2, n3, n4, n5⟩ := stepS_N s3
  have hdE : sdE s3 = 0 := by unfold sdE; rw [if_neg (by rw [c5]; simp), f0]
  have eS : s' = { stepS s3 with S := (stepS s3).N, P := [] } := by
    have := congrArg Prod.snd hq
    rw [show s' = sdS s3 from this]
    unfold sdS
    rw [if_pos hdE]
  have eE : E = 0 := (congrArg Prod.fst hq).trans hdE
  subst eS
  have ht1 : Maps.Tidy s2.N := by rw [b1, a1]; exact ht.put (key_lit _) _
  have hN : (stepS s3).N = (delsN s2.N ls).put (nk s0) (fl nf) := n1.trans c1
  have hne0 : ls ≠ [] := fun e => by have := (hls' spareN).2 rfl; rw [e] at this; cases this
  have hsz1 : Maps.size s2.N = Maps.size st.N + 1 := by
    rw [b1, a1, Maps.size_put ht, if_neg (by rw [show Maps.has st.N (nk spareN) = false from hspn]; simp)]
  have hsz2 := size_dels spareN ls s2.N ht1 (fun x hx => (hls' x).1 hx) hne0 hL2.1
  have hh0 : hasN (delsN s2.N ls) s0 = hasN st.N s0 := by
    have hput : hasN s2.N s0 = hasN st.N s0 := by
      rw [b1, a1]
      unfold hasN
      rw [Maps.has_put_other (fun e => hne (nk_inj e))]
    cases hc : hasN st.N s0
    · cases hd : hasN (delsN s2.N ls) s0
      · rfl
      · have := (hasN_dels _ _ _ hd).2
        rw [hput, hc] at this
        cases this
    · have hl0 : Leads s2.N (nk s0) (atN st.N s0) := by
        rw [b1, a1]
        exact (leads_put hm (key_lit _)).2 (Or.inr ⟨fun e => hne (nk_inj e), leads_of hfil hc⟩)
      exact ((leads_dels (N := s2.N) _ _).2 ⟨fun x hx => by rw [(hls' x).1 hx]; exact fun e => hne (nk_inj e), hl0⟩).1
  refine ⟨eE, ⟨f1.trans c5, f2, rfl, fun s hs => ?_, fun s T' hs => ?_⟩, ?_, n5.trans c7⟩
  · show hasN (stepS s3).N s = false
    rw [hN]
    by_cases e : s = s0
    · simp [e] at hs
    · simp only [e, if_false] at hs
      cases hc : hasN ((delsN s2.N ls).put (nk s0) (fl nf)) s
      · rfl
      · rcases hasN_put hc with e2 | e2
        · exact absurd e2 e
        · obtain ⟨g1, g2⟩ := hasN_dels _ _ _ e2
          rw [b1, a1] at g2
          rcases hasN_put g2 with e3 | e3
          · exact absurd ((hls' s).2 e3) g1
          · rw [h.no s hs] at e3; cases e3
  · show ∃ c, Leads (stepS s3).N (nk s) c ∧ ((stepS s3).F c).1 = T' ∧ _
    rw [hN, n2, c4]
    by_cases e : s = s0
    · simp only [e, if_true] at hs
      cases hs
      exact ⟨nf, by rw [e]; exact (leads_put (isMap_dels _ _ ht1.isMap) (key_lit _)).2 (Or.inl ⟨rfl, rfl⟩), by rw [b4, if_pos rfl], hT⟩
    · simp only [e, if_false] at hs
      obtain ⟨c, g1, g2, g3⟩ := h.yes s T' hs
      have hss : s ≠ spareN := fun e' => by rw [e', hsp] at hs; cases hs
      refine ⟨c, (leads_put (isMap_dels _ _ ht1.isMap) (key_lit _)).2 (Or.inr ⟨fun e' => e (nk_inj e'), (leads_dels (N := s2.N) _ _).2 ⟨fun x hx => by rw [(hls' x).1 hx]; exact fun e' => hss (nk_inj e'), ?_⟩⟩), ?_, g3⟩
      · rw [b1, a1]
        exact (leads_put hm (key_lit _)).2 (Or.inr ⟨fun e' => hss (nk_inj e'), g1⟩)
      · rw [b4, if_neg (fun e' => hne' s c g1 e'.symm)]
        exact g2
  · show Maps.size (stepS s3).N = _
    rw [hN, Maps.size_put (tidy_dels _ _ ht1), show Maps.has (delsN s2.N ls) (nk s0) = hasN st.N s0 from hh0]
    split <;> omega
end Go.Proofs.YtjkpopdjmmgbbabGreat.Fi
