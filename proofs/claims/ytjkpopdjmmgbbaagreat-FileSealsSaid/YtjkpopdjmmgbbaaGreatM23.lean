/- Walk of file.Save.; Walks of file.Load, file.Clean.; The chapter's example; an act's text. -/
import Derived.Test.YtjkpopdjmmgbbaaGreatM22
set_option linter.unusedVariables false
set_option linter.unusedSimpArgs false
namespace Go.Proofs.YtjkpopdjmmgbbaaGreat.Fi
open Go.RowKit Dk
section
variable {w : World} {K : Nat → Prop} {D : Nat} {g : Gh} {st : St} {name by_ t T : ByteArray}
/-- By a goto to the end; to the next step. -/
def Go1 (w : World) (K : Nat → Prop) (D : Nat) (g : Gh) (st : St) (name by_ t T : ByteArray) (k n : Nat) : Prop := ∀ (a' : Act) (w' : World) (E : Nat), E ≠ 0 → a' = fr D name by_ t (E : Int) (k : Int) (fun i => a'.tmps.getD i undef) → SvR w K D g st name by_ T E w' → ∃ m, m < n ∧ JR w K D g st name by_ t T 1 m a' w'
def Go0 (w : World) (K : Nat → Prop) (D : Nat) (g : Gh) (st : St) (name by_ t T : ByteArray) (k n : Nat) : Prop := ∀ (a' : Act) (w' : World) (E : Nat), E = 0 → a' = fr D name by_ t 0 ((k + 1 : Nat) : Int) (fun i => a'.tmps.getD i undef) → (∃ gk sk, SvAt w K D g st name by_ T (k + 1) w' gk sk) → ∃ m, m < n ∧ JR w K D g st name by_ t T 0 m a' w'
set_option maxRecDepth 1000000 in
set_option maxHeartbeats 4000000 in
theorem pass_k0 (K7 : ∀ w, Calls Tryz.prog 7 #[.string t] w fun e w' => e = .returned (.string T) ∧ Below w.heap.size w w') (hby : by_.size ≤ 1000000000) (hT : T.size ≤ 100000) (hfew : g.nn + 10 ≤ 900000 ∧ st.P.length + 10 ≤ 1000000 ∧ st.steps + 10 ≤ 1000000000) (n : Nat) (u : Nat → Value) (wz : World) (G1 : Hid (Go1 w K D g st name by_ t T 0 n)) (G0 : Hid (Go0 w K D g st name by_ t T 0 n)) (HS : Hid (∃ gk sk, SvAt w K D g st name by_ T 0 wz gk sk)) :
    Code.wp Tryz.prog (labT 0) (Exit.jumps (JR w K D g st name by_ t T) n (bodyPost Tryz.prog Tryz.f16 (SvQ w K D g st name by_ T))) (fr D name by_ t 0 (0 : Nat) u) wz := by
  have H7 := Lib.hid K7
  have K39 : Hid (∀ w7, Below wz.heap.size wz w7 → Calls Tryz.prog 39 #[.pointer (some ⟨D, 0, none⟩), .string by_, .string T] w7 (StepQ w K D g st name by_ T 0)) := Lib.hid (fun w7 hb => by
    obtain ⟨gk, sk, h⟩ := HS.out
    exact (h.later hb).write hby hT hfew)
  unfold fr
  clear HS K7 hby hT hfew
  conv => arg 2; whnf
  go_wp2_with (first
    | (go_at_call 7; ((with_reducible refine (H7.out _).mono ?_); rintro e w7 ⟨rfl, hb7⟩; have HB7 := Lib.hid hb7; clear hb7))
    | (go_at_call 39; ((with_reducible refine (K39.out _ HB7.out).mono ?_); rintro e w8 ⟨E, rfl, h0, h1⟩; have HE := Lib.hid (And.intro h0 h1); clear h0 h1)))
  · rename_i h
    have hE : E ≠ 0 := by simpa using h
    go_step3
    exact G1.out _ _ E hE rfl (HE.out.2 hE)
  · have hE : E = 0 := by
      have hh : ((E : Int) != 0) = false := by assumption
      simpa using hh
    subst hE
    go_step3
    exact G0.out _ _ 0 rfl rfl (HE.out.1 rfl)
set_option maxRecDepth 1000000 in
set_option maxHeartbeats 4000000 in
theorem pass_k1 (hby : by_.size ≤ 1000000000) (hfew : g.nn + 10 ≤ 900000 ∧ st.P.length + 10 ≤ 1000000 ∧ st.steps + 10 ≤ 1000000000) (n : Nat) (u : Nat → Value) (wz : World) (G1 : Hid (Go1 w K D g st name by_ t T 1 n)) (G0 : Hid (Go0 w K D g st name by_ t T 1 n)) (HS : Hid (∃ gk sk, SvAt w K D g st name by_ T 1 wz gk sk)) :
    Code.wp Tryz.prog (labT 0) (Exit.jumps (JR w K D g st name by_ t T) n (bodyPost Tryz.prog Tryz.f16 (SvQ w K D g st name by_ T))) (fr D name by_ t 0 (1 : Nat) u) wz := by
  have KC : Hid (Calls Tryz.prog 40 #[.pointer (some ⟨D, 0, none⟩), .string by_] wz (StepQ w K D g st name by_ T 1)) := Lib.hid (by
    obtain ⟨gk, sk, h⟩ := HS.out
    exact h.sync hby hfew)
  unfold fr
  clear HS hby hfew
  conv => arg 2; whnf
  go_wp2_with (first
    | (go_at_call 40; ((with_reducible refine (KC.out).mono ?_); rintro e w8 ⟨E, rfl, h0, h1⟩; have HE := Lib.hid (And.intro h0 h1); clear h0 h1)))
  · rename_i h
    have hE : E ≠ 0 := by simpa using h
    go_step3
    exact G1.out _ _ E hE rfl (HE.out.2 hE)
  · have hE : E = 0 := by
      have hh : ((E : Int) != 0) = false := by assumption
      simpa using hh
    subst hE
    go_step3
    exact G0.out _ _ 0 rfl rfl (HE.out.1 rfl)
set_option maxRecDepth 1000000 in
set_option maxHeartbeats 4000000 in
theorem pass_k2 (hby : by_.size ≤ 1000000000) (hnm : name.size ≤ 1000000000) (hfew : g.nn + 10 ≤ 900000 ∧ st.P.length + 10 ≤ 1000000 ∧ st.steps + 10 ≤ 1000000000) (n : Nat) (u : Nat → Value) (wz : World) (G1 : Hid (Go1 w K D g st name by_ t T 2 n)) (G0 : Hid (Go0 w K D g st name by_ t T 2 n)) (HS : Hid (∃ gk sk, SvAt w K D g st name by_ T 2 wz gk sk)) :
    Code.wp Tryz.prog (labT 0) (Exit.jumps (JR w K D g st name by_ t T) n (bodyPost Tryz.prog Tryz.f16 (SvQ w K D g st name by_ T))) (fr D name by_ t 0 (2 : Nat) u) wz := by
  have KC : Hid (Calls Tryz.prog 41 #[.pointer (some ⟨D, 0, none⟩), .string by_, .string name] wz (StepQ w K D g st name by_ T 2)) := Lib.hid (by
    obtain ⟨gk, sk, h⟩ := HS.out
    exact h.rename hby hnm hfew)
  unfold fr
  clear HS hby hnm hfew
  conv => arg 2; whnf
  go_wp2_with (first
    | (go_at_call 41; ((with_reducible refine (KC.out).mono ?_); rintro e w8 ⟨E, rfl, h0, h1⟩; have HE := Lib.hid (And.intro h0 h1); clear h0 h1)))
  · rename_i h
    have hE : E ≠ 0 := by simpa using h
    go_step3
    exact G1.out _ _ E hE rfl (HE.out.2 hE)
  · have hE : E = 0 := by
      have hh : ((E : Int) != 0) = false := by assumption
      simpa using hh
    subst hE
    go_step3
    exact G0.out _ _ 0 rfl rfl (HE.out.1 rfl)
set_option maxRecDepth 1000000 in
set_option maxHeartbeats 4000000 in
theorem pass_k3 (hfew : g.nn + 10 ≤ 900000 ∧ st.P.length + 10 ≤ 1000000 ∧ st.steps + 10 ≤ 1000000000) (n : Nat) (u : Nat → Value) (wz : World) (G1 : Hid (Go1 w K D g st name by_ t T 3 n)) (HS : Hid (∃ gk sk, SvAt w K D g st name by_ T 3 wz gk sk)) :
    Code.wp Tryz.prog (labT 0) (Exit.jumps (JR w K D g st name by_ t T) n (bodyPost Tryz.prog Tryz.f16 (SvQ w K D g st name by_ T))) (fr D name by_ t 0 (3 : Nat) u) wz := by
  have KC : Hid (Calls Tryz.prog 36 #[.pointer (some ⟨D, 0, none⟩)] wz fun e w' => ∃ E : Nat, e = .returned (.int .i64 (E : Int)) ∧ SvR w K D g st name by_ T E w') := Lib.hid (by
    obtain ⟨gk, sk, h⟩ := HS.out
    exact h.dir hfew)
  unfold fr
  clear HS hfew
  conv => arg 2; whnf
  go_wp2_with (first
    | (go_at_call 36; ((with_reducible refine (KC.out).mono ?_); rintro e w8 ⟨E, rfl, h1⟩; have HE := Lib.hid h1; clear h1)))
  · rename_i h
    have hE : E ≠ 0 := by simpa using h
    go_step3
    exact G1.out _ _ E hE rfl HE.out
  · go_step3
    simp only [Exit.then]
    apply_assumption
    go_wp2
    simp only [Exit.jumps]
    exact bodyPost_ret (v := .int .i64 (E : Int)) (by simp [results, Tryz.results16, go_sem]) rfl ⟨E, rfl, HE.out⟩
theorem pass_0t (K7 : ∀ w, Calls Tryz.prog 7 #[.string t] w fun e w' => e = .returned (.string T) ∧ Below w.heap.size w w') (hby : by_.size ≤ 1000000000) (hnm : name.size ≤ 1000000000) (hT : T.size ≤ 100000) (hfew : g.nn + 10 ≤ 900000 ∧ st.P.length + 10 ≤ 1000000 ∧ st.steps + 10 ≤ 1000000000)
    (n : Nat) (a : Act) (wz : World) (hJ : J0 w K D g st name by_ t T n a wz) : Code.wp Tryz.prog (labT 0) (Exit.jumps (JR w K D g st name by_ t T) n (bodyPost Tryz.prog Tryz.f16 (SvQ w K D g st name by_ T))) a wz := by
  obtain ⟨u, k, hk, hn, rfl, HS⟩ := hJ
  have go1 : Hid (Go1 w K D g st name by_ t T k n) := Lib.hid (fun a' w' E hE ha hr => ⟨0, by omega, Or.inr ⟨rfl, _, k, E, rfl, ha, Lib.hid hr⟩⟩)
  have go0 : k ≤ 2 → Hid (Go0 w K D g st name by_ t T k n) := fun hk2 => Lib.hid (fun a' w' E hE ha hr => ⟨10 - (k + 1), by omega, Or.inl ⟨rfl, _, k + 1, by omega, rfl, ha, Lib.hid hr⟩⟩)
  obtain rfl | rfl | rfl | rfl : k = 0 ∨ k = 1 ∨ k = 2 ∨ k = 3 := by omega
  · exact pass_k0 K7 hby hT hfew n u wz go1 (go0 (by omega)) HS
  · exact pass_k1 hby hfew n u wz go1 (go0 (by omega)) HS
  · exact pass_k2 hby hnm hfew n u wz go1 (go0 (by omega)) HS
  · exact pass_k3 hfew n u wz go1 HS
set_option maxRecDepth 1000000 in
theorem pass_1 (n : Nat) (a : Act) (wz : World) (hJ : J1 w K D g st name by_ t T n a wz) : Code.wp Tryz.prog (labC 1) (Exit.jumps (JR w K D g st name by_ t T) n (bodyPost Tryz.prog Tryz.f16 (SvQ w K D g st name by_ T))) a wz := by
  have h := pass_1t n a wz hJ
  conv => arg 2; whnf
  apply wp_seq_k
  intro K hK
  apply wp_skip
  simp only [Exit.then]
  apply hK
  exact h
set_option maxRecDepth 1000000 in
theorem pass_0 (K7 : ∀ w, Calls Tryz.prog 7 #[.string t] w fun e w' => e = .returned (.string T) ∧ Below w.heap.size w w') (hby : by_.size ≤ 1000000000) (hnm : name.size ≤ 1000000000) (hT : T.size ≤ 100000) (hfew : g.nn + 10 ≤ 900000 ∧ st.P.length + 10 ≤ 1000000 ∧ st.steps + 10 ≤ 1000000000)
    (n : Nat) (a : Act) (wz : World) (hJ : J0 w K D g st name by_ t T n a wz) : Code.wp Tryz.prog (labC 0) (Exit.jumps (JR w K D g st name by_ t T) n (bodyPost Tryz.prog Tryz.f16 (SvQ w K D g st name by_ T))) a wz := by
  have h := pass_0t K7 hby hnm hT hfew n a wz hJ
  conv => arg 2; whnf
  apply wp_seq_k
  intro K hK
  apply wp_skip
  simp only [Exit.then]
  apply hK
  exact h
set_option maxRecDepth 1000000 in
set_option maxHeartbeats 4000000 in
theorem save_core (K7 : ∀ w, Calls Tryz.prog 7 #[.string t] w fun e w' => e = .returned (.string T) ∧ Below w.heap.size w w') (hby : by_.size ≤ 1000000000) (hnm : name.size ≤ 1000000000) (hT : T.size ≤ 100000) (hfew : g.nn + 10 ≤ 900000 ∧ st.P.length + 10 ≤ 1000000 ∧ st.steps + 10 ≤ 1000000000)
    (ht : t.size ≤ 16384) (hne : name ≠ by_) (h : DW w K D g st) :
    Calls Tryz.prog 16 #[.pointer (some ⟨D, 0, none⟩), .string name, .string by_, .string t] w (SvQ w K D g st name by_ T) := by
  have HP : Hid (∀ l n a wz, JR w K D g st name by_ t T l n a wz → ∃ rest, (Tryz.f16.body.bind scopeIn).bind (fun c => findLabel c l) = some rest ∧ rest.wp Tryz.prog (Exit.jumps (JR w K D g st name by_ t T) n (bodyPost Tryz.prog Tryz.f16 (SvQ w K D g st name by_ T))) a wz) := Lib.hid (fun l n a wz hJ => by
    rcases hJ with ⟨rfl, hj⟩ | ⟨rfl, hj⟩
    · exact ⟨labC 0, rfl, pass_0 K7 hby hnm hT hfew n a wz hj⟩
    · exact ⟨labC 1, rfl, pass_1 n a wz hj⟩)
  have HF : Hid (∀ (a' : Act), a' = fr D name by_ t 0 (0 : Nat) (fun i => a'.tmps.getD i undef) → Code.wp Tryz.prog (labT 0) (Exit.jumps (JR w K D g st name by_ t T) 10 (bodyPost Tryz.prog Tryz.f16 (SvQ w K D g st name by_ T))) a' w) := Lib.hid (fun a' ha => by
    have := pass_0t K7 hby hnm hT hfew 10 a' w ⟨_, 0, by omega, rfl, ha, Lib.hid ⟨g, st, SvAt.start h (Below.refl _ _)⟩⟩
    exact this)
  have h1 : ¬ (t.size : Int) > 16384 := by omega
  have h2 : (name.toList == by_.toList) = false := by
    rw [beq_eq_false_iff_ne]
    intro e
    rw [Lib.toList_data, Lib.toList_data] at e
    exact hne (ByteArray.ext (Array.ext' e))
  clear K7 hby hnm hT hfew ht hne h
  go_enter Tryz.func16, Tryz.ntmps16
  go_wp2
  refine wp_scope_labels (fun l n a wz => JR w K D g st name by_ t T l n a wz) 10 ?_ (fun l n a wz h => HP.out l n a wz h)
  go_wp2
  go_step3
  simp only [Exit.then]
  apply_assumption
  refine HF.out _ ?_
  rfl
end
/-- A sealed text. -/
def sealB (t : ByteArray) : ByteArray := W.str (sealL t.data.toList)
theorem sealB_size (t : ByteArray) (h : t.size ≤ 100000) : (sealB t).size ≤ t.size + 21 := by
  unfold sealB
  rw [W.size_str, sealL_len]
  have hl : t.data.toList.length = t.size := rfl
  have := (preL_len t.data.toList (by omega)).1
  omega
theorem save_any {w : World} {K : Nat → Prop} {D : Nat} {g : Gh} {st : St} (h : DW w K D g st) (name by_ t : ByteArray) (hby : by_.size ≤ 1000000000) (hnm : name.size ≤ 1000000000) (hfew : g.nn + 10 ≤ 900000 ∧ st.P.length + 10 ≤ 1000000 ∧ st.steps + 10 ≤ 1000000000) (ht : t.size ≤ 16384) (hne : name ≠ by_) :
    Calls Tryz.prog 16 #[.pointer (some ⟨D, 0, none⟩), .string name, .string by_, .string t] w (SvQ w K D g st name by_ (sealB t)) :=
  save_core (fun w => seal_any t (by omega) w) hby hnm (by have := sealB_size t (by omega); omega) hfew ht hne h
end Go.Proofs.YtjkpopdjmmgbbaaGreat.Fi

namespace Go.Proofs.YtjkpopdjmmgbbaaGreat.Fi
open Go.RowKit Dk

/-- What Load answers. -/
def ldV (st : St) (s : ByteArray) : Value := if findE st s = 0 then opV (readS st s) else .tuple #[.string ⟨#[]⟩, .int .i64 (findE st s : Nat)]
set_option maxRecDepth 1000000 in
theorem load_any {w : World} {K : Nat → Prop} {D : Nat} {g : Gh} {st : St} (h : DW w K D g st) (s : ByteArray) (hs : s.size ≤ 1000000000) :
    Calls Tryz.prog 19 #[.pointer (some ⟨D, 0, none⟩), .string s] w fun e w' => e = .returned (ldV st s) ∧ Below w.heap.size w w' := by
  have K45 := Lib.hid (read_any h s hs)
  unfold ldV
  by_cases h0 : findE st s = 0
  · have hz : (readS st s).size ≤ 100000 := by
      unfold readS
      rw [if_pos h0]
      exact (h.size _ (h.filN.live (findE_zero h0).2)).1
    have K8 := Lib.hid (fun w => open_any (readS st s) hz w)
    rw [h0] at K45 ⊢
    rw [if_pos rfl]
    have ho : ∃ (t : ByteArray) (E : Nat), opV (readS st s) = .tuple #[.string t, .int .i64 (E : Int)] := by
      unfold opV
      split
      · exact ⟨_, 0, rfl⟩
      · exact ⟨_, 23, rfl⟩
    obtain ⟨t, E, hE⟩ := ho
    rw [hE] at K8 ⊢
    generalize readS st s = x at *
    clear h h0 hz hE
    go_enter Tryz.func19, Tryz.ntmps19
    go_wp2_with (first
      | (go_at_call 45; ((with_reducible refine (K45.out).mono ?_); rintro e w1 ⟨rfl, hb1⟩))
      | (go_at_call 8; ((with_reducible refine (K8.out _).mono ?_); rintro e w2 ⟨rfl, hb2⟩)))
    go_ret2
    exact ⟨rfl, hb1.trans (hb2.mono hb1.size)⟩
  · rw [if_neg h0]
    have hx : ((findE st s : Nat) : Int) ≠ 0 := by omega
    have hb : (((findE st s : Nat) : Int) == 0) = false := by rw [beq_eq_false_iff_ne]; exact hx
    generalize readS st s = x at *
    generalize findE st s = E at *
    clear h
    go_enter Tryz.func19, Tryz.ntmps19
    go_wp2_with (first
      | (go_at_call 45; ((with_reducible refine (K45.out).mono ?_); rintro e w1 ⟨rfl, hb1⟩)))
    go_ret2
    exact ⟨rfl, hb1⟩

theorem rmS_s (st : St) (s : ByteArray) : (rmS st s).steps ≤ st.steps + 1 ∧ (rmS st s).P.length ≤ st.P.length + 1 := by
  have h := stepS_s st
  have hp := (stepS_N st).2.2.2.1
  unfold rmS onS
  split
  · split
    · refine ⟨h, ?_⟩
      show ((stepS st).P ++ [_]).length ≤ _
      rw [hp, List.length_append]; simp
    · refine ⟨Nat.le_succ _, ?_⟩
      show (st.P ++ [_]).length ≤ _
      rw [List.length_append]; simp
  · split
    · refine ⟨h, ?_⟩
      rw [hp]; omega
    · omega
/-- What a Clean leaves: its answer, the disk. -/
noncomputable def clR (st : St) (gone : Bool) : List ByteArray → Nat × St
  | [] => if gone = true then (sdE st, sdS st) else (0, st)
  | s :: ss => if onE st s = 0 then clR (rmS st s) true ss else if onE st s = 12 then clR (rmS st s) gone ss else (onE st s, rmS st s)
theorem clR_nil (st : St) (gone : Bool) : clR st gone [] = if gone = true then (sdE st, sdS st) else (0, st) := rfl
theorem clR_cons (st : St) (gone : Bool) (s : ByteArray) (ss : List ByteArray) : clR st gone (s :: ss) = if onE st s = 0 then clR (rmS st s) true ss else if onE st s = 12 then clR (rmS st s) gone ss else (onE st s, rmS st s) := rfl
def ClQ (st : St) (ss : List ByteArray) (K : Nat → Prop) (D : Nat) (g : Gh) (w : World) (e : Ending) (w' : World) : Prop :=
  e = .returned (.int .i64 ((clR st false ss).1 : Nat)) ∧ (∃ g', DW w' (Kn K w w') D g' (clR st false ss).2 ∧ g'.nn ≤ g.nn + ss.length) ∧ Kp K w w'
/-- What holds of the disk in a Clean. -/
structure ClAt (w : World) (K : Nat → Prop) (D : Nat) (g : Gh) (st : St) (ss : List ByteArray) (j : Nat) (gone : Bool) (wz : World) (gk : Gh) (sk : St) : Prop where
  d : DW wz (Kn K w wz) D gk sk
  nn : gk.nn ≤ g.nn + j
  kp : Kp K w wz
  p : sk.P.length ≤ st.P.length + j
  s : sk.steps ≤ st.steps + j
  q : clR sk gone (ss.drop j) = clR st false ss
section
variable {w : World} {K : Nat → Prop} {D : Nat} {g : Gh} {st : St} {ss : List ByteArray} {wz : World} {gk : Gh} {sk : St}
theorem ClAt.start (h : DW w K D g st) : ClAt w K D g st ss 0 false w g st :=
  ⟨h.kn, Nat.le_refl _, Kp.refl _ _, Nat.le_refl _, Nat.le_refl _, rfl⟩
theorem ClAt.remove {j : Nat} {gone : Bool} (h : ClAt w K D g st ss j gone wz gk sk) (hj : j < ss.length) (hs : (ss[j]).size ≤ 1000000000) (hfew : g.nn + ss.length ≤ 800000 ∧ st.P.length + ss.length ≤ 900000 ∧ st.steps + ss.length ≤ 900000000) :
    Calls Tryz.prog 35 #[.pointer (some ⟨D, 0, none⟩), .string ss[j]] wz fun e w' => ∃ E : Nat, e = .returned (.int .i64 (E : Int)) ∧
      (E = 0 → ∃ gk sk, ClAt w K D g st ss (j + 1) true w' gk sk) ∧ (E = 12 → ∃ gk sk, ClAt w K D g st ss (j + 1) gone w' gk sk) ∧ (E ≠ 0 → E ≠ 12 → ClQ st ss K D g w (.returned (.int .i64 (E : Int))) w') ∧ Kp (Kn K w wz) wz w' := by
  have h1 := h.nn
  have h2 := h.p
  have h3 := h.s
  refine (remove_any h.d (by omega) ss[j] hs (by omega)).mono fun e w' hq => ?_
  obtain ⟨he, ⟨g', hd, hg⟩, hkp⟩ := hq
  have hd' := kn2 hd h.kp.size hkp.size
  obtain ⟨hst, hp⟩ := rmS_s sk ss[j]
  have hq := h.q
  rw [List.drop_eq_getElem_cons hj, clR_cons] at hq
  refine ⟨_, he, fun h0 => ⟨g', _, hd', by omega, h.kp.andKn hkp, by omega, by omega, ?_⟩, fun h12 => ⟨g', _, hd', by omega, h.kp.andKn hkp, by omega, by omega, ?_⟩, fun h0 h12 => ?_, hkp⟩
  · rw [if_pos h0] at hq; exact hq
  · rw [if_neg (by rw [h12]; omega), if_pos h12] at hq; exact hq
  · rw [if_neg h0, if_neg h12] at hq
    refine ⟨by rw [← hq], ⟨g', by rw [← hq]; exact hd', by omega⟩, h.kp.andKn hkp⟩
theorem ClAt.done {gone : Bool} (h : ClAt w K D g st ss ss.length gone wz gk sk) (hg : gone = false) : ClQ st ss K D g w (.returned (.int .i64 0)) wz := by
  have hq := h.q
  rw [List.drop_length, clR_nil] at hq
  rw [if_neg (by rw [hg]; simp)] at hq
  exact ⟨by rw [← hq]; rfl, ⟨gk, by rw [← hq]; exact h.d, h.nn⟩, h.kp⟩
theorem ClAt.dir {gone : Bool} (h : ClAt w K D g st ss ss.length gone wz gk sk) (hg : gone = true) (hfew : g.nn + ss.length ≤ 800000 ∧ st.P.length + ss.length ≤ 900000 ∧ st.steps + ss.length ≤ 900000000) :
    Calls Tryz.prog 36 #[.pointer (some ⟨D, 0, none⟩)] wz fun e w' => ClQ st ss K D g w e w' ∧ ∃ E : Nat, e = .returned (.int .i64 (E : Int)) := by
  have h1 := h.nn
  have h3 := h.s
  have hq := h.q
  rw [List.drop_length, clR_nil] at hq
  rw [if_pos hg] at hq
  refine (sd_any h.d (by omega)).mono fun e w' hq' => ?_
  obtain ⟨he, ⟨g', hd, hg'⟩, hkp⟩ := hq'
  have hd' := kn2 hd h.kp.size hkp.size
  exact ⟨⟨by rw [he, ← hq], ⟨g', by rw [← hq]; exact hd', by omega⟩, h.kp.andKn hkp⟩, _, he⟩
set_option maxRecDepth 1000000 in
set_option maxHeartbeats 4000000 in
theorem clean_any (h : DW w K D g st) (b off cap : Nat) (ob : Option Addr) (ho : 0 < ss.length → ob = some ⟨b, off, none⟩ ∧ b < w.heap.size ∧ ¬ K b) (hc : ∀ j (h : j < ss.length), w.cell? ⟨b, off + j, none⟩ = some (.string ss[j])) (hs : ∀ j (h : j < ss.length), (ss[j]).size ≤ 1000000000)
    (hfew : g.nn + ss.length ≤ 800000 ∧ st.P.length + ss.length ≤ 900000 ∧ st.steps + ss.length ≤ 900000000) :
    Calls Tryz.prog 14 #[.pointer (some ⟨D, 0, none⟩), .slice ob ss.length cap] w (ClQ st ss K D g w) := by
  obtain ⟨m, hm⟩ : ∃ m, m = ss.length := ⟨_, rfl⟩
  have HM := Lib.hid hm
  have HO := Lib.hid ho
  have HC := Lib.hid (And.intro hc hs)
  have HF := Lib.hid hfew
  have H := Lib.hid h
  have qm : (m : Int) ≤ 1000000 := by omega
  rw [← hm]
  clear hm ho hc hs hfew h
  go_enter Tryz.func14, Tryz.ntmps14
  go_wp2
  go_loopw [11, 5] (fun v gv wr => ∃ (j : Nat) (gone : Bool), j ≤ m ∧ v = .int .i64 (j : Int) ∧ gv = .bool gone ∧ Hid (∃ gk sk, ClAt w K D g st ss j gone wr gk sk)) (fun v _ _ => m - (intOf v).toNat)
  case atStart => exact ⟨0, false, by omega, rfl, rfl, Lib.hid ⟨g, st, ClAt.start H.out⟩⟩
  case round =>
    obtain ⟨j, gone, hj, rfl, rfl, HA⟩ := hrel
    by_cases hlt : j < m
    · have hjl : j < ss.length := by rw [← HM.out]; exact hlt
      obtain ⟨s, hs⟩ : ∃ s, s = ss[j] := ⟨_, rfl⟩
      obtain ⟨eo, hbl, hnk⟩ := HO.out (by omega)
      have hcell : wr.cell? ⟨b, off + j, none⟩ = some (.string s) := by
        obtain ⟨gk, sk, ha⟩ := HA.out
        rw [hs, ← HC.out.1 j hjl]
        exact ha.kp.cell (p := ⟨b, off + j, none⟩) hbl hnk
      have K35 : Hid (Calls Tryz.prog 35 #[.pointer (some ⟨D, 0, none⟩), .string s] wr fun e w' => ∃ E : Nat, e = .returned (.int .i64 (E : Int)) ∧ Hid ((E = 0 → ∃ gk sk, ClAt w K D g st ss (j + 1) true w' gk sk) ∧ (E = 12 → ∃ gk sk, ClAt w K D g st ss (j + 1) gone w' gk sk) ∧ (E ≠ 0 → E ≠ 12 → ClQ st ss K D g w (.returned (.int .i64 (E : Int))) w'))) := Lib.hid (by
        obtain ⟨gk, sk, ha⟩ := HA.out
        rw [hs]
        exact (ha.remove hjl (HC.out.2 j hjl) HF.out).mono fun e w' ⟨E, he, h1, h2, h3, _⟩ => ⟨E, he, Lib.hid ⟨h1, h2, h3⟩⟩)
      have q1 : (0 : Int) ≤ (j : Int) := by omega
      have q2 : (j : Int) < (m : Int) := by omega
      subst eo
      clear hs hbl hnk HA
      go_wp2_with (first
        | (go_at_call 35; ((with_reducible refine (K35.out).mono ?_); rintro e w8 ⟨E, rfl, HE⟩)))
      · exact ⟨⟨j + 1, true, by omega, by go_num, rfl, Lib.hid (HE.out.1 (by assumption))⟩, by simp [intOf]; omega⟩
      · exact ⟨⟨j + 1, true, by omega, by go_num, rfl, Lib.hid (HE.out.1 (by assumption))⟩, by simp [intOf]; omega⟩
      · have h1 : (((E : Int) != 0) = true ∧ ((E : Int) != 12) = true) := by assumption
        have e0 : E ≠ 0 := by have := h1.1; simpa using this
        have e1 : E ≠ 12 := fun e => by have := h1.2; rw [e] at this; simp at this
        go_ret
        exact HE.out.2.2 e0 e1
      · have h1 : (((E : Int) != 0) = false ∨ ((E : Int) != 12) = false) := by assumption
        have e0 : ¬ E = 0 := by assumption
        have e1 : E = 12 := by
          rcases h1 with h1 | h1
          · exact absurd (by simpa using h1) e0
          · have : (E : Int) = 12 := by simpa using h1
            omega
        have hgt : gone = true := by assumption
        have := HE.out.2.1 e1
        rw [hgt] at this
        exact ⟨⟨j + 1, true, by omega, by go_num, rfl, Lib.hid this⟩, by simp [intOf]; omega⟩
      · have h1 : (((E : Int) != 0) = false ∨ ((E : Int) != 12) = false) := by assumption
        have e0 : ¬ E = 0 := by assumption
        have e1 : E = 12 := by
          rcases h1 with h1 | h1
          · exact absurd (by simpa using h1) e0
          · have : (E : Int) = 12 := by simpa using h1
            omega
        have hgt : gone = false := by
          have : ¬ gone = true := by assumption
          simpa using this
        have := HE.out.2.1 e1
        rw [hgt] at this
        first
          | exact ⟨⟨j + 1, false, by omega, by go_num, rfl, Lib.hid this⟩, by simp [intOf]; omega⟩
          | exact ⟨⟨j + 1, false, by omega, by go_num, by simp [e0], Lib.hid this⟩, by simp [intOf]; omega⟩
    · have hjm : j = m := by omega
      subst hjm
      cases gone
      · go_wp2
        go_ret
        obtain ⟨gk, sk, ha⟩ := HA.out
        rw [HM.out] at ha
        exact ha.done rfl
      · have K36 : Hid (Calls Tryz.prog 36 #[.pointer (some ⟨D, 0, none⟩)] wr fun e w' => ∃ E : Nat, e = .returned (.int .i64 (E : Int)) ∧ Hid (ClQ st ss K D g w (.returned (.int .i64 (E : Int))) w')) := Lib.hid (by
          obtain ⟨gk, sk, ha⟩ := HA.out
          rw [HM.out] at ha
          exact (ha.dir rfl HF.out).mono fun e w' ⟨h1, E, he⟩ => ⟨E, he, Lib.hid (by rw [← he]; exact h1)⟩)
        go_wp2_with (first
          | (go_at_call 36; ((with_reducible refine (K36.out).mono ?_); rintro e w8 ⟨E, rfl, HE⟩)))
        go_ret
        exact HE.out
end
end Go.Proofs.YtjkpopdjmmgbbaaGreat.Fi

namespace Go.Proofs.YtjkpopdjmmgbbaaGreat.Fi
open Go.RowKit Dk

set_option maxRecDepth 1000000 in
theorem awake_any (w : World) : Calls Tryz.prog 6 #[] w fun e w' => e = .returned (.bool true) ∧ Below w.heap.size w w' := by
  have K7 := Lib.hid (fun w => seal_any ⟨#[97]⟩ (by decide) w)
  have hs : (⟨#[97]⟩ : ByteArray).data.toList = [97] := rfl
  rw [hs] at K7
  have hz : (W.str (sealL [97])).size ≤ 100000 := by
    rw [W.size_str, sealL_len]
    have := (preL_len [97] (by decide)).1
    simp at this
    omega
  have K8 := Lib.hid (fun w => open_any (W.str (sealL [97])) hz w)
  have ho : opV (W.str (sealL [97])) = .tuple #[.string ⟨#[97]⟩, .int .i64 0] := by
    unfold opV
    have : opnL (W.str (sealL [97])).data.toList = some [97] := opn_seal [97] (by decide)
    rw [this]
    rfl
  rw [ho] at K8
  have K24 : Hid (∀ w, Calls Tryz.prog 24 #[] w fun e w' => e = .returned (.bool true) ∧ Below w.heap.size w w') := Lib.hid (fun w => by
    go_enter Tryz.func24, Tryz.ntmps24
    go_wp2_with (first | (go_at_call 56; go_must (refine (W.awake_any _).mono ?_); rintro e w1 ⟨rfl, hb1⟩))
    go_ret
    exact ⟨rfl, hb1⟩)
  have K25 : Hid (∀ w, Calls Tryz.prog 25 #[] w fun e w' => e = .returned (.bool true) ∧ Below w.heap.size w w') := Lib.hid (fun w => by
    go_enter Tryz.func25, Tryz.ntmps25
    go_wp2_with (first | (go_at_call 57; go_must (refine (Dg.awake_sum _).mono ?_); rintro e w1 ⟨rfl, hb1⟩))
    go_ret
    exact ⟨rfl, hb1⟩)
  have K26 : Hid (∀ w, Calls Tryz.prog 26 #[] w fun e w' => e = .returned (.bool true) ∧ Below w.heap.size w w') := Lib.hid (fun w => by
    go_enter Tryz.func26, Tryz.ntmps26
    go_wp2_with (first | (go_at_call 58; go_must (refine (Dk.awake_any _).mono ?_); rintro e w1 ⟨rfl, hb1⟩))
    go_ret
    exact ⟨rfl, hb1⟩)
  have K27 : Hid (∀ w, Calls Tryz.prog 27 #[] w fun e w' => e = .returned (.int .i64 4) ∧ w' = w) := Lib.hid (fun w => by
    go_enter Tryz.func27, Tryz.ntmps27
    go_wp2
    go_ret
    exact ⟨rfl, rfl⟩)
  generalize W.str (sealL [97]) = s at *
  clear hs hz ho
  go_enter Tryz.func6, Tryz.ntmps6
  go_wp2_with (first
    | (go_at_call 7; ((with_reducible refine (K7.out _).mono ?_); rintro e w1 ⟨rfl, hb1⟩))
    | (go_at_call 8; ((with_reducible refine (K8.out _).mono ?_); rintro e w2 ⟨rfl, hb2⟩))
    | (go_at_call 24; ((with_reducible refine (K24.out _).mono ?_); rintro e w3 ⟨rfl, hb3⟩))
    | (go_at_call 25; ((with_reducible refine (K25.out _).mono ?_); rintro e w4 ⟨rfl, hb4⟩))
    | (go_at_call 26; ((with_reducible refine (K26.out _).mono ?_); rintro e w5 ⟨rfl, hb5⟩))
    | (go_at_call 27; ((with_reducible refine (K27.out _).mono ?_); rintro e w6 ⟨rfl, hw6⟩; subst hw6)))
  go_ret
  have c2 := hb1.trans (hb2.mono hb1.size)
  have c3 := c2.trans (hb3.mono c2.size)
  have c4 := c3.trans (hb4.mono c3.size)
  exact ⟨rfl, c4.trans (hb5.mono c4.size)⟩

/-- An act's cells. -/
def actC (a b : ByteArray) (n bb : Nat) (cl : Bool) (f : Int) : Array Value := #[.string a, .string b, .int .u16 (n : Int), .int .u8 (bb : Int), .bool cl, .int .i8 f]
set_option maxRecDepth 100000 in
set_option maxHeartbeats 2000000 in
theorem text_any (a b : ByteArray) (n bb : Nat) (cl : Bool) (f : Int) (hn : n ≤ 65535) (hb : bb ≤ 255) (w : World) :
    Calls Tryz.prog 17 #[.agg (actC a b n bb cl f)] w fun e w' => ∃ x : ByteArray, e = .returned (.string x) ∧ x.size ≤ 3000 ∧ Below w.heap.size w w' := by
  unfold actC
  obtain ⟨z, hz⟩ : ∃ z : Nat, z = n % 3000 := ⟨_, rfl⟩
  have ez : (n : Int) % 3000 = (z : Int) := by omega
  have hzl : z < 3000 := by omega
  have hmk := fun w => run_make_row' (P := Tryz.prog) 68 5 (.int .u8 0) 1 Tryz.underlying68 info5 rfl .u16 .u16 z (by omega) (by omega) w
  rw [made_bytes] at hmk
  have hmk2 : ∀ w, (Instr.makeSlice 68 (.int .u16 ((n : Int) % 3000)) (.int .u16 ((n : Int) % 3000))).run Tryz.prog w = .ok (.slice (some ⟨w.heap.size, 0, none⟩) z z) (w.alloc (.cells (bcl (List.replicate z 0)).toArray 5)) := fun w => by rw [ez]; exact hmk w
  clear hmk ez hz
  have HBX := Lib.hid (heap_new w (.cells #[.string a, .string b, .int .u16 (n : Int), .int .u8 (bb : Int), .bool cl, .int .i8 f] 39))
  have HLT := Lib.hid (alloc_lt w (.cells #[.string a, .string b, .int .u16 (n : Int), .int .u8 (bb : Int), .bool cl, .int .i8 f] 39))
  have HB0 := Lib.hid (alloc_below w (.cells #[.string a, .string b, .int .u16 (n : Int), .int .u8 (bb : Int), .bool cl, .int .i8 f] 39))
  have HSZ : Hid ((w.alloc (.cells #[.string a, .string b, .int .u16 (n : Int), .int .u8 (bb : Int), .bool cl, .int .i8 f] 39)).heap.size = w.heap.size + 1) := Lib.hid (by simp)
  go_enter Tryz.func17, Tryz.ntmps17
  go_wp2
  generalize w.alloc (.cells #[.string a, .string b, .int .u16 (n : Int), .int .u8 (bb : Int), .bool cl, .int .i8 f] 39) = wa at *
  go_loopw [11] (fun v wr => ∃ (i : Nat) (l : List UInt8), i ≤ z ∧ v = .int .i64 (i : Int) ∧ Hid (l.length = z ∧ BB (w.heap.size + 1) 5 l wr ∧ Below w.heap.size w wr ∧ wr.heap[w.heap.size]? = some (.cells #[.string a, .string b, .int .u16 (n : Int), .int .u8 (bb : Int), .bool cl, .int .i8 f] 39 (0, 0)))) (fun v _ => z - (intOf v).toNat)
  case atStart => exact ⟨0, List.replicate z 0, by omega, rfl, Lib.hid ⟨by simp, by rw [← HSZ.out]; exact bb_new wa _ 5, HB0.out.alloc (by have := HLT.out; omega) _, ((alloc_below wa _).block _ HLT.out).trans HBX.out⟩⟩
  case round =>
    obtain ⟨i, l, hi, rfl, HL⟩ := hrel
    by_cases hlt : i < z
    · have k4 : wr.cell? ⟨w.heap.size, 3, none⟩ = some (.int .u8 (bb : Int)) := cell_of_row wr w.heap.size 3 _ _ _ HL.out.2.2.2
      have kx := HL.out.2.1.cell i (by rw [HL.out.1]; exact hlt)
      have kf := HL.out.2.1.frozen i
      have q1 : (0 : Int) ≤ (i : Int) := by omega
      have q2 : (i : Int) < (z : Int) := by omega
      go_wp2
      go_roundw
      case rel =>
        obtain ⟨x, hx⟩ : ∃ x : UInt8, (bb : Int) = ((x.toNat : Nat) : Int) := ⟨UInt8.ofNat bb, by
          rw [UInt8.toNat_ofNat']; omega⟩
        rw [hx]
        exact ⟨i + 1, l.set i x, by omega, by go_num, Lib.hid ⟨by rw [List.length_set]; exact HL.out.1, HL.out.2.1.put i x, HL.out.2.2.1.setCell (p := ⟨w.heap.size + 1, i, none⟩) (by show w.heap.size ≤ w.heap.size + 1; omega) _, (heap_setCell_other _ _ _ _ (by show w.heap.size ≠ w.heap.size + 1; omega)).trans (by rw [← hx]; exact HL.out.2.2.2)⟩⟩
      case measure => simp [intOf]; omega
    · have hconv := conv_bb HL.out.2.1
      rw [HL.out.1] at hconv
      go_wp2
      go_ret
      exact ⟨⟨l.toArray⟩, rfl, (by show l.length ≤ 3000; rw [HL.out.1]; omega), HL.out.2.2.1⟩
end Go.Proofs.YtjkpopdjmmgbbaaGreat.Fi
