/- What Save does, plainly; what holds at its labels.; The steps of a Save.; Walk of file.Save.; Walks of file.Load, file.Clean. -/
import Derived.Test.YtpcmmejlmhbcdaaGreatJ25
import Derived.Test.YtpcmmejlmhbcdaaGreatJ30
import Derived.ScopeJumps
set_option linter.unusedVariables false
set_option linter.unusedSimpArgs false
namespace Go.Proofs.YtpcmmejlmhbcdaaGreat.Fi
open Go.RowKit Dk

/-- By a goto to a label: J of it. -/
def Exit.jumps (J : Nat → Nat → Act → World → Prop) (n : Nat) (Q : Exit → Act → World → Prop) : Exit → Act → World → Prop
  | .goto l, a, w => ∃ m, m < n ∧ J l m a w
  | e, a, w => Q e a w
theorem wp_scope_labels {P : Program} {a : Act} {w : World} {Q : Exit → Act → World → Prop} {c : Code} (J : Nat → Nat → Act → World → Prop) (n0 : Nat)
    (first : c.wp P (Exit.jumps J n0 Q) a w)
    (pass : ∀ l n a w, J l n a w → ∃ rest, findLabel c l = some rest ∧ rest.wp P (Exit.jumps J n Q) a w) : (Code.scope c).wp P Q a w := by
  intro b k cs
  have hg : ∀ l rest, findLabel c l = some rest → gotoIn l (.inScope c :: k) = some (.code rest :: .inScope c :: k) := fun l rest hf => by simp [gotoIn, hf]
  have key : ∀ n l a w rest, J l n a w → findLabel c l = some rest → ∃ e a' w', Q e a' w' ∧ Arrives P (lone (b.at a (.code rest :: .inScope c :: k)) cs w) b k cs e a' w' := by
    intro n
    induction n using Nat.strongRecOn with
    | _ n ih =>
      intro l a w rest hJ hf
      obtain ⟨rest', hf', hp⟩ := pass l n a w hJ
      rw [hf] at hf'
      cases hf'
      obtain ⟨e, a₁, w₁, hq, harr⟩ := hp b (.inScope c :: k) cs
      cases e with
      | normal => exact ⟨.normal, a₁, w₁, hq, Steps.trans harr (.one step_inScope)⟩
      | exit id => exact ⟨.exit id, a₁, w₁, hq, fun k' hk => harr k' (by simp [exitTo, hk])⟩
      | goto l' =>
        obtain ⟨m, hm, hJ'⟩ := hq
        obtain ⟨rest2, hf2, _⟩ := pass l' m a₁ w₁ hJ'
        obtain ⟨e₂, a₂, w₂, hq₂, harr₂⟩ := ih m hm l' a₁ w₁ rest2 hJ' hf2
        exact ⟨e₂, a₂, w₂, hq₂, .of_steps (harr _ (hg _ _ hf2)) harr₂⟩
      | ret => exact ⟨_, a₁, w₁, hq, harr⟩
      | panic ch => exact ⟨_, a₁, w₁, hq, harr⟩
      | outgrown => exact ⟨_, a₁, w₁, hq, harr⟩
  obtain ⟨e, a₁, w₁, hq, harr⟩ := first b (.inScope c :: k) cs
  cases e with
  | normal => exact ⟨.normal, a₁, w₁, hq, .head step_scope (Steps.trans harr (.one step_inScope))⟩
  | exit id => exact ⟨.exit id, a₁, w₁, hq, fun k' hk => .head step_scope (harr k' (by simp [exitTo, hk]))⟩
  | goto l' =>
    obtain ⟨m, _, hJ'⟩ := hq
    obtain ⟨rest2, hf2, _⟩ := pass l' m a₁ w₁ hJ'
    obtain ⟨e₂, a₂, w₂, hq₂, harr₂⟩ := key m l' a₁ w₁ rest2 hJ' hf2
    exact ⟨e₂, a₂, w₂, hq₂, .of_steps (.head step_scope (harr _ (hg _ _ hf2))) harr₂⟩
  | ret => exact ⟨_, a₁, w₁, hq, .of_steps (.one step_scope) harr⟩
  | panic ch => exact ⟨_, a₁, w₁, hq, .of_steps (.one step_scope) harr⟩
  | outgrown => exact ⟨_, a₁, w₁, hq, .of_steps (.one step_scope) harr⟩

def Sv3 (st : St) (r : Nat × St) : Prop := r = (sdE st, sdS st)
def Sv2 (name by_ : ByteArray) (st : St) (r : Nat × St) : Prop :=
  ∃ ls, (preR st by_ name = 0 → by_ ≠ name → stepE st = 0 → ∀ s, s ∈ ls ↔ hasN st.N s = true ∧ atN st.N s = atN st.N by_) ∧
    (if renE st by_ name = 0 then Sv3 (renS st by_ name ls) r else r = (renE st by_ name, renS st by_ name ls))
def Sv1 (name by_ : ByteArray) (st : St) (r : Nat × St) : Prop :=
  if syncE st by_ = 0 then Sv2 name by_ (syncS st by_) r else r = (syncE st by_, syncS st by_)
/-- What a Save may leave: its answer, the disk. -/
def Sv0 (name by_ T : ByteArray) (st : St) (r : Nat × St) : Prop :=
  ∃ nf, ¬ st.live nf ∧ (if writeE st by_ T = 0 then Sv1 name by_ (writeS st by_ T nf) r else r = (writeE st by_ T, writeS st by_ T nf))
def SvK (name by_ T : ByteArray) (k : Nat) (st : St) (r : Nat × St) : Prop :=
  match k with
  | 0 => Sv0 name by_ T st r
  | 1 => Sv1 name by_ st r
  | 2 => Sv2 name by_ st r
  | _ => Sv3 st r
/-- What holds of the disk ahead of a step. -/
structure SvAt (w : World) (K : Nat → Prop) (D : Nat) (g : Gh) (st : St) (name by_ T : ByteArray) (k : Nat) (wz : World) (gk : Gh) (sk : St) : Prop where
  d : DW wz (Kn K w wz) D gk sk
  nn : gk.nn ≤ g.nn + k
  kp : Kp K w wz
  p : sk.P.length ≤ st.P.length + k
  s : sk.steps ≤ st.steps + k
  q : ∀ r, SvK name by_ T k sk r → Sv0 name by_ T st r
/-- What a Save leaves. -/
def SvR (w : World) (K : Nat → Prop) (D : Nat) (g : Gh) (st : St) (name by_ T : ByteArray) (e : Nat) (wz : World) : Prop :=
  ∃ (g' : Gh) (s' : St), DW wz (Kn K w wz) D g' s' ∧ g'.nn ≤ g.nn + 3 ∧ Kp K w wz ∧ s'.P.length ≤ st.P.length + 3 ∧ s'.steps ≤ st.steps + 4 ∧ Sv0 name by_ T st (e, s')
section
variable {w : World} {K : Nat → Prop} {D : Nat} {g : Gh} {st : St} {name by_ T : ByteArray} {wz w' : World} {gk g' : Gh} {sk : St}
theorem stepS_s (st : St) : (stepS st).steps ≤ st.steps + 1 := by unfold stepS; split <;> simp
theorem writeS_s (st : St) (s t : ByteArray) (nf : Nat) : (writeS st s t nf).steps ≤ st.steps + 1 := by
  have := stepS_s st
  unfold writeS
  split
  · split
    · split
      · exact this
      · exact this
    · exact this
  · omega
theorem syncS_s (st : St) (s : ByteArray) : (syncS st s).steps ≤ st.steps + 1 ∧ (syncS st s).P = st.P := by
  have h := stepS_s st
  have hp := (stepS_N st).2.2.2.1
  unfold syncS onS
  split
  · split
    · exact ⟨h, hp⟩
    · exact ⟨Nat.le_succ _, rfl⟩
  · split
    · exact ⟨h, hp⟩
    · exact ⟨Nat.le_succ _, rfl⟩
theorem renS_s (st : St) (a b : ByteArray) (ls : List ByteArray) : (renS st a b ls).steps ≤ st.steps + 1 ∧ (renS st a b ls).P.length ≤ st.P.length + 1 := by
  have h := stepS_s st
  have hp := (stepS_N st).2.2.2.1
  unfold renS
  split
  · split
    · refine ⟨h, ?_⟩
      show ((stepS st).P ++ [_]).length ≤ _
      rw [hp, List.length_append]; simp
    · refine ⟨h, ?_⟩
      rw [hp]; omega
  · omega
theorem sdS_s (st : St) : (sdS st).steps ≤ st.steps + 1 ∧ (sdS st).P.length ≤ st.P.length := by
  have h := stepS_s st
  have hp := (stepS_N st).2.2.2.1
  unfold sdS
  split
  · exact ⟨h, by simp⟩
  · split
    · omega
    · refine ⟨h, ?_⟩
      rw [hp]; omega
theorem SvAt.start (h : DW w K D g st) (hb : Below w.heap.size w wz) : SvAt w K D g st name by_ T 0 wz g st :=
  ⟨((h.later hb).wide (fun b hb => Or.inl hb) (fun b hb' => by rcases hb' with h1 | h1; exact Nat.lt_of_lt_of_le (h.own.2.2.2.2.2 b h1) hb.size; exact h1.2)), Nat.le_refl _, Kp.of_below hb, Nat.le_refl _, Nat.le_refl _, fun _ h => h⟩
theorem SvAt.later (h : SvAt w K D g st name by_ T 0 wz gk sk) (hb : Below wz.heap.size wz w') : SvAt w K D g st name by_ T 0 w' gk sk := by
  refine ⟨?_, h.nn, h.kp.trans (Kp.of_below hb), h.p, h.s, h.q⟩
  exact (h.d.later hb).wide (fun b hb' => by rcases hb' with h1 | h1; exact Or.inl h1; exact Or.inr ⟨h1.1, Nat.lt_of_lt_of_le h1.2 hb.size⟩) (fun b hb' => by
    rcases hb' with h1 | h1
    · exact Nat.lt_of_lt_of_le (h.d.own.2.2.2.2.2 b (Or.inl h1)) hb.size
    · exact h1.2)
theorem live_lt (h : DW wz K D gk sk) {c : Nat} (hc : sk.live c) : c < wz.heap.size := h.own.2.2.2.2.2 c (h.own.2.2.2.2.1 c hc)
end
end Go.Proofs.YtpcmmejlmhbcdaaGreat.Fi

namespace Go.Proofs.YtpcmmejlmhbcdaaGreat.Fi
open Go.RowKit Dk

section
variable {w : World} {K : Nat → Prop} {D : Nat} {g : Gh} {st : St} {name by_ T : ByteArray} {wz w' : World} {gk g' : Gh} {sk : St}
def StepQ (w : World) (K : Nat → Prop) (D : Nat) (g : Gh) (st : St) (name by_ T : ByteArray) (k : Nat) (e : Ending) (w' : World) : Prop :=
  ∃ E : Nat, e = .returned (.int .i64 (E : Int)) ∧ (E = 0 → ∃ gk sk, SvAt w K D g st name by_ T (k + 1) w' gk sk) ∧ (E ≠ 0 → SvR w K D g st name by_ T E w')
theorem kn2 (h : DW w' (Kn (Kn K w wz) wz w') D g' sk) (h1 : w.heap.size ≤ wz.heap.size) (h2 : wz.heap.size ≤ w'.heap.size) : DW w' (Kn K w w') D g' sk := DW.andKn h1 h h2
theorem kn1 (h : DW w' (Kn K w wz) D g' sk) (h1 : wz.heap.size ≤ w'.heap.size) : DW w' (Kn K w w') D g' sk :=
  h.wide (fun b hb => by rcases hb with hb | hb; exact Or.inl hb; exact Or.inr ⟨hb.1, Nat.lt_of_lt_of_le hb.2 h1⟩) (fun b hb => by
    rcases hb with hb | hb
    · exact h.own.2.2.2.2.2 b (Or.inl hb)
    · exact hb.2)
theorem SvAt.write (h : SvAt w K D g st name by_ T 0 wz gk sk) (hby : by_.size ≤ 1000000000) (hT : T.size ≤ 100000) (hfew : g.nn + 10 ≤ 900000 ∧ st.P.length + 10 ≤ 1000000 ∧ st.steps + 10 ≤ 1000000000) :
    Calls Tryz.prog 70 #[.pointer (some ⟨D, 0, none⟩), .string by_, .string T] wz (StepQ w K D g st name by_ T 0) := by
  have h1 := h.nn
  have h2 := h.p
  have h3 := h.s
  refine (write_any h.d (by omega) by_ T hby hT (by omega)).mono fun e w' hq => ?_
  obtain ⟨he, ⟨nf, g', hnf, hd, hg⟩, hkp⟩ := hq
  have hl : ¬ sk.live nf := fun hc => by have := live_lt h.d hc; omega
  have hd' := kn2 hd h.kp.size hkp.size
  have hp := writeS_P sk by_ T nf
  have hs := writeS_s sk by_ T nf
  refine ⟨_, he, fun h0 => ⟨g', _, hd', by omega, h.kp.andKn hkp, by omega, by omega, fun r hr => h.q r ⟨nf, hl, ?_⟩⟩, fun h0 => ⟨g', _, hd', by omega, h.kp.andKn hkp, by omega, by omega, h.q _ ⟨nf, hl, ?_⟩⟩⟩
  · rw [if_pos h0]; exact hr
  · rw [if_neg h0]
theorem SvAt.sync (h : SvAt w K D g st name by_ T 1 wz gk sk) (hby : by_.size ≤ 1000000000) (hfew : g.nn + 10 ≤ 900000 ∧ st.P.length + 10 ≤ 1000000 ∧ st.steps + 10 ≤ 1000000000) :
    Calls Tryz.prog 72 #[.pointer (some ⟨D, 0, none⟩), .string by_] wz (StepQ w K D g st name by_ T 1) := by
  have h1 := h.nn
  have h2 := h.p
  have h3 := h.s
  refine (sync_any h.d (by omega) by_ hby).mono fun e w' hq => ?_
  obtain ⟨he, hd, hkp⟩ := hq
  have hd' := kn1 hd hkp.size
  obtain ⟨hs, hp⟩ := syncS_s sk by_
  refine ⟨_, he, fun h0 => ⟨gk, _, hd', by omega, h.kp.andKn hkp, by rw [hp]; omega, by omega, fun r hr => h.q r ?_⟩, fun h0 => ⟨gk, _, hd', by omega, h.kp.andKn hkp, by rw [hp]; omega, by omega, h.q _ ?_⟩⟩
  · show Sv1 name by_ sk r
    unfold Sv1
    rw [if_pos h0]; exact hr
  · show Sv1 name by_ sk _
    unfold Sv1
    rw [if_neg h0]
theorem SvAt.rename (h : SvAt w K D g st name by_ T 2 wz gk sk) (hby : by_.size ≤ 1000000000) (hn : name.size ≤ 1000000000) (hfew : g.nn + 10 ≤ 900000 ∧ st.P.length + 10 ≤ 1000000 ∧ st.steps + 10 ≤ 1000000000) :
    Calls Tryz.prog 73 #[.pointer (some ⟨D, 0, none⟩), .string by_, .string name] wz (StepQ w K D g st name by_ T 2) := by
  have h1 := h.nn
  have h2 := h.p
  have h3 := h.s
  refine (rename_any h.d (by omega) by_ name hby hn (by omega)).mono fun e w' hq => ?_
  obtain ⟨he, ⟨ls, g', hls, hd, hg⟩, hkp⟩ := hq
  have hd' := kn2 hd h.kp.size hkp.size
  obtain ⟨hs, hp⟩ := renS_s sk by_ name ls
  refine ⟨_, he, fun h0 => ⟨g', _, hd', by omega, h.kp.andKn hkp, by omega, by omega, fun r hr => h.q r ⟨ls, hls, ?_⟩⟩, fun h0 => ⟨g', _, hd', by omega, h.kp.andKn hkp, by omega, by omega, h.q _ ⟨ls, hls, ?_⟩⟩⟩
  · rw [if_pos h0]; exact hr
  · rw [if_neg h0]
theorem SvAt.dir (h : SvAt w K D g st name by_ T 3 wz gk sk) (hfew : g.nn + 10 ≤ 900000 ∧ st.P.length + 10 ≤ 1000000 ∧ st.steps + 10 ≤ 1000000000) :
    Calls Tryz.prog 74 #[.pointer (some ⟨D, 0, none⟩)] wz fun e w' => ∃ E : Nat, e = .returned (.int .i64 (E : Int)) ∧ SvR w K D g st name by_ T E w' := by
  have h1 := h.nn
  have h2 := h.p
  have h3 := h.s
  refine (sd_any h.d (by omega)).mono fun e w' hq => ?_
  obtain ⟨he, ⟨g', hd, hg⟩, hkp⟩ := hq
  have hd' := kn2 hd h.kp.size hkp.size
  obtain ⟨hs, hp⟩ := sdS_s sk
  exact ⟨_, he, g', _, hd', by omega, h.kp.andKn hkp, by omega, by omega, h.q _ rfl⟩
end

def scopeIn : Code → Option Code
  | .scope c => some c
  | .seq a b => match scopeIn a with
    | some c => some c
    | none => scopeIn b
  | .block _ c => scopeIn c
  | _ => none
noncomputable def labC (l : Nat) : Code := (((Tryz.f46.body.bind scopeIn).bind fun c => findLabel c l).getD .skip)
noncomputable def labT (l : Nat) : Code := match labC l with
  | .seq _ c => c
  | c => c
/-- A frame of Save. -/
def fr (D : Nat) (name by_ t : ByteArray) (ev k : Int) (u : Nat → Value) : Act :=
  ⟨List.toArray [.pointer (some ⟨D, 0, none⟩), .string name, .string by_, .string t, u 4, u 5, u 6, u 7, .int .i64 0, .int .i64 ev, .int .i64 k, u 11, u 12, u 13, u 14, u 15, u 16, u 17, u 18, u 19, u 20, u 21, u 22, u 23, u 24, u 25, u 26, u 27, u 28, u 29, u 30, u 31, u 32, u 33, u 34, u 35, u 36, u 37, u 38, u 39, u 40, u 41, u 42, u 43, u 44, u 45, u 46], []⟩
def J0 (w : World) (K : Nat → Prop) (D : Nat) (g : Gh) (st : St) (name by_ t T : ByteArray) (n : Nat) (a : Act) (wz : World) : Prop :=
  ∃ (u : Nat → Value) (k : Nat), k ≤ 3 ∧ n = 10 - k ∧ a = fr D name by_ t 0 (k : Int) u ∧ Hid (∃ gk sk, SvAt w K D g st name by_ T k wz gk sk)
def J1 (w : World) (K : Nat → Prop) (D : Nat) (g : Gh) (st : St) (name by_ t T : ByteArray) (n : Nat) (a : Act) (wz : World) : Prop :=
  ∃ (u : Nat → Value) (k E : Nat), n = 0 ∧ a = fr D name by_ t (E : Int) (k : Int) u ∧ Hid (SvR w K D g st name by_ T E wz)
def JR (w : World) (K : Nat → Prop) (D : Nat) (g : Gh) (st : St) (name by_ t T : ByteArray) (l n : Nat) (a : Act) (wz : World) : Prop :=
  (l = 0 ∧ J0 w K D g st name by_ t T n a wz) ∨ (l = 1 ∧ J1 w K D g st name by_ t T n a wz)
def SvQ (w : World) (K : Nat → Prop) (D : Nat) (g : Gh) (st : St) (name by_ T : ByteArray) (e : Ending) (w' : World) : Prop := ∃ E : Nat, e = .returned (.int .i64 (E : Int)) ∧ SvR w K D g st name by_ T E w'
section
variable {w : World} {K : Nat → Prop} {D : Nat} {g : Gh} {st : St} {name by_ t T : ByteArray}
set_option maxRecDepth 1000000 in
set_option maxHeartbeats 2000000 in
theorem pass_1t (n : Nat) (a : Act) (wz : World) (hJ : J1 w K D g st name by_ t T n a wz) : Code.wp Tryz.prog (labT 1) (Exit.jumps (JR w K D g st name by_ t T) n (bodyPost Tryz.prog Tryz.f46 (SvQ w K D g st name by_ T))) a wz := by
  obtain ⟨u, k, E, hn, rfl, HR⟩ := hJ
  unfold fr
  conv => arg 2; whnf
  go_wp2
  simp only [Exit.jumps]
  refine bodyPost_ret (v := .int .i64 (E : Int)) (by simp [results, Tryz.results46, go_sem]) rfl ⟨E, rfl, HR.out⟩
end
end Go.Proofs.YtpcmmejlmhbcdaaGreat.Fi

namespace Go.Proofs.YtpcmmejlmhbcdaaGreat.Fi
open Go.RowKit Dk
section
variable {w : World} {K : Nat → Prop} {D : Nat} {g : Gh} {st : St} {name by_ t T : ByteArray}
/-- By a goto to the end; to the next step. -/
def Go1 (w : World) (K : Nat → Prop) (D : Nat) (g : Gh) (st : St) (name by_ t T : ByteArray) (k n : Nat) : Prop := ∀ (a' : Act) (w' : World) (E : Nat), E ≠ 0 → a' = fr D name by_ t (E : Int) (k : Int) (fun i => a'.tmps.getD i undef) → SvR w K D g st name by_ T E w' → ∃ m, m < n ∧ JR w K D g st name by_ t T 1 m a' w'
def Go0 (w : World) (K : Nat → Prop) (D : Nat) (g : Gh) (st : St) (name by_ t T : ByteArray) (k n : Nat) : Prop := ∀ (a' : Act) (w' : World) (E : Nat), E = 0 → a' = fr D name by_ t 0 ((k + 1 : Nat) : Int) (fun i => a'.tmps.getD i undef) → (∃ gk sk, SvAt w K D g st name by_ T (k + 1) w' gk sk) → ∃ m, m < n ∧ JR w K D g st name by_ t T 0 m a' w'
set_option maxRecDepth 1000000 in
set_option maxHeartbeats 4000000 in
theorem pass_k0 (K7 : ∀ w, Calls Tryz.prog 71 #[.string t] w fun e w' => e = .returned (.string T) ∧ Below w.heap.size w w') (hby : by_.size ≤ 1000000000) (hT : T.size ≤ 100000) (hfew : g.nn + 10 ≤ 900000 ∧ st.P.length + 10 ≤ 1000000 ∧ st.steps + 10 ≤ 1000000000) (n : Nat) (u : Nat → Value) (wz : World) (G1 : Hid (Go1 w K D g st name by_ t T 0 n)) (G0 : Hid (Go0 w K D g st name by_ t T 0 n)) (HS : Hid (∃ gk sk, SvAt w K D g st name by_ T 0 wz gk sk)) :
    Code.wp Tryz.prog (labT 0) (Exit.jumps (JR w K D g st name by_ t T) n (bodyPost Tryz.prog Tryz.f46 (SvQ w K D g st name by_ T))) (fr D name by_ t 0 (0 : Nat) u) wz := by
  have H7 := Lib.hid K7
  have K39 : Hid (∀ w7, Below wz.heap.size wz w7 → Calls Tryz.prog 70 #[.pointer (some ⟨D, 0, none⟩), .string by_, .string T] w7 (StepQ w K D g st name by_ T 0)) := Lib.hid (fun w7 hb => by
    obtain ⟨gk, sk, h⟩ := HS.out
    exact (h.later hb).write hby hT hfew)
  unfold fr
  clear HS K7 hby hT hfew
  conv => arg 2; whnf
  go_wp2_with (first
    | (go_at_call 71; ((with_reducible refine (H7.out _).mono ?_); rintro e w7 ⟨rfl, hb7⟩; have HB7 := Lib.hid hb7; clear hb7))
    | (go_at_call 70; ((with_reducible refine (K39.out _ HB7.out).mono ?_); rintro e w8 ⟨E, rfl, h0, h1⟩; have HE := Lib.hid (And.intro h0 h1); clear h0 h1)))
  · rename_i h
    have hE : E ≠ 0 := by simpa using h
    go_step3
    exact G1.out _ _ E hE rfl (HE.out.2 hE)
  · have hE : E = 0 := by
      have hh : ((E : Int) != 0) = false := by assumption
      simpa using hh
    subst hE
    go_step3
    exact G0.out _ _ 0 rfl rfl (HE.out.1 rfl)
set_option maxRecDepth 1000000 in
set_option maxHeartbeats 4000000 in
theorem pass_k1 (hby : by_.size ≤ 1000000000) (hfew : g.nn + 10 ≤ 900000 ∧ st.P.length + 10 ≤ 1000000 ∧ st.steps + 10 ≤ 1000000000) (n : Nat) (u : Nat → Value) (wz : World) (G1 : Hid (Go1 w K D g st name by_ t T 1 n)) (G0 : Hid (Go0 w K D g st name by_ t T 1 n)) (HS : Hid (∃ gk sk, SvAt w K D g st name by_ T 1 wz gk sk)) :
    Code.wp Tryz.prog (labT 0) (Exit.jumps (JR w K D g st name by_ t T) n (bodyPost Tryz.prog Tryz.f46 (SvQ w K D g st name by_ T))) (fr D name by_ t 0 (1 : Nat) u) wz := by
  have KC : Hid (Calls Tryz.prog 72 #[.pointer (some ⟨D, 0, none⟩), .string by_] wz (StepQ w K D g st name by_ T 1)) := Lib.hid (by
    obtain ⟨gk, sk, h⟩ := HS.out
    exact h.sync hby hfew)
  unfold fr
  clear HS hby hfew
  conv => arg 2; whnf
  go_wp2_with (first
    | (go_at_call 72; ((with_reducible refine (KC.out).mono ?_); rintro e w8 ⟨E, rfl, h0, h1⟩; have HE := Lib.hid (And.intro h0 h1); clear h0 h1)))
  · rename_i h
    have hE : E ≠ 0 := by simpa using h
    go_step3
    exact G1.out _ _ E hE rfl (HE.out.2 hE)
  · have hE : E = 0 := by
      have hh : ((E : Int) != 0) = false := by assumption
      simpa using hh
    subst hE
    go_step3
    exact G0.out _ _ 0 rfl rfl (HE.out.1 rfl)
set_option maxRecDepth 1000000 in
set_option maxHeartbeats 4000000 in
theorem pass_k2 (hby : by_.size ≤ 1000000000) (hnm : name.size ≤ 1000000000) (hfew : g.nn + 10 ≤ 900000 ∧ st.P.length + 10 ≤ 1000000 ∧ st.steps + 10 ≤ 1000000000) (n : Nat) (u : Nat → Value) (wz : World) (G1 : Hid (Go1 w K D g st name by_ t T 2 n)) (G0 : Hid (Go0 w K D g st name by_ t T 2 n)) (HS : Hid (∃ gk sk, SvAt w K D g st name by_ T 2 wz gk sk)) :
    Code.wp Tryz.prog (labT 0) (Exit.jumps (JR w K D g st name by_ t T) n (bodyPost Tryz.prog Tryz.f46 (SvQ w K D g st name by_ T))) (fr D name by_ t 0 (2 : Nat) u) wz := by
  have KC : Hid (Calls Tryz.prog 73 #[.pointer (some ⟨D, 0, none⟩), .string by_, .string name] wz (StepQ w K D g st name by_ T 2)) := Lib.hid (by
    obtain ⟨gk, sk, h⟩ := HS.out
    exact h.rename hby hnm hfew)
  unfold fr
  clear HS hby hnm hfew
  conv => arg 2; whnf
  go_wp2_with (first
    | (go_at_call 73; ((with_reducible refine (KC.out).mono ?_); rintro e w8 ⟨E, rfl, h0, h1⟩; have HE := Lib.hid (And.intro h0 h1); clear h0 h1)))
  · rename_i h
    have hE : E ≠ 0 := by simpa using h
    go_step3
    exact G1.out _ _ E hE rfl (HE.out.2 hE)
  · have hE : E = 0 := by
      have hh : ((E : Int) != 0) = false := by assumption
      simpa using hh
    subst hE
    go_step3
    exact G0.out _ _ 0 rfl rfl (HE.out.1 rfl)
set_option maxRecDepth 1000000 in
set_option maxHeartbeats 4000000 in
theorem pass_k3 (hfew : g.nn + 10 ≤ 900000 ∧ st.P.length + 10 ≤ 1000000 ∧ st.steps + 10 ≤ 1000000000) (n : Nat) (u : Nat → Value) (wz : World) (G1 : Hid (Go1 w K D g st name by_ t T 3 n)) (HS : Hid (∃ gk sk, SvAt w K D g st name by_ T 3 wz gk sk)) :
    Code.wp Tryz.prog (labT 0) (Exit.jumps (JR w K D g st name by_ t T) n (bodyPost Tryz.prog Tryz.f46 (SvQ w K D g st name by_ T))) (fr D name by_ t 0 (3 : Nat) u) wz := by
  have KC : Hid (Calls Tryz.prog 74 #[.pointer (some ⟨D, 0, none⟩)] wz fun e w' => ∃ E : Nat, e = .returned (.int .i64 (E : Int)) ∧ SvR w K D g st name by_ T E w') := Lib.hid (by
    obtain ⟨gk, sk, h⟩ := HS.out
    exact h.dir hfew)
  unfold fr
  clear HS hfew
  conv => arg 2; whnf
  go_wp2_with (first
    | (go_at_call 74; ((with_reducible refine (KC.out).mono ?_); rintro e w8 ⟨E, rfl, h1⟩; have HE := Lib.hid h1; clear h1)))
  · rename_i h
    have hE : E ≠ 0 := by simpa using h
    go_step3
    exact G1.out _ _ E hE rfl HE.out
  · go_step3
    simp only [Exit.then]
    apply_assumption
    go_wp2
    simp only [Exit.jumps]
    exact bodyPost_ret (v := .int .i64 (E : Int)) (by simp [results, Tryz.results46, go_sem]) rfl ⟨E, rfl, HE.out⟩
theorem pass_0t (K7 : ∀ w, Calls Tryz.prog 71 #[.string t] w fun e w' => e = .returned (.string T) ∧ Below w.heap.size w w') (hby : by_.size ≤ 1000000000) (hnm : name.size ≤ 1000000000) (hT : T.size ≤ 100000) (hfew : g.nn + 10 ≤ 900000 ∧ st.P.length + 10 ≤ 1000000 ∧ st.steps + 10 ≤ 1000000000)
    (n : Nat) (a : Act) (wz : World) (hJ : J0 w K D g st name by_ t T n a wz) : Code.wp Tryz.prog (labT 0) (Exit.jumps (JR w K D g st name by_ t T) n (bodyPost Tryz.prog Tryz.f46 (SvQ w K D g st name by_ T))) a wz := by
  obtain ⟨u, k, hk, hn, rfl, HS⟩ := hJ
  have go1 : Hid (Go1 w K D g st name by_ t T k n) := Lib.hid (fun a' w' E hE ha hr => ⟨0, by omega, Or.inr ⟨rfl, _, k, E, rfl, ha, Lib.hid hr⟩⟩)
  have go0 : k ≤ 2 → Hid (Go0 w K D g st name by_ t T k n) := fun hk2 => Lib.hid (fun a' w' E hE ha hr => ⟨10 - (k + 1), by omega, Or.inl ⟨rfl, _, k + 1, by omega, rfl, ha, Lib.hid hr⟩⟩)
  obtain rfl | rfl | rfl | rfl : k = 0 ∨ k = 1 ∨ k = 2 ∨ k = 3 := by omega
  · exact pass_k0 K7 hby hT hfew n u wz go1 (go0 (by omega)) HS
  · exact pass_k1 hby hfew n u wz go1 (go0 (by omega)) HS
  · exact pass_k2 hby hnm hfew n u wz go1 (go0 (by omega)) HS
  · exact pass_k3 hfew n u wz go1 HS
set_option maxRecDepth 1000000 in
theorem pass_1 (n : Nat) (a : Act) (wz : World) (hJ : J1 w K D g st name by_ t T n a wz) : Code.wp Tryz.prog (labC 1) (Exit.jumps (JR w K D g st name by_ t T) n (bodyPost Tryz.prog Tryz.f46 (SvQ w K D g st name by_ T))) a wz := by
  have h := pass_1t n a wz hJ
  conv => arg 2; whnf
  apply wp_seq_k
  intro K hK
  apply wp_skip
  simp only [Exit.then]
  apply hK
  exact h
set_option maxRecDepth 1000000 in
theorem pass_0 (K7 : ∀ w, Calls Tryz.prog 71 #[.string t] w fun e w' => e = .returned (.string T) ∧ Below w.heap.size w w') (hby : by_.size ≤ 1000000000) (hnm : name.size ≤ 1000000000) (hT : T.size ≤ 100000) (hfew : g.nn + 10 ≤ 900000 ∧ st.P.length + 10 ≤ 1000000 ∧ st.steps + 10 ≤ 1000000000)
    (n : Nat) (a : Act) (wz : World) (hJ : J0 w K D g st name by_ t T n a wz) : Code.wp Tryz.prog (labC 0) (Exit.jumps (JR w K D g st name by_ t T) n (bodyPost Tryz.prog Tryz.f46 (SvQ w K D g st name by_ T))) a wz := by
  have h := pass_0t K7 hby hnm hT hfew n a wz hJ
  conv => arg 2; whnf
  apply wp_seq_k
  intro K hK
  apply wp_skip
  simp only [Exit.then]
  apply hK
  exact h
set_option maxRecDepth 1000000 in
set_option maxHeartbeats 4000000 in
theorem save_core (K7 : ∀ w, Calls Tryz.prog 71 #[.string t] w fun e w' => e = .returned (.string T) ∧ Below w.heap.size w w') (hby : by_.size ≤ 1000000000) (hnm : name.size ≤ 1000000000) (hT : T.size ≤ 100000) (hfew : g.nn + 10 ≤ 900000 ∧ st.P.length + 10 ≤ 1000000 ∧ st.steps + 10 ≤ 1000000000)
    (ht : t.size ≤ 16384) (hne : name ≠ by_) (h : DW w K D g st) :
    Calls Tryz.prog 46 #[.pointer (some ⟨D, 0, none⟩), .string name, .string by_, .string t] w (SvQ w K D g st name by_ T) := by
  have HP : Hid (∀ l n a wz, JR w K D g st name by_ t T l n a wz → ∃ rest, (Tryz.f46.body.bind scopeIn).bind (fun c => findLabel c l) = some rest ∧ rest.wp Tryz.prog (Exit.jumps (JR w K D g st name by_ t T) n (bodyPost Tryz.prog Tryz.f46 (SvQ w K D g st name by_ T))) a wz) := Lib.hid (fun l n a wz hJ => by
    rcases hJ with ⟨rfl, hj⟩ | ⟨rfl, hj⟩
    · exact ⟨labC 0, rfl, pass_0 K7 hby hnm hT hfew n a wz hj⟩
    · exact ⟨labC 1, rfl, pass_1 n a wz hj⟩)
  have HF : Hid (∀ (a' : Act), a' = fr D name by_ t 0 (0 : Nat) (fun i => a'.tmps.getD i undef) → Code.wp Tryz.prog (labT 0) (Exit.jumps (JR w K D g st name by_ t T) 10 (bodyPost Tryz.prog Tryz.f46 (SvQ w K D g st name by_ T))) a' w) := Lib.hid (fun a' ha => by
    have := pass_0t K7 hby hnm hT hfew 10 a' w ⟨_, 0, by omega, rfl, ha, Lib.hid ⟨g, st, SvAt.start h (Below.refl _ _)⟩⟩
    exact this)
  have h1 : ¬ (t.size : Int) > 16384 := by omega
  have h2 : (name.toList == by_.toList) = false := by
    rw [beq_eq_false_iff_ne]
    intro e
    rw [Lib.toList_data, Lib.toList_data] at e
    exact hne (ByteArray.ext (Array.ext' e))
  clear K7 hby hnm hT hfew ht hne h
  go_enter Tryz.func46, Tryz.ntmps46
  go_wp2
  refine wp_scope_labels (fun l n a wz => JR w K D g st name by_ t T l n a wz) 10 ?_ (fun l n a wz h => HP.out l n a wz h)
  go_wp2
  go_step3
  simp only [Exit.then]
  apply_assumption
  refine HF.out _ ?_
  rfl
end
/-- A sealed text. -/
def sealB (t : ByteArray) : ByteArray := W.str (sealL t.data.toList)
theorem sealB_size (t : ByteArray) (h : t.size ≤ 100000) : (sealB t).size ≤ t.size + 21 := by
  unfold sealB
  rw [W.size_str, sealL_len]
  have hl : t.data.toList.length = t.size := rfl
  have := (preL_len t.data.toList (by omega)).1
  omega
theorem save_any {w : World} {K : Nat → Prop} {D : Nat} {g : Gh} {st : St} (h : DW w K D g st) (name by_ t : ByteArray) (hby : by_.size ≤ 1000000000) (hnm : name.size ≤ 1000000000) (hfew : g.nn + 10 ≤ 900000 ∧ st.P.length + 10 ≤ 1000000 ∧ st.steps + 10 ≤ 1000000000) (ht : t.size ≤ 16384) (hne : name ≠ by_) :
    Calls Tryz.prog 46 #[.pointer (some ⟨D, 0, none⟩), .string name, .string by_, .string t] w (SvQ w K D g st name by_ (sealB t)) :=
  save_core (fun w => seal_any t (by omega) w) hby hnm (by have := sealB_size t (by omega); omega) hfew ht hne h
end Go.Proofs.YtpcmmejlmhbcdaaGreat.Fi

namespace Go.Proofs.YtpcmmejlmhbcdaaGreat.Fi
open Go.RowKit Dk

/-- What Load answers. -/
def ldV (st : St) (s : ByteArray) : Value := if findE st s = 0 then opV (readS st s) else .tuple #[.string ⟨#[]⟩, .int .i64 (findE st s : Nat)]
set_option maxRecDepth 1000000 in
theorem load_any {w : World} {K : Nat → Prop} {D : Nat} {g : Gh} {st : St} (h : DW w K D g st) (s : ByteArray) (hs : s.size ≤ 1000000000) :
    Calls Tryz.prog 51 #[.pointer (some ⟨D, 0, none⟩), .string s] w fun e w' => e = .returned (ldV st s) ∧ Below w.heap.size w w' := by
  have K45 := Lib.hid (read_any h s hs)
  unfold ldV
  by_cases h0 : findE st s = 0
  · have hz : (readS st s).size ≤ 100000 := by
      unfold readS
      rw [if_pos h0]
      exact (h.size _ (h.filN.live (findE_zero h0).2)).1
    have K8 := Lib.hid (fun w => open_any (readS st s) hz w)
    rw [h0] at K45 ⊢
    rw [if_pos rfl]
    have ho : ∃ (t : ByteArray) (E : Nat), opV (readS st s) = .tuple #[.string t, .int .i64 (E : Int)] := by
      unfold opV
      split
      · exact ⟨_, 0, rfl⟩
      · exact ⟨_, 23, rfl⟩
    obtain ⟨t, E, hE⟩ := ho
    rw [hE] at K8 ⊢
    generalize readS st s = x at *
    clear h h0 hz hE
    go_enter Tryz.func51, Tryz.ntmps51
    go_wp2_with (first
      | (go_at_call 79; ((with_reducible refine (K45.out).mono ?_); rintro e w1 ⟨rfl, hb1⟩))
      | (go_at_call 80; ((with_reducible refine (K8.out _).mono ?_); rintro e w2 ⟨rfl, hb2⟩)))
    go_ret2
    exact ⟨rfl, hb1.trans (hb2.mono hb1.size)⟩
  · rw [if_neg h0]
    have hx : ((findE st s : Nat) : Int) ≠ 0 := by omega
    have hb : (((findE st s : Nat) : Int) == 0) = false := by rw [beq_eq_false_iff_ne]; exact hx
    generalize readS st s = x at *
    generalize findE st s = E at *
    clear h
    go_enter Tryz.func51, Tryz.ntmps51
    go_wp2_with (first
      | (go_at_call 79; ((with_reducible refine (K45.out).mono ?_); rintro e w1 ⟨rfl, hb1⟩)))
    go_ret2
    exact ⟨rfl, hb1⟩

theorem rmS_s (st : St) (s : ByteArray) : (rmS st s).steps ≤ st.steps + 1 ∧ (rmS st s).P.length ≤ st.P.length + 1 := by
  have h := stepS_s st
  have hp := (stepS_N st).2.2.2.1
  unfold rmS onS
  split
  · split
    · refine ⟨h, ?_⟩
      show ((stepS st).P ++ [_]).length ≤ _
      rw [hp, List.length_append]; simp
    · refine ⟨Nat.le_succ _, ?_⟩
      show (st.P ++ [_]).length ≤ _
      rw [List.length_append]; simp
  · split
    · refine ⟨h, ?_⟩
      rw [hp]; omega
    · omega
/-- What a Clean leaves: its answer, the disk. -/
noncomputable def clR (st : St) (gone : Bool) : List ByteArray → Nat × St
  | [] => if gone = true then (sdE st, sdS st) else (0, st)
  | s :: ss => if onE st s = 0 then clR (rmS st s) true ss else if onE st s = 12 then clR (rmS st s) gone ss else (onE st s, rmS st s)
theorem clR_nil (st : St) (gone : Bool) : clR st gone [] = if gone = true then (sdE st, sdS st) else (0, st) := rfl
theorem clR_cons (st : St) (gone : Bool) (s : ByteArray) (ss : List ByteArray) : clR st gone (s :: ss) = if onE st s = 0 then clR (rmS st s) true ss else if onE st s = 12 then clR (rmS st s) gone ss else (onE st s, rmS st s) := rfl
def ClQ (st : St) (ss : List ByteArray) (K : Nat → Prop) (D : Nat) (g : Gh) (w : World) (e : Ending) (w' : World) : Prop :=
  e = .returned (.int .i64 ((clR st false ss).1 : Nat)) ∧ (∃ g', DW w' (Kn K w w') D g' (clR st false ss).2 ∧ g'.nn ≤ g.nn + ss.length) ∧ Kp K w w'
/-- What holds of the disk in a Clean. -/
structure ClAt (w : World) (K : Nat → Prop) (D : Nat) (g : Gh) (st : St) (ss : List ByteArray) (j : Nat) (gone : Bool) (wz : World) (gk : Gh) (sk : St) : Prop where
  d : DW wz (Kn K w wz) D gk sk
  nn : gk.nn ≤ g.nn + j
  kp : Kp K w wz
  p : sk.P.length ≤ st.P.length + j
  s : sk.steps ≤ st.steps + j
  q : clR sk gone (ss.drop j) = clR st false ss
section
variable {w : World} {K : Nat → Prop} {D : Nat} {g : Gh} {st : St} {ss : List ByteArray} {wz : World} {gk : Gh} {sk : St}
theorem ClAt.start (h : DW w K D g st) : ClAt w K D g st ss 0 false w g st :=
  ⟨h.kn, Nat.le_refl _, Kp.refl _ _, Nat.le_refl _, Nat.le_refl _, rfl⟩
theorem ClAt.remove {j : Nat} {gone : Bool} (h : ClAt w K D g st ss j gone wz gk sk) (hj : j < ss.length) (hs : (ss[j]).size ≤ 1000000000) (hfew : g.nn + ss.length ≤ 800000 ∧ st.P.length + ss.length ≤ 900000 ∧ st.steps + ss.length ≤ 900000000) :
    Calls Tryz.prog 81 #[.pointer (some ⟨D, 0, none⟩), .string ss[j]] wz fun e w' => ∃ E : Nat, e = .returned (.int .i64 (E : Int)) ∧
      (E = 0 → ∃ gk sk, ClAt w K D g st ss (j + 1) true w' gk sk) ∧ (E = 12 → ∃ gk sk, ClAt w K D g st ss (j + 1) gone w' gk sk) ∧ (E ≠ 0 → E ≠ 12 → ClQ st ss K D g w (.returned (.int .i64 (E : Int))) w') ∧ Kp (Kn K w wz) wz w' := by
  have h1 := h.nn
  have h2 := h.p
  have h3 := h.s
  refine (remove_any h.d (by omega) ss[j] hs (by omega)).mono fun e w' hq => ?_
  obtain ⟨he, ⟨g', hd, hg⟩, hkp⟩ := hq
  have hd' := kn2 hd h.kp.size hkp.size
  obtain ⟨hst, hp⟩ := rmS_s sk ss[j]
  have hq := h.q
  rw [List.drop_eq_getElem_cons hj, clR_cons] at hq
  refine ⟨_, he, fun h0 => ⟨g', _, hd', by omega, h.kp.andKn hkp, by omega, by omega, ?_⟩, fun h12 => ⟨g', _, hd', by omega, h.kp.andKn hkp, by omega, by omega, ?_⟩, fun h0 h12 => ?_, hkp⟩
  · rw [if_pos h0] at hq; exact hq
  · rw [if_neg (by rw [h12]; omega), if_pos h12] at hq; exact hq
  · rw [if_neg h0, if_neg h12] at hq
    refine ⟨by rw [← hq], ⟨g', by rw [← hq]; exact hd', by omega⟩, h.kp.andKn hkp⟩
theorem ClAt.done {gone : Bool} (h : ClAt w K D g st ss ss.length gone wz gk sk) (hg : gone = false) : ClQ st ss K D g w (.returned (.int .i64 0)) wz := by
  have hq := h.q
  rw [List.drop_length, clR_nil] at hq
  rw [if_neg (by rw [hg]; simp)] at hq
  exact ⟨by rw [← hq]; rfl, ⟨gk, by rw [← hq]; exact h.d, h.nn⟩, h.kp⟩
theorem ClAt.dir {gone : Bool} (h : ClAt w K D g st ss ss.length gone wz gk sk) (hg : gone = true) (hfew : g.nn + ss.length ≤ 800000 ∧ st.P.length + ss.length ≤ 900000 ∧ st.steps + ss.length ≤ 900000000) :
    Calls Tryz.prog 74 #[.pointer (some ⟨D, 0, none⟩)] wz fun e w' => ClQ st ss K D g w e w' ∧ ∃ E : Nat, e = .returned (.int .i64 (E : Int)) := by
  have h1 := h.nn
  have h3 := h.s
  have hq := h.q
  rw [List.drop_length, clR_nil] at hq
  rw [if_pos hg] at hq
  refine (sd_any h.d (by omega)).mono fun e w' hq' => ?_
  obtain ⟨he, ⟨g', hd, hg'⟩, hkp⟩ := hq'
  have hd' := kn2 hd h.kp.size hkp.size
  exact ⟨⟨by rw [he, ← hq], ⟨g', by rw [← hq]; exact hd', by omega⟩, h.kp.andKn hkp⟩, _, he⟩
set_option maxRecDepth 1000000 in
set_option maxHeartbeats 4000000 in
theorem clean_any (h : DW w K D g st) (b off cap : Nat) (ob : Option Addr) (ho : 0 < ss.length → ob = some ⟨b, off, none⟩ ∧ b < w.heap.size ∧ ¬ K b) (hc : ∀ j (h : j < ss.length), w.cell? ⟨b, off + j, none⟩ = some (.string ss[j])) (hs : ∀ j (h : j < ss.length), (ss[j]).size ≤ 1000000000)
    (hfew : g.nn + ss.length ≤ 800000 ∧ st.P.length + ss.length ≤ 900000 ∧ st.steps + ss.length ≤ 900000000) :
    Calls Tryz.prog 52 #[.pointer (some ⟨D, 0, none⟩), .slice ob ss.length cap] w (ClQ st ss K D g w) := by
  obtain ⟨m, hm⟩ : ∃ m, m = ss.length := ⟨_, rfl⟩
  have HM := Lib.hid hm
  have HO := Lib.hid ho
  have HC := Lib.hid (And.intro hc hs)
  have HF := Lib.hid hfew
  have H := Lib.hid h
  have qm : (m : Int) ≤ 1000000 := by omega
  rw [← hm]
  clear hm ho hc hs hfew h
  go_enter Tryz.func52, Tryz.ntmps52
  go_wp2
  go_loopw [11, 5] (fun v gv wr => ∃ (j : Nat) (gone : Bool), j ≤ m ∧ v = .int .i64 (j : Int) ∧ gv = .bool gone ∧ Hid (∃ gk sk, ClAt w K D g st ss j gone wr gk sk)) (fun v _ _ => m - (intOf v).toNat)
  case atStart => exact ⟨0, false, by omega, rfl, rfl, Lib.hid ⟨g, st, ClAt.start H.out⟩⟩
  case round =>
    obtain ⟨j, gone, hj, rfl, rfl, HA⟩ := hrel
    by_cases hlt : j < m
    · have hjl : j < ss.length := by rw [← HM.out]; exact hlt
      obtain ⟨s, hs⟩ : ∃ s, s = ss[j] := ⟨_, rfl⟩
      obtain ⟨eo, hbl, hnk⟩ := HO.out (by omega)
      have hcell : wr.cell? ⟨b, off + j, none⟩ = some (.string s) := by
        obtain ⟨gk, sk, ha⟩ := HA.out
        rw [hs, ← HC.out.1 j hjl]
        exact ha.kp.cell (p := ⟨b, off + j, none⟩) hbl hnk
      have K35 : Hid (Calls Tryz.prog 81 #[.pointer (some ⟨D, 0, none⟩), .string s] wr fun e w' => ∃ E : Nat, e = .returned (.int .i64 (E : Int)) ∧ Hid ((E = 0 → ∃ gk sk, ClAt w K D g st ss (j + 1) true w' gk sk) ∧ (E = 12 → ∃ gk sk, ClAt w K D g st ss (j + 1) gone w' gk sk) ∧ (E ≠ 0 → E ≠ 12 → ClQ st ss K D g w (.returned (.int .i64 (E : Int))) w'))) := Lib.hid (by
        obtain ⟨gk, sk, ha⟩ := HA.out
        rw [hs]
        exact (ha.remove hjl (HC.out.2 j hjl) HF.out).mono fun e w' ⟨E, he, h1, h2, h3, _⟩ => ⟨E, he, Lib.hid ⟨h1, h2, h3⟩⟩)
      have q1 : (0 : Int) ≤ (j : Int) := by omega
      have q2 : (j : Int) < (m : Int) := by omega
      subst eo
      clear hs hbl hnk HA
      go_wp2_with (first
        | (go_at_call 81; ((with_reducible refine (K35.out).mono ?_); rintro e w8 ⟨E, rfl, HE⟩)))
      · exact ⟨⟨j + 1, true, by omega, by go_num, rfl, Lib.hid (HE.out.1 (by assumption))⟩, by simp [intOf]; omega⟩
      · exact ⟨⟨j + 1, true, by omega, by go_num, rfl, Lib.hid (HE.out.1 (by assumption))⟩, by simp [intOf]; omega⟩
      · have h1 : (((E : Int) != 0) = true ∧ ((E : Int) != 12) = true) := by assumption
        have e0 : E ≠ 0 := by have := h1.1; simpa using this
        have e1 : E ≠ 12 := fun e => by have := h1.2; rw [e] at this; simp at this
        go_ret
        exact HE.out.2.2 e0 e1
      · have h1 : (((E : Int) != 0) = false ∨ ((E : Int) != 12) = false) := by assumption
        have e0 : ¬ E = 0 := by assumption
        have e1 : E = 12 := by
          rcases h1 with h1 | h1
          · exact absurd (by simpa using h1) e0
          · have : (E : Int) = 12 := by simpa using h1
            omega
        have hgt : gone = true := by assumption
        have := HE.out.2.1 e1
        rw [hgt] at this
        exact ⟨⟨j + 1, true, by omega, by go_num, rfl, Lib.hid this⟩, by simp [intOf]; omega⟩
      · have h1 : (((E : Int) != 0) = false ∨ ((E : Int) != 12) = false) := by assumption
        have e0 : ¬ E = 0 := by assumption
        have e1 : E = 12 := by
          rcases h1 with h1 | h1
          · exact absurd (by simpa using h1) e0
          · have : (E : Int) = 12 := by simpa using h1
            omega
        have hgt : gone = false := by
          have : ¬ gone = true := by assumption
          simpa using this
        have := HE.out.2.1 e1
        rw [hgt] at this
        first
          | exact ⟨⟨j + 1, false, by omega, by go_num, rfl, Lib.hid this⟩, by simp [intOf]; omega⟩
          | exact ⟨⟨j + 1, false, by omega, by go_num, by simp [e0], Lib.hid this⟩, by simp [intOf]; omega⟩
    · have hjm : j = m := by omega
      subst hjm
      cases gone
      · go_wp2
        go_ret
        obtain ⟨gk, sk, ha⟩ := HA.out
        rw [HM.out] at ha
        exact ha.done rfl
      · have K36 : Hid (Calls Tryz.prog 74 #[.pointer (some ⟨D, 0, none⟩)] wr fun e w' => ∃ E : Nat, e = .returned (.int .i64 (E : Int)) ∧ Hid (ClQ st ss K D g w (.returned (.int .i64 (E : Int))) w')) := Lib.hid (by
          obtain ⟨gk, sk, ha⟩ := HA.out
          rw [HM.out] at ha
          exact (ha.dir rfl HF.out).mono fun e w' ⟨h1, E, he⟩ => ⟨E, he, Lib.hid (by rw [← he]; exact h1)⟩)
        go_wp2_with (first
          | (go_at_call 74; ((with_reducible refine (K36.out).mono ?_); rintro e w8 ⟨E, rfl, HE⟩)))
        go_ret
        exact HE.out
end
end Go.Proofs.YtpcmmejlmhbcdaaGreat.Fi
