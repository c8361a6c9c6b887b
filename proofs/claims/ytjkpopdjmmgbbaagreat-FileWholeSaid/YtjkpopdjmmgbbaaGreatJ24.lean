/- Wherever the power goes in a Save, plainly.; What a Save leaves of a disk with one name, plainly.; What holds of the disk between the calls of FileWhole. -/
import Derived.Test.YtjkpopdjmmgbbaaGreatJ23
set_option linter.unusedVariables false
set_option linter.unusedSimpArgs false
namespace Go.Proofs.YtjkpopdjmmgbbaaGreat.Fi
open Go.RowKit Dk Go.Maps

def mainN : ByteArray := ⟨#[109, 97, 105, 110]⟩
def spareN : ByteArray := ⟨#[115, 112, 97, 114, 101]⟩
theorem main_ne : mainN ≠ spareN := by decide
theorem nk_ne : nk mainN ≠ nk spareN := fun e => main_ne (nk_inj e)
/-- What names there are, and what the first one leads to. -/
structure Nm (N : Dm) (F : Nat → ByteArray × ByteArray) (m : Option ByteArray) : Prop where
  only : ∀ s, hasN N s = true → s = mainN ∨ s = spareN
  no : m = none → hasN N mainN = false
  yes : ∀ T, m = some T → ∃ c, Leads N (nk mainN) c ∧ F c = (T, T)
theorem hasN_put {N : Dm} {a s : ByteArray} {c : Nat} (h : hasN (N.put (nk a) (fl c)) s = true) : s = a ∨ hasN N s = true := by
  by_cases e : s = a
  · exact Or.inl e
  · unfold hasN at h
    rw [Maps.has_put_other (fun e' => e (nk_inj e'))] at h
    exact Or.inr h
theorem Nm.putspare {N : Dm} {F : Nat → ByteArray × ByteArray} {m : Option ByteArray} (h : Nm N F m) (hm : Maps.IsMap N) (nf : Nat) : Nm (N.put (nk spareN) (fl nf)) F m := by
  refine ⟨fun s hs => ?_, fun hn => ?_, fun T hT => ?_⟩
  · rcases hasN_put hs with e | e
    · exact Or.inr e
    · exact h.only s e
  · unfold hasN
    rw [Maps.has_put_other nk_ne]
    exact h.no hn
  · obtain ⟨c, h1, h2⟩ := h.yes T hT
    exact ⟨c, (leads_put hm (key_lit _)).2 (Or.inr ⟨nk_ne, h1⟩), h2⟩
theorem Nm.turn {N : Dm} {F F' : Nat → ByteArray × ByteArray} {m : Option ByteArray} (h : Nm N F m) (hF : ∀ c, Leads N (nk mainN) c → (F c).1 = (F c).2 → F' c = F c) : Nm N F' m :=
  ⟨h.only, h.no, fun T hT => by
    obtain ⟨c, h1, h2⟩ := h.yes T hT
    exact ⟨c, h1, by rw [hF c h1 (by rw [h2])]; exact h2⟩⟩
theorem Nm.sv {N : Dm} {F F' : Nat → ByteArray × ByteArray} {m : Option ByteArray} {fs : List Nat} (h : Nm N F m) (hs : Sv F F' fs) : Nm N F' m :=
  h.turn (fun c _ hc => by
    by_cases hm : c ∈ fs
    · exact ((hs c).2 hm).2 hc
    · exact (hs c).1 hm)
theorem Nm.set {N : Dm} {F : Nat → ByteArray × ByteArray} {m : Option ByteArray} (h : Nm N F m) (nf : Nat) (p : ByteArray × ByteArray) (hn : ∀ c, Leads N (nk mainN) c → nf ≠ c) : Nm N (setF F nf p) m :=
  h.turn (fun c hc _ => if_neg (fun e => hn c hc e.symm))
theorem hasN_dels : ∀ (l : List ByteArray) (N : Dm) (s : ByteArray), hasN (delsN N l) s = true → s ∉ l ∧ hasN N s = true
  | [], N, s, h => ⟨by simp, h⟩
  | a :: l, N, s, h => by
    obtain ⟨h1, h2⟩ := hasN_dels l (N.del (nk a)) s h
    by_cases e : s = a
    · subst e
      unfold hasN at h2
      rw [Maps.has_del_same] at h2
      cases h2
    · unfold hasN at h2
      rw [Maps.has_del_other (fun e' => e (nk_inj e'))] at h2
      exact ⟨by simp [e, h1], h2⟩
theorem Nm.ren {N : Dm} {F : Nat → ByteArray × ByteArray} {m : Option ByteArray} (h : Nm N F m) (hm : Maps.IsMap N) (ls : List ByteArray) (hls : ∀ s, s ∈ ls ↔ s = spareN) (nf : Nat) (T : ByteArray) (hT : F nf = (T, T)) :
    Nm ((delsN N ls).put (nk mainN) (fl nf)) F (some T) ∧ ∀ s, hasN ((delsN N ls).put (nk mainN) (fl nf)) s = true → s = mainN := by
  have ho : ∀ s, hasN ((delsN N ls).put (nk mainN) (fl nf)) s = true → s = mainN := fun s hs => by
    rcases hasN_put hs with e | e
    · exact e
    · obtain ⟨h1, h2⟩ := hasN_dels _ _ _ e
      rcases h.only s h2 with e2 | e2
      · exact e2
      · exact absurd ((hls s).2 e2) h1
  exact ⟨⟨fun s hs => Or.inl (ho s hs), fun e => (by cases e), fun T' e => by
    cases e
    exact ⟨nf, (leads_put (isMap_dels _ _ hm) (key_lit _)).2 (Or.inl ⟨rfl, rfl⟩), hT⟩⟩, ho⟩
/-- A disk on which nothing is under way. -/
structure Po (st : St) (m : Option ByteArray) : Prop where
  up : st.down = false
  p : st.P = []
  sn : st.S = st.N
  nm : Nm st.N st.F m
/-- A disk with the first name alone. -/
structure Wh (st : St) (m : Option ByteArray) : Prop extends Po st m where
  one : ∀ s, hasN st.N s = true → s = mainN
theorem stepB (st : St) : (stepE st ≠ 0 ∧ (stepS st).down = true) ∨ (stepE st = 0 ∧ (stepS st).down = st.down) := by
  unfold stepE stepS
  split
  · exact Or.inl ⟨by omega, rfl⟩
  · exact Or.inr ⟨rfl, rfl⟩
theorem crN_none (S : Dm) (P : List Tn) (ns : List Bool) (h : P = []) : crN S P ns P.length = S := by subst h; rfl
theorem Po.crash0 {s : St} {m : Option ByteArray} (ns : List Bool) (fs : List Nat) (F' : Nat → ByteArray × ByteArray) (hp : s.P = []) (hN : Nm s.S s.F m) (hs : Sv s.F F' fs) : Po (crS s ns F') m := by
  have e := crN_none s.S s.P ns hp
  exact ⟨rfl, rfl, rfl, by show Nm (crN _ _ _ _) F' m; rw [e]; exact hN.sv hs⟩
def tMade (nf : Nat) : Tn := ⟨0, nf, [], spareN⟩
theorem doT_made (N : Dm) (nf : Nat) : doT N (tMade nf) = N.put (nk spareN) (fl nf) := by
  unfold doT tMade
  rw [if_neg (fun e => e.1 rfl), if_neg (by show ¬ (0 : Nat) = 2; omega)]
  rfl
theorem crN_one (S : Dm) (t : Tn) (ns : List Bool) : crN S [t] ns 1 = doT S t ∨ crN S [t] ns 1 = S := by
  rw [crN_step (by simp)]
  split
  · exact Or.inl rfl
  · exact Or.inr rfl
theorem Po.crash1 {s : St} {m : Option ByteArray} (ns : List Bool) (fs : List Nat) (F' : Nat → ByteArray × ByteArray) (nf : Nat) (hp : s.P = [tMade nf]) (hm : Maps.IsMap s.S) (hN : Nm s.S s.F m) (hs : Sv s.F F' fs) : Po (crS s ns F') m := by
  refine ⟨rfl, rfl, rfl, ?_⟩
  show Nm (crN _ _ _ _) F' m
  rw [hp]
  show Nm (crN s.S [tMade nf] ns 1) F' m
  rcases crN_one s.S (tMade nf) ns with e | e
  · rw [e, doT_made]
    exact (hN.putspare hm nf).sv hs
  · rw [e]
    exact hN.sv hs
theorem Po.crash2 {s : St} {m : Option ByteArray} (ns : List Bool) (fs : List Nat) (F' : Nat → ByteArray × ByteArray) (nf : Nat) (ls : List ByteArray) (T : ByteArray) (hp : s.P = [tMade nf, ⟨1, nf, ls, mainN⟩]) (hm : Maps.IsMap s.S) (hN : Nm s.S s.F m) (hs : Sv s.F F' fs)
    (hls : ∀ x, x ∈ ls ↔ x = spareN) (hF : s.F nf = (T, T)) (hnn : NoName s.S nf) : Po (crS s ns F') m ∨ Po (crS s ns F') (some T) := by
  have e2 : crN s.S s.P ns s.P.length = crN s.S [tMade nf, ⟨1, nf, ls, mainN⟩] ns 2 := by rw [hp]; rfl
  have e3 : crN s.S [tMade nf, ⟨1, nf, ls, mainN⟩] ns 1 = s.S.put (nk spareN) (fl nf) ∨ crN s.S [tMade nf, ⟨1, nf, ls, mainN⟩] ns 1 = s.S := by
    rw [crN_step (by simp)]
    split
    · left; exact doT_made _ _
    · right; rfl
  have mk : ∀ m', Nm (crN s.S [tMade nf, ⟨1, nf, ls, mainN⟩] ns 2) F' m' → Po (crS s ns F') m' := fun m' h => ⟨rfl, rfl, rfl, by show Nm (crN _ _ _ _) F' m'; rw [e2]; exact h⟩
  rw [crN_step (by simp)] at mk
  rcases e3 with e3 | e3
  · rw [e3] at mk
    have hp1 := hN.putspare hm nf
    split at mk
    · right
      refine mk _ ?_
      show Nm (doT _ ⟨1, nf, ls, mainN⟩) F' _
      unfold doT
      have hl : Leads (s.S.put (nk spareN) (fl nf)) (nk spareN) nf := (leads_put hm (key_lit _)).2 (Or.inl ⟨rfl, rfl⟩)
      rw [if_neg (fun e => e.2 spareN hl.1 (at_of_leads hl)), if_neg (by show ¬ (1 : Nat) = 2; omega)]
      exact (hp1.ren (hm.put _ _) ls hls nf T hF).1.sv hs
    · left
      exact mk _ (hp1.sv hs)
  · rw [e3] at mk
    split at mk
    · left
      refine mk _ ?_
      show Nm (doT _ ⟨1, nf, ls, mainN⟩) F' _
      unfold doT
      rw [if_pos ⟨by show (1 : Nat) ≠ 0; omega, hnn⟩]
      exact hN.sv hs
    · left
      exact mk _ (hN.sv hs)
end Go.Proofs.YtjkpopdjmmgbbaaGreat.Fi

namespace Go.Proofs.YtjkpopdjmmgbbaaGreat.Fi
open Go.RowKit Dk Go.Maps

/-- What is so behind a Save: as it stands, where the power is there; and behind a loss of power. -/
def Aft (m : Option ByteArray) (T : ByteArray) (E : Nat) (s : St) : Prop :=
  (s.down = false → ∃ m', Po s m' ∧ (E = 0 → m' = some T) ∧ (E ≠ 0 → m' = m ∨ m' = some T)) ∧
  ∀ (ns : List Bool) (fs : List Nat) (F' : Nat → ByteArray × ByteArray), Sv s.F F' fs → ∃ m', Po (crS s ns F') m' ∧ (E = 0 → m' = some T) ∧ (E ≠ 0 → m' = m ∨ m' = some T)
theorem setF_same (F : Nat → ByteArray × ByteArray) (c : Nat) (p : ByteArray × ByteArray) : setF F c p c = p := if_pos rfl
theorem save_whole {st : St} {m : Option ByteArray} {T : ByteArray} {E : Nat} {s' : St} (h : Wh st m) (hm : Maps.IsMap st.N) (hfil : Fil st.N) (hq : Sv0 mainN spareN T st (E, s')) : Aft m T E s' := by
  obtain ⟨nf, hnf, hq⟩ := hq
  have hmS : Maps.IsMap st.S := by rw [h.sn]; exact hm
  have hsp : hasN st.N spareN = false := by
    cases hc : hasN st.N spareN
    · rfl
    · exact absurd (h.one _ hc).symm main_ne
  have hne : ∀ c, Leads st.N (nk mainN) c → nf ≠ c := fun c hc e => hnf (Or.inl ⟨nk mainN, by rw [e]; exact hc⟩)
  have hnmS : ∀ F', Nm st.N F' m → Nm st.S F' m := fun F' hx => by rw [h.sn]; exact hx
  have hnn : NoName st.S nf := fun s hs e => hnf (Or.inr (Or.inl ⟨nk s, by
    have hL := leads_of (N := st.S) (s := s) (by rw [h.sn]; exact hfil) hs
    rw [e] at hL
    exact hL⟩))
  obtain ⟨n1, n2, n3, n4, _⟩ := stepS_N st
  by_cases hw : writeE st spareN T = 0
  · rw [if_pos hw] at hq
    have hpre : preW st spareN T = 0 := by
      unfold writeE at hw
      split at hw
      · assumption
      · exact hw
    have hst : stepE st = 0 := by
      unfold writeE at hw
      rw [if_pos hpre] at hw
      exact hw
    obtain ⟨s1, hs1⟩ : ∃ s1, s1 = writeS st spareN T nf := ⟨_, rfl⟩
    have e1 : s1 = turnS { stepS st with F := setF st.F nf (T, ⟨#[]⟩) } (tMade nf) := by
      rw [hs1]
      unfold writeS
      rw [if_pos hpre, if_pos hst, if_neg (by rw [hsp]; simp)]
      rfl
    rw [← hs1] at hq
    clear hs1
    have a1 : s1.N = st.N.put (nk spareN) (fl nf) := by
      have e0 : s1.N = doT (stepS st).N (tMade nf) := by rw [e1]; rfl
      rw [e0, n1, doT_made]
    have a2 : s1.P = [tMade nf] := by
      rw [e1]
      show (stepS st).P ++ _ = _
      rw [n4, h.p]
      rfl
    have a3 : s1.S = st.S := by rw [e1]; exact n3
    have a4 : s1.F = setF st.F nf (T, ⟨#[]⟩) := by rw [e1]; rfl
    have a5 : s1.down = false := by
      rw [e1]
      show (stepS st).down = false
      rcases stepB st with ⟨x, _⟩ | ⟨_, x⟩
      · exact absurd hst x
      · rw [x]; exact h.up
    clear e1 n1 n2 n3 n4
    have hL1 : Leads s1.N (nk spareN) nf := by rw [a1]; exact (leads_put hm (key_lit _)).2 (Or.inl ⟨rfl, rfl⟩)
    have hat : atN s1.N spareN = nf := at_of_leads hL1
    have hf1 : findE s1 spareN = 0 := by unfold findE; rw [if_neg (by rw [a5]; simp), if_pos (show hasN s1.N spareN = true from hL1.1)]
    have hnm1 : Nm s1.S s1.F m := by rw [a3, a4]; exact (hnmS _ h.nm).set nf _ (by rw [h.sn]; exact hne)
    unfold Sv1 at hq
    obtain ⟨n1, n2, n3, n4, _⟩ := stepS_N s1
    have hsE : syncE s1 spareN = stepE s1 := by unfold syncE onE; rw [if_pos hf1]
    have hoS : onS s1 spareN = stepS s1 := by unfold onS; rw [if_pos hf1]
    by_cases hs : syncE s1 spareN = 0
    · rw [if_pos hs] at hq
      obtain ⟨s2, hs2⟩ : ∃ s2, s2 = syncS s1 spareN := ⟨_, rfl⟩
      have e2 : s2 = { stepS s1 with F := setF s1.F nf ((s1.F nf).1, (s1.F nf).1) } := by
        rw [hs2]
        unfold syncS
        rw [if_pos (show onE s1 spareN = 0 from hs), hoS, hat]
      rw [← hs2] at hq
      clear hs2
      have b1 : s2.N = s1.N := by rw [e2]; exact n1
      have b2 : s2.P = [tMade nf] := by rw [e2]; exact n4.trans a2
      have b3 : s2.S = st.S := by rw [e2]; exact n3.trans a3
      have b4 : s2.F nf = (T, T) := by
        rw [e2]
        show setF s1.F nf _ nf = _
        rw [setF_same, a4, setF_same]
      have b5 : s2.down = false := by
        rw [e2]
        show (stepS s1).down = false
        rcases stepB s1 with ⟨x, _⟩ | ⟨_, x⟩
        · exact absurd (hsE.symm.trans hs) x
        · rw [x]; exact a5
      have hnm2 : Nm s2.S s2.F m := by
        rw [b3, e2]
        show Nm st.S (setF s1.F nf _) m
        rw [a3] at hnm1
        exact hnm1.set nf _ (by rw [h.sn]; exact hne)
      clear e2 n1 n2 n3 n4 hsE hoS hs
      have hL2 : Leads s2.N (nk spareN) nf := by rw [b1]; exact hL1
      have hat2 : atN s2.N spareN = nf := at_of_leads hL2
      have hf2 : findE s2 spareN = 0 := by unfold findE; rw [if_neg (by rw [b5]; simp), if_pos (show hasN s2.N spareN = true from hL2.1)]
      have hpR : preR s2 spareN mainN = 0 := by
        unfold preR
        rw [if_pos hf2]
        rfl
      obtain ⟨ls, hls, hq⟩ := hq
      obtain ⟨n1, n2, n3, n4, _⟩ := stepS_N s2
      have hrE : renE s2 spareN mainN = stepE s2 := by unfold renE; rw [if_pos hpR, if_neg (fun e => main_ne e.symm)]
      by_cases hr : renE s2 spareN mainN = 0
      · rw [if_pos hr] at hq
        have hst2 : stepE s2 = 0 := hrE.symm.trans hr
        have hls' : ∀ s, s ∈ ls ↔ s = spareN := fun s => by
          rw [hls hpR (fun e => main_ne e.symm) hst2 s, hat2]
          constructor
          · rintro ⟨h1, h2⟩
            rw [b1, a1] at h1
            rcases hasN_put h1 with e | e
            · exact e
            · exfalso
              have hmn := h.one s e
              have hlm : Leads st.N (nk s) (atN st.N s) := leads_of hfil e
              have hl1 : Leads s2.N (nk s) (atN st.N s) := by
                rw [b1, a1]
                exact (leads_put hm (key_lit _)).2 (Or.inr ⟨by rw [hmn]; exact nk_ne, hlm⟩)
              have := at_of_leads hl1
              rw [h2] at this
              rw [hmn] at hlm this
              exact hne _ hlm this
          · rintro rfl
            exact ⟨hL2.1, hat2⟩
        obtain ⟨s3, hs3⟩ : ∃ s3, s3 = renS s2 spareN mainN ls := ⟨_, rfl⟩
        have e3 : s3 = turnS (stepS s2) ⟨1, nf, ls, mainN⟩ := by
          rw [hs3]
          unfold renS
          rw [if_pos ⟨hpR, fun e => main_ne e.symm⟩, if_pos hst2, hat2]
        rw [← hs3] at hq
        clear hs3
        have c1 : s3.N = (delsN s2.N ls).put (nk mainN) (fl nf) := by
          have e0 : s3.N = doT (stepS s2).N ⟨1, nf, ls, mainN⟩ := by rw [e3]; rfl
          rw [e0, n1]
          unfold doT
          rw [if_neg (fun e => e.2 spareN hL2.1 hat2), if_neg (by show ¬ (1 : Nat) = 2; omega)]
        have c2 : s3.P = [tMade nf, ⟨1, nf, ls, mainN⟩] := by
          rw [e3]
          show (stepS s2).P ++ _ = _
          rw [n4, b2]
          rfl
        have c3 : s3.S = st.S := by rw [e3]; exact n3.trans b3
        have c4 : s3.F = s2.F := by rw [e3]; exact n2
        have c5 : s3.down = false := by
          rw [e3]
          show (stepS s2).down = false
          rcases stepB s2 with ⟨x, _⟩ | ⟨_, x⟩
          · exact absurd hst2 x
          · rw [x]; exact b5
        clear e3 n1 n2 n3 n4
        have hmm : Maps.IsMap s2.N := by rw [b1, a1]; exact hm.put _ _
        have hnm3 : Nm s3.N s3.F (some T) ∧ ∀ s, hasN s3.N s = true → s = mainN := by
          rw [c1, c4]
          have hx : Nm s2.N s2.F m := by
            rw [b1, a1]
            have := hnm2
            rw [b3, h.sn] at this
            exact this.putspare hm nf
          exact hx.ren hmm ls hls' nf T b4
        have hnm3S : Nm s3.S s3.F m := by rw [c3, c4, ← b3]; exact hnm2
        unfold Sv3 at hq
        obtain ⟨n1, n2, n3, n4, _⟩ := stepS_N s3
        have hdE : sdE s3 = stepE s3 := by unfold sdE; rw [if_neg (by rw [c5]; simp)]
        rcases stepB s3 with ⟨x, y⟩ | ⟨x, y⟩
        · have eS : s' = stepS s3 := by
            have := congrArg Prod.snd hq
            rw [show s' = sdS s3 from this]
            unfold sdS
            rw [if_neg (by rw [hdE]; exact x), if_neg (by rw [c5]; simp)]
          have eE : E ≠ 0 := by
            have := congrArg Prod.fst hq
            rw [show E = sdE s3 from this, hdE]
            exact x
          subst eS
          refine ⟨fun hd => absurd hd (by rw [y]; simp), fun ns fs F' hsv => ?_⟩
          rcases Po.crash2 (s := stepS s3) (m := m) ns fs F' nf ls T (n4.trans c2) (by rw [n3, c3]; exact hmS) (by rw [n3, n2]; exact hnm3S) hsv hls' (by rw [n2, c4]; exact b4) (by rw [n3, c3]; exact hnn) with hp | hp
          · exact ⟨_, hp, fun e => absurd e eE, fun _ => Or.inl rfl⟩
          · exact ⟨_, hp, fun e => absurd e eE, fun _ => Or.inr rfl⟩
        · have eS : s' = { stepS s3 with S := (stepS s3).N, P := [] } := by
            have := congrArg Prod.snd hq
            rw [show s' = sdS s3 from this]
            unfold sdS
            rw [if_pos (by rw [hdE]; exact x)]
          have eE : E = 0 := by
            have := congrArg Prod.fst hq
            rw [show E = sdE s3 from this, hdE]
            exact x
          subst eS
          have hN : Nm (stepS s3).N (stepS s3).F (some T) := by rw [n1, n2]; exact hnm3.1
          exact ⟨fun _ => ⟨some T, ⟨by show (stepS s3).down = false; rw [y]; exact c5, rfl, rfl, hN⟩, fun _ => rfl, fun e => absurd eE e⟩,
            fun ns fs F' hsv => ⟨some T, Po.crash0 ns fs F' rfl hN hsv, fun _ => rfl, fun e => absurd eE e⟩⟩
      · rw [if_neg hr] at hq
        have hx : stepE s2 ≠ 0 := fun e => hr (hrE.trans e)
        have eS : s' = stepS s2 := by
          have := congrArg Prod.snd hq
          rw [show s' = renS s2 spareN mainN ls from this]
          unfold renS
          rw [if_pos ⟨hpR, fun e => main_ne e.symm⟩, if_neg hx]
        have eE : E ≠ 0 := by
          have := congrArg Prod.fst hq
          rw [show E = renE s2 spareN mainN from this]
          exact hr
        have y : (stepS s2).down = true := by
          rcases stepB s2 with ⟨_, y⟩ | ⟨y, _⟩
          · exact y
          · exact absurd y hx
        subst eS
        exact ⟨fun hd => absurd hd (by rw [y]; simp), fun ns fs F' hsv => ⟨m, Po.crash1 ns fs F' nf (n4.trans b2) (by rw [n3, b3]; exact hmS) (by rw [n3, n2]; exact hnm2) hsv, fun e => absurd e eE, fun _ => Or.inl rfl⟩⟩
    · rw [if_neg hs] at hq
      have hx : stepE s1 ≠ 0 := fun e => hs (hsE.trans e)
      have eS : s' = stepS s1 := by
        have := congrArg Prod.snd hq
        rw [show s' = syncS s1 spareN from this]
        unfold syncS
        rw [if_neg (show ¬ onE s1 spareN = 0 from hs), hoS]
      have eE : E ≠ 0 := by
        have := congrArg Prod.fst hq
        rw [show E = syncE s1 spareN from this]
        exact hs
      have y : (stepS s1).down = true := by
        rcases stepB s1 with ⟨_, y⟩ | ⟨y, _⟩
        · exact y
        · exact absurd y hx
      subst eS
      exact ⟨fun hd => absurd hd (by rw [y]; simp), fun ns fs F' hsv => ⟨m, Po.crash1 ns fs F' nf (n4.trans a2) (by rw [n3, a3]; exact hmS) (by rw [n3, n2]; exact hnm1) hsv, fun e => absurd e eE, fun _ => Or.inl rfl⟩⟩
  · rw [if_neg hw] at hq
    have eS : s' = writeS st spareN T nf := congrArg Prod.snd hq
    have eE : E ≠ 0 := by
      have := congrArg Prod.fst hq
      rw [show E = writeE st spareN T from this]
      exact hw
    unfold writeS at eS
    unfold writeE at hw
    by_cases hpre : preW st spareN T = 0
    · rw [if_pos hpre] at eS hw
      rw [if_neg hw] at eS
      have y : (stepS st).down = true := by
        rcases stepB st with ⟨_, y⟩ | ⟨y, _⟩
        · exact y
        · exact absurd y hw
      subst eS
      exact ⟨fun hd => absurd hd (by rw [y]; simp), fun ns fs F' hsv => ⟨m, Po.crash0 ns fs F' (n4.trans h.p) (by rw [n3, n2]; exact hnmS _ h.nm) hsv, fun e => absurd e eE, fun _ => Or.inl rfl⟩⟩
    · rw [if_neg hpre] at eS
      subst eS
      exact ⟨fun _ => ⟨m, h.toPo, fun e => absurd e eE, fun _ => Or.inl rfl⟩, fun ns fs F' hsv => ⟨m, Po.crash0 ns fs F' h.p (hnmS _ h.nm) hsv, fun e => absurd e eE, fun _ => Or.inl rfl⟩⟩
end Go.Proofs.YtjkpopdjmmgbbaaGreat.Fi

namespace Go.Proofs.YtjkpopdjmmgbbaaGreat.Fi
open Go.RowKit Dk Go.Maps

theorem step_on {st : St} (h : st.fuse = -1) : stepE st = 0 ∧ (stepS st).down = st.down ∧ (stepS st).fuse = -1 := by
  unfold stepE stepS
  rw [if_neg (by rw [h]; omega), if_neg (by rw [h]; omega)]
  refine ⟨rfl, rfl, ?_⟩
  show (if 0 < st.fuse then st.fuse - 1 else st.fuse) = -1
  rw [if_neg (by rw [h]; omega), h]
/-- Cleaned, a disk has the first name alone. -/
theorem clean_whole {s : St} {m : Option ByteArray} (h : Po s m) (hf : s.fuse = -1) (hm : Maps.IsMap s.N) (hfil : Fil s.N) : (clR s false [spareN]).1 = 0 ∧ Wh (clR s false [spareN]).2 m := by
  rw [clR_cons]
  obtain ⟨e0, e1, e2⟩ := step_on hf
  obtain ⟨n1, n2, n3, n4, _⟩ := stepS_N s
  cases hh : hasN s.N spareN
  · have hF : findE s spareN = 12 := by unfold findE; rw [if_neg (by rw [h.up]; simp), if_neg (by rw [hh]; simp)]
    have ho : onE s spareN = 12 := by unfold onE; rw [if_neg (by rw [hF]; omega), hF]
    have hS : onS s spareN = s := by unfold onS; rw [if_neg (by rw [hF]; omega)]
    have hr : rmS s spareN = s := by unfold rmS; rw [if_neg (by rw [ho]; omega), hS]
    rw [if_neg (by rw [ho]; omega), if_pos ho, hr, clR_nil, if_neg (by simp)]
    refine ⟨rfl, h, fun x hx => ?_⟩
    rcases h.nm.only x hx with e | e
    · exact e
    · rw [e] at hx
      exact absurd (hx.symm.trans hh) (by simp)
  · have hF : findE s spareN = 0 := by unfold findE; rw [if_neg (by rw [h.up]; simp), if_pos hh]
    have ho : onE s spareN = 0 := by unfold onE; rw [if_pos hF, e0]
    have hS : onS s spareN = stepS s := by unfold onS; rw [if_pos hF]
    obtain ⟨r, hr⟩ : ∃ r, r = rmS s spareN := ⟨_, rfl⟩
    have e3 : r = turnS (stepS s) ⟨2, atN s.N spareN, [spareN], ⟨#[]⟩⟩ := by rw [hr]; unfold rmS; rw [if_pos ho, hS]
    rw [if_pos ho, ← hr, clR_nil, if_pos rfl]
    clear hr
    have a0 : r.N = doT (stepS s).N ⟨2, atN s.N spareN, [spareN], ⟨#[]⟩⟩ := by rw [e3]; rfl
    have a1 : r.N = delsN s.N [spareN] := by
      rw [a0, n1]
      unfold doT
      rw [if_neg (fun e => e.2 spareN hh rfl), if_pos rfl]
    have a2 : r.F = s.F := by rw [e3]; exact n2
    have a3 : r.down = false := by rw [e3]; exact e1.trans h.up
    have a4 : r.fuse = -1 := by rw [e3]; exact e2
    obtain ⟨f0, f1, f2⟩ := step_on a4
    obtain ⟨m1, m2, m3, m4, _⟩ := stepS_N r
    have hd : sdE r = 0 := by unfold sdE; rw [if_neg (by rw [a3]; simp), f0]
    refine ⟨hd, ?_⟩
    show Wh (sdS r) m
    unfold sdS
    rw [if_pos hd]
    have one : ∀ x, hasN (delsN s.N [spareN]) x = true → x = mainN := fun x hx => by
      obtain ⟨g1, g2⟩ := hasN_dels _ _ _ hx
      rcases h.nm.only x g2 with e | e
      · exact e
      · exact absurd (by rw [e]; simp) g1
    have hNr : (stepS r).N = delsN s.N [spareN] := m1.trans a1
    refine ⟨⟨f1.trans a3, rfl, rfl, ?_⟩, fun x hx => one x (by have : hasN (stepS r).N x = true := hx; rwa [hNr] at this)⟩
    show Nm (stepS r).N (stepS r).F m
    rw [hNr, m2, a2]
    refine ⟨fun x hx => Or.inl (one x hx), fun hn => ?_, fun T hT => ?_⟩
    · cases hx : hasN (delsN s.N [spareN]) mainN
      · rfl
      · obtain ⟨_, g2⟩ := hasN_dels _ _ _ hx
        exact absurd (g2.symm.trans (h.nm.no hn)) (by simp)
    · obtain ⟨c, c1, c2⟩ := h.nm.yes T hT
      exact ⟨c, (leads_dels (N := s.N) _ _).2 ⟨fun x hx => by rw [List.mem_singleton.1 hx]; exact nk_ne, c1⟩, c2⟩
/-- A disk in memory of which something holds, behind some rounds. -/
def Px (B : Nat) (w : World) (D k : Nat) (Q : St → Prop) : Prop :=
  ∃ (K : Nat → Prop) (g : Gh) (st : St), DW w K D g st ∧ (∀ b, K b → B ≤ b) ∧ g.nn ≤ 100 * k ∧ st.steps ≤ 100 * k ∧ st.P.length ≤ 10 ∧ Q st
section
variable {B : Nat} {w w' : World} {D k : Nat} {Q : St → Prop}
theorem Px.later (h : Px B w D k Q) (hb : Below w.heap.size w w') : Px B w' D k Q := by
  obtain ⟨K, g, st, h1, h2⟩ := h
  exact ⟨K, g, st, h1.later hb, h2⟩
theorem Px.base (h : Px B w D k Q) : B ≤ w.heap.size := by
  obtain ⟨K, g, st, h1, h2, _⟩ := h
  exact Nat.le_of_lt (Nat.lt_of_le_of_lt (h2 D h1.own.1) h1.lt)
theorem kn_base' {K : Nat → Prop} (h : ∀ b, K b → B ≤ b) (hB : B ≤ w.heap.size) : ∀ b, Kn K w w' b → B ≤ b := kn_base h hB
theorem Px.fuse (h : Px B w D k Q) (Q' : St → Prop) (n : Int) (hn : -1000000 ≤ n ∧ n ≤ 1000000) (hQ : ∀ st, Q st → Q' { st with fuse := n }) :
    Calls Tryz.prog 13 #[.pointer (some ⟨D, 0, none⟩), .int .i64 n] w fun e w' => e = .returned (.tuple #[]) ∧ Px B w' D k Q' ∧ Below B w w' := by
  have hB := h.base
  obtain ⟨K, g, st, h1, h2, h3, h4, h5, h6⟩ := h
  refine (fuse_any h1 n hn).mono fun e w' ⟨he, hd, hkp⟩ => ⟨he, ⟨K, g, _, hd, h2, h3, h4, h5, hQ st h6⟩, hkp.below (fun b hb => ?_) hB⟩
  have hb' : b = D := hb
  rw [hb']
  exact h2 D h1.own.1
end
/-- Of x, a Save of another text. -/
def AftX (x : Option ByteArray) (next : ByteArray) (E : Nat) (s : St) : Prop := Aft (x.map sealB) (sealB next) E s
def Fits (x : Option ByteArray) : Prop := ∀ t, x = some t → t.size ≤ 3000
theorem back_x {x : Option ByteArray} {next : ByteArray} {E : Nat} {m' : Option ByteArray} (h1 : E = 0 → m' = some (sealB next)) (h2 : E ≠ 0 → m' = x.map sealB ∨ m' = some (sealB next)) : ∃ x' : Option ByteArray, m' = x'.map sealB ∧ (E = 0 → x' = some next) ∧ (E ≠ 0 → x' = x ∨ x' = some next) := by
  by_cases hE : E = 0
  · exact ⟨some next, h1 hE, fun _ => rfl, fun e => absurd hE e⟩
  · rcases h2 hE with e | e
    · exact ⟨x, e, fun e' => absurd e' hE, fun _ => Or.inl rfl⟩
    · exact ⟨some next, e, fun e' => absurd e' hE, fun _ => Or.inr rfl⟩
section
variable {B : Nat} {w w' : World} {D k : Nat} {x : Option ByteArray} {next : ByteArray} {E : Nat}
theorem Px.save (h : Px B w D k (fun st => Wh st (x.map sealB))) (hk : k ≤ 100) (hn : next.size ≤ 3000) :
    Calls Tryz.prog 16 #[.pointer (some ⟨D, 0, none⟩), .string mainN, .string spareN, .string next] w fun e w' => ∃ E : Nat, e = .returned (.int .i64 (E : Int)) ∧ Px B w' D (k + 1) (AftX x next E) ∧ Below B w w' := by
  have hB := h.base
  obtain ⟨K, g, st, h1, h2, h3, h4, h5, h6⟩ := h
  refine (save_any h1 mainN spareN next (by decide) (by decide) (by omega) (by omega) main_ne).mono fun e w' hq => ?_
  obtain ⟨E, he, g', s', hd, hg, hkp, hp, hs, hq⟩ := hq
  exact ⟨E, he, ⟨_, g', s', hd, kn_base h2 hB, by omega, by omega, by have := h6.p; rw [this] at hp; simp at hp; omega, save_whole h6 h1.names.isMap h1.filN hq⟩, hkp.below h2 hB⟩
theorem Px.down (h : Px B w D k (AftX x next E)) :
    Calls Tryz.prog 22 #[.pointer (some ⟨D, 0, none⟩)] w fun e w' => (∃ bb : Bool, e = .returned (.bool bb) ∧ (bb = false → ∃ x', Px B w D k (fun st => Po st (x'.map sealB)) ∧ (E = 0 → x' = some next) ∧ (E ≠ 0 → x' = x ∨ x' = some next))) ∧ w' = w := by
  obtain ⟨K, g, st, h1, h2, h3, h4, h5, h6⟩ := h
  refine (down_any h1).mono fun e w' ⟨he, hw⟩ => ⟨⟨st.down, he, fun hd => ?_⟩, hw⟩
  obtain ⟨m', hp, c1, c2⟩ := h6.1 hd
  obtain ⟨x', rfl, d1, d2⟩ := back_x c1 c2
  exact ⟨x', ⟨K, g, st, h1, h2, h3, h4, h5, hp⟩, d1, d2⟩
theorem Px.le {Q : St → Prop} (h : Px B w D k Q) (k' : Nat) (hk : k ≤ k') : Px B w D k' Q := by
  obtain ⟨K, g, st, h1, h2, h3, h4, h5, h6⟩ := h
  exact ⟨K, g, st, h1, h2, by omega, by omega, h5, h6⟩
theorem Px.crash (h : Px B w D k (AftX x next E)) (hk : k ≤ 100) (ns : List Bool) (o1 : Option Addr) (cap1 b1 off1 : Nat) (n1 : 0 < ns.length → o1 = some ⟨b1, off1, none⟩ ∧ b1 < B) (n2 : BoolsIn w ns b1 off1)
    (ss : List Nat) (o2 : Option Addr) (cap2 b2 off2 : Nat) (m1 : 0 < ss.length → o2 = some ⟨b2, off2, none⟩ ∧ b2 < B) (m2 : U64sIn w ss b2 off2) :
    Calls Tryz.prog 23 #[.pointer (some ⟨D, 0, none⟩), .slice o1 ns.length cap1, .slice o2 ss.length cap2] w fun e w' => e = .returned (.tuple #[]) ∧ (∃ x', Px B w' D (k + 1) (fun st => Po st (x'.map sealB)) ∧ (E = 0 → x' = some next) ∧ (E ≠ 0 → x' = x ∨ x' = some next)) ∧ Below B w w' := by
  have hB := h.base
  obtain ⟨K, g, st, h1, h2, h3, h4, h5, h6⟩ := h
  refine (crash_any h1 ns o1 cap1 b1 off1 (fun hp => ⟨(n1 hp).1, Nat.lt_of_lt_of_le (n1 hp).2 hB, fun hK => by have := h2 _ hK; have := (n1 hp).2; omega⟩) n2 ss o2 cap2 b2 off2 (fun hp => ⟨(m1 hp).1, Nat.lt_of_lt_of_le (m1 hp).2 hB, fun hK => by have := h2 _ hK; have := (m1 hp).2; omega⟩) m2 (by omega)).mono fun e w' hq => ?_
  obtain ⟨he, ⟨F', g', hsv, hd, hg⟩, hkp⟩ := hq
  obtain ⟨m', hp, c1, c2⟩ := h6.2 ns _ F' hsv
  obtain ⟨x', rfl, d1, d2⟩ := back_x c1 c2
  exact ⟨he, ⟨x', ⟨_, g', _, hd, kn_base h2 hB, by omega, by show st.steps ≤ _; omega, by show ([] : List Tn).length ≤ 10; simp, hp⟩, d1, d2⟩, hkp.below h2 hB⟩
/-- What is loaded. -/
def ldX (x : Option ByteArray) : Value :=
  match x with
  | some t => .tuple #[.string t, .int .i64 0]
  | none => .tuple #[.string ⟨#[]⟩, .int .i64 12]
theorem ld_of {st : St} (h : Po st (x.map sealB)) (hx : Fits x) : ldV st mainN = ldX x := by
  unfold ldV ldX
  cases x with
  | none =>
    have hh : hasN st.N mainN = false := h.nm.no rfl
    have hf : findE st mainN = 12 := by unfold findE; rw [if_neg (by rw [h.up]; simp), if_neg (by rw [hh]; simp)]
    rw [if_neg (by rw [hf]; omega), hf]
    rfl
  | some t =>
    obtain ⟨c, h1, h2⟩ := h.nm.yes (sealB t) rfl
    have hf : findE st mainN = 0 := by unfold findE; rw [if_neg (by rw [h.up]; simp), if_pos (show hasN st.N mainN = true from h1.1)]
    have hr : readS st mainN = sealB t := by unfold readS; rw [if_pos hf, at_of_leads h1, h2]
    rw [if_pos hf, hr]
    have ho : opnL (sealB t).data.toList = some t.data.toList := opn_seal t.data.toList (by have := hx t rfl; have e : t.data.toList.length = t.size := rfl; omega)
    show opV (sealB t) = .tuple #[.string t, .int .i64 0]
    unfold opV
    rw [ho]
    show Value.tuple #[.string (W.str t.data.toList), .int .i64 0] = _
    rw [str_list]
theorem Px.load {Q : St → Prop} (h : Px B w D k Q) (hQ : ∀ st, Q st → Po st (x.map sealB)) (hx : Fits x) :
    Calls Tryz.prog 19 #[.pointer (some ⟨D, 0, none⟩), .string mainN] w fun e w' => e = .returned (ldX x) ∧ Px B w' D k Q ∧ Below B w w' := by
  have hB := h.base
  have h' := h
  obtain ⟨K, g, st, h1, h2, h3, h4, h5, h6⟩ := h'
  exact (load_any h1 mainN (by decide)).mono fun e w' ⟨he, hb⟩ => ⟨by rw [he, ld_of (hQ st h6) hx], h.later hb, hb.mono hB⟩
theorem Px.clean {m : Option ByteArray} (h : Px B w D k (fun st => Po st m ∧ st.fuse = -1)) (hk : k ≤ 100) :
    Calls Tryz.prog 14 #[.pointer (some ⟨D, 0, none⟩), .slice (some ⟨w.heap.size, 0, none⟩) 1 1] (w.alloc (.cells #[.string spareN] 9)) fun e w' => e = .returned (.int .i64 0) ∧ Px B w' D (k + 1) (fun st => Wh st m) ∧ Below B w w' := by
  have hB := h.base
  have hal := alloc_below w (.cells #[.string spareN] 9)
  obtain ⟨K, g, st, h1, h2, h3, h4, h5, h6⟩ := h
  have h1' := h1.later hal
  have hlt := alloc_lt w (.cells #[.string spareN] 9)
  have hnK : ¬ K w.heap.size := fun hc => by have := h1.own.2.2.2.2.2 _ hc; omega
  obtain ⟨c1, c2⟩ := clean_whole h6.1 h6.2 h1.names.isMap h1.filN
  have hfp : (clR st false [spareN]).2.P = [] := c2.p
  refine (clean_any (ss := [spareN]) h1' w.heap.size 0 1 (some ⟨w.heap.size, 0, none⟩) (fun _ => ⟨rfl, hlt, hnK⟩) (fun j hj => by
    have : j = 0 := by simpa using hj
    subst this
    exact one_new w (.string spareN) 9 0 _ rfl) (fun j hj => by
    have : j = 0 := by simpa using hj
    subst this
    show spareN.size ≤ 1000000000
    decide) (by simp; omega)).mono fun e w' hq => ?_
  obtain ⟨he, ⟨g', hd, hg⟩, hkp⟩ := hq
  have hst : (clR st false [spareN]).2.steps ≤ st.steps + 2 := by
    rw [clR_cons]
    have r1 := (rmS_s st spareN).1
    split
    · rw [clR_nil, if_pos rfl]
      have := (sdS_s (rmS st spareN)).1
      show (sdS (rmS st spareN)).steps ≤ _
      omega
    · split
      · rw [clR_nil, if_neg (by simp)]
        show (rmS st spareN).steps ≤ _
        omega
      · show (rmS st spareN).steps ≤ _
        omega
  simp only [List.length_singleton] at hg
  exact ⟨by rw [he, c1]; rfl, ⟨_, g', _, hd, kn_base h2 (Nat.le_trans hB (Nat.le_of_lt hlt)), by omega, by omega, by rw [hfp]; simp, c2⟩, (hal.mono hB).trans (hkp.below h2 (Nat.le_trans hB (Nat.le_of_lt hlt)))⟩
theorem Px.new (w wy : World) (hb : Below w.heap.size w wy) : Calls Tryz.prog 11 #[.int .i64 65536] wy fun e w' => ∃ D, e = .returned (.tuple #[.pointer (some ⟨D, 0, none⟩), .int .i64 0]) ∧ Hid (Px w.heap.size w' D 0 (fun st => Wh st none)) ∧ Hid (Below w.heap.size w w') :=
  (Dz.new 65536 (by omega) wy).mono fun e w' ⟨D, he, ⟨K, g, h1, h2, h3⟩, hb'⟩ => ⟨D, he, Lib.hid ⟨K, g, _, h1, fun b hb2 => Nat.le_trans hb.size (h2 b hb2), by omega, by show 0 ≤ _; omega, by show ([] : List Tn).length ≤ 10; simp, by
    have hno : ∀ s, hasN (St.fresh 65536).N s = false := fun s => rfl
    exact ⟨⟨rfl, rfl, rfl, ⟨fun s hs => absurd (hs.symm.trans (hno s)) (by simp), fun _ => hno _, fun T hT => absurd hT (by simp)⟩⟩, fun s hs => absurd (hs.symm.trans (hno s)) (by simp)⟩⟩, Lib.hid (hb.trans (hb'.mono hb.size))⟩
end
end Go.Proofs.YtjkpopdjmmgbbaaGreat.Fi
