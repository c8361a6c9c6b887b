/- A new disk with one file; the chapter's example.; A disk that is none. -/
import Derived.Test.YtjkpopdjmmgbbaaJ09
set_option linter.unusedVariables false
set_option linter.unusedSimpArgs false
namespace Go.Proofs.Ytjkpopdjmmgbbaa
open Go.RowKit Go.Maps Go.Sort

/-- Names with one file. -/
def oneN (s : ByteArray) (c : Nat) : Dm := .map [(nk s, fl c)]
theorem put_one (s : ByteArray) (c : Nat) : (DataW.map [] : Dm).put (nk s) (fl c) = oneN s c := by
  unfold oneN nk
  simp [DataW.put, DataW.insert]
theorem lead_one {s : ByteArray} {c : Nat} {k : Lit} {d : Nat} : Leads (oneN s c) k d ↔ k = nk s ∧ d = c := by
  rw [← put_one, leads_put Maps.isMap_empty (key_lit s)]
  constructor
  · rintro (h | ⟨_, h⟩)
    · exact h
    · exact absurd h.1 (by simp [Maps.has])
  · exact Or.inl
theorem has_one (s : ByteArray) (c : Nat) : hasN (oneN s c) s = true := (lead_one.2 ⟨rfl, rfl⟩ : Leads (oneN s c) (nk s) c).1
theorem keys_one (s : ByteArray) (c : Nat) : keysN (oneN s c) = [s.data.toList] := by
  simp [keysN, strKeys, oneN, nk, strOf]
theorem keys_none : keysN (.map [] : Dm) = [] := by
  simp [keysN, strKeys]
theorem used_fresh (room : Nat) : usedN (St.fresh room) = 0 := by
  show sumF _ ((keysN (.map [] : Dm)).foldl _ []) = 0
  rw [keys_none]
  rfl
def stA (room : Nat) (s text : ByteArray) (c : Nat) : St := ⟨room, oneN s c, .map [], [⟨0, c, [], s⟩], -1, 1, false, setF (fun _ => (⟨#[]⟩, ⟨#[]⟩)) c (text, ⟨#[]⟩)⟩
def stB (room : Nat) (s text : ByteArray) (c : Nat) : St := ⟨room, oneN s c, .map [], [⟨0, c, [], s⟩], -1, 2, false, setF (setF (fun _ => (⟨#[]⟩, ⟨#[]⟩)) c (text, ⟨#[]⟩)) c (text, text)⟩
def stC (room : Nat) (s text : ByteArray) (c : Nat) : St := ⟨room, oneN s c, oneN s c, [], -1, 3, false, setF (setF (fun _ => (⟨#[]⟩, ⟨#[]⟩)) c (text, ⟨#[]⟩)) c (text, text)⟩
theorem pre_fresh (room : Nat) (s text : ByteArray) (hs : nmB s = true) (ht : text.size ≤ room) : preW (St.fresh room) s text = 0 := by
  have hh : hasN (St.fresh room).N s = false := rfl
  have ho : oldN (St.fresh room) s = 0 := if_neg (by rw [hh]; simp)
  unfold preW
  rw [if_neg (by show ¬ false = true; simp), if_neg (by rw [hs]; simp), if_neg (fun h => absurd h.2 (by show ¬ 16 ≤ 0; omega)), if_neg (by rw [used_fresh, ho]; show ¬ (room : Int) < _; omega)]
theorem write_fresh (room : Nat) (s text : ByteArray) (hs : nmB s = true) (ht : text.size ≤ room) (c : Nat) : writeE (St.fresh room) s text = 0 ∧ writeS (St.fresh room) s text c = stA room s text c := by
  have hp := pre_fresh room s text hs ht
  have h5 : stepE (St.fresh room) = 0 := rfl
  refine ⟨by unfold writeE; rw [if_pos hp, h5], ?_⟩
  unfold writeS
  rw [if_pos hp, if_pos h5, if_neg (by show ¬ false = true; simp)]
  unfold turnS doT
  rw [if_neg (fun h => h.1 rfl), if_neg (by show ¬ (0 : Nat) = 2; omega)]
  show St.mk room ((DataW.map [] : Dm).put (nk s) (fl c)) _ _ _ _ _ _ = _
  rw [put_one]
  rfl
theorem sync_fresh (room : Nat) (s text : ByteArray) (c : Nat) : syncE (stA room s text c) s = 0 ∧ syncS (stA room s text c) s = stB room s text c := by
  have hf : findE (stA room s text c) s = 0 := by
    unfold findE
    rw [if_neg (by show ¬ false = true; simp), if_pos (show hasN (stA room s text c).N s = true from has_one s c)]
  have h5 : stepE (stA room s text c) = 0 := rfl
  have ho : onE (stA room s text c) s = 0 := by unfold onE; rw [if_pos hf, h5]
  have ha : atN (stA room s text c).N s = c := at_of_leads (lead_one.2 ⟨rfl, rfl⟩)
  refine ⟨ho, ?_⟩
  unfold syncS
  rw [if_pos ho, ha]
  have hS : onS (stA room s text c) s = stepS (stA room s text c) := if_pos hf
  have hF : (stA room s text c).F c = (text, ⟨#[]⟩) := if_pos rfl
  rw [hS, hF]
  rfl
theorem sd_fresh (room : Nat) (s text : ByteArray) (c : Nat) : sdE (stB room s text c) = 0 ∧ sdS (stB room s text c) = stC room s text c := ⟨rfl, rfl⟩
theorem las_fresh (room : Nat) (s text : ByteArray) (c : Nat) : Las (stC room s text c) c s text :=
  ⟨lead_one.2 ⟨rfl, rfl⟩, lead_one.2 ⟨rfl, rfl⟩, fun k h => (lead_one.1 h).1, fun k h => (lead_one.1 h).1, fun t ht => (by cases ht), if_pos rfl⟩
/-- A disk in a state, its blocks from a place on. -/
def Dz (B : Nat) (w : World) (D : Nat) (n : Nat) (st : St) : Prop := ∃ (K : Nat → Prop) (g : Gh), DW w K D g st ∧ (∀ b, K b → B ≤ b) ∧ g.nn ≤ n
section
variable {B : Nat} {w : World} {D : Nat} {n : Nat} {st : St}
theorem Dz.later {w' : World} (h : Dz B w D n st) (hb : Below w.heap.size w w') : Dz B w' D n st := by
  obtain ⟨K, g, h1, h2⟩ := h
  exact ⟨K, g, h1.later hb, h2⟩
theorem Dz.base (h : Dz B w D n st) : B ≤ w.heap.size := by
  obtain ⟨K, g, h1, h2, _⟩ := h
  exact Nat.le_of_lt (Nat.lt_of_le_of_lt (h2 D h1.own.1) h1.lt)
theorem Dz.write (h : Dz B w D n st) (hn : n + 1 ≤ 900000) (hst : st.steps < 1000000000) (hP : st.P.length + 1 ≤ 1000000) (s t : ByteArray) (hs : s.size ≤ 1000000000) (ht : t.size ≤ 100000) :
    Calls Try.prog 8 #[.pointer (some ⟨D, 0, none⟩), .string s, .string t] w fun e w' => e = .returned (.int .i64 (writeE st s t : Nat)) ∧ (∃ nf, w.heap.size ≤ nf ∧ Dz B w' D (n + 1) (writeS st s t nf)) ∧ Below B w w' := by
  have hB := h.base
  obtain ⟨K, g, h1, h2, h3⟩ := h
  refine (write_any h1 hst s t hs ht (by omega)).mono fun e w' hq => ?_
  obtain ⟨he, ⟨nf, g', hnf, hd, hg⟩, hkp⟩ := hq
  exact ⟨he, ⟨nf, hnf, _, g', hd, kn_base h2 hB, by omega⟩, hkp.below h2 hB⟩
theorem Dz.sync (h : Dz B w D n st) (hst : st.steps < 1000000000) (s : ByteArray) (hs : s.size ≤ 1000000000) :
    Calls Try.prog 9 #[.pointer (some ⟨D, 0, none⟩), .string s] w fun e w' => e = .returned (.int .i64 (syncE st s : Nat)) ∧ Dz B w' D n (syncS st s) ∧ Below B w w' := by
  have hB := h.base
  obtain ⟨K, g, h1, h2, h3⟩ := h
  exact (sync_any h1 hst s hs).mono fun e w' ⟨he, hd, hkp⟩ => ⟨he, ⟨K, g, hd, h2, h3⟩, hkp.below h2 hB⟩
theorem Dz.dir (h : Dz B w D n st) (hst : st.steps < 1000000000) :
    Calls Try.prog 10 #[.pointer (some ⟨D, 0, none⟩)] w fun e w' => e = .returned (.int .i64 (sdE st : Nat)) ∧ Dz B w' D n (sdS st) ∧ Below B w w' := by
  have hB := h.base
  obtain ⟨K, g, h1, h2, h3⟩ := h
  exact (sd_any h1 hst).mono fun e w' ⟨he, ⟨g', hd, hg⟩, hkp⟩ => ⟨he, ⟨_, g', hd, kn_base h2 hB, by omega⟩, hkp.below h2 hB⟩
theorem Dz.crash (h : Dz B w D n st) (hn : n + st.P.length ≤ 900000) (ns : List Bool) (o1 : Option Addr) (cap1 b1 off1 : Nat) (n1 : 0 < ns.length → o1 = some ⟨b1, off1, none⟩ ∧ b1 < B) (n2 : BoolsIn w ns b1 off1)
    (ss : List Nat) (o2 : Option Addr) (cap2 b2 off2 : Nat) (m1 : 0 < ss.length → o2 = some ⟨b2, off2, none⟩ ∧ b2 < B) (m2 : U64sIn w ss b2 off2) :
    Calls Try.prog 16 #[.pointer (some ⟨D, 0, none⟩), .slice o1 ns.length cap1, .slice o2 ss.length cap2] w fun e w' => e = .returned (.tuple #[]) ∧ (∃ F', Sv st.F F' (filesN (crN st.S st.P ns st.P.length)) ∧ Dz B w' D (n + st.P.length) (crS st ns F')) ∧ Below B w w' := by
  have hB := h.base
  obtain ⟨K, g, h1, h2, h3⟩ := h
  refine (crash_any h1 ns o1 cap1 b1 off1 (fun hp => ⟨(n1 hp).1, Nat.lt_of_lt_of_le (n1 hp).2 hB, fun hK => by have := h2 _ hK; have := (n1 hp).2; omega⟩) n2 ss o2 cap2 b2 off2 (fun hp => ⟨(m1 hp).1, Nat.lt_of_lt_of_le (m1 hp).2 hB, fun hK => by have := h2 _ hK; have := (m1 hp).2; omega⟩) m2 (by omega)).mono fun e w' hq => ?_
  obtain ⟨he, ⟨F', g', hsv, hd, hg⟩, hkp⟩ := hq
  exact ⟨he, ⟨F', hsv, _, g', hd, kn_base h2 hB, by omega⟩, hkp.below h2 hB⟩
theorem Dz.crash0 (h : Dz B w D n st) (hn : n + st.P.length ≤ 900000) :
    Calls Try.prog 16 #[.pointer (some ⟨D, 0, none⟩), .slice none 0 0, .slice none 0 0] w fun e w' => e = .returned (.tuple #[]) ∧ (∃ F', Sv st.F F' (filesN (crN st.S st.P [] st.P.length)) ∧ Dz B w' D (n + st.P.length) (crS st [] F')) ∧ Below B w w' :=
  h.crash hn [] none 0 0 0 (fun hp => absurd hp (by simp)) (fun j hj => absurd hj (by simp)) [] none 0 0 0 (fun hp => absurd hp (by simp)) (fun j hj => absurd hj (by simp))
theorem Dz.read (h : Dz B w D n st) (s : ByteArray) (hs : s.size ≤ 1000000000) : Calls Try.prog 17 #[.pointer (some ⟨D, 0, none⟩), .string s] w fun e w' => e = .returned (.tuple #[.string (readS st s), .int .i64 (findE st s : Nat)]) ∧ Dz B w' D n st ∧ Below B w w' := by
  have hB := h.base
  have h' := h
  obtain ⟨K, g, h1, h2, h3⟩ := h'
  exact (read_any h1 s hs).mono fun e w' ⟨he, hb⟩ => ⟨he, h.later hb, hb.mono hB⟩
theorem Dz.names (h : Dz B w D n st) (hd : st.down = false) (hsh : ∀ s ∈ keysN st.N, s.length ≤ 1000000000) : Calls Try.prog 19 #[.pointer (some ⟨D, 0, none⟩)] w fun e w' => (∃ ρ o cap, e = .returned (.slice o (keysN st.N).length cap) ∧ PRow 9 1 ρ o cap (keysN st.N).length ((keysN st.N).map encStr) w' ∧ (∀ r, ρ = some r → w.heap.size ≤ r)) ∧ Dz B w' D n st ∧ Below B w w' := by
  have hB := h.base
  have h' := h
  obtain ⟨K, g, h1, h2, h3⟩ := h'
  exact (lnames_any h1 hd hsh).mono fun e w' ⟨ρ, o, cap, he, hr, hρ, hb⟩ => ⟨⟨ρ, o, cap, he, hr, hρ⟩, h.later hb, hb.mono hB⟩
end
theorem Dz.new (n : Nat) (hn : n ≤ 65536) (w : World) : Calls Try.prog 7 #[.int .i64 (n : Int)] w fun e w' => ∃ D, e = .returned (.tuple #[.pointer (some ⟨D, 0, none⟩), .int .i64 0]) ∧ Dz w.heap.size w' D 0 (St.fresh n) ∧ Below w.heap.size w w' :=
  (new_any n hn w).mono fun e w' ⟨D, g, he, hd, hg, hD, hb⟩ => ⟨D, he, ⟨_, g, hd, fun b hb' => (by rcases hb' with h | h; exact h.elim; exact h.1), by omega⟩, hb⟩
theorem crN_nil (S : Dm) (P : List Tn) : ∀ i, crN S P [] i = S
  | 0 => rfl
  | i + 1 => by
    show (if ([] : List Bool)[i]? = some true then _ else crN S P [] i) = S
    rw [if_neg (by simp), crN_nil S P i]
theorem writeS_S (st : St) (s t : ByteArray) (nf : Nat) : (writeS st s t nf).S = st.S := by
  have hn := stepS_N st
  unfold writeS
  split
  · split
    · split
      · exact hn.2.2.1
      · exact hn.2.2.1
    · exact hn.2.2.1
  · rfl
theorem writeS_P (st : St) (s t : ByteArray) (nf : Nat) : (writeS st s t nf).P.length ≤ st.P.length + 1 := by
  have hn := (stepS_N st).2.2.2.1
  unfold writeS
  split
  · split
    · split
      · show (stepS st).P.length ≤ _
        rw [hn]; omega
      · show ((stepS st).P ++ [_]).length ≤ _
        rw [hn, List.length_append]; simp
    · rw [hn]; omega
  · omega
theorem Las.write {st : St} {c : Nat} {s text : ByteArray} (h3 : Las st c s text) (hm : Maps.IsMap st.N) (F : Fil st.N) (a t : ByteArray) (nf : Nat) (hne : a ≠ s) (hc : nf ≠ c) : Las (writeS st a t nf) c s text := by
  unfold writeS
  have hn := stepS_N st
  split
  · split
    · split
      · rename_i hh
        have := h3.step.file (atN st.N a) (t, (st.F (atN st.N a)).2) (h3.other F hh hne)
        rw [hn.2.1] at this
        exact this
      · have := h3.step.file nf (t, ⟨#[]⟩) hc
        rw [hn.2.1] at this
        exact this.turn (by show Maps.IsMap (stepS st).N; rw [hn.1]; exact hm) ⟨0, nf, [], a⟩ ⟨hc, hne, by simp⟩
    · exact h3.step
  · exact h3
theorem fil_one (s : ByteArray) (c : Nat) : Fil (oneN s c) := fil_iff.2 (fun k hk => by
  rw [← put_one] at hk
  by_cases e : k = nk s
  · exact ⟨c, lead_one.2 ⟨e, rfl⟩⟩
  · rw [Maps.has_put_other e] at hk
    simp [Maps.has] at hk)
set_option maxRecDepth 100000 in
set_option maxHeartbeats 4000000 in
theorem awake_any (w : World) : Calls Try.prog 6 #[] w fun e w' => e = .returned (.bool true) ∧ Below w.heap.size w w' := by
  have K7 : Hid (Calls Try.prog 7 #[.int .i64 100] w fun e w' => ∃ D, e = .returned (.tuple #[.pointer (some ⟨D, 0, none⟩), .int .i64 0]) ∧ Dz w.heap.size w' D 0 (St.fresh 100) ∧ Below w.heap.size w w') := Lib.hid (Dz.new 100 (by omega) w)
  have K8 : Hid (∀ w1 D, Dz w.heap.size w1 D 0 (St.fresh 100) → Calls Try.prog 8 #[.pointer (some ⟨D, 0, none⟩), .string ⟨#[97]⟩, .string ⟨#[120]⟩] w1 fun e w' => e = .returned (.int .i64 0) ∧ (∃ c, Dz w.heap.size w' D 1 (stA 100 ⟨#[97]⟩ ⟨#[120]⟩ c)) ∧ Below w.heap.size w1 w') := Lib.hid (fun w1 D h => (h.write (by omega) (by show 0 < 1000000000; omega) (by show 0 + 1 ≤ 1000000; omega) ⟨#[97]⟩ ⟨#[120]⟩ (by decide) (by decide)).mono fun e w' ⟨he, ⟨nf, _, hd⟩, hb⟩ => by
    obtain ⟨e1, e2⟩ := write_fresh 100 ⟨#[97]⟩ ⟨#[120]⟩ rfl (by decide) nf
    rw [e1] at he
    rw [e2] at hd
    exact ⟨he, ⟨nf, hd⟩, hb⟩)
  have K9 : Hid (∀ w1 D c, Dz w.heap.size w1 D 1 (stA 100 ⟨#[97]⟩ ⟨#[120]⟩ c) → Calls Try.prog 9 #[.pointer (some ⟨D, 0, none⟩), .string ⟨#[97]⟩] w1 fun e w' => e = .returned (.int .i64 0) ∧ Dz w.heap.size w' D 1 (stB 100 ⟨#[97]⟩ ⟨#[120]⟩ c) ∧ Below w.heap.size w1 w') := Lib.hid (fun w1 D c h => (h.sync (by show 1 < 1000000000; omega) ⟨#[97]⟩ (by decide)).mono fun e w' ⟨he, hd, hb⟩ => by
    obtain ⟨e1, e2⟩ := sync_fresh 100 ⟨#[97]⟩ ⟨#[120]⟩ c
    rw [e1] at he
    rw [e2] at hd
    exact ⟨he, hd, hb⟩)
  have K10 : Hid (∀ w1 D c, Dz w.heap.size w1 D 1 (stB 100 ⟨#[97]⟩ ⟨#[120]⟩ c) → Calls Try.prog 10 #[.pointer (some ⟨D, 0, none⟩)] w1 fun e w' => e = .returned (.int .i64 0) ∧ Dz w.heap.size w' D 1 (stC 100 ⟨#[97]⟩ ⟨#[120]⟩ c) ∧ Below w.heap.size w1 w') := Lib.hid (fun w1 D c h => (h.dir (by show 2 < 1000000000; omega)).mono fun e w' ⟨he, hd, hb⟩ => by
    obtain ⟨e1, e2⟩ := sd_fresh 100 ⟨#[97]⟩ ⟨#[120]⟩ c
    rw [e1] at he
    rw [e2] at hd
    exact ⟨he, hd, hb⟩)
  have K8b : Hid (∀ w1 D c, Dz w.heap.size w1 D 1 (stC 100 ⟨#[97]⟩ ⟨#[120]⟩ c) → Calls Try.prog 8 #[.pointer (some ⟨D, 0, none⟩), .string ⟨#[98]⟩, .string ⟨#[121]⟩] w1 fun e w' => (∃ n : Nat, e = .returned (.int .i64 (n : Int))) ∧ (∃ nf, Dz w.heap.size w' D 2 (writeS (stC 100 ⟨#[97]⟩ ⟨#[120]⟩ c) ⟨#[98]⟩ ⟨#[121]⟩ nf) ∧ nf ≠ c) ∧ Below w.heap.size w1 w') := Lib.hid (fun w1 D c h => (h.write (by omega) (by show 3 < 1000000000; omega) (by show 0 + 1 ≤ 1000000; omega) ⟨#[98]⟩ ⟨#[121]⟩ (by decide) (by decide)).mono fun e w' ⟨he, ⟨nf, hnf, hd⟩, hb⟩ => ⟨⟨_, he⟩, ⟨nf, hd, fun e => by
      obtain ⟨K, g, h1, _⟩ := h
      have := lt_of_heap (h1.file c (las_live (las_fresh 100 _ _ c)))
      omega⟩, hb⟩)
  have K16 : Hid (∀ w1 D c nf, Dz w.heap.size w1 D 2 (writeS (stC 100 ⟨#[97]⟩ ⟨#[120]⟩ c) ⟨#[98]⟩ ⟨#[121]⟩ nf) → nf ≠ c → Calls Try.prog 16 #[.pointer (some ⟨D, 0, none⟩), .slice none 0 0, .slice none 0 0] w1 fun e w' => e = .returned (.tuple #[]) ∧ (∃ st n, Dz w.heap.size w' D n st ∧ st.down = false ∧ st.N = oneN ⟨#[97]⟩ c ∧ (st.F c).1 = ⟨#[120]⟩) ∧ Below w.heap.size w1 w') := Lib.hid (fun w1 D c nf h hne => by
    have h' := h
    obtain ⟨K, g, h1, h2, h3⟩ := h'
    have hL : Las (writeS (stC 100 ⟨#[97]⟩ ⟨#[120]⟩ c) ⟨#[98]⟩ ⟨#[121]⟩ nf) c ⟨#[97]⟩ ⟨#[120]⟩ := by
      exact (las_fresh 100 _ _ c).write ⟨_, rfl⟩ (fil_one _ _) _ _ nf (by decide) hne
    refine (h.crash0 (by have := writeS_P (stC 100 ⟨#[97]⟩ ⟨#[120]⟩ c) ⟨#[98]⟩ ⟨#[121]⟩ nf; have e : (stC 100 ⟨#[97]⟩ ⟨#[120]⟩ c).P.length = 0 := rfl; omega)).mono fun e w' ⟨he, ⟨F', hsv, hd⟩, hb⟩ => ⟨he, ⟨_, _, hd, rfl, ?_, ?_⟩, hb⟩
    · show crN _ _ [] _ = _
      rw [crN_nil, writeS_S]
      rfl
    · have := (hL.crash h1.sure.isMap [] F' _ hsv).f
      rw [this])
  have K17 : Hid (∀ w1 D c st n, Dz w.heap.size w1 D n st → st.down = false → st.N = oneN ⟨#[97]⟩ c → (st.F c).1 = ⟨#[120]⟩ → Calls Try.prog 17 #[.pointer (some ⟨D, 0, none⟩), .string ⟨#[97]⟩] w1 fun e w' => e = .returned (.tuple #[.string ⟨#[120]⟩, .int .i64 0]) ∧ Dz w.heap.size w' D n st ∧ Below w.heap.size w1 w') := Lib.hid (fun w1 D c st n h hd hN hF => (h.read ⟨#[97]⟩ (by decide)).mono fun e w' ⟨he, hd', hb⟩ => by
    have hf : findE st ⟨#[97]⟩ = 0 := by unfold findE; rw [if_neg (by rw [hd]; simp), hN, if_pos (has_one _ c)]
    have ha : atN st.N ⟨#[97]⟩ = c := by rw [hN]; exact at_of_leads (lead_one.2 ⟨rfl, rfl⟩)
    have hr : readS st ⟨#[97]⟩ = ⟨#[120]⟩ := by unfold readS; rw [if_pos hf, ha, hF]
    rw [hf, hr] at he
    exact ⟨he, hd', hb⟩)
  have K19 : Hid (∀ w1 D c st n, Dz w.heap.size w1 D n st → st.down = false → st.N = oneN ⟨#[97]⟩ c → Calls Try.prog 19 #[.pointer (some ⟨D, 0, none⟩)] w1 fun e w' => (∃ o cap, e = .returned (.slice o 1 cap)) ∧ Below w.heap.size w1 w') := Lib.hid (fun w1 D c st n h hd hN => (h.names hd (by rw [hN, keys_one]; intro s hs; simp at hs; subst hs; simp)).mono fun e w' ⟨⟨ρ, o, cap, he, _⟩, _, hb⟩ => by
    rw [hN, keys_one] at he
    exact ⟨⟨o, cap, he⟩, hb⟩)
  go_enter Try.func6, Try.ntmps6
  go_wp2_with (first
    | (go_at_call 7; ((with_reducible refine (K7.out).mono ?_); rintro e w1 ⟨D, rfl, hd1, hb1⟩; have HD1 := Lib.hid hd1; have HB1 := Lib.hid hb1; clear hd1 hb1))
    | (go_at_call 8; ((with_reducible refine (K8.out _ _ HD1.out).mono ?_); rintro e w2 ⟨rfl, ⟨c, hd2⟩, hb2⟩; have HD2 := Lib.hid hd2; have HB2 := Lib.hid hb2; clear hd2 hb2))
    | (go_at_call 9; ((with_reducible refine (K9.out _ _ _ HD2.out).mono ?_); rintro e w3 ⟨rfl, hd3, hb3⟩; have HD3 := Lib.hid hd3; have HB3 := Lib.hid hb3; clear hd3 hb3))
    | (go_at_call 10; ((with_reducible refine (K10.out _ _ _ HD3.out).mono ?_); rintro e w4 ⟨rfl, hd4, hb4⟩; have HD4 := Lib.hid hd4; have HB4 := Lib.hid hb4; clear hd4 hb4))
    | (go_at_call 8; ((with_reducible refine (K8b.out _ _ _ HD4.out).mono ?_); rintro e w5 ⟨⟨n5, rfl⟩, ⟨nf, hd5, hne5⟩, hb5⟩; have HD5 := Lib.hid hd5; have HNE5 := Lib.hid hne5; have HB5 := Lib.hid hb5; clear hd5 hne5 hb5))
    | (go_at_call 16; ((with_reducible refine (K16.out _ _ _ _ HD5.out HNE5.out).mono ?_); rintro e w6 ⟨rfl, ⟨st6, n6, hd6, hdn6, hN6, hF6⟩, hb6⟩; have HD6 := Lib.hid hd6; have HS6 := Lib.hid (And.intro hdn6 (And.intro hN6 hF6)); have HB6 := Lib.hid hb6; clear hd6 hdn6 hN6 hF6 hb6))
    | (go_at_call 17; ((with_reducible refine (K17.out _ _ _ _ _ HD6.out HS6.out.1 HS6.out.2.1 HS6.out.2.2).mono ?_); rintro e w7 ⟨rfl, hd7, hb7⟩; have HD7 := Lib.hid hd7; have HB7 := Lib.hid hb7; clear hd7 hb7))
    | (go_at_call 19; ((with_reducible refine (K19.out _ _ _ _ _ HD7.out HS6.out.1 HS6.out.2.1).mono ?_); rintro e w8 ⟨⟨o8, cap8, rfl⟩, hb8⟩; have HB8 := Lib.hid hb8; clear hb8)))
  go_ret
  exact ⟨rfl, (((((((HB1.out.trans HB2.out).trans HB3.out).trans HB4.out).trans HB5.out).trans HB6.out).trans HB7.out).trans HB8.out)⟩
end Go.Proofs.Ytjkpopdjmmgbbaa

namespace Go.Proofs.Ytjkpopdjmmgbbaa
open Go.RowKit Go.Maps Go.Sort
set_option maxRecDepth 100000 in
set_option maxHeartbeats 4000000 in
theorem nil_walk (w : World) : Calls Try.prog 4 #[] w fun e w' => e = .returned (.bool true) ∧ Below w.heap.size w w' := by
  have K6 := Lib.hid (awake_any w)
  have K15 := Lib.hid (fun (x : Int) wy => fuse_nil x wy)
  have K16 := Lib.hid (fun v1 v2 wy => crash_nil v1 v2 wy)
  have K17 := Lib.hid (fun s wy => read_nil s wy)
  have K8 := Lib.hid (fun s t wy => write_nil s t wy)
  have K9 := Lib.hid (fun s wy => sync_nil s wy)
  have K13 := Lib.hid (fun a b wy => rename_nil a b wy)
  have K14 := Lib.hid (fun a wy => remove_nil a wy)
  have K10 := Lib.hid (fun wy => sd_nil wy)
  have K19 := Lib.hid (fun wy => lnames_nil wy)
  have K20 := Lib.hid (fun wy => used_nil wy)
  have K21 := Lib.hid (fun wy => down_nil wy)
  have K22 := Lib.hid (fun wy => steps_nil wy)
  have K18 := Lib.hid (fun wy => pending_nil wy)
  go_enter Try.func4, Try.ntmps4
  go_wp2_with (first
    | (go_at_call 6; ((with_reducible refine (K6.out).mono ?_); rintro e w1 ⟨rfl, hb1⟩; have HB1 := Lib.hid hb1; clear hb1))
    | (go_at_call 15; ((with_reducible refine (K15.out _ _).mono ?_); rintro e wx ⟨rfl, hx⟩; subst hx))
    | (go_at_call 16; ((with_reducible refine (K16.out _ _ _).mono ?_); rintro e wx ⟨rfl, hx⟩; subst hx))
    | (go_at_call 17; ((with_reducible refine (K17.out _ _).mono ?_); rintro e wx ⟨rfl, hx⟩; subst hx))
    | (go_at_call 8; ((with_reducible refine (K8.out _ _ _).mono ?_); rintro e wx ⟨rfl, hx⟩; subst hx))
    | (go_at_call 9; ((with_reducible refine (K9.out _ _).mono ?_); rintro e wx ⟨rfl, hx⟩; subst hx))
    | (go_at_call 13; ((with_reducible refine (K13.out _ _ _).mono ?_); rintro e wx ⟨rfl, hx⟩; subst hx))
    | (go_at_call 14; ((with_reducible refine (K14.out _ _).mono ?_); rintro e wx ⟨rfl, hx⟩; subst hx))
    | (go_at_call 10; ((with_reducible refine (K10.out _).mono ?_); rintro e wx ⟨rfl, hx⟩; subst hx))
    | (go_at_call 19; ((with_reducible refine (K19.out _).mono ?_); rintro e wx ⟨rfl, hx⟩; subst hx))
    | (go_at_call 20; ((with_reducible refine (K20.out _).mono ?_); rintro e wx ⟨rfl, hx⟩; subst hx))
    | (go_at_call 21; ((with_reducible refine (K21.out _).mono ?_); rintro e wx ⟨rfl, hx⟩; subst hx))
    | (go_at_call 22; ((with_reducible refine (K22.out _).mono ?_); rintro e wx ⟨rfl, hx⟩; subst hx))
    | (go_at_call 18; ((with_reducible refine (K18.out _).mono ?_); rintro e wx ⟨rfl, hx⟩; subst hx)))
  go_ret
  exact ⟨rfl, HB1.out⟩
end Go.Proofs.Ytjkpopdjmmgbbaa
