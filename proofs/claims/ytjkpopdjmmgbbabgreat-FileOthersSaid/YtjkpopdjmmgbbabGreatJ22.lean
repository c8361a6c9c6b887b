/- A new disk with one file; the chapter's example.; What Save does, plainly; what holds at its labels.; The steps of a Save. -/
import Derived.Test.YtjkpopdjmmgbbabGreatJ21
import Derived.Test.YtjkpopdjmmgbbabGreatJ13
import Derived.ScopeJumps
set_option linter.unusedVariables false
set_option linter.unusedSimpArgs false
namespace Go.Proofs.YtjkpopdjmmgbbabGreat.Dk
open Go.RowKit Go.Maps Go.Sort

/-- Names with one file. -/
def oneN (s : ByteArray) (c : Nat) : Dm := .map [(nk s, fl c)]
theorem put_one (s : ByteArray) (c : Nat) : (DataW.map [] : Dm).put (nk s) (fl c) = oneN s c := by
  unfold oneN nk
  simp [DataW.put, DataW.insert]
theorem lead_one {s : ByteArray} {c : Nat} {k : Lit} {d : Nat} : Leads (oneN s c) k d ↔ k = nk s ∧ d = c := by
  rw [← put_one, leads_put Maps.isMap_empty (key_lit s)]
  constructor
  · rintro (h | ⟨_, h⟩)
    · exact h
    · exact absurd h.1 (by simp [Maps.has])
  · exact Or.inl
theorem has_one (s : ByteArray) (c : Nat) : hasN (oneN s c) s = true := (lead_one.2 ⟨rfl, rfl⟩ : Leads (oneN s c) (nk s) c).1
theorem keys_one (s : ByteArray) (c : Nat) : keysN (oneN s c) = [s.data.toList] := by
  simp [keysN, strKeys, oneN, nk, strOf]
theorem keys_none : keysN (.map [] : Dm) = [] := by
  simp [keysN, strKeys]
theorem used_fresh (room : Nat) : usedN (St.fresh room) = 0 := by
  show sumF _ ((keysN (.map [] : Dm)).foldl _ []) = 0
  rw [keys_none]
  rfl
def stA (room : Nat) (s text : ByteArray) (c : Nat) : St := ⟨room, oneN s c, .map [], [⟨0, c, [], s⟩], -1, 1, false, setF (fun _ => (⟨#[]⟩, ⟨#[]⟩)) c (text, ⟨#[]⟩)⟩
def stB (room : Nat) (s text : ByteArray) (c : Nat) : St := ⟨room, oneN s c, .map [], [⟨0, c, [], s⟩], -1, 2, false, setF (setF (fun _ => (⟨#[]⟩, ⟨#[]⟩)) c (text, ⟨#[]⟩)) c (text, text)⟩
def stC (room : Nat) (s text : ByteArray) (c : Nat) : St := ⟨room, oneN s c, oneN s c, [], -1, 3, false, setF (setF (fun _ => (⟨#[]⟩, ⟨#[]⟩)) c (text, ⟨#[]⟩)) c (text, text)⟩
theorem pre_fresh (room : Nat) (s text : ByteArray) (hs : nmB s = true) (ht : text.size ≤ room) : preW (St.fresh room) s text = 0 := by
  have hh : hasN (St.fresh room).N s = false := rfl
  have ho : oldN (St.fresh room) s = 0 := if_neg (by rw [hh]; simp)
  unfold preW
  rw [if_neg (by show ¬ false = true; simp), if_neg (by rw [hs]; simp), if_neg (fun h => absurd h.2 (by show ¬ 16 ≤ 0; omega)), if_neg (by rw [used_fresh, ho]; show ¬ (room : Int) < _; omega)]
theorem write_fresh (room : Nat) (s text : ByteArray) (hs : nmB s = true) (ht : text.size ≤ room) (c : Nat) : writeE (St.fresh room) s text = 0 ∧ writeS (St.fresh room) s text c = stA room s text c := by
  have hp := pre_fresh room s text hs ht
  have h5 : stepE (St.fresh room) = 0 := rfl
  refine ⟨by unfold writeE; rw [if_pos hp, h5], ?_⟩
  unfold writeS
  rw [if_pos hp, if_pos h5, if_neg (by show ¬ false = true; simp)]
  unfold turnS doT
  rw [if_neg (fun h => h.1 rfl), if_neg (by show ¬ (0 : Nat) = 2; omega)]
  show St.mk room ((DataW.map [] : Dm).put (nk s) (fl c)) _ _ _ _ _ _ = _
  rw [put_one]
  rfl
theorem sync_fresh (room : Nat) (s text : ByteArray) (c : Nat) : syncE (stA room s text c) s = 0 ∧ syncS (stA room s text c) s = stB room s text c := by
  have hf : findE (stA room s text c) s = 0 := by
    unfold findE
    rw [if_neg (by show ¬ false = true; simp), if_pos (show hasN (stA room s text c).N s = true from has_one s c)]
  have h5 : stepE (stA room s text c) = 0 := rfl
  have ho : onE (stA room s text c) s = 0 := by unfold onE; rw [if_pos hf, h5]
  have ha : atN (stA room s text c).N s = c := at_of_leads (lead_one.2 ⟨rfl, rfl⟩)
  refine ⟨ho, ?_⟩
  unfold syncS
  rw [if_pos ho, ha]
  have hS : onS (stA room s text c) s = stepS (stA room s text c) := if_pos hf
  have hF : (stA room s text c).F c = (text, ⟨#[]⟩) := if_pos rfl
  rw [hS, hF]
  rfl
theorem sd_fresh (room : Nat) (s text : ByteArray) (c : Nat) : sdE (stB room s text c) = 0 ∧ sdS (stB room s text c) = stC room s text c := ⟨rfl, rfl⟩
theorem las_fresh (room : Nat) (s text : ByteArray) (c : Nat) : Las (stC room s text c) c s text :=
  ⟨lead_one.2 ⟨rfl, rfl⟩, lead_one.2 ⟨rfl, rfl⟩, fun k h => (lead_one.1 h).1, fun k h => (lead_one.1 h).1, fun t ht => (by cases ht), if_pos rfl⟩
/-- A disk in a state, its blocks from a place on. -/
def Dz (B : Nat) (w : World) (D : Nat) (n : Nat) (st : St) : Prop := ∃ (K : Nat → Prop) (g : Gh), DW w K D g st ∧ (∀ b, K b → B ≤ b) ∧ g.nn ≤ n
section
variable {B : Nat} {w : World} {D : Nat} {n : Nat} {st : St}
theorem Dz.later {w' : World} (h : Dz B w D n st) (hb : Below w.heap.size w w') : Dz B w' D n st := by
  obtain ⟨K, g, h1, h2⟩ := h
  exact ⟨K, g, h1.later hb, h2⟩
theorem Dz.base (h : Dz B w D n st) : B ≤ w.heap.size := by
  obtain ⟨K, g, h1, h2, _⟩ := h
  exact Nat.le_of_lt (Nat.lt_of_le_of_lt (h2 D h1.own.1) h1.lt)
theorem Dz.write (h : Dz B w D n st) (hn : n + 1 ≤ 900000) (hst : st.steps < 1000000000) (hP : st.P.length + 1 ≤ 1000000) (s t : ByteArray) (hs : s.size ≤ 1000000000) (ht : t.size ≤ 100000) :
    Calls Tryz.prog 16 #[.pointer (some ⟨D, 0, none⟩), .string s, .string t] w fun e w' => e = .returned (.int .i64 (writeE st s t : Nat)) ∧ (∃ nf, w.heap.size ≤ nf ∧ Dz B w' D (n + 1) (writeS st s t nf)) ∧ Below B w w' := by
  have hB := h.base
  obtain ⟨K, g, h1, h2, h3⟩ := h
  refine (write_any h1 hst s t hs ht (by omega)).mono fun e w' hq => ?_
  obtain ⟨he, ⟨nf, g', hnf, hd, hg⟩, hkp⟩ := hq
  exact ⟨he, ⟨nf, hnf, _, g', hd, kn_base h2 hB, by omega⟩, hkp.below h2 hB⟩
theorem Dz.sync (h : Dz B w D n st) (hst : st.steps < 1000000000) (s : ByteArray) (hs : s.size ≤ 1000000000) :
    Calls Tryz.prog 17 #[.pointer (some ⟨D, 0, none⟩), .string s] w fun e w' => e = .returned (.int .i64 (syncE st s : Nat)) ∧ Dz B w' D n (syncS st s) ∧ Below B w w' := by
  have hB := h.base
  obtain ⟨K, g, h1, h2, h3⟩ := h
  exact (sync_any h1 hst s hs).mono fun e w' ⟨he, hd, hkp⟩ => ⟨he, ⟨K, g, hd, h2, h3⟩, hkp.below h2 hB⟩
theorem Dz.dir (h : Dz B w D n st) (hst : st.steps < 1000000000) :
    Calls Tryz.prog 19 #[.pointer (some ⟨D, 0, none⟩)] w fun e w' => e = .returned (.int .i64 (sdE st : Nat)) ∧ Dz B w' D n (sdS st) ∧ Below B w w' := by
  have hB := h.base
  obtain ⟨K, g, h1, h2, h3⟩ := h
  exact (sd_any h1 hst).mono fun e w' ⟨he, ⟨g', hd, hg⟩, hkp⟩ => ⟨he, ⟨_, g', hd, kn_base h2 hB, by omega⟩, hkp.below h2 hB⟩
theorem Dz.crash (h : Dz B w D n st) (hn : n + st.P.length ≤ 900000) (ns : List Bool) (o1 : Option Addr) (cap1 b1 off1 : Nat) (n1 : 0 < ns.length → o1 = some ⟨b1, off1, none⟩ ∧ b1 < B) (n2 : BoolsIn w ns b1 off1)
    (ss : List Nat) (o2 : Option Addr) (cap2 b2 off2 : Nat) (m1 : 0 < ss.length → o2 = some ⟨b2, off2, none⟩ ∧ b2 < B) (m2 : U64sIn w ss b2 off2) :
    Calls Tryz.prog 47 #[.pointer (some ⟨D, 0, none⟩), .slice o1 ns.length cap1, .slice o2 ss.length cap2] w fun e w' => e = .returned (.tuple #[]) ∧ (∃ F', Sv st.F F' (filesN (crN st.S st.P ns st.P.length)) ∧ Dz B w' D (n + st.P.length) (crS st ns F')) ∧ Below B w w' := by
  have hB := h.base
  obtain ⟨K, g, h1, h2, h3⟩ := h
  refine (crash_any h1 ns o1 cap1 b1 off1 (fun hp => ⟨(n1 hp).1, Nat.lt_of_lt_of_le (n1 hp).2 hB, fun hK => by have := h2 _ hK; have := (n1 hp).2; omega⟩) n2 ss o2 cap2 b2 off2 (fun hp => ⟨(m1 hp).1, Nat.lt_of_lt_of_le (m1 hp).2 hB, fun hK => by have := h2 _ hK; have := (m1 hp).2; omega⟩) m2 (by omega)).mono fun e w' hq => ?_
  obtain ⟨he, ⟨F', g', hsv, hd, hg⟩, hkp⟩ := hq
  exact ⟨he, ⟨F', hsv, _, g', hd, kn_base h2 hB, by omega⟩, hkp.below h2 hB⟩
theorem Dz.crash0 (h : Dz B w D n st) (hn : n + st.P.length ≤ 900000) :
    Calls Tryz.prog 47 #[.pointer (some ⟨D, 0, none⟩), .slice none 0 0, .slice none 0 0] w fun e w' => e = .returned (.tuple #[]) ∧ (∃ F', Sv st.F F' (filesN (crN st.S st.P [] st.P.length)) ∧ Dz B w' D (n + st.P.length) (crS st [] F')) ∧ Below B w w' :=
  h.crash hn [] none 0 0 0 (fun hp => absurd hp (by simp)) (fun j hj => absurd hj (by simp)) [] none 0 0 0 (fun hp => absurd hp (by simp)) (fun j hj => absurd hj (by simp))
theorem Dz.read (h : Dz B w D n st) (s : ByteArray) (hs : s.size ≤ 1000000000) : Calls Tryz.prog 20 #[.pointer (some ⟨D, 0, none⟩), .string s] w fun e w' => e = .returned (.tuple #[.string (readS st s), .int .i64 (findE st s : Nat)]) ∧ Dz B w' D n st ∧ Below B w w' := by
  have hB := h.base
  have h' := h
  obtain ⟨K, g, h1, h2, h3⟩ := h'
  exact (read_any h1 s hs).mono fun e w' ⟨he, hb⟩ => ⟨he, h.later hb, hb.mono hB⟩
theorem Dz.names (h : Dz B w D n st) (hd : st.down = false) (hsh : ∀ s ∈ keysN st.N, s.length ≤ 1000000000) : Calls Tryz.prog 9 #[.pointer (some ⟨D, 0, none⟩)] w fun e w' => (∃ ρ o cap, e = .returned (.slice o (keysN st.N).length cap) ∧ PRow 9 1 ρ o cap (keysN st.N).length ((keysN st.N).map encStr) w' ∧ (∀ r, ρ = some r → w.heap.size ≤ r)) ∧ Dz B w' D n st ∧ Below B w w' := by
  have hB := h.base
  have h' := h
  obtain ⟨K, g, h1, h2, h3⟩ := h'
  exact (lnames_any h1 hd hsh).mono fun e w' ⟨ρ, o, cap, he, hr, hρ, hb⟩ => ⟨⟨ρ, o, cap, he, hr, hρ⟩, h.later hb, hb.mono hB⟩
end
theorem Dz.new (n : Nat) (hn : n ≤ 65536) (w : World) : Calls Tryz.prog 5 #[.int .i64 (n : Int)] w fun e w' => ∃ D, e = .returned (.tuple #[.pointer (some ⟨D, 0, none⟩), .int .i64 0]) ∧ Dz w.heap.size w' D 0 (St.fresh n) ∧ Below w.heap.size w w' :=
  (new_any n hn w).mono fun e w' ⟨D, g, he, hd, hg, hD, hb⟩ => ⟨D, he, ⟨_, g, hd, fun b hb' => (by rcases hb' with h | h; exact h.elim; exact h.1), by omega⟩, hb⟩
theorem crN_nil (S : Dm) (P : List Tn) : ∀ i, crN S P [] i = S
  | 0 => rfl
  | i + 1 => by
    show (if ([] : List Bool)[i]? = some true then _ else crN S P [] i) = S
    rw [if_neg (by simp), crN_nil S P i]
theorem writeS_S (st : St) (s t : ByteArray) (nf : Nat) : (writeS st s t nf).S = st.S := by
  have hn := stepS_N st
  unfold writeS
  split
  · split
    · split
      · exact hn.2.2.1
      · exact hn.2.2.1
    · exact hn.2.2.1
  · rfl
theorem writeS_P (st : St) (s t : ByteArray) (nf : Nat) : (writeS st s t nf).P.length ≤ st.P.length + 1 := by
  have hn := (stepS_N st).2.2.2.1
  unfold writeS
  split
  · split
    · split
      · show (stepS st).P.length ≤ _
        rw [hn]; omega
      · show ((stepS st).P ++ [_]).length ≤ _
        rw [hn, List.length_append]; simp
    · rw [hn]; omega
  · omega
theorem Las.write {st : St} {c : Nat} {s text : ByteArray} (h3 : Las st c s text) (hm : Maps.IsMap st.N) (F : Fil st.N) (a t : ByteArray) (nf : Nat) (hne : a ≠ s) (hc : nf ≠ c) : Las (writeS st a t nf) c s text := by
  unfold writeS
  have hn := stepS_N st
  split
  · split
    · split
      · rename_i hh
        have := h3.step.file (atN st.N a) (t, (st.F (atN st.N a)).2) (h3.other F hh hne)
        rw [hn.2.1] at this
        exact this
      · have := h3.step.file nf (t, ⟨#[]⟩) hc
        rw [hn.2.1] at this
        exact this.turn (by show Maps.IsMap (stepS st).N; rw [hn.1]; exact hm) ⟨0, nf, [], a⟩ ⟨hc, hne, by simp⟩
    · exact h3.step
  · exact h3
theorem fil_one (s : ByteArray) (c : Nat) : Fil (oneN s c) := fil_iff.2 (fun k hk => by
  rw [← put_one] at hk
  by_cases e : k = nk s
  · exact ⟨c, lead_one.2 ⟨e, rfl⟩⟩
  · rw [Maps.has_put_other e] at hk
    simp [Maps.has] at hk)
set_option maxRecDepth 100000 in
set_option maxHeartbeats 4000000 in
theorem awake_any (w : World) : Calls Tryz.prog 30 #[] w fun e w' => e = .returned (.bool true) ∧ Below w.heap.size w w' := by
  have K7 : Hid (Calls Tryz.prog 5 #[.int .i64 100] w fun e w' => ∃ D, e = .returned (.tuple #[.pointer (some ⟨D, 0, none⟩), .int .i64 0]) ∧ Dz w.heap.size w' D 0 (St.fresh 100) ∧ Below w.heap.size w w') := Lib.hid (Dz.new 100 (by omega) w)
  have K8 : Hid (∀ w1 D, Dz w.heap.size w1 D 0 (St.fresh 100) → Calls Tryz.prog 16 #[.pointer (some ⟨D, 0, none⟩), .string ⟨#[97]⟩, .string ⟨#[120]⟩] w1 fun e w' => e = .returned (.int .i64 0) ∧ (∃ c, Dz w.heap.size w' D 1 (stA 100 ⟨#[97]⟩ ⟨#[120]⟩ c)) ∧ Below w.heap.size w1 w') := Lib.hid (fun w1 D h => (h.write (by omega) (by show 0 < 1000000000; omega) (by show 0 + 1 ≤ 1000000; omega) ⟨#[97]⟩ ⟨#[120]⟩ (by decide) (by decide)).mono fun e w' ⟨he, ⟨nf, _, hd⟩, hb⟩ => by
    obtain ⟨e1, e2⟩ := write_fresh 100 ⟨#[97]⟩ ⟨#[120]⟩ rfl (by decide) nf
    rw [e1] at he
    rw [e2] at hd
    exact ⟨he, ⟨nf, hd⟩, hb⟩)
  have K9 : Hid (∀ w1 D c, Dz w.heap.size w1 D 1 (stA 100 ⟨#[97]⟩ ⟨#[120]⟩ c) → Calls Tryz.prog 17 #[.pointer (some ⟨D, 0, none⟩), .string ⟨#[97]⟩] w1 fun e w' => e = .returned (.int .i64 0) ∧ Dz w.heap.size w' D 1 (stB 100 ⟨#[97]⟩ ⟨#[120]⟩ c) ∧ Below w.heap.size w1 w') := Lib.hid (fun w1 D c h => (h.sync (by show 1 < 1000000000; omega) ⟨#[97]⟩ (by decide)).mono fun e w' ⟨he, hd, hb⟩ => by
    obtain ⟨e1, e2⟩ := sync_fresh 100 ⟨#[97]⟩ ⟨#[120]⟩ c
    rw [e1] at he
    rw [e2] at hd
    exact ⟨he, hd, hb⟩)
  have K10 : Hid (∀ w1 D c, Dz w.heap.size w1 D 1 (stB 100 ⟨#[97]⟩ ⟨#[120]⟩ c) → Calls Tryz.prog 19 #[.pointer (some ⟨D, 0, none⟩)] w1 fun e w' => e = .returned (.int .i64 0) ∧ Dz w.heap.size w' D 1 (stC 100 ⟨#[97]⟩ ⟨#[120]⟩ c) ∧ Below w.heap.size w1 w') := Lib.hid (fun w1 D c h => (h.dir (by show 2 < 1000000000; omega)).mono fun e w' ⟨he, hd, hb⟩ => by
    obtain ⟨e1, e2⟩ := sd_fresh 100 ⟨#[97]⟩ ⟨#[120]⟩ c
    rw [e1] at he
    rw [e2] at hd
    exact ⟨he, hd, hb⟩)
  have K8b : Hid (∀ w1 D c, Dz w.heap.size w1 D 1 (stC 100 ⟨#[97]⟩ ⟨#[120]⟩ c) → Calls Tryz.prog 16 #[.pointer (some ⟨D, 0, none⟩), .string ⟨#[98]⟩, .string ⟨#[121]⟩] w1 fun e w' => (∃ n : Nat, e = .returned (.int .i64 (n : Int))) ∧ (∃ nf, Dz w.heap.size w' D 2 (writeS (stC 100 ⟨#[97]⟩ ⟨#[120]⟩ c) ⟨#[98]⟩ ⟨#[121]⟩ nf) ∧ nf ≠ c) ∧ Below w.heap.size w1 w') := Lib.hid (fun w1 D c h => (h.write (by omega) (by show 3 < 1000000000; omega) (by show 0 + 1 ≤ 1000000; omega) ⟨#[98]⟩ ⟨#[121]⟩ (by decide) (by decide)).mono fun e w' ⟨he, ⟨nf, hnf, hd⟩, hb⟩ => ⟨⟨_, he⟩, ⟨nf, hd, fun e => by
      obtain ⟨K, g, h1, _⟩ := h
      have := lt_of_heap (h1.file c (las_live (las_fresh 100 _ _ c)))
      omega⟩, hb⟩)
  have K16 : Hid (∀ w1 D c nf, Dz w.heap.size w1 D 2 (writeS (stC 100 ⟨#[97]⟩ ⟨#[120]⟩ c) ⟨#[98]⟩ ⟨#[121]⟩ nf) → nf ≠ c → Calls Tryz.prog 47 #[.pointer (some ⟨D, 0, none⟩), .slice none 0 0, .slice none 0 0] w1 fun e w' => e = .returned (.tuple #[]) ∧ (∃ st n, Dz w.heap.size w' D n st ∧ st.down = false ∧ st.N = oneN ⟨#[97]⟩ c ∧ (st.F c).1 = ⟨#[120]⟩) ∧ Below w.heap.size w1 w') := Lib.hid (fun w1 D c nf h hne => by
    have h' := h
    obtain ⟨K, g, h1, h2, h3⟩ := h'
    have hL : Las (writeS (stC 100 ⟨#[97]⟩ ⟨#[120]⟩ c) ⟨#[98]⟩ ⟨#[121]⟩ nf) c ⟨#[97]⟩ ⟨#[120]⟩ := by
      exact (las_fresh 100 _ _ c).write ⟨_, rfl⟩ (fil_one _ _) _ _ nf (by decide) hne
    refine (h.crash0 (by have := writeS_P (stC 100 ⟨#[97]⟩ ⟨#[120]⟩ c) ⟨#[98]⟩ ⟨#[121]⟩ nf; have e : (stC 100 ⟨#[97]⟩ ⟨#[120]⟩ c).P.length = 0 := rfl; omega)).mono fun e w' ⟨he, ⟨F', hsv, hd⟩, hb⟩ => ⟨he, ⟨_, _, hd, rfl, ?_, ?_⟩, hb⟩
    · show crN _ _ [] _ = _
      rw [crN_nil, writeS_S]
      rfl
    · have := (hL.crash h1.sure.isMap [] F' _ hsv).f
      rw [this])
  have K17 : Hid (∀ w1 D c st n, Dz w.heap.size w1 D n st → st.down = false → st.N = oneN ⟨#[97]⟩ c → (st.F c).1 = ⟨#[120]⟩ → Calls Tryz.prog 20 #[.pointer (some ⟨D, 0, none⟩), .string ⟨#[97]⟩] w1 fun e w' => e = .returned (.tuple #[.string ⟨#[120]⟩, .int .i64 0]) ∧ Dz w.heap.size w' D n st ∧ Below w.heap.size w1 w') := Lib.hid (fun w1 D c st n h hd hN hF => (h.read ⟨#[97]⟩ (by decide)).mono fun e w' ⟨he, hd', hb⟩ => by
    have hf : findE st ⟨#[97]⟩ = 0 := by unfold findE; rw [if_neg (by rw [hd]; simp), hN, if_pos (has_one _ c)]
    have ha : atN st.N ⟨#[97]⟩ = c := by rw [hN]; exact at_of_leads (lead_one.2 ⟨rfl, rfl⟩)
    have hr : readS st ⟨#[97]⟩ = ⟨#[120]⟩ := by unfold readS; rw [if_pos hf, ha, hF]
    rw [hf, hr] at he
    exact ⟨he, hd', hb⟩)
  have K19 : Hid (∀ w1 D c st n, Dz w.heap.size w1 D n st → st.down = false → st.N = oneN ⟨#[97]⟩ c → Calls Tryz.prog 9 #[.pointer (some ⟨D, 0, none⟩)] w1 fun e w' => (∃ o cap, e = .returned (.slice o 1 cap)) ∧ Below w.heap.size w1 w') := Lib.hid (fun w1 D c st n h hd hN => (h.names hd (by rw [hN, keys_one]; intro s hs; simp at hs; subst hs; simp)).mono fun e w' ⟨⟨ρ, o, cap, he, _⟩, _, hb⟩ => by
    rw [hN, keys_one] at he
    exact ⟨⟨o, cap, he⟩, hb⟩)
  go_enter Tryz.func30, Tryz.ntmps30
  go_wp2_with (first
    | (go_at_call 5; ((with_reducible refine (K7.out).mono ?_); rintro e w1 ⟨D, rfl, hd1, hb1⟩; have HD1 := Lib.hid hd1; have HB1 := Lib.hid hb1; clear hd1 hb1))
    | (go_at_call 16; ((with_reducible refine (K8.out _ _ HD1.out).mono ?_); rintro e w2 ⟨rfl, ⟨c, hd2⟩, hb2⟩; have HD2 := Lib.hid hd2; have HB2 := Lib.hid hb2; clear hd2 hb2))
    | (go_at_call 17; ((with_reducible refine (K9.out _ _ _ HD2.out).mono ?_); rintro e w3 ⟨rfl, hd3, hb3⟩; have HD3 := Lib.hid hd3; have HB3 := Lib.hid hb3; clear hd3 hb3))
    | (go_at_call 19; ((with_reducible refine (K10.out _ _ _ HD3.out).mono ?_); rintro e w4 ⟨rfl, hd4, hb4⟩; have HD4 := Lib.hid hd4; have HB4 := Lib.hid hb4; clear hd4 hb4))
    | (go_at_call 16; ((with_reducible refine (K8b.out _ _ _ HD4.out).mono ?_); rintro e w5 ⟨⟨n5, rfl⟩, ⟨nf, hd5, hne5⟩, hb5⟩; have HD5 := Lib.hid hd5; have HNE5 := Lib.hid hne5; have HB5 := Lib.hid hb5; clear hd5 hne5 hb5))
    | (go_at_call 47; ((with_reducible refine (K16.out _ _ _ _ HD5.out HNE5.out).mono ?_); rintro e w6 ⟨rfl, ⟨st6, n6, hd6, hdn6, hN6, hF6⟩, hb6⟩; have HD6 := Lib.hid hd6; have HS6 := Lib.hid (And.intro hdn6 (And.intro hN6 hF6)); have HB6 := Lib.hid hb6; clear hd6 hdn6 hN6 hF6 hb6))
    | (go_at_call 20; ((with_reducible refine (K17.out _ _ _ _ _ HD6.out HS6.out.1 HS6.out.2.1 HS6.out.2.2).mono ?_); rintro e w7 ⟨rfl, hd7, hb7⟩; have HD7 := Lib.hid hd7; have HB7 := Lib.hid hb7; clear hd7 hb7))
    | (go_at_call 9; ((with_reducible refine (K19.out _ _ _ _ _ HD7.out HS6.out.1 HS6.out.2.1).mono ?_); rintro e w8 ⟨⟨o8, cap8, rfl⟩, hb8⟩; have HB8 := Lib.hid hb8; clear hb8)))
  go_ret
  exact ⟨rfl, (((((((HB1.out.trans HB2.out).trans HB3.out).trans HB4.out).trans HB5.out).trans HB6.out).trans HB7.out).trans HB8.out)⟩
end Go.Proofs.YtjkpopdjmmgbbabGreat.Dk

namespace Go.Proofs.YtjkpopdjmmgbbabGreat.Fi
open Go.RowKit Dk

/-- By a goto to a label: J of it. -/
def Exit.jumps (J : Nat → Nat → Act → World → Prop) (n : Nat) (Q : Exit → Act → World → Prop) : Exit → Act → World → Prop
  | .goto l, a, w => ∃ m, m < n ∧ J l m a w
  | e, a, w => Q e a w
theorem wp_scope_labels {P : Program} {a : Act} {w : World} {Q : Exit → Act → World → Prop} {c : Code} (J : Nat → Nat → Act → World → Prop) (n0 : Nat)
    (first : c.wp P (Exit.jumps J n0 Q) a w)
    (pass : ∀ l n a w, J l n a w → ∃ rest, findLabel c l = some rest ∧ rest.wp P (Exit.jumps J n Q) a w) : (Code.scope c).wp P Q a w := by
  intro b k cs
  have hg : ∀ l rest, findLabel c l = some rest → gotoIn l (.inScope c :: k) = some (.code rest :: .inScope c :: k) := fun l rest hf => by simp [gotoIn, hf]
  have key : ∀ n l a w rest, J l n a w → findLabel c l = some rest → ∃ e a' w', Q e a' w' ∧ Arrives P (lone (b.at a (.code rest :: .inScope c :: k)) cs w) b k cs e a' w' := by
    intro n
    induction n using Nat.strongRecOn with
    | _ n ih =>
      intro l a w rest hJ hf
      obtain ⟨rest', hf', hp⟩ := pass l n a w hJ
      rw [hf] at hf'
      cases hf'
      obtain ⟨e, a₁, w₁, hq, harr⟩ := hp b (.inScope c :: k) cs
      cases e with
      | normal => exact ⟨.normal, a₁, w₁, hq, Steps.trans harr (.one step_inScope)⟩
      | exit id => exact ⟨.exit id, a₁, w₁, hq, fun k' hk => harr k' (by simp [exitTo, hk])⟩
      | goto l' =>
        obtain ⟨m, hm, hJ'⟩ := hq
        obtain ⟨rest2, hf2, _⟩ := pass l' m a₁ w₁ hJ'
        obtain ⟨e₂, a₂, w₂, hq₂, harr₂⟩ := ih m hm l' a₁ w₁ rest2 hJ' hf2
        exact ⟨e₂, a₂, w₂, hq₂, .of_steps (harr _ (hg _ _ hf2)) harr₂⟩
      | ret => exact ⟨_, a₁, w₁, hq, harr⟩
      | panic ch => exact ⟨_, a₁, w₁, hq, harr⟩
      | outgrown => exact ⟨_, a₁, w₁, hq, harr⟩
  obtain ⟨e, a₁, w₁, hq, harr⟩ := first b (.inScope c :: k) cs
  cases e with
  | normal => exact ⟨.normal, a₁, w₁, hq, .head step_scope (Steps.trans harr (.one step_inScope))⟩
  | exit id => exact ⟨.exit id, a₁, w₁, hq, fun k' hk => .head step_scope (harr k' (by simp [exitTo, hk]))⟩
  | goto l' =>
    obtain ⟨m, _, hJ'⟩ := hq
    obtain ⟨rest2, hf2, _⟩ := pass l' m a₁ w₁ hJ'
    obtain ⟨e₂, a₂, w₂, hq₂, harr₂⟩ := key m l' a₁ w₁ rest2 hJ' hf2
    exact ⟨e₂, a₂, w₂, hq₂, .of_steps (.head step_scope (harr _ (hg _ _ hf2))) harr₂⟩
  | ret => exact ⟨_, a₁, w₁, hq, .of_steps (.one step_scope) harr⟩
  | panic ch => exact ⟨_, a₁, w₁, hq, .of_steps (.one step_scope) harr⟩
  | outgrown => exact ⟨_, a₁, w₁, hq, .of_steps (.one step_scope) harr⟩

def Sv3 (st : St) (r : Nat × St) : Prop := r = (sdE st, sdS st)
def Sv2 (name by_ : ByteArray) (st : St) (r : Nat × St) : Prop :=
  ∃ ls, (preR st by_ name = 0 → by_ ≠ name → stepE st = 0 → ∀ s, s ∈ ls ↔ hasN st.N s = true ∧ atN st.N s = atN st.N by_) ∧
    (if renE st by_ name = 0 then Sv3 (renS st by_ name ls) r else r = (renE st by_ name, renS st by_ name ls))
def Sv1 (name by_ : ByteArray) (st : St) (r : Nat × St) : Prop :=
  if syncE st by_ = 0 then Sv2 name by_ (syncS st by_) r else r = (syncE st by_, syncS st by_)
/-- What a Save may leave: its answer, the disk. -/
def Sv0 (name by_ T : ByteArray) (st : St) (r : Nat × St) : Prop :=
  ∃ nf, ¬ st.live nf ∧ (if writeE st by_ T = 0 then Sv1 name by_ (writeS st by_ T nf) r else r = (writeE st by_ T, writeS st by_ T nf))
def SvK (name by_ T : ByteArray) (k : Nat) (st : St) (r : Nat × St) : Prop :=
  match k with
  | 0 => Sv0 name by_ T st r
  | 1 => Sv1 name by_ st r
  | 2 => Sv2 name by_ st r
  | _ => Sv3 st r
/-- What holds of the disk ahead of a step. -/
structure SvAt (w : World) (K : Nat → Prop) (D : Nat) (g : Gh) (st : St) (name by_ T : ByteArray) (k : Nat) (wz : World) (gk : Gh) (sk : St) : Prop where
  d : DW wz (Kn K w wz) D gk sk
  nn : gk.nn ≤ g.nn + k
  kp : Kp K w wz
  p : sk.P.length ≤ st.P.length + k
  s : sk.steps ≤ st.steps + k
  q : ∀ r, SvK name by_ T k sk r → Sv0 name by_ T st r
/-- What a Save leaves. -/
def SvR (w : World) (K : Nat → Prop) (D : Nat) (g : Gh) (st : St) (name by_ T : ByteArray) (e : Nat) (wz : World) : Prop :=
  ∃ (g' : Gh) (s' : St), DW wz (Kn K w wz) D g' s' ∧ g'.nn ≤ g.nn + 3 ∧ Kp K w wz ∧ s'.P.length ≤ st.P.length + 3 ∧ s'.steps ≤ st.steps + 4 ∧ Sv0 name by_ T st (e, s')
section
variable {w : World} {K : Nat → Prop} {D : Nat} {g : Gh} {st : St} {name by_ T : ByteArray} {wz w' : World} {gk g' : Gh} {sk : St}
theorem stepS_s (st : St) : (stepS st).steps ≤ st.steps + 1 := by unfold stepS; split <;> simp
theorem writeS_s (st : St) (s t : ByteArray) (nf : Nat) : (writeS st s t nf).steps ≤ st.steps + 1 := by
  have := stepS_s st
  unfold writeS
  split
  · split
    · split
      · exact this
      · exact this
    · exact this
  · omega
theorem syncS_s (st : St) (s : ByteArray) : (syncS st s).steps ≤ st.steps + 1 ∧ (syncS st s).P = st.P := by
  have h := stepS_s st
  have hp := (stepS_N st).2.2.2.1
  unfold syncS onS
  split
  · split
    · exact ⟨h, hp⟩
    · exact ⟨Nat.le_succ _, rfl⟩
  · split
    · exact ⟨h, hp⟩
    · exact ⟨Nat.le_succ _, rfl⟩
theorem renS_s (st : St) (a b : ByteArray) (ls : List ByteArray) : (renS st a b ls).steps ≤ st.steps + 1 ∧ (renS st a b ls).P.length ≤ st.P.length + 1 := by
  have h := stepS_s st
  have hp := (stepS_N st).2.2.2.1
  unfold renS
  split
  · split
    · refine ⟨h, ?_⟩
      show ((stepS st).P ++ [_]).length ≤ _
      rw [hp, List.length_append]; simp
    · refine ⟨h, ?_⟩
      rw [hp]; omega
  · omega
theorem sdS_s (st : St) : (sdS st).steps ≤ st.steps + 1 ∧ (sdS st).P.length ≤ st.P.length := by
  have h := stepS_s st
  have hp := (stepS_N st).2.2.2.1
  unfold sdS
  split
  · exact ⟨h, by simp⟩
  · split
    · omega
    · refine ⟨h, ?_⟩
      rw [hp]; omega
theorem SvAt.start (h : DW w K D g st) (hb : Below w.heap.size w wz) : SvAt w K D g st name by_ T 0 wz g st :=
  ⟨((h.later hb).wide (fun b hb => Or.inl hb) (fun b hb' => by rcases hb' with h1 | h1; exact Nat.lt_of_lt_of_le (h.own.2.2.2.2.2 b h1) hb.size; exact h1.2)), Nat.le_refl _, Kp.of_below hb, Nat.le_refl _, Nat.le_refl _, fun _ h => h⟩
theorem SvAt.later (h : SvAt w K D g st name by_ T 0 wz gk sk) (hb : Below wz.heap.size wz w') : SvAt w K D g st name by_ T 0 w' gk sk := by
  refine ⟨?_, h.nn, h.kp.trans (Kp.of_below hb), h.p, h.s, h.q⟩
  exact (h.d.later hb).wide (fun b hb' => by rcases hb' with h1 | h1; exact Or.inl h1; exact Or.inr ⟨h1.1, Nat.lt_of_lt_of_le h1.2 hb.size⟩) (fun b hb' => by
    rcases hb' with h1 | h1
    · exact Nat.lt_of_lt_of_le (h.d.own.2.2.2.2.2 b (Or.inl h1)) hb.size
    · exact h1.2)
theorem live_lt (h : DW wz K D gk sk) {c : Nat} (hc : sk.live c) : c < wz.heap.size := h.own.2.2.2.2.2 c (h.own.2.2.2.2.1 c hc)
end
end Go.Proofs.YtjkpopdjmmgbbabGreat.Fi

namespace Go.Proofs.YtjkpopdjmmgbbabGreat.Fi
open Go.RowKit Dk

section
variable {w : World} {K : Nat → Prop} {D : Nat} {g : Gh} {st : St} {name by_ T : ByteArray} {wz w' : World} {gk g' : Gh} {sk : St}
def StepQ (w : World) (K : Nat → Prop) (D : Nat) (g : Gh) (st : St) (name by_ T : ByteArray) (k : Nat) (e : Ending) (w' : World) : Prop :=
  ∃ E : Nat, e = .returned (.int .i64 (E : Int)) ∧ (E = 0 → ∃ gk sk, SvAt w K D g st name by_ T (k + 1) w' gk sk) ∧ (E ≠ 0 → SvR w K D g st name by_ T E w')
theorem kn2 (h : DW w' (Kn (Kn K w wz) wz w') D g' sk) (h1 : w.heap.size ≤ wz.heap.size) (h2 : wz.heap.size ≤ w'.heap.size) : DW w' (Kn K w w') D g' sk := DW.andKn h1 h h2
theorem kn1 (h : DW w' (Kn K w wz) D g' sk) (h1 : wz.heap.size ≤ w'.heap.size) : DW w' (Kn K w w') D g' sk :=
  h.wide (fun b hb => by rcases hb with hb | hb; exact Or.inl hb; exact Or.inr ⟨hb.1, Nat.lt_of_lt_of_le hb.2 h1⟩) (fun b hb => by
    rcases hb with hb | hb
    · exact h.own.2.2.2.2.2 b (Or.inl hb)
    · exact hb.2)
theorem SvAt.write (h : SvAt w K D g st name by_ T 0 wz gk sk) (hby : by_.size ≤ 1000000000) (hT : T.size ≤ 100000) (hfew : g.nn + 10 ≤ 900000 ∧ st.P.length + 10 ≤ 1000000 ∧ st.steps + 10 ≤ 1000000000) :
    Calls Tryz.prog 16 #[.pointer (some ⟨D, 0, none⟩), .string by_, .string T] wz (StepQ w K D g st name by_ T 0) := by
  have h1 := h.nn
  have h2 := h.p
  have h3 := h.s
  refine (write_any h.d (by omega) by_ T hby hT (by omega)).mono fun e w' hq => ?_
  obtain ⟨he, ⟨nf, g', hnf, hd, hg⟩, hkp⟩ := hq
  have hl : ¬ sk.live nf := fun hc => by have := live_lt h.d hc; omega
  have hd' := kn2 hd h.kp.size hkp.size
  have hp := writeS_P sk by_ T nf
  have hs := writeS_s sk by_ T nf
  refine ⟨_, he, fun h0 => ⟨g', _, hd', by omega, h.kp.andKn hkp, by omega, by omega, fun r hr => h.q r ⟨nf, hl, ?_⟩⟩, fun h0 => ⟨g', _, hd', by omega, h.kp.andKn hkp, by omega, by omega, h.q _ ⟨nf, hl, ?_⟩⟩⟩
  · rw [if_pos h0]; exact hr
  · rw [if_neg h0]
theorem SvAt.sync (h : SvAt w K D g st name by_ T 1 wz gk sk) (hby : by_.size ≤ 1000000000) (hfew : g.nn + 10 ≤ 900000 ∧ st.P.length + 10 ≤ 1000000 ∧ st.steps + 10 ≤ 1000000000) :
    Calls Tryz.prog 17 #[.pointer (some ⟨D, 0, none⟩), .string by_] wz (StepQ w K D g st name by_ T 1) := by
  have h1 := h.nn
  have h2 := h.p
  have h3 := h.s
  refine (sync_any h.d (by omega) by_ hby).mono fun e w' hq => ?_
  obtain ⟨he, hd, hkp⟩ := hq
  have hd' := kn1 hd hkp.size
  obtain ⟨hs, hp⟩ := syncS_s sk by_
  refine ⟨_, he, fun h0 => ⟨gk, _, hd', by omega, h.kp.andKn hkp, by rw [hp]; omega, by omega, fun r hr => h.q r ?_⟩, fun h0 => ⟨gk, _, hd', by omega, h.kp.andKn hkp, by rw [hp]; omega, by omega, h.q _ ?_⟩⟩
  · show Sv1 name by_ sk r
    unfold Sv1
    rw [if_pos h0]; exact hr
  · show Sv1 name by_ sk _
    unfold Sv1
    rw [if_neg h0]
theorem SvAt.rename (h : SvAt w K D g st name by_ T 2 wz gk sk) (hby : by_.size ≤ 1000000000) (hn : name.size ≤ 1000000000) (hfew : g.nn + 10 ≤ 900000 ∧ st.P.length + 10 ≤ 1000000 ∧ st.steps + 10 ≤ 1000000000) :
    Calls Tryz.prog 18 #[.pointer (some ⟨D, 0, none⟩), .string by_, .string name] wz (StepQ w K D g st name by_ T 2) := by
  have h1 := h.nn
  have h2 := h.p
  have h3 := h.s
  refine (rename_any h.d (by omega) by_ name hby hn (by omega)).mono fun e w' hq => ?_
  obtain ⟨he, ⟨ls, g', hls, hd, hg⟩, hkp⟩ := hq
  have hd' := kn2 hd h.kp.size hkp.size
  obtain ⟨hs, hp⟩ := renS_s sk by_ name ls
  refine ⟨_, he, fun h0 => ⟨g', _, hd', by omega, h.kp.andKn hkp, by omega, by omega, fun r hr => h.q r ⟨ls, hls, ?_⟩⟩, fun h0 => ⟨g', _, hd', by omega, h.kp.andKn hkp, by omega, by omega, h.q _ ⟨ls, hls, ?_⟩⟩⟩
  · rw [if_pos h0]; exact hr
  · rw [if_neg h0]
theorem SvAt.dir (h : SvAt w K D g st name by_ T 3 wz gk sk) (hfew : g.nn + 10 ≤ 900000 ∧ st.P.length + 10 ≤ 1000000 ∧ st.steps + 10 ≤ 1000000000) :
    Calls Tryz.prog 19 #[.pointer (some ⟨D, 0, none⟩)] wz fun e w' => ∃ E : Nat, e = .returned (.int .i64 (E : Int)) ∧ SvR w K D g st name by_ T E w' := by
  have h1 := h.nn
  have h2 := h.p
  have h3 := h.s
  refine (sd_any h.d (by omega)).mono fun e w' hq => ?_
  obtain ⟨he, ⟨g', hd, hg⟩, hkp⟩ := hq
  have hd' := kn2 hd h.kp.size hkp.size
  obtain ⟨hs, hp⟩ := sdS_s sk
  exact ⟨_, he, g', _, hd', by omega, h.kp.andKn hkp, by omega, by omega, h.q _ rfl⟩
end

def scopeIn : Code → Option Code
  | .scope c => some c
  | .seq a b => match scopeIn a with
    | some c => some c
    | none => scopeIn b
  | .block _ c => scopeIn c
  | _ => none
noncomputable def labC (l : Nat) : Code := (((Tryz.f6.body.bind scopeIn).bind fun c => findLabel c l).getD .skip)
noncomputable def labT (l : Nat) : Code := match labC l with
  | .seq _ c => c
  | c => c
/-- A frame of Save. -/
def fr (D : Nat) (name by_ t : ByteArray) (ev k : Int) (u : Nat → Value) : Act :=
  ⟨List.toArray [.pointer (some ⟨D, 0, none⟩), .string name, .string by_, .string t, u 4, u 5, u 6, u 7, .int .i64 0, .int .i64 ev, .int .i64 k, u 11, u 12, u 13, u 14, u 15, u 16, u 17, u 18, u 19, u 20, u 21, u 22, u 23, u 24, u 25, u 26, u 27, u 28, u 29, u 30, u 31, u 32, u 33, u 34, u 35, u 36, u 37, u 38, u 39, u 40, u 41, u 42, u 43, u 44, u 45, u 46], []⟩
def J0 (w : World) (K : Nat → Prop) (D : Nat) (g : Gh) (st : St) (name by_ t T : ByteArray) (n : Nat) (a : Act) (wz : World) : Prop :=
  ∃ (u : Nat → Value) (k : Nat), k ≤ 3 ∧ n = 10 - k ∧ a = fr D name by_ t 0 (k : Int) u ∧ Hid (∃ gk sk, SvAt w K D g st name by_ T k wz gk sk)
def J1 (w : World) (K : Nat → Prop) (D : Nat) (g : Gh) (st : St) (name by_ t T : ByteArray) (n : Nat) (a : Act) (wz : World) : Prop :=
  ∃ (u : Nat → Value) (k E : Nat), n = 0 ∧ a = fr D name by_ t (E : Int) (k : Int) u ∧ Hid (SvR w K D g st name by_ T E wz)
def JR (w : World) (K : Nat → Prop) (D : Nat) (g : Gh) (st : St) (name by_ t T : ByteArray) (l n : Nat) (a : Act) (wz : World) : Prop :=
  (l = 0 ∧ J0 w K D g st name by_ t T n a wz) ∨ (l = 1 ∧ J1 w K D g st name by_ t T n a wz)
def SvQ (w : World) (K : Nat → Prop) (D : Nat) (g : Gh) (st : St) (name by_ T : ByteArray) (e : Ending) (w' : World) : Prop := ∃ E : Nat, e = .returned (.int .i64 (E : Int)) ∧ SvR w K D g st name by_ T E w'
section
variable {w : World} {K : Nat → Prop} {D : Nat} {g : Gh} {st : St} {name by_ t T : ByteArray}
set_option maxRecDepth 1000000 in
set_option maxHeartbeats 2000000 in
theorem pass_1t (n : Nat) (a : Act) (wz : World) (hJ : J1 w K D g st name by_ t T n a wz) : Code.wp Tryz.prog (labT 1) (Exit.jumps (JR w K D g st name by_ t T) n (bodyPost Tryz.prog Tryz.f6 (SvQ w K D g st name by_ T))) a wz := by
  obtain ⟨u, k, E, hn, rfl, HR⟩ := hJ
  unfold fr
  conv => arg 2; whnf
  go_wp2
  simp only [Exit.jumps]
  refine bodyPost_ret (v := .int .i64 (E : Int)) (by simp [results, Tryz.results6, go_sem]) rfl ⟨E, rfl, HR.out⟩
end
end Go.Proofs.YtjkpopdjmmgbbabGreat.Fi
