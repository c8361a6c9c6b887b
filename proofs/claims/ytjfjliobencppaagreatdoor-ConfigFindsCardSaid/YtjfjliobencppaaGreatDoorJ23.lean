/- config: the first listener, cluster of a name; a clone.; config: lists of values under way (the document's Value).; Plain words of layer 3: names, hosts, paths, as lists of bytes.; DERIVED: THE SHELF's CONTRACTS AT THIS DUMP, IN PLAIN WORDS (tools/lay-plain.mjs out of 'YtjfjliobencppaaGreatDoorShelfL.lean', which tools/lay-shelf.mjs wrote): THE SAME DECLARATIONS UNDER THE SAME NAMES: 'import', 'namespace', 'open', 'def', 'theorem' AND NOTHING ELSE: no command of the shelf's: FOR A HAND-IN. Each laying: the table of numbers ('.._ren') and one theorem, a field a fact of the dump's own or the kernel's comparison; each contract: ONE APPLICATION.; The small functions of package label: a byte's kind, each byte of a text.; label.Name and its answer by definition. -/
import Derived.Test.YtjfjliobencppaaGreatDoorJ22
import Derived.Test.YtjfjliobencppaaGreatDoorJ21
import Derived.Lib.SplitLaws
import Derived.Shelf.Strings.Builder1
import Derived.Shelf.Strings.Builder2
import Derived.Shelf.Strings.OnBuilder
import Derived.Shelf.Small.Strs
import Derived.Shelf.Strings.BuilderF
import Derived.Shelf.LaysM
import Derived.Shelf.Strconv.Clone
import Derived.Shelf.Strings.Search1
import Derived.Shelf.Strings.Search2
import Derived.Shelf.Strings.Search3
import Derived.Shelf.Strings.Cut
import Derived.Shelf.Strings.Count
import Derived.Shelf.Strings.Prefix
import Derived.Shelf.Strings.Split
import Derived.Shelf.Slices.Equal
import Derived.Shelf.Slices.Empties2
import Derived.Test.YtjfjliobencppaaGreatDoorProg
import Derived.Test.YtjfjliobencppaaGreatDoorRows
import Derived.WalkKit
import Derived.WalkLawsBesides
import Derived.Outline
import Derived.Laws.IdiomStrings
import Derived.Lib.Hide
import Derived.WalkSpells
import Derived.Deep.DeepCutAuto
import Derived.Deep.CutBlock
import Derived.Deep.QuietTactic
import Derived.BigQuiet
import Derived.Deep.LoopGhost
import Derived.Deep.DeepFit
import Derived.Deep.Light
import Derived.Laws.Externs
set_option linter.unusedVariables false
set_option linter.unusedSimpArgs false
namespace Go.Proofs.YtjfjliobencppaaGreatDoor.Cf
open Go.RowKit

/-- The first of n of which p holds; -1: of none. -/
def FirstP (n : Nat) (p : Nat → Bool) (r : Int) : Prop := (r = -1 ∧ ∀ i, i < n → p i = false) ∨ ∃ k : Nat, r = (k : Int) ∧ k < n ∧ p k = true ∧ ∀ j, j < k → p j = false
theorem FirstP.one {n : Nat} {p : Nat → Bool} {r s : Int} (h : FirstP n p r) (k : FirstP n p s) : r = s := by
  rcases h with ⟨rfl, h⟩ | ⟨a, rfl, ha, hp, hf⟩
  · rcases k with ⟨rfl, _⟩ | ⟨b, rfl, hb, hq, _⟩
    · rfl
    · rw [h b hb] at hq; cases hq
  · rcases k with ⟨rfl, h⟩ | ⟨b, rfl, hb, hq, hg⟩
    · rw [h a ha] at hp; cases hp
    · rcases Nat.lt_trichotomy a b with c | c | c
      · rw [hg a c] at hp; cases hp
      · rw [c]
      · rw [hf b c] at hq; cases hq

set_option maxRecDepth 100000 in
set_option maxHeartbeats 4000000 in
theorem fx_lis (g n : Nat) (p : Nat → Bool) (o : Option Addr) (cap b off : Nat) (hn : n ≤ 1000000000) (w : World) (ho : 0 < n → o = some ⟨b, off, none⟩ ∧ b < w.heap.size)
    (hE : ∀ i, i < n → ∃ c0 c1 c2 c3 c4 c5 c6, w.cell? ⟨b, off + i * 7, none⟩ = some c0 ∧ w.cell? ⟨b, off + i * 7 + 1, none⟩ = some c1 ∧ w.cell? ⟨b, off + i * 7 + 2, none⟩ = some c2 ∧ w.cell? ⟨b, off + i * 7 + 3, none⟩ = some c3 ∧ w.cell? ⟨b, off + i * 7 + 4, none⟩ = some c4 ∧ w.cell? ⟨b, off + i * 7 + 5, none⟩ = some c5 ∧ w.cell? ⟨b, off + i * 7 + 6, none⟩ = some c6 ∧ ∀ wz, Below w.heap.size w wz → Calls Tryz.prog 39 #[.agg #[c0, c1, c2, c3, c4, c5, c6], .pointer (some ⟨g, 0, none⟩)] wz fun e w' => e = .returned (.bool (p i)) ∧ Below wz.heap.size wz w') :
    Calls Tryz.prog 38 #[.slice o n cap, (.func (.func 39) #[] #[.pointer (some ⟨g, 0, none⟩)])] w fun e w' => ∃ r : Int, e = .returned (.int .i64 r) ∧ FirstP n p r ∧ Below w.heap.size w w' := by
  have HO := Lib.hid ho
  have HE := Lib.hid hE
  clear ho hE
  go_enter Tryz.func38, Tryz.ntmps38
  go_wp2_with fail
  go_loopw [5, 8] (fun _ iv wr => ∃ k : Nat, k ≤ n ∧ iv = .int .i64 (k : Int) ∧ Hid (Below w.heap.size w wr ∧ ∀ j, j < k → p j = false)) (fun _ iv _ => n - (intOf iv).toNat)
  case atStart => exact ⟨0, Nat.zero_le _, rfl, Lib.hid ⟨Below.refl _ _, fun j h => absurd h (by omega)⟩⟩
  case round =>
    obtain ⟨k, hk, rfl, HT⟩ := hrel
    by_cases hlt : k < n
    · obtain ⟨ho', hb'⟩ := HO.out (by omega)
      subst ho'
      obtain ⟨c0, c1, c2, c3, c4, c5, c6, e0, e1, e2, e3, e4, e5, e6, hK⟩ := HE.out k hlt
      have f0 := (HT.out.1.cell (p := ⟨b, off + k * 7, none⟩) hb').trans e0
      have f1 := (HT.out.1.cell (p := ⟨b, off + k * 7 + 1, none⟩) hb').trans e1
      have f2 := (HT.out.1.cell (p := ⟨b, off + k * 7 + 2, none⟩) hb').trans e2
      have f3 := (HT.out.1.cell (p := ⟨b, off + k * 7 + 3, none⟩) hb').trans e3
      have f4 := (HT.out.1.cell (p := ⟨b, off + k * 7 + 4, none⟩) hb').trans e4
      have f5 := (HT.out.1.cell (p := ⟨b, off + k * 7 + 5, none⟩) hb').trans e5
      have f6 := (HT.out.1.cell (p := ⟨b, off + k * 7 + 6, none⟩) hb').trans e6
      have K1 := Lib.hid (hK wr HT.out.1)
      clear e0 e1 e2 e3 e4 e5 e6 hK
      cases hp : p k with
      | false =>
        rw [hp] at K1
        have HP := Lib.hid hp
        clear hp
        go_wp2_with fail
        refine (K1.out).mono ?_
        rintro r w1 ⟨rfl, hb1⟩
        have HB1 := Lib.hid (HT.out.1.trans (hb1.mono HT.out.1.size))
        clear hb1
        go_wp2_with fail
        go_roundw
        case rel =>
          refine ⟨k + 1, by omega, by go_num, Lib.hid ⟨HB1.out, fun j hj => ?_⟩⟩
          by_cases ej : j = k
          · subst ej; exact HP.out
          · exact HT.out.2 j (by omega)
        case measure => simp [intOf]; omega
      | true =>
        rw [hp] at K1
        have HP := Lib.hid hp
        clear hp
        go_wp2_with fail
        refine (K1.out).mono ?_
        rintro r w1 ⟨rfl, hb1⟩
        have HB1 := Lib.hid (HT.out.1.trans (hb1.mono HT.out.1.size))
        clear hb1
        go_wp2_with fail
        go_ret
        exact ⟨_, rfl, Or.inr ⟨k, rfl, hlt, HP.out, HT.out.2⟩, HB1.out⟩
    · go_wp2_with fail
      go_ret
      exact ⟨_, rfl, Or.inl ⟨rfl, fun j hj => HT.out.2 j (by omega)⟩, HT.out.1⟩

set_option maxRecDepth 100000 in
set_option maxHeartbeats 4000000 in
theorem fx_clu (g n : Nat) (p : Nat → Bool) (o : Option Addr) (cap b off : Nat) (hn : n ≤ 1000000000) (w : World) (ho : 0 < n → o = some ⟨b, off, none⟩ ∧ b < w.heap.size)
    (hE : ∀ i, i < n → ∃ c0 c1, w.cell? ⟨b, off + i * 2, none⟩ = some c0 ∧ w.cell? ⟨b, off + i * 2 + 1, none⟩ = some c1 ∧ ∀ wz, Below w.heap.size w wz → Calls Tryz.prog 42 #[.agg #[c0, c1], .pointer (some ⟨g, 0, none⟩)] wz fun e w' => e = .returned (.bool (p i)) ∧ Below wz.heap.size wz w') :
    Calls Tryz.prog 41 #[.slice o n cap, (.func (.func 42) #[] #[.pointer (some ⟨g, 0, none⟩)])] w fun e w' => ∃ r : Int, e = .returned (.int .i64 r) ∧ FirstP n p r ∧ Below w.heap.size w w' := by
  have HO := Lib.hid ho
  have HE := Lib.hid hE
  clear ho hE
  go_enter Tryz.func41, Tryz.ntmps41
  go_wp2_with fail
  go_loopw [5, 8] (fun _ iv wr => ∃ k : Nat, k ≤ n ∧ iv = .int .i64 (k : Int) ∧ Hid (Below w.heap.size w wr ∧ ∀ j, j < k → p j = false)) (fun _ iv _ => n - (intOf iv).toNat)
  case atStart => exact ⟨0, Nat.zero_le _, rfl, Lib.hid ⟨Below.refl _ _, fun j h => absurd h (by omega)⟩⟩
  case round =>
    obtain ⟨k, hk, rfl, HT⟩ := hrel
    by_cases hlt : k < n
    · obtain ⟨ho', hb'⟩ := HO.out (by omega)
      subst ho'
      obtain ⟨c0, c1, e0, e1, hK⟩ := HE.out k hlt
      have f0 := (HT.out.1.cell (p := ⟨b, off + k * 2, none⟩) hb').trans e0
      have f1 := (HT.out.1.cell (p := ⟨b, off + k * 2 + 1, none⟩) hb').trans e1
      have K1 := Lib.hid (hK wr HT.out.1)
      clear e0 e1 hK
      cases hp : p k with
      | false =>
        rw [hp] at K1
        have HP := Lib.hid hp
        clear hp
        go_wp2_with fail
        refine (K1.out).mono ?_
        rintro r w1 ⟨rfl, hb1⟩
        have HB1 := Lib.hid (HT.out.1.trans (hb1.mono HT.out.1.size))
        clear hb1
        go_wp2_with fail
        go_roundw
        case rel =>
          refine ⟨k + 1, by omega, by go_num, Lib.hid ⟨HB1.out, fun j hj => ?_⟩⟩
          by_cases ej : j = k
          · subst ej; exact HP.out
          · exact HT.out.2 j (by omega)
        case measure => simp [intOf]; omega
      | true =>
        rw [hp] at K1
        have HP := Lib.hid hp
        clear hp
        go_wp2_with fail
        refine (K1.out).mono ?_
        rintro r w1 ⟨rfl, hb1⟩
        have HB1 := Lib.hid (HT.out.1.trans (hb1.mono HT.out.1.size))
        clear hb1
        go_wp2_with fail
        go_ret
        exact ⟨_, rfl, Or.inr ⟨k, rfl, hlt, HP.out, HT.out.2⟩, HB1.out⟩
    · go_wp2_with fail
      go_ret
      exact ⟨_, rfl, Or.inl ⟨rfl, fun j hj => HT.out.2 j (by omega)⟩, HT.out.1⟩

set_option maxRecDepth 100000 in
theorem clo39 (s nm : ByteArray) (c1 c2 c3 c4 c5 c6 : Value) (g : Nat) (w : World) (hg : w.cell? ⟨g, 0, none⟩ = some (.string nm)) (hl : g < w.heap.size) : Calls Tryz.prog 39 #[.agg #[.string s, c1, c2, c3, c4, c5, c6], .pointer (some ⟨g, 0, none⟩)] w fun e w' => e = .returned (.bool (s.toList == nm.toList)) ∧ Below w.heap.size w w' := by
  have HB := Lib.hid (alloc_below w (.cells #[.string s, c1, c2, c3, c4, c5, c6] 52))
  have h2 := (HB.out.cell (p := ⟨g, 0, none⟩) hl).trans hg
  go_enter Tryz.func39, Tryz.ntmps39
  go_wp2
  go_ret
  exact ⟨rfl, HB.out⟩

set_option maxRecDepth 100000 in
theorem clo42 (s nm : ByteArray) (c1 : Value) (g : Nat) (w : World) (hg : w.cell? ⟨g, 0, none⟩ = some (.string nm)) (hl : g < w.heap.size) : Calls Tryz.prog 42 #[.agg #[.string s, c1], .pointer (some ⟨g, 0, none⟩)] w fun e w' => e = .returned (.bool (s.toList == nm.toList)) ∧ Below w.heap.size w w' := by
  have HB := Lib.hid (alloc_below w (.cells #[.string s, c1] 57))
  have h2 := (HB.out.cell (p := ⟨g, 0, none⟩) hl).trans hg
  go_enter Tryz.func42, Tryz.ntmps42
  go_wp2
  go_ret
  exact ⟨rfl, HB.out⟩

theorem ls_clone {w : World} {l : Ls} {v : Value} (hv : Rw 4 RtIn w v l.r) (hf : l.fit) : ∀ wz, Below w.heap.size w wz → Calls Tryz.prog 40 #[.agg #[.string l.name, .int .u8 (l.p.a : Int), .int .u8 (l.p.b : Int), .int .u8 (l.p.c : Int), .int .u8 (l.p.d : Int), .int .u16 (l.p.port : Int), v]] wz fun e w' => ∃ o c, e = .returned (.agg #[.string l.name, .int .u8 (l.p.a : Int), .int .u8 (l.p.b : Int), .int .u8 (l.p.c : Int), .int .u8 (l.p.d : Int), .int .u16 (l.p.port : Int), .slice o l.r.length c]) ∧ w'.ownsRow wz.heap.size 62 4 (.slice o l.r.length c) l.r.length (l.r.flatMap Rt.cs) ∧ Below wz.heap.size wz w' := by
  intro wz hb
  obtain ⟨o, cap, b, off, rfl, ho, hR⟩ := hv
  refine clone_ls l.name l.p.a l.p.b l.p.c l.p.d l.p.port o l.r.length cap (l.r.flatMap Rt.cs) hf.1 wz fun wy hy => ?_
  have hby := hb.trans (hy.mono hb.size)
  refine cl_rou l.r o cap b off hf.2.1 wy (fun hp => ⟨(ho hp).1, Nat.lt_of_lt_of_le (ho hp).2 hby.size⟩) fun i hi => ?_
  obtain ⟨cs, hr, rfl, hok⟩ := hR i hi
  have hr := rng_later hr hby
  have hq := hf.2.2 _ (List.getElem_mem hi)
  exact ⟨hr 0 _ rfl, hr 1 _ rfl, hr 2 _ rfl, hr 3 _ rfl, fun wx hx => clone_rt _ _ _ _ hq.1 hq.2.1 hq.2.2 wx⟩
theorem cl_clone {w : World} {l : Cl} {v : Value} (hv : Rw 6 EpIn w v l.e) (hn : l.name.size ≤ 1000000000) (hl : l.e.length ≤ 1000000) : ∀ wz, Below w.heap.size w wz → Calls Tryz.prog 43 #[.agg #[.string l.name, v]] wz fun e w' => ∃ o c, e = .returned (.agg #[.string l.name, .slice o l.e.length c]) ∧ w'.ownsRow wz.heap.size 64 6 (.slice o l.e.length c) l.e.length (l.e.flatMap Ep.cs) ∧ Below wz.heap.size wz w' := by
  intro wz hb
  obtain ⟨o, cap, b, off, rfl, ho, hR⟩ := hv
  refine clone_cl l.name o l.e.length cap (l.e.flatMap Ep.cs) hn wz fun wy hy => ?_
  have hby := hb.trans (hy.mono hb.size)
  refine cl_end l.e o cap b off hl wy (fun hp => ⟨(ho hp).1, Nat.lt_of_lt_of_le (ho hp).2 hby.size⟩) fun i hi => ?_
  obtain ⟨cs, hr, rfl, hok⟩ := hR i hi
  have hr := rng_later hr hby
  exact ⟨hr 0 _ rfl, hr 1 _ rfl, hr 2 _ rfl, hr 3 _ rfl, hr 4 _ rfl, hr 5 _ rfl, fun wx hx => clo87 _ _ _ _ _ _ wx⟩
/-- Clone of a config in memory. -/
theorem clone_co {w : World} {c0 c1 c2 : Value} {c : Co} (h : CoIn w c0 c1 c2 c) (hs : c.sized) :
    Calls Tryz.prog 19 #[.agg #[c0, c1, c2]] w fun e w' => ∃ oV cV oK cK, e = .returned (.agg #[.int .u64 (c.v : Int), .slice oV c.l.length cV, .slice oK c.c.length cK]) ∧ LcR w' w.heap.size (.slice oV c.l.length cV) c.l ∧ KcR w' w.heap.size (.slice oK c.c.length cK) c.c ∧ Below w.heap.size w w' := by
  obtain ⟨rfl, hv, ⟨o1, C1, B1, f1, rfl, ho1, hE1⟩, ⟨o2, C2, B2, f2, rfl, ho2, hE2⟩⟩ := h
  refine clone_walk c.v o1 o2 c.l.length c.c.length C1 C2 c.l c.c w (fun wz hb => ?_) (fun wz hb => ?_)
  · refine cl_lis c.l o1 C1 B1 f1 hs.1 wz (fun hp => ⟨(ho1 hp).1, Nat.lt_of_lt_of_le (ho1 hp).2 hb.size⟩) fun i hi => ?_
    obtain ⟨cs, hr, u, rfl, hn, hp, hR⟩ := hE1 i hi
    have hr := rng_later hr hb
    exact ⟨u, hr 0 _ rfl, hr 1 _ rfl, hr 2 _ rfl, hr 3 _ rfl, hr 4 _ rfl, hr 5 _ rfl, hr 6 _ rfl, fun wx hx => ls_clone (hR.later hb fun _ _ h => h) (hs.2.2.1 _ (List.getElem_mem hi)) wx hx⟩
  · refine cl_clu c.c o2 C2 B2 f2 hs.2.1 wz (fun hp => ⟨(ho2 hp).1, Nat.lt_of_lt_of_le (ho2 hp).2 hb.size⟩) fun i hi => ?_
    obtain ⟨cs, hr, u, rfl, hn, hR⟩ := hE2 i hi
    have hr := rng_later hr hb
    have hq := hs.2.2.2 _ (List.getElem_mem hi)
    exact ⟨u, hr 0 _ rfl, hr 1 _ rfl, fun wx hx => cl_clone (hR.later hb fun _ _ h => h) hq.1 hq.2 wx hx⟩

set_option maxRecDepth 100000 in
set_option maxHeartbeats 4000000 in
theorem find_lis (L : List Ls) (nm : ByteArray) (d0 d2 : Value) (o : Option Addr) (cap b off : Nat) (hlen : L.length ≤ 1000000) (w : World) (ho : 0 < L.length → o = some ⟨b, off, none⟩ ∧ b < w.heap.size)
    (hE : ∀ i (h : i < L.length), ∃ u : Value, w.cell? ⟨b, off + i * 7, none⟩ = some (.string L[i].name) ∧ w.cell? ⟨b, off + i * 7 + 1, none⟩ = some (.int .u8 (L[i].p.a : Int)) ∧ w.cell? ⟨b, off + i * 7 + 2, none⟩ = some (.int .u8 (L[i].p.b : Int)) ∧ w.cell? ⟨b, off + i * 7 + 3, none⟩ = some (.int .u8 (L[i].p.c : Int)) ∧ w.cell? ⟨b, off + i * 7 + 4, none⟩ = some (.int .u8 (L[i].p.d : Int)) ∧ w.cell? ⟨b, off + i * 7 + 5, none⟩ = some (.int .u16 (L[i].p.port : Int)) ∧ w.cell? ⟨b, off + i * 7 + 6, none⟩ = some (u) ∧ ∀ wz, Below w.heap.size w wz → Calls Tryz.prog 40 #[.agg #[.string L[i].name, .int .u8 (L[i].p.a : Int), .int .u8 (L[i].p.b : Int), .int .u8 (L[i].p.c : Int), .int .u8 (L[i].p.d : Int), .int .u16 (L[i].p.port : Int), u]] wz fun e w' => ∃ oo cc, e = .returned (.agg #[.string L[i].name, .int .u8 (L[i].p.a : Int), .int .u8 (L[i].p.b : Int), .int .u8 (L[i].p.c : Int), .int .u8 (L[i].p.d : Int), .int .u16 (L[i].p.port : Int), .slice oo L[i].r.length cc]) ∧ w'.ownsRow wz.heap.size 62 4 (.slice oo L[i].r.length cc) L[i].r.length (L[i].r.flatMap Rt.cs) ∧ Below wz.heap.size wz w') :
    Calls Tryz.prog 17 #[.agg #[d0, .slice o L.length cap, d2], .string nm] w fun e w' => ((e = .returned (.tuple #[.agg #[.string ⟨#[]⟩, .int .u8 0, .int .u8 0, .int .u8 0, .int .u8 0, .int .u16 0, .slice none 0 0], .bool false]) ∧ ∀ x ∈ L, (x.name.toList == nm.toList) = false) ∨ ∃ k, ∃ hk : k < L.length, (L[k].name.toList == nm.toList) = true ∧ (∀ j (hj : j < k), (L[j].name.toList == nm.toList) = false) ∧ ∃ oo cc, e = .returned (.tuple #[.agg #[.string L[k].name, .int .u8 (L[k].p.a : Int), .int .u8 (L[k].p.b : Int), .int .u8 (L[k].p.c : Int), .int .u8 (L[k].p.d : Int), .int .u16 (L[k].p.port : Int), .slice oo L[k].r.length cc], .bool true]) ∧ w'.ownsRow w.heap.size 62 4 (.slice oo L[k].r.length cc) L[k].r.length (L[k].r.flatMap Rt.cs)) ∧ Below w.heap.size w w' := by
  have HE := Lib.hid hE
  have HO := Lib.hid ho
  have HB0 := Lib.hid (show Below w.heap.size w (((w.alloc (.cells #[d0, .slice o L.length cap, d2] 26)).alloc (.cells #[.string nm] 9)).alloc (.cells #[.string ⟨#[]⟩, .int .u8 0, .int .u8 0, .int .u8 0, .int .u8 0, .int .u16 0, .slice none 0 0] 52)) from (alloc_below _ _).trans (((alloc_below _ _).mono (by simp)).trans ((alloc_below _ _).mono (by simp <;> omega))))
  have HX0 := Lib.hid (show Bk (((w.alloc (.cells #[d0, .slice o L.length cap, d2] 26)).alloc (.cells #[.string nm] 9)).alloc (.cells #[.string ⟨#[]⟩, .int .u8 0, .int .u8 0, .int .u8 0, .int .u8 0, .int .u16 0, .slice none 0 0] 52)) w.heap.size #[d0, .slice o L.length cap, d2] 26 from ((alloc_at (w := w) (g := w.heap.size) _ _ rfl).later (alloc_below _ _)).later (alloc_below _ _))
  have HN0 := Lib.hid (show Bk (((w.alloc (.cells #[d0, .slice o L.length cap, d2] 26)).alloc (.cells #[.string nm] 9)).alloc (.cells #[.string ⟨#[]⟩, .int .u8 0, .int .u8 0, .int .u8 0, .int .u8 0, .int .u16 0, .slice none 0 0] 52)) (w.heap.size + 1) #[.string nm] 9 from (alloc_at (w := (w.alloc (.cells #[d0, .slice o L.length cap, d2] 26))) (g := w.heap.size + 1) _ _ (by simp)).later (alloc_below _ _))
  have HZ0 := Lib.hid (alloc_at (w := ((w.alloc (.cells #[d0, .slice o L.length cap, d2] 26)).alloc (.cells #[.string nm] 9))) (g := w.heap.size + 1 + 1) #[.string ⟨#[]⟩, .int .u8 0, .int .u8 0, .int .u8 0, .int .u8 0, .int .u16 0, .slice none 0 0] 52 (by simp))
  obtain ⟨W0, hW0⟩ : ∃ W0, W0 = (((w.alloc (.cells #[d0, .slice o L.length cap, d2] 26)).alloc (.cells #[.string nm] 9)).alloc (.cells #[.string ⟨#[]⟩, .int .u8 0, .int .u8 0, .int .u8 0, .int .u8 0, .int .u16 0, .slice none 0 0] 52)) := ⟨_, rfl⟩
  rw [← hW0] at HB0 HX0 HN0 HZ0
  have K1 : Hid (Calls Tryz.prog 38 #[.slice o L.length cap, (.func (.func 39) #[] #[.pointer (some ⟨w.heap.size + 1, 0, none⟩)])] W0 fun e w' => ∃ r : Int, e = .returned (.int .i64 r) ∧ FirstP L.length (fun i => if h : i < L.length then L[i].name.toList == nm.toList else false) r ∧ Below W0.heap.size W0 w') := Lib.hid (by
    refine fx_lis (w.heap.size + 1) L.length _ o cap b off (by omega) W0 (fun hp => ⟨(HO.out hp).1, Nat.lt_of_lt_of_le (HO.out hp).2 HB0.out.size⟩) fun i hi => ?_
    obtain ⟨u, e0, e1, e2, e3, e4, e5, e6, hK⟩ := HE.out i hi
    have hbb := (HO.out (Nat.lt_of_le_of_lt (Nat.zero_le _) hi)).2
    refine ⟨_, _, _, _, _, _, _, (HB0.out.cell (p := ⟨b, off + i * 7, none⟩) hbb).trans e0, (HB0.out.cell (p := ⟨b, off + i * 7 + 1, none⟩) hbb).trans e1, (HB0.out.cell (p := ⟨b, off + i * 7 + 2, none⟩) hbb).trans e2, (HB0.out.cell (p := ⟨b, off + i * 7 + 3, none⟩) hbb).trans e3, (HB0.out.cell (p := ⟨b, off + i * 7 + 4, none⟩) hbb).trans e4, (HB0.out.cell (p := ⟨b, off + i * 7 + 5, none⟩) hbb).trans e5, (HB0.out.cell (p := ⟨b, off + i * 7 + 6, none⟩) hbb).trans e6, fun wz hz => ?_⟩
    rw [dif_pos hi]
    have hn1 := HN0.out.later hz
    exact clo39 _ nm _ _ _ _ _ _ _ wz ((cell_of_row _ _ 0 _ _ _ hn1).trans rfl) (lt_of_heap hn1))
  clear hE ho
  obtain ⟨y0, y1, y2⟩ := bk3 HX0.out
  have HLN := Lib.hid hlen
  go_enter Tryz.func17, Tryz.ntmps17
  go_upto_region 1 with (fail)
  rw [← hW0]
  clear hW0
  go_wp2_with fail
  refine (K1.out).mono ?_
  rintro e w2 ⟨r, rfl, hr, hb2⟩
  have HB2 := Lib.hid (HB0.out.trans (hb2.mono HB0.out.size))
  have HX2 := Lib.hid (HX0.out.later hb2)
  have HZ2 := Lib.hid (HZ0.out.later hb2)
  clear hb2 y0 y1 y2
  obtain ⟨y0, y1, y2⟩ := bk3 HX2.out
  rcases hr with ⟨rfl, hno⟩ | ⟨k, rfl, hk, hpk, hfk⟩
  · have HNO := Lib.hid hno
    clear hno
    have q0 := (cell_of_row _ _ 0 _ _ _ HZ2.out).trans rfl
    have q1 := (cell_of_row _ _ 1 _ _ _ HZ2.out).trans rfl
    have q2 := (cell_of_row _ _ 2 _ _ _ HZ2.out).trans rfl
    have q3 := (cell_of_row _ _ 3 _ _ _ HZ2.out).trans rfl
    have q4 := (cell_of_row _ _ 4 _ _ _ HZ2.out).trans rfl
    have q5 := (cell_of_row _ _ 5 _ _ _ HZ2.out).trans rfl
    have q6 := (cell_of_row _ _ 6 _ _ _ HZ2.out).trans rfl
    have z0 := frozen_of_row _ _ 0 _ _ HZ2.out
    have z1 := frozen_of_row _ _ 1 _ _ HZ2.out
    have z2 := frozen_of_row _ _ 2 _ _ HZ2.out
    have z3 := frozen_of_row _ _ 3 _ _ HZ2.out
    have z4 := frozen_of_row _ _ 4 _ _ HZ2.out
    have z5 := frozen_of_row _ _ 5 _ _ HZ2.out
    have z6 := frozen_of_row _ _ 6 _ _ HZ2.out
    have HS0 := HZ2
    have BS0 := HB2
    have HS1 := Lib.hid (HS0.out.set (i := 0) (.string ⟨#[]⟩))
    have BS1 := Lib.hid (BS0.out.setCell (p := ⟨w.heap.size + 1 + 1, 0, none⟩) (by show w.heap.size ≤ w.heap.size + 1 + 1; omega) (.string ⟨#[]⟩))
    have HS2 := Lib.hid (HS1.out.set (i := 1) (.int .u8 0))
    have BS2 := Lib.hid (BS1.out.setCell (p := ⟨w.heap.size + 1 + 1, 1, none⟩) (by show w.heap.size ≤ w.heap.size + 1 + 1; omega) (.int .u8 0))
    have HS3 := Lib.hid (HS2.out.set (i := 2) (.int .u8 0))
    have BS3 := Lib.hid (BS2.out.setCell (p := ⟨w.heap.size + 1 + 1, 2, none⟩) (by show w.heap.size ≤ w.heap.size + 1 + 1; omega) (.int .u8 0))
    have HS4 := Lib.hid (HS3.out.set (i := 3) (.int .u8 0))
    have BS4 := Lib.hid (BS3.out.setCell (p := ⟨w.heap.size + 1 + 1, 3, none⟩) (by show w.heap.size ≤ w.heap.size + 1 + 1; omega) (.int .u8 0))
    have HS5 := Lib.hid (HS4.out.set (i := 4) (.int .u8 0))
    have BS5 := Lib.hid (BS4.out.setCell (p := ⟨w.heap.size + 1 + 1, 4, none⟩) (by show w.heap.size ≤ w.heap.size + 1 + 1; omega) (.int .u8 0))
    have HS6 := Lib.hid (HS5.out.set (i := 5) (.int .u16 0))
    have BS6 := Lib.hid (BS5.out.setCell (p := ⟨w.heap.size + 1 + 1, 5, none⟩) (by show w.heap.size ≤ w.heap.size + 1 + 1; omega) (.int .u16 0))
    have HS7 := Lib.hid (HS6.out.set (i := 6) (.slice none 0 0))
    have BS7 := Lib.hid (BS6.out.setCell (p := ⟨w.heap.size + 1 + 1, 6, none⟩) (by show w.heap.size ≤ w.heap.size + 1 + 1; omega) (.slice none 0 0))
    go_wp2_with fail
    have p0 := (cell_of_row _ _ 0 _ _ _ HS7.out).trans rfl
    have p1 := (cell_of_row _ _ 1 _ _ _ HS7.out).trans rfl
    have p2 := (cell_of_row _ _ 2 _ _ _ HS7.out).trans rfl
    have p3 := (cell_of_row _ _ 3 _ _ _ HS7.out).trans rfl
    have p4 := (cell_of_row _ _ 4 _ _ _ HS7.out).trans rfl
    have p5 := (cell_of_row _ _ 5 _ _ _ HS7.out).trans rfl
    have p6 := (cell_of_row _ _ 6 _ _ _ HS7.out).trans rfl
    refine bodyPost_ret (v := .tuple #[.agg #[.string ⟨#[]⟩, .int .u8 0, .int .u8 0, .int .u8 0, .int .u8 0, .int .u16 0, .slice none 0 0], .bool false]) (by simp [results, Tryz.results17, go_sem, *]) rfl ⟨Or.inl ⟨rfl, fun x hx => ?_⟩, BS7.out⟩
    obtain ⟨i, hi, rfl⟩ := List.getElem_of_mem hx
    have := HNO.out i hi
    rwa [dif_pos hi] at this
  · have hpk : (L[k].name.toList == nm.toList) = true := by
      have h : (if h : k < L.length then L[k].name.toList == nm.toList else false) = true := hpk
      rwa [dif_pos hk] at h
    obtain ⟨u, e0, e1, e2, e3, e4, e5, e6, hK⟩ := HE.out k hk
    obtain ⟨ho1, hbb⟩ := HO.out (Nat.lt_of_le_of_lt (Nat.zero_le _) hk)
    subst ho1
    have f0 := (HB2.out.cell (p := ⟨b, off + k * 7, none⟩) hbb).trans e0
    have f1 := (HB2.out.cell (p := ⟨b, off + k * 7 + 1, none⟩) hbb).trans e1
    have f2 := (HB2.out.cell (p := ⟨b, off + k * 7 + 2, none⟩) hbb).trans e2
    have f3 := (HB2.out.cell (p := ⟨b, off + k * 7 + 3, none⟩) hbb).trans e3
    have f4 := (HB2.out.cell (p := ⟨b, off + k * 7 + 4, none⟩) hbb).trans e4
    have f5 := (HB2.out.cell (p := ⟨b, off + k * 7 + 5, none⟩) hbb).trans e5
    have f6 := (HB2.out.cell (p := ⟨b, off + k * 7 + 6, none⟩) hbb).trans e6
    have K2 := Lib.hid (hK w2 HB2.out)
    have HF := Lib.hid (show ∀ j (hj : j < k), (L[j].name.toList == nm.toList) = false from fun j hj => by
      have h : (if h : j < L.length then L[j].name.toList == nm.toList else false) = false := hfk j hj
      rwa [dif_pos (Nat.lt_trans hj hk)] at h)
    have HPK := Lib.hid hpk
    have hq1 : decide ((k : Int) < 0) = false := by rw [decide_eq_false_iff_not]; omega
    have hq2 : (k : Int) < (L.length : Int) := by omega
    clear hfk hpk e0 e1 e2 e3 e4 e5 e6 hK
    obtain ⟨x, hx⟩ : ∃ x, x = L[k] := ⟨_, rfl⟩
    have HXX := Lib.hid hx
    rw [← hx] at K2
    try rw [← hx] at f0
    try rw [← hx] at f1
    try rw [← hx] at f2
    try rw [← hx] at f3
    try rw [← hx] at f4
    try rw [← hx] at f5
    try rw [← hx] at f6
    clear hx
    go_wp2_with fail
    refine (K2.out).mono ?_
    rintro e w3 ⟨oo, cc, rfl, hv3, hb3⟩
    have HS0 := Lib.hid (HZ2.out.later hb3)
    have BS0 := Lib.hid (HB2.out.trans (hb3.mono HB2.out.size))
    have VS0 := Lib.hid (own_mono (B' := w.heap.size) hv3 HB2.out.size)
    clear hv3 hb3
    have q0 := (cell_of_row _ _ 0 _ _ _ HS0.out).trans rfl
    have q1 := (cell_of_row _ _ 1 _ _ _ HS0.out).trans rfl
    have q2 := (cell_of_row _ _ 2 _ _ _ HS0.out).trans rfl
    have q3 := (cell_of_row _ _ 3 _ _ _ HS0.out).trans rfl
    have q4 := (cell_of_row _ _ 4 _ _ _ HS0.out).trans rfl
    have q5 := (cell_of_row _ _ 5 _ _ _ HS0.out).trans rfl
    have q6 := (cell_of_row _ _ 6 _ _ _ HS0.out).trans rfl
    have z0 := frozen_of_row _ _ 0 _ _ HS0.out
    have z1 := frozen_of_row _ _ 1 _ _ HS0.out
    have z2 := frozen_of_row _ _ 2 _ _ HS0.out
    have z3 := frozen_of_row _ _ 3 _ _ HS0.out
    have z4 := frozen_of_row _ _ 4 _ _ HS0.out
    have z5 := frozen_of_row _ _ 5 _ _ HS0.out
    have z6 := frozen_of_row _ _ 6 _ _ HS0.out
    have HS1 := Lib.hid (HS0.out.set (i := 0) (.string x.name))
    have BS1 := Lib.hid (BS0.out.setCell (p := ⟨w.heap.size + 1 + 1, 0, none⟩) (by show w.heap.size ≤ w.heap.size + 1 + 1; omega) (.string x.name))
    have VS1 := Lib.hid (own_set VS0.out HS0.out (by decide) 0 (.string x.name))
    have HS2 := Lib.hid (HS1.out.set (i := 1) (.int .u8 (x.p.a : Int)))
    have BS2 := Lib.hid (BS1.out.setCell (p := ⟨w.heap.size + 1 + 1, 1, none⟩) (by show w.heap.size ≤ w.heap.size + 1 + 1; omega) (.int .u8 (x.p.a : Int)))
    have VS2 := Lib.hid (own_set VS1.out HS1.out (by decide) 1 (.int .u8 (x.p.a : Int)))
    have HS3 := Lib.hid (HS2.out.set (i := 2) (.int .u8 (x.p.b : Int)))
    have BS3 := Lib.hid (BS2.out.setCell (p := ⟨w.heap.size + 1 + 1, 2, none⟩) (by show w.heap.size ≤ w.heap.size + 1 + 1; omega) (.int .u8 (x.p.b : Int)))
    have VS3 := Lib.hid (own_set VS2.out HS2.out (by decide) 2 (.int .u8 (x.p.b : Int)))
    have HS4 := Lib.hid (HS3.out.set (i := 3) (.int .u8 (x.p.c : Int)))
    have BS4 := Lib.hid (BS3.out.setCell (p := ⟨w.heap.size + 1 + 1, 3, none⟩) (by show w.heap.size ≤ w.heap.size + 1 + 1; omega) (.int .u8 (x.p.c : Int)))
    have VS4 := Lib.hid (own_set VS3.out HS3.out (by decide) 3 (.int .u8 (x.p.c : Int)))
    have HS5 := Lib.hid (HS4.out.set (i := 4) (.int .u8 (x.p.d : Int)))
    have BS5 := Lib.hid (BS4.out.setCell (p := ⟨w.heap.size + 1 + 1, 4, none⟩) (by show w.heap.size ≤ w.heap.size + 1 + 1; omega) (.int .u8 (x.p.d : Int)))
    have VS5 := Lib.hid (own_set VS4.out HS4.out (by decide) 4 (.int .u8 (x.p.d : Int)))
    have HS6 := Lib.hid (HS5.out.set (i := 5) (.int .u16 (x.p.port : Int)))
    have BS6 := Lib.hid (BS5.out.setCell (p := ⟨w.heap.size + 1 + 1, 5, none⟩) (by show w.heap.size ≤ w.heap.size + 1 + 1; omega) (.int .u16 (x.p.port : Int)))
    have VS6 := Lib.hid (own_set VS5.out HS5.out (by decide) 5 (.int .u16 (x.p.port : Int)))
    have HS7 := Lib.hid (HS6.out.set (i := 6) (.slice oo x.r.length cc))
    have BS7 := Lib.hid (BS6.out.setCell (p := ⟨w.heap.size + 1 + 1, 6, none⟩) (by show w.heap.size ≤ w.heap.size + 1 + 1; omega) (.slice oo x.r.length cc))
    have VS7 := Lib.hid (own_set VS6.out HS6.out (by decide) 6 (.slice oo x.r.length cc))
    go_wp2_with fail
    have p0 := (cell_of_row _ _ 0 _ _ _ HS7.out).trans rfl
    have p1 := (cell_of_row _ _ 1 _ _ _ HS7.out).trans rfl
    have p2 := (cell_of_row _ _ 2 _ _ _ HS7.out).trans rfl
    have p3 := (cell_of_row _ _ 3 _ _ _ HS7.out).trans rfl
    have p4 := (cell_of_row _ _ 4 _ _ _ HS7.out).trans rfl
    have p5 := (cell_of_row _ _ 5 _ _ _ HS7.out).trans rfl
    have p6 := (cell_of_row _ _ 6 _ _ _ HS7.out).trans rfl
    refine bodyPost_ret (v := .tuple #[.agg #[.string x.name, .int .u8 (x.p.a : Int), .int .u8 (x.p.b : Int), .int .u8 (x.p.c : Int), .int .u8 (x.p.d : Int), .int .u16 (x.p.port : Int), .slice oo x.r.length cc], .bool true]) (by simp [results, Tryz.results17, go_sem, *]) rfl ?_
    have hxx := HXX.out
    subst hxx
    exact ⟨Or.inr ⟨k, hk, HPK.out, HF.out, _, _, rfl, VS7.out⟩, BS7.out⟩

set_option maxRecDepth 100000 in
set_option maxHeartbeats 4000000 in
theorem find_clu (L : List Cl) (nm : ByteArray) (d0 d1 : Value) (o : Option Addr) (cap b off : Nat) (hlen : L.length ≤ 1000000) (w : World) (ho : 0 < L.length → o = some ⟨b, off, none⟩ ∧ b < w.heap.size)
    (hE : ∀ i (h : i < L.length), ∃ u : Value, w.cell? ⟨b, off + i * 2, none⟩ = some (.string L[i].name) ∧ w.cell? ⟨b, off + i * 2 + 1, none⟩ = some (u) ∧ ∀ wz, Below w.heap.size w wz → Calls Tryz.prog 43 #[.agg #[.string L[i].name, u]] wz fun e w' => ∃ oo cc, e = .returned (.agg #[.string L[i].name, .slice oo L[i].e.length cc]) ∧ w'.ownsRow wz.heap.size 64 6 (.slice oo L[i].e.length cc) L[i].e.length (L[i].e.flatMap Ep.cs) ∧ Below wz.heap.size wz w') :
    Calls Tryz.prog 18 #[.agg #[d0, d1, .slice o L.length cap], .string nm] w fun e w' => ((e = .returned (.tuple #[.agg #[.string ⟨#[]⟩, .slice none 0 0], .bool false]) ∧ ∀ x ∈ L, (x.name.toList == nm.toList) = false) ∨ ∃ k, ∃ hk : k < L.length, (L[k].name.toList == nm.toList) = true ∧ (∀ j (hj : j < k), (L[j].name.toList == nm.toList) = false) ∧ ∃ oo cc, e = .returned (.tuple #[.agg #[.string L[k].name, .slice oo L[k].e.length cc], .bool true]) ∧ w'.ownsRow w.heap.size 64 6 (.slice oo L[k].e.length cc) L[k].e.length (L[k].e.flatMap Ep.cs)) ∧ Below w.heap.size w w' := by
  have HE := Lib.hid hE
  have HO := Lib.hid ho
  have HB0 := Lib.hid (show Below w.heap.size w (((w.alloc (.cells #[d0, d1, .slice o L.length cap] 26)).alloc (.cells #[.string nm] 9)).alloc (.cells #[.string ⟨#[]⟩, .slice none 0 0] 57)) from (alloc_below _ _).trans (((alloc_below _ _).mono (by simp)).trans ((alloc_below _ _).mono (by simp <;> omega))))
  have HX0 := Lib.hid (show Bk (((w.alloc (.cells #[d0, d1, .slice o L.length cap] 26)).alloc (.cells #[.string nm] 9)).alloc (.cells #[.string ⟨#[]⟩, .slice none 0 0] 57)) w.heap.size #[d0, d1, .slice o L.length cap] 26 from ((alloc_at (w := w) (g := w.heap.size) _ _ rfl).later (alloc_below _ _)).later (alloc_below _ _))
  have HN0 := Lib.hid (show Bk (((w.alloc (.cells #[d0, d1, .slice o L.length cap] 26)).alloc (.cells #[.string nm] 9)).alloc (.cells #[.string ⟨#[]⟩, .slice none 0 0] 57)) (w.heap.size + 1) #[.string nm] 9 from (alloc_at (w := (w.alloc (.cells #[d0, d1, .slice o L.length cap] 26))) (g := w.heap.size + 1) _ _ (by simp)).later (alloc_below _ _))
  have HZ0 := Lib.hid (alloc_at (w := ((w.alloc (.cells #[d0, d1, .slice o L.length cap] 26)).alloc (.cells #[.string nm] 9))) (g := w.heap.size + 1 + 1) #[.string ⟨#[]⟩, .slice none 0 0] 57 (by simp))
  obtain ⟨W0, hW0⟩ : ∃ W0, W0 = (((w.alloc (.cells #[d0, d1, .slice o L.length cap] 26)).alloc (.cells #[.string nm] 9)).alloc (.cells #[.string ⟨#[]⟩, .slice none 0 0] 57)) := ⟨_, rfl⟩
  rw [← hW0] at HB0 HX0 HN0 HZ0
  have K1 : Hid (Calls Tryz.prog 41 #[.slice o L.length cap, (.func (.func 42) #[] #[.pointer (some ⟨w.heap.size + 1, 0, none⟩)])] W0 fun e w' => ∃ r : Int, e = .returned (.int .i64 r) ∧ FirstP L.length (fun i => if h : i < L.length then L[i].name.toList == nm.toList else false) r ∧ Below W0.heap.size W0 w') := Lib.hid (by
    refine fx_clu (w.heap.size + 1) L.length _ o cap b off (by omega) W0 (fun hp => ⟨(HO.out hp).1, Nat.lt_of_lt_of_le (HO.out hp).2 HB0.out.size⟩) fun i hi => ?_
    obtain ⟨u, e0, e1, hK⟩ := HE.out i hi
    have hbb := (HO.out (Nat.lt_of_le_of_lt (Nat.zero_le _) hi)).2
    refine ⟨_, _, (HB0.out.cell (p := ⟨b, off + i * 2, none⟩) hbb).trans e0, (HB0.out.cell (p := ⟨b, off + i * 2 + 1, none⟩) hbb).trans e1, fun wz hz => ?_⟩
    rw [dif_pos hi]
    have hn1 := HN0.out.later hz
    exact clo42 _ nm _ _ wz ((cell_of_row _ _ 0 _ _ _ hn1).trans rfl) (lt_of_heap hn1))
  clear hE ho
  obtain ⟨y0, y1, y2⟩ := bk3 HX0.out
  have HLN := Lib.hid hlen
  go_enter Tryz.func18, Tryz.ntmps18
  go_upto_region 1 with (fail)
  rw [← hW0]
  clear hW0
  go_wp2_with fail
  refine (K1.out).mono ?_
  rintro e w2 ⟨r, rfl, hr, hb2⟩
  have HB2 := Lib.hid (HB0.out.trans (hb2.mono HB0.out.size))
  have HX2 := Lib.hid (HX0.out.later hb2)
  have HZ2 := Lib.hid (HZ0.out.later hb2)
  clear hb2 y0 y1 y2
  obtain ⟨y0, y1, y2⟩ := bk3 HX2.out
  rcases hr with ⟨rfl, hno⟩ | ⟨k, rfl, hk, hpk, hfk⟩
  · have HNO := Lib.hid hno
    clear hno
    have q0 := (cell_of_row _ _ 0 _ _ _ HZ2.out).trans rfl
    have q1 := (cell_of_row _ _ 1 _ _ _ HZ2.out).trans rfl
    have z0 := frozen_of_row _ _ 0 _ _ HZ2.out
    have z1 := frozen_of_row _ _ 1 _ _ HZ2.out
    have HS0 := HZ2
    have BS0 := HB2
    have HS1 := Lib.hid (HS0.out.set (i := 0) (.string ⟨#[]⟩))
    have BS1 := Lib.hid (BS0.out.setCell (p := ⟨w.heap.size + 1 + 1, 0, none⟩) (by show w.heap.size ≤ w.heap.size + 1 + 1; omega) (.string ⟨#[]⟩))
    have HS2 := Lib.hid (HS1.out.set (i := 1) (.slice none 0 0))
    have BS2 := Lib.hid (BS1.out.setCell (p := ⟨w.heap.size + 1 + 1, 1, none⟩) (by show w.heap.size ≤ w.heap.size + 1 + 1; omega) (.slice none 0 0))
    go_wp2_with fail
    have p0 := (cell_of_row _ _ 0 _ _ _ HS2.out).trans rfl
    have p1 := (cell_of_row _ _ 1 _ _ _ HS2.out).trans rfl
    refine bodyPost_ret (v := .tuple #[.agg #[.string ⟨#[]⟩, .slice none 0 0], .bool false]) (by simp [results, Tryz.results18, go_sem, *]) rfl ⟨Or.inl ⟨rfl, fun x hx => ?_⟩, BS2.out⟩
    obtain ⟨i, hi, rfl⟩ := List.getElem_of_mem hx
    have := HNO.out i hi
    rwa [dif_pos hi] at this
  · have hpk : (L[k].name.toList == nm.toList) = true := by
      have h : (if h : k < L.length then L[k].name.toList == nm.toList else false) = true := hpk
      rwa [dif_pos hk] at h
    obtain ⟨u, e0, e1, hK⟩ := HE.out k hk
    obtain ⟨ho1, hbb⟩ := HO.out (Nat.lt_of_le_of_lt (Nat.zero_le _) hk)
    subst ho1
    have f0 := (HB2.out.cell (p := ⟨b, off + k * 2, none⟩) hbb).trans e0
    have f1 := (HB2.out.cell (p := ⟨b, off + k * 2 + 1, none⟩) hbb).trans e1
    have K2 := Lib.hid (hK w2 HB2.out)
    have HF := Lib.hid (show ∀ j (hj : j < k), (L[j].name.toList == nm.toList) = false from fun j hj => by
      have h : (if h : j < L.length then L[j].name.toList == nm.toList else false) = false := hfk j hj
      rwa [dif_pos (Nat.lt_trans hj hk)] at h)
    have HPK := Lib.hid hpk
    have hq1 : decide ((k : Int) < 0) = false := by rw [decide_eq_false_iff_not]; omega
    have hq2 : (k : Int) < (L.length : Int) := by omega
    clear hfk hpk e0 e1 hK
    obtain ⟨x, hx⟩ : ∃ x, x = L[k] := ⟨_, rfl⟩
    have HXX := Lib.hid hx
    rw [← hx] at K2
    try rw [← hx] at f0
    try rw [← hx] at f1
    clear hx
    go_wp2_with fail
    refine (K2.out).mono ?_
    rintro e w3 ⟨oo, cc, rfl, hv3, hb3⟩
    have HS0 := Lib.hid (HZ2.out.later hb3)
    have BS0 := Lib.hid (HB2.out.trans (hb3.mono HB2.out.size))
    have VS0 := Lib.hid (own_mono (B' := w.heap.size) hv3 HB2.out.size)
    clear hv3 hb3
    have q0 := (cell_of_row _ _ 0 _ _ _ HS0.out).trans rfl
    have q1 := (cell_of_row _ _ 1 _ _ _ HS0.out).trans rfl
    have z0 := frozen_of_row _ _ 0 _ _ HS0.out
    have z1 := frozen_of_row _ _ 1 _ _ HS0.out
    have HS1 := Lib.hid (HS0.out.set (i := 0) (.string x.name))
    have BS1 := Lib.hid (BS0.out.setCell (p := ⟨w.heap.size + 1 + 1, 0, none⟩) (by show w.heap.size ≤ w.heap.size + 1 + 1; omega) (.string x.name))
    have VS1 := Lib.hid (own_set VS0.out HS0.out (by decide) 0 (.string x.name))
    have HS2 := Lib.hid (HS1.out.set (i := 1) (.slice oo x.e.length cc))
    have BS2 := Lib.hid (BS1.out.setCell (p := ⟨w.heap.size + 1 + 1, 1, none⟩) (by show w.heap.size ≤ w.heap.size + 1 + 1; omega) (.slice oo x.e.length cc))
    have VS2 := Lib.hid (own_set VS1.out HS1.out (by decide) 1 (.slice oo x.e.length cc))
    go_wp2_with fail
    have p0 := (cell_of_row _ _ 0 _ _ _ HS2.out).trans rfl
    have p1 := (cell_of_row _ _ 1 _ _ _ HS2.out).trans rfl
    refine bodyPost_ret (v := .tuple #[.agg #[.string x.name, .slice oo x.e.length cc], .bool true]) (by simp [results, Tryz.results18, go_sem, *]) rfl ?_
    have hxx := HXX.out
    subst hxx
    exact ⟨Or.inr ⟨k, hk, HPK.out, HF.out, _, _, rfl, VS2.out⟩, BS2.out⟩

end Go.Proofs.YtjfjliobencppaaGreatDoor.Cf

namespace Go.Proofs.YtjfjliobencppaaGreatDoor.Cf
open Go.RowKit

/-- What was there stays, one block aside. -/
structure Kp (q : Nat) (w w' : World) : Prop where
  size : w.heap.size ≤ w'.heap.size
  keep : ∀ b, b < w.heap.size → b ≠ q → w'.heap[b]? = w.heap[b]?
theorem Kp.refl (q : Nat) (w : World) : Kp q w w := ⟨Nat.le_refl _, fun _ _ _ => rfl⟩
theorem Kp.later {q : Nat} {w w' w'' : World} (h : Kp q w w') (hb : Below w'.heap.size w' w'') : Kp q w w'' := ⟨Nat.le_trans h.size hb.size, fun b hb' hq => (hb.block b (Nat.lt_of_lt_of_le hb' h.size)).trans (h.keep b hb' hq)⟩
theorem Kp.set {q : Nat} {w w' : World} (h : Kp q w w') (j : Nat) (u : Value) : Kp q w (w'.setCell ⟨q, j, none⟩ u) := ⟨by simpa using h.size, fun b hb hq => (heap_setCell_other _ ⟨q, j, none⟩ b _ hq).trans (h.keep b hb hq)⟩
theorem Kp.bk {q g : Nat} {w w' : World} {cs : Array Value} {T : TypeId} (h : Kp q w w') (hk : Bk w g cs T) (hq : g ≠ q) : Bk w' g cs T := (h.keep g (lt_of_heap hk) hq).trans hk
theorem Kp.vin {q : Nat} {w w' : World} {P : Nat → Prop} {t : Tr} {c0 c1 c2 c3 : Value} (h : Kp q w w') (hv : VInP w P t c0 c1 c2 c3) (hq : ∀ b, P b → b ≠ q) : VInP w' P t c0 c1 c2 c3 := VInP.keep h.size (fun b hb hP => ⟨h.keep b hb (hq b hP), hP⟩) _ hv

/-- Values that are laid in a row under way: no value's own rows are that row. -/
def VL (w : World) (B : Nat) (V : Value) (l : List Tr) : Prop :=
  ∃ PL : List (Tr × List Value), PL.map (·.1) = l ∧ w.ownsRow B 81 4 V PL.length (PL.flatMap (·.2)) ∧ ∀ p ∈ PL, ∃ c0 c1 c2 c3, p.2 = [c0, c1, c2, c3] ∧ VInP w (fun b => B ≤ b ∧ V.ownBlock ≠ some b) p.1 c0 c1 c2 c3
theorem VL.nil (w : World) (B : Nat) : VL w B (.slice none 0 0) [] := ⟨[], rfl, World.ownsRow_nil _ _ _ _, fun p hp => absurd hp (by simp)⟩
theorem VL.keep {w w' : World} {B : Nat} {V : Value} {l : List Tr} (h : VL w B V l) (hs : w.heap.size ≤ w'.heap.size) (hk : ∀ b, b < w.heap.size → B ≤ b → w'.heap[b]? = w.heap[b]?) : VL w' B V l := by
  obtain ⟨PL, h1, h2, h3⟩ := h
  refine ⟨PL, h1, own_keep h2 (fun g cs hB _ hg => hk g (lt_of_heap hg) hB), fun p hp => ?_⟩
  obtain ⟨c0, c1, c2, c3, e, hv⟩ := h3 p hp
  exact ⟨c0, c1, c2, c3, e, VInP.keep hs (fun b hb hP => ⟨hk b hb hP.1, hP⟩) _ hv⟩
theorem VL.later {w w' : World} {B : Nat} {V : Value} {l : List Tr} (h : VL w B V l) (hb : Below w.heap.size w w') : VL w' B V l := h.keep hb.size fun b hb' _ => hb.block b hb'
theorem VL.away {w : World} {B q : Nat} {V : Value} {l : List Tr} (h : VL w B V l) (hq : q < B) (j : Nat) (u : Value) : VL (w.setCell ⟨q, j, none⟩ u) B V l := h.keep (by simp) fun b _ hB => heap_setCell_other _ ⟨q, j, none⟩ b _ (by show b ≠ q; omega)
theorem VL.form {w : World} {B : Nat} {V : Value} {l : List Tr} (h : VL w B V l) : ∃ o c, V = .slice o l.length c := by
  obtain ⟨PL, rfl, h2, _⟩ := h
  rw [List.length_map]
  exact own_form h2
theorem flat4 (PL : List (Tr × List Value)) (h : ∀ p ∈ PL, p.2.length = 4) (i : Nat) (hi : i < PL.length) (j : Nat) (hj : j < 4) : (PL.flatMap (·.2))[i * 4 + j]? = PL[i].2[j]? := by
  induction PL generalizing i with
  | nil => simp at hi
  | cons p PL ih =>
    rw [List.flatMap_cons]
    have hp := h p (by simp)
    cases i with
    | zero =>
      rw [Nat.zero_mul, Nat.zero_add, List.getElem?_append_left (by omega)]
      rfl
    | succ i =>
      rw [List.getElem?_append_right (by omega), show (i + 1) * 4 + j - p.2.length = i * 4 + j by omega, ih (fun q hq => h q (by simp [hq])) i (by simpa using hi)]
      rfl
/-- What is under way, as one value. -/
theorem VL.whole {w : World} {B : Nat} {V : Value} {l : List Tr} (h : VL w B V l) (hl : l.length ≤ 1000000) : VInP w (fun b => B ≤ b) (rowT l) (.int .i64 3) (.int .u64 0) (.string ⟨#[]⟩) V := by
  obtain ⟨PL, rfl, h2, h3⟩ := h
  have h4 : ∀ p ∈ PL, p.2.length = 4 := fun p hp => by
    obtain ⟨c0, c1, c2, c3, e, _⟩ := h3 p hp
    rw [e]; rfl
  rw [List.length_map] at hl
  rcases h2.2 with ⟨rfl, hn⟩ | ⟨g, cap, cur, rfl, hB, hg, hnc, hcm, hcs, htk⟩
  · obtain rfl := List.eq_nil_of_length_eq_zero hn
    unfold rowT VInP
    exact ⟨rfl, rfl, by omega, rfl, ⟨by decide, by simp⟩, none, 0, 0, 0, rfl, fun h => absurd h (by simp), by unfold VInPL; trivial⟩
  · unfold rowT VInP
    rw [List.length_map]
    refine ⟨rfl, rfl, by omega, rfl, ⟨by decide, hl⟩, some ⟨g, 0, none⟩, cap, g, 0, rfl, fun _ => ⟨rfl, lt_of_heap hg, hB⟩, VInPL.of (fun i hi => ?_)⟩
    have hi' : i < PL.length := by simpa using hi
    obtain ⟨c0, c1, c2, c3, e, hv⟩ := h3 PL[i] (List.getElem_mem hi')
    have cc : ∀ j (hj : j < 4) u, PL[i].2[j]? = some u → w.cell? ⟨g, 0 + i * 4 + j, none⟩ = some u := by
      intro j hj u hu
      rw [cell_of_row _ _ _ _ _ _ hg, ← Array.getElem?_toList]
      have := congrArg (fun x => x[i * 4 + j]?) htk
      simp only [List.getElem?_take] at this
      rw [if_pos (by omega)] at this
      rw [Nat.zero_add, this, flat4 PL h4 i hi' j hj, hu]
    rw [e] at cc
    refine ⟨c0, c1, c2, c3, cc 0 (by omega) _ rfl, cc 1 (by omega) _ rfl, cc 2 (by omega) _ rfl, cc 3 (by omega) _ rfl, ?_⟩
    rw [List.getElem_map]
    exact VInP.keep (Nat.le_refl _) (fun b _ hP => ⟨rfl, hP.1⟩) _ hv
/-- One more value behind. -/
theorem VL.push {w w' : World} {B n : Nat} {V V' : Value} {l : List Tr} {t : Tr} {c0 c1 c2 c3 : Value} {xs : List Value} {PL : List (Tr × List Value)} (h1 : PL.map (·.1) = l) (h2 : w.ownsRow B 81 4 V PL.length (PL.flatMap (·.2))) (h3 : ∀ p ∈ PL, ∃ c0 c1 c2 c3, p.2 = [c0, c1, c2, c3] ∧ VInP w (fun b => B ≤ b ∧ V.ownBlock ≠ some b) p.1 c0 c1 c2 c3)
    (ht : VInP w (fun b => B ≤ b ∧ V.ownBlock ≠ some b) t c0 c1 c2 c3) (hx : xs = PL.flatMap (·.2)) (hn : n = PL.length) (hw : w'.ownsRow B 81 4 V' (n + 1) (xs ++ [c0, c1, c2, c3])) (hg : w.grownBy w' V.ownBlock) (hv : V'.ownBlock = V.ownBlock ∨ V'.ownBlock = some w.heap.size) : VL w' B V' (l ++ [t]) := by
  subst hx hn
  have hkv : ∀ {t : Tr} {d0 d1 d2 d3 : Value}, VInP w (fun b => B ≤ b ∧ V.ownBlock ≠ some b) t d0 d1 d2 d3 → VInP w' (fun b => B ≤ b ∧ V'.ownBlock ≠ some b) t d0 d1 d2 d3 := fun hh => VInP.keep hg.size (fun b hb hP => ⟨hg.block b hb (fun e => hP.2 e.symm), hP.1, by
    rcases hv with hv | hv <;> rw [hv]
    · exact hP.2
    · intro e; cases e; omega⟩) _ hh
  refine ⟨PL ++ [(t, [c0, c1, c2, c3])], by rw [List.map_append, h1]; rfl, ?_, fun p hp => ?_⟩
  · rw [List.length_append, List.flatMap_append]
    simpa using hw
  · rcases List.mem_append.1 hp with hp | hp
    · obtain ⟨d0, d1, d2, d3, e, hv2⟩ := h3 p hp
      exact ⟨d0, d1, d2, d3, e, hkv hv2⟩
    · obtain rfl := List.mem_singleton.1 hp
      exact ⟨c0, c1, c2, c3, rfl, hkv ht⟩
end Go.Proofs.YtjfjliobencppaaGreatDoor.Cf

namespace Go.Proofs.YtjfjliobencppaaGreatDoor.Sp

/-- Is a byte a small letter? -/
def letterB (c : UInt8) : Bool := decide (97 ≤ c.toNat) && decide (c.toNat ≤ 122)
/-- Is it a digit? -/
def digitB (c : UInt8) : Bool := decide (48 ≤ c.toNat) && decide (c.toNat ≤ 57)
/-- A small letter, a digit, or one of signs. -/
def plainB (x : List UInt8) (c : UInt8) : Bool := letterB c || digitB c || x.contains c
def nameB (l : List UInt8) : Bool := decide (1 ≤ l.length) && decide (l.length ≤ 32) && letterB (l.headD 0) && l.all (plainB [45, 95])
def lowC (c : UInt8) : UInt8 := if 65 ≤ c.toNat ∧ c.toNat ≤ 90 then UInt8.ofNat (c.toNat + 32) else c
def low (l : List UInt8) : List UInt8 := l.map lowC
/-- A text, parted by a byte. -/
def cut (c : UInt8) : List UInt8 → List (List UInt8)
  | [] => [[]]
  | x :: xs => if x = c then [] :: cut c xs else match cut c xs with
    | [] => [[x]]
    | h :: t => (x :: h) :: t
def partB (l : List UInt8) : Bool := decide (0 < l.length) && decide (l.length ≤ 32) && l.headD 0 != 45 && l.getLastD 0 != 45 && l.all (plainB [45])
def hostP (l : List UInt8) : List (List UInt8) := if 1 < (cut 46 l).length ∧ (cut 46 l).headD [] = [42] then (cut 46 l).tail else cut 46 l
def hostN (l : List UInt8) : Nat := if l.length = 0 then 3 else if 64 < l.length then 5 else if (hostP l).all partB then 0 else 4
def seenB (c : UInt8) : Bool := decide (33 ≤ c.toNat) && decide (c.toNat ≤ 126)
/-- Are there two slashes, one behind the other? -/
def twoB : List UInt8 → Bool
  | a :: b :: t => (a == 47 && b == 47) || twoB (b :: t)
  | _ => false
def pathN (l : List UInt8) : Nat := if (l.headD 0 == 47 && !twoB l && l.all seenB) = true then (if 128 < l.length then 5 else 0) else 4
def parts (l : List UInt8) : List (List UInt8) := (cut 47 l).filter (fun p => !p.isEmpty)
def underB (a b : List UInt8) : Bool := (parts a).isPrefixOf (parts b)
/-- Of parts already cut. -/
def coverP (p h : List (List UInt8)) : Bool := p.headD [] == [42] && decide (p.tail.length < h.length) && (h.drop (h.length - p.tail.length) == p.tail)
def coverB (p h : List UInt8) : Bool := low p == low h || coverP (cut 46 (low p)) (cut 46 (low h))
def coverR (p h : List UInt8) : Bool := low p == low h || (decide (2 ≤ (cut 46 (low p)).length) && coverP (cut 46 (low p)) (cut 46 (low h)))

/-! ### Cutting -/
/-- What the library's cut at one byte gives. -/
theorem index_one_miss (c : UInt8) (l : List UInt8) (h : Lib.index l [c] = -1) : c ∉ l := by
  intro hm
  rcases Lib.index_spec l [c] with ⟨_, h2⟩ | ⟨i, h1, _⟩
  · obtain ⟨j, hj, e⟩ := List.mem_iff_getElem.1 hm
    have := h2 j (by omega)
    simp [Lib.occAt, List.drop_eq_getElem_cons hj, e, List.isPrefixOf] at this
  · omega
theorem index_one_hit (c : UInt8) (l : List UInt8) (i : Nat) (h : Lib.index l [c] = i) : ∃ a b, l = a ++ c :: b ∧ a.length = i ∧ c ∉ a := by
  rcases Lib.index_spec l [c] with ⟨h1, _⟩ | ⟨j, h1, h2, h3, h4⟩
  · omega
  · obtain rfl : i = j := by omega
    have hr := Lib.occAt_head (s := l) (sub := [c]) (i := i) rfl h3
    obtain ⟨hi, e⟩ := List.getElem?_eq_some_iff.1 hr
    refine ⟨l.take i, l.drop (i + 1), ?_, by simp; omega, ?_⟩
    · rw [← e, List.getElem_cons_drop, List.take_append_drop]
    · intro hm
      obtain ⟨k, hk, ek⟩ := List.mem_iff_getElem.1 hm
      simp at hk ek
      have := h4 k (by omega)
      simp [Lib.occAt, List.drop_eq_getElem_cons (show k < l.length by omega), ek, List.isPrefixOf] at this
/-! ### A path's parts -/
/-- Parts, put together. -/
def glue (ps : List (List UInt8)) : List UInt8 := ps.flatMap (fun p => 47 :: p)
end Go.Proofs.YtjfjliobencppaaGreatDoor.Sp

namespace Go.Proofs
open Go.Shelf
def Tryz.z_laysM316_ren : Go.Shelf.Ren := ⟨fun | 316 => 118 | n => n, fun | 9 => 9 | 3 => 3 | 4 => 4 | 37 => 113 | 0 => 0 | 127 => 196 | 5 => 5 | n => n, fun | n => n⟩
end Go.Proofs

namespace Go.Proofs.YtjfjliobencppaaGreatDoor.Sp
open Go.RowKit

end Go.Proofs.YtjfjliobencppaaGreatDoor.Sp

namespace Go.Proofs.YtjfjliobencppaaGreatDoor.Sp
open Go.RowKit

/-- What the loop asks of a byte. -/
def NameAt (j : Nat) (c : UInt8) : Prop := letterB c = true ∨ (0 < j ∧ plainB [45, 95] c = true)
theorem getD_at (s : ByteArray) (k : Nat) (h : k < s.size) : s.data.toList.getD k 0 = s[k] := by
  have h2 : k < s.data.toList.length := by rw [← Lib.size_eq]; exact h
  rw [List.getD_eq_getElem?_getD, List.getElem?_eq_getElem h2]; rfl
theorem neq_int {n m : Nat} (h : n ≠ m) : ((n : Int) == (m : Int)) = false := by rw [beq_eq_false_iff_ne]; omega
/-- No byte of those that are asked for one by one. -/
def Apart (n : Nat) : Prop := ((n : Int) == 45) = false ∧ ((n : Int) == 95) = false ∧ ((n : Int) == 47) = false
end Go.Proofs.YtjfjliobencppaaGreatDoor.Sp
