/- Plain: the place that a text tells.; The library's cut, equality of slices, and a path's parts.; A path's parts by definition; whether a path is under another one.; Numbers read: word.Number, its answer by definition, and the closure of spot.Parse.; Which place is ahead. -/
import Derived.Test.YtjfjliobencppaaGreatDoorJ23
import Derived.Test.YtjfjliobencppaaGreatDoorJ24
import Derived.Lib.CutLaws
import Derived.Test.YtjfjliobencppaaGreatDoorJ27
import Derived.WalkSmall
set_option linter.unusedVariables false
set_option linter.unusedSimpArgs false
namespace Go.Proofs.YtjfjliobencppaaGreatDoor.Sp

/-- Digits that tell a number of at most m. -/
def Num (l : List UInt8) (m n : Nat) : Prop := W.good l ∧ W.val l = n ∧ n ≤ m
def sepAt (k : Nat) : UInt8 := if k < 3 then 46 else 58
/-- What is left behind k numbers tells the others, and the port. -/
def DecT : Nat → Nat → List UInt8 → (Nat → Nat) → Nat → Prop
  | 0, _, r, _, port => Num r 65535 port ∧ 1 ≤ port
  | f + 1, k, r, xs, port => ∃ d r', r = d ++ sepAt k :: r' ∧ Num d 255 (xs k) ∧ DecT f (k + 1) r' xs port
def Dec (l : List UInt8) (xs : Nat → Nat) (port : Nat) : Prop := DecT 4 0 l xs port

theorem good_free {l : List UInt8} (h : W.good l) : (46 : UInt8) ∉ l ∧ (58 : UInt8) ∉ l := by
  obtain ⟨_, hd, _⟩ := h
  constructor
  · intro hm
    have := hd _ hm
    unfold W.digit at this
    simp at this
  · intro hm
    have := hd _ hm
    unfold W.digit at this
    simp at this
theorem good_sep {l : List UInt8} (h : W.good l) (k : Nat) : sepAt k ∉ l := by
  unfold sepAt
  split
  · exact (good_free h).1
  · exact (good_free h).2
theorem first_unique {c : UInt8} : ∀ {a b a' b' : List UInt8}, c ∉ a → c ∉ a' → a ++ c :: b = a' ++ c :: b' → a = a' ∧ b = b'
  | [], b, [], b', _, _, h => by simpa using h
  | [], b, x :: a', b', _, h2, h => by
    simp at h
    exact absurd (h.1 ▸ List.mem_cons_self) h2
  | x :: a, b, [], b', h1, _, h => by
    simp at h
    exact absurd (h.1 ▸ List.mem_cons_self) h1
  | x :: a, b, y :: a', b', h1, h2, h => by
    simp at h
    obtain ⟨rfl, h⟩ := h
    have := first_unique (fun e => h1 (List.mem_cons_of_mem _ e)) (fun e => h2 (List.mem_cons_of_mem _ e)) h
    exact ⟨by rw [this.1], this.2⟩
theorem decT_step {f k : Nat} {d r' : List UInt8} (hd : sepAt k ∉ d) (xs : Nat → Nat) (port : Nat) :
    DecT (f + 1) k (d ++ sepAt k :: r') xs port ↔ Num d 255 (xs k) ∧ DecT f (k + 1) r' xs port := by
  constructor
  · rintro ⟨d2, r2, e, hn, ht⟩
    obtain ⟨rfl, rfl⟩ := first_unique hd (good_sep hn.1 k) e
    exact ⟨hn, ht⟩
  · rintro ⟨hn, ht⟩
    exact ⟨d, r', rfl, hn, ht⟩
theorem decT_none {f k : Nat} {r : List UInt8} (h : sepAt k ∉ r) (xs : Nat → Nat) (port : Nat) : ¬ DecT (f + 1) k r xs port := by
  rintro ⟨d, r', rfl, _⟩
  exact h (by simp)
theorem decT_unique : ∀ (f k : Nat) (r : List UInt8) (xs ys : Nat → Nat) (p q : Nat), DecT f k r xs p → DecT f k r ys q → p = q ∧ ∀ j, k ≤ j → j < k + f → xs j = ys j
  | 0, _, _, _, _, _, _, h1, h2 => ⟨h1.1.2.1.symm.trans h2.1.2.1, fun j a b => absurd a (by omega)⟩
  | f + 1, k, r, xs, ys, p, q, ⟨d, r', e, hn, ht⟩, ⟨d2, r2, e2, hn2, ht2⟩ => by
    subst e
    obtain ⟨rfl, rfl⟩ := first_unique (good_sep hn.1 k) (good_sep hn2.1 k) e2
    obtain ⟨h1, h2⟩ := decT_unique f (k + 1) r' xs ys p q ht ht2
    refine ⟨h1, fun j a b => ?_⟩
    by_cases e : j = k
    · subst e; exact hn.2.1.symm.trans hn2.2.1
    · exact h2 j (by omega) (by omega)

/-- What the library's cut at one byte gives. -/
theorem cut_one (r : List UInt8) (c : UInt8) : (Lib.cut r [c]).2.2 = true ∧ r = (Lib.cut r [c]).1 ++ c :: (Lib.cut r [c]).2.1 ∧ c ∉ (Lib.cut r [c]).1 ∨
    (Lib.cut r [c]) = (r, [], false) ∧ c ∉ r := by
  unfold Lib.cut
  have hge := Lib.index_ge r [c]
  by_cases h : Lib.index r [c] = -1
  · right
    rw [if_neg (by omega)]
    exact ⟨rfl, index_one_miss c r h⟩
  · left
    obtain ⟨i, hi⟩ : ∃ i : Nat, Lib.index r [c] = i := ⟨(Lib.index r [c]).toNat, by omega⟩
    obtain ⟨a, b, rfl, ha, hc⟩ := index_one_hit c r i hi
    rw [if_pos (by omega), hi]
    subst ha
    simp [hc]
end Go.Proofs.YtjfjliobencppaaGreatDoor.Sp

namespace Go.Proofs.YtjfjliobencppaaGreatDoor.Sp
open Go.RowKit

end Go.Proofs.YtjfjliobencppaaGreatDoor.Sp

namespace Go.Proofs.YtjfjliobencppaaGreatDoor.Sp
open Go.RowKit

/-- Variable MaxLen of the library's holds a number. -/
def Mx (w : World) (m : Int) : Prop := w.cell? ⟨0, 0, none⟩ = some (.int .i64 m)
theorem Mx.later {w w' : World} {m : Int} (h : Mx w m) (hb : Below w.heap.size w w') : Mx w' m := by
  unfold Mx at *
  rw [hb.cell (p := ⟨0, 0, none⟩) (World.block_lt_of_cell? _ _ h)]; exact h

end Go.Proofs.YtjfjliobencppaaGreatDoor.Sp

namespace Go.Proofs.YtjfjliobencppaaGreatDoor.Sp
open Go.RowKit

/-- What of Go's library the world holds. -/
def Lay (w : World) : Prop := (∃ m, Mx w m) ∧ Lib.TabIs Tryz.prog w "internal/strconv.uint64pow10" .u64 Lib.pow10Tab ∧ ∃ tp pv, w.var? Tryz.prog "strconv.ErrRange" = some #[.iface tp pv]
theorem gER : Tryz.prog.globalNamed "strconv.ErrRange" = some 2 := by kernel_rfl
theorem Lay.later {w w' : World} (h : Lay w) (hb : Below w.heap.size w w') : Lay w' := by
  obtain ⟨⟨m, hm⟩, ht, tp, pv, hv⟩ := h
  have hlt : 2 < w.heap.size := by
    have hc := World.var?_cell gER hv 0
    rcases Nat.lt_or_ge 2 w.heap.size with h | h
    · exact h
    · simp [World.cell?, Array.getElem?_eq_none h] at hc
  exact ⟨⟨m, hm.later hb⟩, Lib.tabBelow_of_tabIs ht w' hb, tp, pv, var?_below hb gER hlt hv⟩

def NumR (l : List UInt8) (w : World) (e : Ending) (w' : World) : Prop :=
  ∃ n k : Nat, e = .returned (.tuple #[.int .u64 n, .int .i64 k]) ∧ n ≤ 18446744073709551615 ∧ (k = 0 ∨ (k ≠ 0 ∧ ((k : Int) == 0) = false)) ∧ (k = 0 → W.good l ∧ W.val l = n) ∧ (k ≠ 0 → ∀ m, m ≤ 18446744073709551615 → ¬ ∃ x, Num l m x) ∧ Below w.heap.size w w'

theorem good_cases (s : ByteArray) : s.size = 0 ∨ (1 < s.size ∧ ∃ h : 0 < s.size, s[0].toNat = 48) ∨
    (1 ≤ s.size ∧ (¬ ∃ h : 1 < s.size, s[0].toNat = 48) ∧ ∃ j, ∃ h : j < s.size, ¬ (48 ≤ s[j].toNat ∧ s[j].toNat ≤ 57)) ∨
    (1 ≤ s.size ∧ (¬ ∃ h : 1 < s.size, s[0].toNat = 48) ∧ ∀ j, (h : j < s.size) → 48 ≤ s[j].toNat ∧ s[j].toNat ≤ 57) := by
  rcases Nat.eq_zero_or_pos s.size with h0 | h0
  · exact Or.inl h0
  · by_cases h1 : ∃ h : 1 < s.size, s[0].toNat = 48
    · obtain ⟨a, b⟩ := h1
      exact Or.inr (Or.inl ⟨a, h0, b⟩)
    · by_cases hb : ∃ j, ∃ h : j < s.size, ¬ (48 ≤ s[j].toNat ∧ s[j].toNat ≤ 57)
      · exact Or.inr (Or.inr (Or.inl ⟨h0, h1, hb⟩))
      · refine Or.inr (Or.inr (Or.inr ⟨h0, h1, fun j h => ?_⟩))
        by_cases e : 48 ≤ s[j].toNat ∧ s[j].toNat ≤ 57
        · exact e
        · exact absurd ⟨j, h, e⟩ hb
theorem number_any (s : ByteArray) (hs : s.size ≤ 100) (w : World) (hl : Lay w) : Calls Tryz.prog 120 #[.string s] w (NumR s.data.toList w) := by
  obtain ⟨_, ht, tp, pv, hv⟩ := hl
  have z0 : (0 : Nat) = 0 ∨ ((0 : Nat) ≠ 0 ∧ (((0 : Nat) : Int) == 0) = false) := Or.inl rfl
  have z4 : (4 : Nat) = 0 ∨ ((4 : Nat) ≠ 0 ∧ (((4 : Nat) : Int) == 0) = false) := Or.inr ⟨by decide, by decide⟩
  have z7 : (7 : Nat) = 0 ∨ ((7 : Nat) ≠ 0 ∧ (((7 : Nat) : Int) == 0) = false) := Or.inr ⟨by decide, by decide⟩
  rcases good_cases s with h0 | ⟨h1, h0, h48⟩ | ⟨h1, hz, hb⟩ | ⟨h1, hz, ha⟩
  · refine (W.number_empty s h0 w).mono ?_
    rintro e w' ⟨rfl, hb⟩
    refine ⟨0, 4, rfl, by decide, z4, fun h => absurd h (by decide), fun _ m _ => ?_, hb⟩
    rintro ⟨x, hg, _⟩
    exact hg.1 (List.eq_nil_of_length_eq_zero (by rw [← Lib.size_eq]; exact h0))
  · refine (W.number_nought s h1 h48 w).mono ?_
    rintro e w' ⟨rfl, hb⟩
    refine ⟨0, 4, rfl, by decide, z4, fun h => absurd h (by decide), fun _ m _ => ?_, hb⟩
    rintro ⟨x, hg, _⟩
    exact (W.of_good s hg (by omega)).1 ⟨h1, h48⟩
  · have hz' : ¬ (1 < s.size ∧ s[0].toNat = 48) := fun ⟨a, b⟩ => hz ⟨a, b⟩
    refine (W.number_bad s h1 hz' hb hs w).mono ?_
    rintro e w' ⟨rfl, hb1⟩
    refine ⟨0, 4, rfl, by decide, z4, fun h => absurd h (by decide), fun _ m _ => ?_, hb1⟩
    rintro ⟨x, hg, _⟩
    obtain ⟨j, h, hn⟩ := hb
    exact hn ((W.of_good s hg h1).2 j h)
  · have hz' : ¬ (1 < s.size ∧ s[0].toNat = 48) := fun ⟨a, b⟩ => hz ⟨a, b⟩
    have hg := W.good_of s h1 hz' ha
    by_cases hu : W.val s.data.toList ≤ 18446744073709551615
    · refine (W.number_ok s h1 hz' ha _ (W.parse_ok _ hg.1 hg.2.1 hu) hs w).mono ?_
      rintro e w' ⟨rfl, hb1⟩
      exact ⟨_, 0, rfl, hu, z0, fun _ => ⟨hg, rfl⟩, fun h => absurd rfl h, hb1⟩
    · refine (W.number_range s h1 hz' ha w (W.parse_range _ hg.1 hg.2.1 hu) tp pv hv hs).mono ?_
      rintro e w' ⟨rfl, hb1⟩
      refine ⟨0, 7, rfl, by decide, z7, fun h => absurd h (by decide), fun _ m hm => ?_, hb1⟩
      rintro ⟨x, _, he, hx⟩
      omega
/-- What the closure of Parse answers, and leaves. -/
def CloR (l : List UInt8) (most fb : Nat) (w : World) (e : Ending) (w' : World) : Prop :=
  ∃ (n : Nat) (v : Bool) (w1 : World), e = .returned (.int .u64 n) ∧ n ≤ 18446744073709551615 ∧ (v = true → Num l most n) ∧ (v = false → ¬ ∃ x, Num l most x) ∧ Below w.heap.size w w1 ∧ w' = w1.setCell ⟨fb, 0, none⟩ (.bool v)
set_option maxRecDepth 1000000 in
theorem clo_any (s : ByteArray) (hs : s.size ≤ 100) (most fb : Nat) (hm : most ≤ 18446744073709551615) (w : World) (hl : Lay w) (hc : w.cell? ⟨fb, 0, none⟩ = some (.bool true)) (hf : w.frozen? ⟨fb, 0, none⟩ = false) :
    Calls Tryz.prog 119 #[.string s, .int .u64 most, .pointer (some ⟨fb, 0, none⟩)] w (CloR s.data.toList most fb w) := by
  have hfb : fb < w.heap.size := World.block_lt_of_cell? _ _ hc
  have K1 := Lib.hid (number_any s hs w hl)
  have HM := Lib.hid hm
  clear hm
  go_enter Tryz.func119, Tryz.ntmps119
  go_wp2_with fail
  refine (K1.out).mono ?_
  rintro e w1 ⟨n, k, rfl, hn, hk, h1, h2, hb⟩
  have H1 := Lib.hid h1
  have H2 := Lib.hid h2
  have HN := Lib.hid hn
  have HB := Lib.hid hb
  have hc1 : w1.cell? ⟨fb, 0, none⟩ = some (.bool true) := by rw [hb.cell (p := ⟨fb, 0, none⟩) hfb]; exact hc
  have hf1 : w1.frozen? ⟨fb, 0, none⟩ = false := by rw [hb.frozen (p := ⟨fb, 0, none⟩) hfb]; exact hf
  clear h1 h2 hn hb hc hf
  rcases hk with rfl | ⟨hk, hkb⟩
  · by_cases hle : n ≤ most
    · have d1 : decide ((n : Int) ≤ (most : Int)) = true := decide_eq_true (by omega)
      go_wp2
      go_ret
      exact ⟨n, true, w1, rfl, HN.out, fun _ => ⟨(H1.out (by trivial)).1, (H1.out (by trivial)).2, hle⟩, (fun h => by cases h), HB.out, rfl⟩
    · have d1 : decide ((n : Int) ≤ (most : Int)) = false := decide_eq_false (by omega)
      go_wp2
      go_ret
      refine ⟨n, false, w1, rfl, HN.out, (fun h => by cases h), fun _ => ?_, HB.out, rfl⟩
      rintro ⟨x, _, e, hx⟩
      have := (H1.out (by trivial)).2
      omega
  · go_wp2
    go_ret
    exact ⟨n, false, w1, rfl, HN.out, (fun h => by cases h), fun _ => H2.out hk most HM.out, HB.out, rfl⟩
end Go.Proofs.YtjfjliobencppaaGreatDoor.Sp

namespace Go.Proofs.YtjfjliobencppaaGreatDoor.Sp
open Go.RowKit

/-- A block's cells are a place's. -/
def PlAt (g a b c d p : Nat) (w : World) : Prop :=
  w.cell? ⟨g, 0, none⟩ = some (.int .u8 a) ∧ w.cell? ⟨g, 1, none⟩ = some (.int .u8 b) ∧ w.cell? ⟨g, 2, none⟩ = some (.int .u8 c) ∧ w.cell? ⟨g, 3, none⟩ = some (.int .u8 d) ∧ w.cell? ⟨g, 4, none⟩ = some (.int .u16 p)
def cmpN (a b c d p a2 b2 c2 d2 p2 : Nat) : Int := Lib.compareBytes (bytesN a b c d p) (bytesN a2 b2 c2 d2 p2)

end Go.Proofs.YtjfjliobencppaaGreatDoor.Sp
