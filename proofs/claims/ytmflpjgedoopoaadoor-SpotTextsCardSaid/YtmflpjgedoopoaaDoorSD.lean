/- Plain: the place that a text tells. -/
import Derived.Test.YtmflpjgedoopoaaDoorA
import Derived.Test.YtmflpjgedoopoaaDoorVE
import Derived.Lib.CutLaws
namespace Go.Proofs.YtmflpjgedoopoaaDoor

/-- Digits that tell a number of at most m. -/
def Num (l : List UInt8) (m n : Nat) : Prop := W.good l ∧ W.val l = n ∧ n ≤ m
def sepAt (k : Nat) : UInt8 := if k < 3 then 46 else 58
/-- What is left behind k numbers tells the others, and the port. -/
def DecT : Nat → Nat → List UInt8 → (Nat → Nat) → Nat → Prop
  | 0, _, r, _, port => Num r 65535 port ∧ 1 ≤ port
  | f + 1, k, r, xs, port => ∃ d r', r = d ++ sepAt k :: r' ∧ Num d 255 (xs k) ∧ DecT f (k + 1) r' xs port
def Dec (l : List UInt8) (xs : Nat → Nat) (port : Nat) : Prop := DecT 4 0 l xs port

theorem good_free {l : List UInt8} (h : W.good l) : (46 : UInt8) ∉ l ∧ (58 : UInt8) ∉ l := by
  obtain ⟨_, hd, _⟩ := h
  constructor
  · intro hm
    have := hd _ hm
    unfold W.digit at this
    simp at this
  · intro hm
    have := hd _ hm
    unfold W.digit at this
    simp at this
theorem good_sep {l : List UInt8} (h : W.good l) (k : Nat) : sepAt k ∉ l := by
  unfold sepAt
  split
  · exact (good_free h).1
  · exact (good_free h).2
theorem first_unique {c : UInt8} : ∀ {a b a' b' : List UInt8}, c ∉ a → c ∉ a' → a ++ c :: b = a' ++ c :: b' → a = a' ∧ b = b'
  | [], b, [], b', _, _, h => by simpa using h
  | [], b, x :: a', b', _, h2, h => by
    simp at h
    exact absurd (h.1 ▸ List.mem_cons_self) h2
  | x :: a, b, [], b', h1, _, h => by
    simp at h
    exact absurd (h.1 ▸ List.mem_cons_self) h1
  | x :: a, b, y :: a', b', h1, h2, h => by
    simp at h
    obtain ⟨rfl, h⟩ := h
    have := first_unique (fun e => h1 (List.mem_cons_of_mem _ e)) (fun e => h2 (List.mem_cons_of_mem _ e)) h
    exact ⟨by rw [this.1], this.2⟩
theorem decT_step {f k : Nat} {d r' : List UInt8} (hd : sepAt k ∉ d) (xs : Nat → Nat) (port : Nat) :
    DecT (f + 1) k (d ++ sepAt k :: r') xs port ↔ Num d 255 (xs k) ∧ DecT f (k + 1) r' xs port := by
  constructor
  · rintro ⟨d2, r2, e, hn, ht⟩
    obtain ⟨rfl, rfl⟩ := first_unique hd (good_sep hn.1 k) e
    exact ⟨hn, ht⟩
  · rintro ⟨hn, ht⟩
    exact ⟨d, r', rfl, hn, ht⟩
theorem decT_none {f k : Nat} {r : List UInt8} (h : sepAt k ∉ r) (xs : Nat → Nat) (port : Nat) : ¬ DecT (f + 1) k r xs port := by
  rintro ⟨d, r', rfl, _⟩
  exact h (by simp)
theorem decT_congr : ∀ (f k : Nat) (r : List UInt8) (xs ys : Nat → Nat) (port : Nat), (∀ j, k ≤ j → j < k + f → xs j = ys j) → DecT f k r xs port → DecT f k r ys port
  | 0, _, _, _, _, _, _, h => h
  | f + 1, k, r, xs, ys, port, he, ⟨d, r', e, hn, ht⟩ => ⟨d, r', e, by rw [← he k (by omega) (by omega)]; exact hn, decT_congr f (k + 1) r' xs ys port (fun j h1 h2 => he j (by omega) (by omega)) ht⟩
theorem decT_unique : ∀ (f k : Nat) (r : List UInt8) (xs ys : Nat → Nat) (p q : Nat), DecT f k r xs p → DecT f k r ys q → p = q ∧ ∀ j, k ≤ j → j < k + f → xs j = ys j
  | 0, _, _, _, _, _, _, h1, h2 => ⟨h1.1.2.1.symm.trans h2.1.2.1, fun j a b => absurd a (by omega)⟩
  | f + 1, k, r, xs, ys, p, q, ⟨d, r', e, hn, ht⟩, ⟨d2, r2, e2, hn2, ht2⟩ => by
    subst e
    obtain ⟨rfl, rfl⟩ := first_unique (good_sep hn.1 k) (good_sep hn2.1 k) e2
    obtain ⟨h1, h2⟩ := decT_unique f (k + 1) r' xs ys p q ht ht2
    refine ⟨h1, fun j a b => ?_⟩
    by_cases e : j = k
    · subst e; exact hn.2.1.symm.trans hn2.2.1
    · exact h2 j (by omega) (by omega)

/-- What the library's cut at one byte gives. -/
theorem cut_one (r : List UInt8) (c : UInt8) : (Lib.cut r [c]).2.2 = true ∧ r = (Lib.cut r [c]).1 ++ c :: (Lib.cut r [c]).2.1 ∧ c ∉ (Lib.cut r [c]).1 ∨
    (Lib.cut r [c]) = (r, [], false) ∧ c ∉ r := by
  unfold Lib.cut
  have hge := Lib.index_ge r [c]
  by_cases h : Lib.index r [c] = -1
  · right
    rw [if_neg (by omega)]
    exact ⟨rfl, index_one_miss c r h⟩
  · left
    obtain ⟨i, hi⟩ : ∃ i : Nat, Lib.index r [c] = i := ⟨(Lib.index r [c]).toNat, by omega⟩
    obtain ⟨a, b, rfl, ha, hc⟩ := index_one_hit c r i hi
    rw [if_pos (by omega), hi]
    subst ha
    simp [hc]
end Go.Proofs.YtmflpjgedoopoaaDoor
