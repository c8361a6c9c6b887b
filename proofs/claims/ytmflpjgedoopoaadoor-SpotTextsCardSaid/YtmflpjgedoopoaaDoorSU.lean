/- What both readers make of a text, and of a place's own text and bytes. -/
import Derived.Test.YtmflpjgedoopoaaDoorSO
import Derived.Test.YtmflpjgedoopoaaDoorSG
import Derived.Test.YtmflpjgedoopoaaDoorST
import Derived.Test.YtmflpjgedoopoaaDoorSJ
namespace Go.Proofs.YtmflpjgedoopoaaDoor
open Go.RowKit

theorem dg_val {d : List UInt8} {m n : Nat} (h : Num d m n) : dg n = d := by
  obtain ⟨hg, hv, _⟩ := h
  unfold dg
  rw [← hv]
  exact W.dec_val _ d rfl hg
/-- A text that tells a place is that place's text. -/
theorem dec_back {l : List UInt8} {xs : Nat → Nat} {p : Nat} (h : Dec l xs p) :
    textN (xs 0) (xs 1) (xs 2) (xs 3) p = l ∧ xs 0 < 256 ∧ xs 1 < 256 ∧ xs 2 < 256 ∧ xs 3 < 256 ∧ 1 ≤ p ∧ p < 65536 := by
  obtain ⟨d0, r0, rfl, n0, d1, r1, rfl, n1, d2, r2, rfl, n2, d3, r3, rfl, n3, n4, h1⟩ := h
  have k1 : xs 1 ≤ 255 := n1.2.2
  have k2 : xs 2 ≤ 255 := n2.2.2
  have k3 : xs 3 ≤ 255 := n3.2.2
  refine ⟨?_, by have := n0.2.2; omega, by omega, by omega, by omega, h1, by have := n4.2.2; omega⟩
  unfold textN joinN
  rw [dg_val n0, dg_val n1, dg_val n2, dg_val n3, dg_val n4]
  simp [sepAt]
theorem dg_short : ∀ (k n : Nat), n < 10 ^ (k + 1) → (dg n).length ≤ k + 1
  | 0, n, h => by unfold dg; rw [W.dec_small n (by simpa using h)]; simp
  | k + 1, n, h => by
    unfold dg
    by_cases h10 : n < 10
    · rw [W.dec_small n h10]; simp
    · rw [W.dec_big n h10]
      have := dg_short k (n / 10) (by rw [Nat.pow_succ] at h; omega)
      unfold dg at this
      simp; omega
theorem textN_len (a b c d p : Nat) (ha : a < 256) (hb : b < 256) (hc : c < 256) (hd : d < 256) (hp : p < 65536) : (textN a b c d p).length ≤ 100 := by
  have h0 := dg_short 2 a (by omega)
  have h1 := dg_short 2 b (by omega)
  have h2 := dg_short 2 c (by omega)
  have h3 := dg_short 2 d (by omega)
  have h4 := dg_short 4 p (by omega)
  unfold textN joinN
  simp; omega
theorem no_dec (a b c d : Nat) : ¬ ∃ xs port, Dec (textN a b c d 0) xs port := by
  rintro ⟨xs, port, h⟩
  have e : textN a b c d 0 = dg a ++ sepAt 0 :: (dg b ++ sepAt 1 :: (dg c ++ sepAt 2 :: (dg d ++ sepAt 3 :: dg 0))) := by
    unfold textN joinN; simp [sepAt]
  have g : ∀ n, W.good (dg n) := fun n => (W.dec_good n).1
  unfold Dec at h
  rw [e, decT_step (good_sep (g a) 0), decT_step (good_sep (g b) 1), decT_step (good_sep (g c) 2), decT_step (good_sep (g d) 3)] at h
  obtain ⟨_, _, _, _, hn, h1⟩ := h
  have h2 := hn.2.1
  have h3 : W.val (dg 0) = 0 := (W.dec_good 0).2.1
  omega
theorem bytesN_byt (a b c d p : Nat) (ha : a < 256) (hb : b < 256) (hc : c < 256) (hd : d < 256) (hp : p < 65536) :
    (str (bytesN a b c d p)).size = 6 ∧ byt (str (bytesN a b c d p)) 0 = a ∧ byt (str (bytesN a b c d p)) 1 = b ∧ byt (str (bytesN a b c d p)) 2 = c ∧ byt (str (bytesN a b c d p)) 3 = d ∧ portB (str (bytesN a b c d p)) = p := by
  have e : bytesN a b c d p = [UInt8.ofNat a, UInt8.ofNat b, UInt8.ofNat c, UInt8.ofNat d, UInt8.ofNat (p / 256), UInt8.ofNat (p % 256)] := by
    unfold bytesN; rw [be_two]; rfl
  rw [e]
  have f : ∀ n, n < 256 → (UInt8.ofNat n).toNat = n := fun n h => by rw [UInt8.toNat_ofNat', Nat.mod_eq_of_lt (by omega)]
  refine ⟨rfl, f a ha, f b hb, f c hc, f d hd, ?_⟩
  show (UInt8.ofNat (p / 256)).toNat * 256 + (UInt8.ofNat (p % 256)).toNat = p
  rw [f _ (by omega), f _ (by omega)]; omega

/-- Whether a text tells a place: both readers say so, and the same. -/
def Both (s : ByteArray) (x0 x1 x2 x3 xp : Nat) (E : Int) (ok : Bool) : Prop :=
  (∀ w, Lay w → Calls Tryd.prog 29 #[.string s] w fun e w' => e = .returned (.tuple #[plc x0 x1 x2 x3 xp, .int .i64 E]) ∧ Below w.heap.size w w') ∧
  (∀ w, Calls Tryd.prog 30 #[.string s] w fun e w' => e = .returned (.tuple #[plc x0 x1 x2 x3 xp, .bool ok]) ∧ Below w.heap.size w w')
theorem both_ways (s : ByteArray) (hs : s.size ≤ 100) :
    (∃ x0 x1 x2 x3 xp, x0 < 256 ∧ x1 < 256 ∧ x2 < 256 ∧ x3 < 256 ∧ xp < 65536 ∧ str (textN x0 x1 x2 x3 xp) = s ∧ Both s x0 x1 x2 x3 xp 0 true) ∨ Both s 0 0 0 0 0 4 false := by
  by_cases h : ∃ xs port, Dec s.data.toList xs port
  · obtain ⟨xs, port, h⟩ := h
    obtain ⟨e, h0, h1, h2, h3, _, h4⟩ := dec_back h
    refine Or.inl ⟨xs 0, xs 1, xs 2, xs 3, port, h0, h1, h2, h3, h4, ?_, ?_, ?_⟩
    · rw [e]; rfl
    · intro w hl
      refine (parse_any s hs w hl).mono ?_
      rintro e w' ⟨hb, ⟨ys, q, hd, rfl⟩ | ⟨hn, _⟩⟩
      · obtain ⟨rfl, g⟩ := dec_unique h hd
        rw [g 0 (by omega), g 1 (by omega), g 2 (by omega), g 3 (by omega)]
        exact ⟨rfl, hb⟩
      · exact absurd ⟨_, _, h⟩ hn
    · intro w
      refine (rparse_any s hs w).mono ?_
      rintro e w' ⟨hb, ⟨ys, q, hd, rfl⟩ | ⟨hn, _⟩⟩
      · obtain ⟨rfl, g⟩ := dec_unique h hd
        rw [g 0 (by omega), g 1 (by omega), g 2 (by omega), g 3 (by omega)]
        exact ⟨rfl, hb⟩
      · exact absurd ⟨_, _, h⟩ hn
  · refine Or.inr ⟨?_, ?_⟩
    · intro w hl
      refine (parse_any s hs w hl).mono ?_
      rintro e w' ⟨hb, ⟨ys, q, hd, rfl⟩ | ⟨_, rfl⟩⟩
      · exact absurd ⟨_, _, hd⟩ h
      · exact ⟨rfl, hb⟩
    · intro w
      refine (rparse_any s hs w).mono ?_
      rintro e w' ⟨hb, ⟨ys, q, hd, rfl⟩ | ⟨_, rfl⟩⟩
      · exact absurd ⟨_, _, hd⟩ h
      · exact ⟨rfl, hb⟩
theorem str_toList (l : List UInt8) : (str l).data.toList = l := by unfold str; simp
theorem str_len (l : List UInt8) : (str l).size = l.length := by unfold str; simp [ByteArray.size]
/-- What is read of a place's own text, and of its bytes. -/
theorem back_ways (a b c d p : Nat) (ha : a < 256) (hb : b < 256) (hc : c < 256) (hd : d < 256) (hp : p < 65536) :
    (p = 0 ∧ (∀ w, Lay w → Calls Tryd.prog 29 #[.string (str (textN a b c d p))] w fun e w' => e = .returned (.tuple #[plc 0 0 0 0 0, .int .i64 4]) ∧ Below w.heap.size w w') ∧
      (∀ w, Calls Tryd.prog 32 #[.string (str (bytesN a b c d p))] w fun e w' => e = .returned (.tuple #[plc 0 0 0 0 0, .int .i64 4]) ∧ Below w.heap.size w w')) ∨
    (((p : Int) == 0) = false ∧ (∀ w, Lay w → Calls Tryd.prog 29 #[.string (str (textN a b c d p))] w fun e w' => e = .returned (.tuple #[plc a b c d p, .int .i64 0]) ∧ Below w.heap.size w w') ∧
      (∀ w, Calls Tryd.prog 32 #[.string (str (bytesN a b c d p))] w fun e w' => e = .returned (.tuple #[plc a b c d p, .int .i64 0]) ∧ Below w.heap.size w w')) := by
  have hs : (str (textN a b c d p)).size ≤ 100 := by rw [str_len]; exact textN_len a b c d p ha hb hc hd hp
  obtain ⟨z, b0, b1, b2, b3, b4⟩ := bytesN_byt a b c d p ha hb hc hd hp
  by_cases h0 : p = 0
  · subst h0
    refine Or.inl ⟨rfl, ?_, ?_⟩
    · intro w hl
      refine (parse_any _ hs w hl).mono ?_
      rintro e w' ⟨hb, ⟨ys, q, hd, rfl⟩ | ⟨_, rfl⟩⟩
      · rw [str_toList] at hd
        exact absurd ⟨_, _, hd⟩ (no_dec a b c d)
      · exact ⟨rfl, hb⟩
    · intro w
      refine (of_any _ w).mono ?_
      rintro e w' ⟨hb, ⟨_, k, _⟩ | ⟨_, rfl⟩⟩
      · exact absurd b4 k
      · exact ⟨rfl, hb⟩
  · refine Or.inr ⟨neq_int h0, ?_, ?_⟩
    · intro w hl
      refine (parse_any _ hs w hl).mono ?_
      intro e w' h
      rw [str_toList] at h
      exact h.of_dec (dec_text a b c d p ha hb hc hd hp (by omega))
    · intro w
      refine (of_any _ w).mono ?_
      rintro e w' ⟨hb, ⟨_, _, rfl⟩ | ⟨k, _⟩⟩
      · rw [b0, b1, b2, b3, b4]; exact ⟨rfl, hb⟩
      · exact absurd ⟨z, by rw [b4]; exact h0⟩ k
end Go.Proofs.YtmflpjgedoopoaaDoor
