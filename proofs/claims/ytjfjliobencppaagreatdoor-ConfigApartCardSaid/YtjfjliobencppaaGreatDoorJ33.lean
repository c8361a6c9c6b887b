/- Places as bytes.; Plain: the place that a text tells.; The library's cut, equality of slices, and a path's parts.; A path's parts by definition; whether a path is under another one.; Numbers read: word.Number, its answer by definition, and the closure of spot.Parse. -/
import Derived.Test.YtjfjliobencppaaGreatDoorJ32
import Derived.Test.YtjfjliobencppaaGreatDoorJ28
import Derived.Test.YtjfjliobencppaaGreatDoorJ29
import Derived.Lib.CutLaws
import Derived.WalkSmall
set_option linter.unusedVariables false
set_option linter.unusedSimpArgs false
namespace Go.Proofs.YtjfjliobencppaaGreatDoor.Sp
open Go.RowKit

/-- A place's bytes. -/
def bytesN (a b c d p : Nat) : List UInt8 := [UInt8.ofNat a, UInt8.ofNat b, UInt8.ofNat c, UInt8.ofNat d] ++ W.be p 2
theorem run_ip_string (a b c d : Nat) (ha : a < 256) (hb : b < 256) (hc : c < 256) (hd : d < 256) (g : Nat) (w : World)
    (h0 : w.cell? ⟨g, 0, none⟩ = some (.int .u8 a)) (h1 : w.cell? ⟨g, 1, none⟩ = some (.int .u8 b)) (h2 : w.cell? ⟨g, 2, none⟩ = some (.int .u8 c)) (h3 : w.cell? ⟨g, 3, none⟩ = some (.int .u8 d)) :
    (convert 113 9 (.slice (some ⟨g, 0, none⟩) 4 4)).run Tryz.prog w = .ok (.string (str [UInt8.ofNat a, UInt8.ofNat b, UInt8.ofNat c, UInt8.ofNat d])) w := by
  have h := run_convert_bytes_back (P := Tryz.prog) w 113 9 5 ⟨g, 0, none⟩ 4 [UInt8.ofNat a, UInt8.ofNat b, UInt8.ofNat c, UInt8.ofNat d] Tryz.underlying113 Tryz.underlying5 Tryz.underlying9 (fun j hj => by
    match j, hj with
    | 0, _ => simpa [Addr.add, Nat.mod_eq_of_lt ha] using h0
    | 1, _ => simpa [Addr.add, Nat.mod_eq_of_lt hb] using h1
    | 2, _ => simpa [Addr.add, Nat.mod_eq_of_lt hc] using h2
    | 3, _ => simpa [Addr.add, Nat.mod_eq_of_lt hd] using h3)
  exact h

set_option maxRecDepth 1000000 in
set_option maxHeartbeats 1000000 in
theorem bytes_any (a b c d p : Nat) (ha : a < 256) (hb : b < 256) (hc : c < 256) (hd : d < 256) (hp : p < 65536) (w : World) :
    Calls Tryz.prog 97 #[plc a b c d p] w fun e w' => e = .returned (.string (str (bytesN a b c d p))) ∧ Below w.heap.size w w' := by
  have K1 : Hid (∀ w, Calls Tryz.prog 93 #[.int .u64 (IntKind.u64.wrap (p : Int)), .int .i64 2] w fun e w' => e = .returned (.string (str (W.be p 2))) ∧ Below w.heap.size w w') := Lib.hid (fun w => by
    rw [IntWalk.u64_in _ (by omega)]; exact W.put_any p 2 (by omega) w)
  obtain ⟨x, hx⟩ : ∃ x, str [UInt8.ofNat a, UInt8.ofNat b, UInt8.ofNat c, UInt8.ofNat d] = x := ⟨_, rfl⟩
  obtain ⟨y, hy⟩ : ∃ y, str (W.be p 2) = y := ⟨_, rfl⟩
  have hadd : ∀ w, (Op.stringOp .add x y).run Tryz.prog w = .ok (.string (str (bytesN a b c d p))) w := fun w => by
    rw [← hx, ← hy, run_string_add_sum w _ _ (by rw [str_size, str_size, W.be_length]; simp)]
    rfl
  have hcv : ∀ w' : World, w'.cell? ⟨w.heap.size, 0, none⟩ = some (.int .u8 a) → w'.cell? ⟨w.heap.size, 1, none⟩ = some (.int .u8 b) → w'.cell? ⟨w.heap.size, 2, none⟩ = some (.int .u8 c) → w'.cell? ⟨w.heap.size, 3, none⟩ = some (.int .u8 d) →
      (convert 113 9 (.slice (some ⟨w.heap.size, 0, none⟩) 4 4)).run Tryz.prog w' = .ok (.string x) w' := fun w' h0 h1 h2 h3 => by
    rw [← hx]; exact run_ip_string a b c d ha hb hc hd _ w' h0 h1 h2 h3
  rw [hy] at K1
  generalize str (bytesN a b c d p) = z at *
  clear hx hy ha hb hc hd
  have g0 : (w.alloc (.cells #[.int .u8 a, .int .u8 b, .int .u8 c, .int .u8 d, .int .u16 p] 49)).cell? ⟨w.heap.size, 0, none⟩ = some (.int .u8 a) := by rw [World.cell?_alloc_new]; rfl
  have g1 : (w.alloc (.cells #[.int .u8 a, .int .u8 b, .int .u8 c, .int .u8 d, .int .u16 p] 49)).cell? ⟨w.heap.size, 1, none⟩ = some (.int .u8 b) := by rw [World.cell?_alloc_new]; rfl
  have g2 : (w.alloc (.cells #[.int .u8 a, .int .u8 b, .int .u8 c, .int .u8 d, .int .u16 p] 49)).cell? ⟨w.heap.size, 2, none⟩ = some (.int .u8 c) := by rw [World.cell?_alloc_new]; rfl
  have g3 : (w.alloc (.cells #[.int .u8 a, .int .u8 b, .int .u8 c, .int .u8 d, .int .u16 p] 49)).cell? ⟨w.heap.size, 3, none⟩ = some (.int .u8 d) := by rw [World.cell?_alloc_new]; rfl
  have g4 : (w.alloc (.cells #[.int .u8 a, .int .u8 b, .int .u8 c, .int .u8 d, .int .u16 p] 49)).cell? ⟨w.heap.size, 4, none⟩ = some (.int .u16 p) := by rw [World.cell?_alloc_new]; rfl
  have g5 : w.heap.size < (w.alloc (.cells #[.int .u8 a, .int .u8 b, .int .u8 c, .int .u8 d, .int .u16 p] 49)).heap.size := by simp
  have g6 : Below w.heap.size w (w.alloc (.cells #[.int .u8 a, .int .u8 b, .int .u8 c, .int .u8 d, .int .u16 p] 49)) := (Below.refl _ _).alloc (Nat.le_refl _) _
  unfold plc
  go_enter Tryz.func97, Tryz.ntmps97
  go_wp2
  generalize w.alloc (.cells #[.int .u8 a, .int .u8 b, .int .u8 c, .int .u8 d, .int .u16 p] 49) = W at *
  go_region_held3 (fun w' => w'.cell? ⟨w.heap.size, 0, none⟩ = some (.int .u8 a) ∧ w'.cell? ⟨w.heap.size, 1, none⟩ = some (.int .u8 b) ∧ w'.cell? ⟨w.heap.size, 2, none⟩ = some (.int .u8 c) ∧ w'.cell? ⟨w.heap.size, 3, none⟩ = some (.int .u8 d) ∧ w'.cell? ⟨w.heap.size, 4, none⟩ = some (.int .u16 p) ∧ w.heap.size < w'.heap.size ∧ Below w.heap.size w w')
    (first
      | exact ⟨g0, g1, g2, g3, g4, g5, g6.drew⟩
      | (go_split_ands
         refine ⟨?_, ?_, ?_, ?_, ?_, ?_, ?_⟩
         · (rw [hb1.cell (p := ⟨w.heap.size, 0, none⟩) (by assumption)]; assumption)
         · (rw [hb1.cell (p := ⟨w.heap.size, 1, none⟩) (by assumption)]; assumption)
         · (rw [hb1.cell (p := ⟨w.heap.size, 2, none⟩) (by assumption)]; assumption)
         · (rw [hb1.cell (p := ⟨w.heap.size, 3, none⟩) (by assumption)]; assumption)
         · (rw [hb1.cell (p := ⟨w.heap.size, 4, none⟩) (by assumption)]; assumption)
         · exact Nat.lt_of_lt_of_le (by assumption) hb1.size
         · exact Below.trans (by assumption) (hb1.mono (Nat.le_of_lt (by assumption))))
      | go_keep)
    (first | (go_at_call 93; ((with_reducible refine (K1.out _).mono ?_); rintro e w1 ⟨rfl, hb1⟩)))
  all_goals go_wp2
  all_goals go_ret
  all_goals
    refine ⟨rfl, ?_⟩
    rename_i hS
    exact hS.2.2.2.2.2.2

theorem be_two (p : Nat) : W.be p 2 = [UInt8.ofNat (p / 256), UInt8.ofNat (p % 256)] := by
  have e : UInt8.ofNat (p % 256) = UInt8.ofNat p := by rw [← UInt8.toNat_inj]; simp
  rw [e]
  simp [W.be]

set_option maxRecDepth 1000000 in
theorem rbytes_any (a b c d p : Nat) (ha : a < 256) (hb : b < 256) (hc : c < 256) (hd : d < 256) (hp : p < 65536) (w : World) :
    Calls Tryz.prog 70 #[plc a b c d p] w fun e w' => e = .returned (.string (str (bytesN a b c d p))) ∧ Below w.heap.size w w' := by
  have hcv : ∀ (W : World) (x y : Int), x = ((p / 256 : Nat) : Int) → y = ((p % 256 : Nat) : Int) → (convert 113 9 (.slice (some ⟨W.heap.size, 0, none⟩) 6 6)).run Tryz.prog (W.alloc (.cells #[.int .u8 a, .int .u8 b, .int .u8 c, .int .u8 d, .int .u8 x, .int .u8 y] 5)) =
      .ok (.string (str (bytesN a b c d p))) (W.alloc (.cells #[.int .u8 a, .int .u8 b, .int .u8 c, .int .u8 d, .int .u8 x, .int .u8 y] 5)) := fun W x y hx hy => by
    subst hx hy
    have h := run_convert_bytes_back (P := Tryz.prog) (W.alloc (.cells #[.int .u8 a, .int .u8 b, .int .u8 c, .int .u8 d, .int .u8 ((p / 256 : Nat) : Int), .int .u8 ((p % 256 : Nat) : Int)] 5)) 113 9 5 ⟨W.heap.size, 0, none⟩ 6 (bytesN a b c d p) Tryz.underlying113 Tryz.underlying5 Tryz.underlying9 (fun j hj => by
      unfold bytesN at hj ⊢
      simp only [be_two] at hj ⊢
      match j, hj with
      | 0, _ => simp [Addr.add, World.cell?_alloc_new, Nat.mod_eq_of_lt ha]
      | 1, _ => simp [Addr.add, World.cell?_alloc_new, Nat.mod_eq_of_lt hb]
      | 2, _ => simp [Addr.add, World.cell?_alloc_new, Nat.mod_eq_of_lt hc]
      | 3, _ => simp [Addr.add, World.cell?_alloc_new, Nat.mod_eq_of_lt hd]
      | 4, _ => simp [Addr.add, World.cell?_alloc_new, Nat.mod_eq_of_lt (show p / 256 < 256 by omega)]
      | 5, _ => simp [Addr.add, World.cell?_alloc_new])
    exact h
  have hcv1 := hcv (w.alloc (.cells #[.int .u8 a, .int .u8 b, .int .u8 c, .int .u8 d, .int .u16 p] 75)) ((p : Int) / 256) ((p : Int) % 256) (by omega) (by omega)
  rw [show (w.alloc (.cells #[.int .u8 a, .int .u8 b, .int .u8 c, .int .u8 d, .int .u16 p] 75)).heap.size = w.heap.size + 1 by simp] at hcv1
  clear hcv
  generalize str (bytesN a b c d p) = z at *
  unfold plc
  go_enter Tryz.func70, Tryz.ntmps70
  go_wp2
  go_ret
  exact ⟨rfl, ((Below.refl _ _).alloc (Nat.le_refl _) _).alloc (by simp) _⟩
end Go.Proofs.YtjfjliobencppaaGreatDoor.Sp

namespace Go.Proofs.YtjfjliobencppaaGreatDoor.Sp

/-- Digits that tell a number of at most m. -/
def Num (l : List UInt8) (m n : Nat) : Prop := W.good l ∧ W.val l = n ∧ n ≤ m
def sepAt (k : Nat) : UInt8 := if k < 3 then 46 else 58
/-- What is left behind k numbers tells the others, and the port. -/
def DecT : Nat → Nat → List UInt8 → (Nat → Nat) → Nat → Prop
  | 0, _, r, _, port => Num r 65535 port ∧ 1 ≤ port
  | f + 1, k, r, xs, port => ∃ d r', r = d ++ sepAt k :: r' ∧ Num d 255 (xs k) ∧ DecT f (k + 1) r' xs port
def Dec (l : List UInt8) (xs : Nat → Nat) (port : Nat) : Prop := DecT 4 0 l xs port

theorem good_free {l : List UInt8} (h : W.good l) : (46 : UInt8) ∉ l ∧ (58 : UInt8) ∉ l := by
  obtain ⟨_, hd, _⟩ := h
  constructor
  · intro hm
    have := hd _ hm
    unfold W.digit at this
    simp at this
  · intro hm
    have := hd _ hm
    unfold W.digit at this
    simp at this
theorem good_sep {l : List UInt8} (h : W.good l) (k : Nat) : sepAt k ∉ l := by
  unfold sepAt
  split
  · exact (good_free h).1
  · exact (good_free h).2
theorem first_unique {c : UInt8} : ∀ {a b a' b' : List UInt8}, c ∉ a → c ∉ a' → a ++ c :: b = a' ++ c :: b' → a = a' ∧ b = b'
  | [], b, [], b', _, _, h => by simpa using h
  | [], b, x :: a', b', _, h2, h => by
    simp at h
    exact absurd (h.1 ▸ List.mem_cons_self) h2
  | x :: a, b, [], b', h1, _, h => by
    simp at h
    exact absurd (h.1 ▸ List.mem_cons_self) h1
  | x :: a, b, y :: a', b', h1, h2, h => by
    simp at h
    obtain ⟨rfl, h⟩ := h
    have := first_unique (fun e => h1 (List.mem_cons_of_mem _ e)) (fun e => h2 (List.mem_cons_of_mem _ e)) h
    exact ⟨by rw [this.1], this.2⟩
theorem decT_step {f k : Nat} {d r' : List UInt8} (hd : sepAt k ∉ d) (xs : Nat → Nat) (port : Nat) :
    DecT (f + 1) k (d ++ sepAt k :: r') xs port ↔ Num d 255 (xs k) ∧ DecT f (k + 1) r' xs port := by
  constructor
  · rintro ⟨d2, r2, e, hn, ht⟩
    obtain ⟨rfl, rfl⟩ := first_unique hd (good_sep hn.1 k) e
    exact ⟨hn, ht⟩
  · rintro ⟨hn, ht⟩
    exact ⟨d, r', rfl, hn, ht⟩
theorem decT_none {f k : Nat} {r : List UInt8} (h : sepAt k ∉ r) (xs : Nat → Nat) (port : Nat) : ¬ DecT (f + 1) k r xs port := by
  rintro ⟨d, r', rfl, _⟩
  exact h (by simp)
theorem decT_congr : ∀ (f k : Nat) (r : List UInt8) (xs ys : Nat → Nat) (port : Nat), (∀ j, k ≤ j → j < k + f → xs j = ys j) → DecT f k r xs port → DecT f k r ys port
  | 0, _, _, _, _, _, _, h => h
  | f + 1, k, r, xs, ys, port, he, ⟨d, r', e, hn, ht⟩ => ⟨d, r', e, by rw [← he k (by omega) (by omega)]; exact hn, decT_congr f (k + 1) r' xs ys port (fun j h1 h2 => he j (by omega) (by omega)) ht⟩
theorem decT_unique : ∀ (f k : Nat) (r : List UInt8) (xs ys : Nat → Nat) (p q : Nat), DecT f k r xs p → DecT f k r ys q → p = q ∧ ∀ j, k ≤ j → j < k + f → xs j = ys j
  | 0, _, _, _, _, _, _, h1, h2 => ⟨h1.1.2.1.symm.trans h2.1.2.1, fun j a b => absurd a (by omega)⟩
  | f + 1, k, r, xs, ys, p, q, ⟨d, r', e, hn, ht⟩, ⟨d2, r2, e2, hn2, ht2⟩ => by
    subst e
    obtain ⟨rfl, rfl⟩ := first_unique (good_sep hn.1 k) (good_sep hn2.1 k) e2
    obtain ⟨h1, h2⟩ := decT_unique f (k + 1) r' xs ys p q ht ht2
    refine ⟨h1, fun j a b => ?_⟩
    by_cases e : j = k
    · subst e; exact hn.2.1.symm.trans hn2.2.1
    · exact h2 j (by omega) (by omega)

/-- What the library's cut at one byte gives. -/
theorem cut_one (r : List UInt8) (c : UInt8) : (Lib.cut r [c]).2.2 = true ∧ r = (Lib.cut r [c]).1 ++ c :: (Lib.cut r [c]).2.1 ∧ c ∉ (Lib.cut r [c]).1 ∨
    (Lib.cut r [c]) = (r, [], false) ∧ c ∉ r := by
  unfold Lib.cut
  have hge := Lib.index_ge r [c]
  by_cases h : Lib.index r [c] = -1
  · right
    rw [if_neg (by omega)]
    exact ⟨rfl, index_one_miss c r h⟩
  · left
    obtain ⟨i, hi⟩ : ∃ i : Nat, Lib.index r [c] = i := ⟨(Lib.index r [c]).toNat, by omega⟩
    obtain ⟨a, b, rfl, ha, hc⟩ := index_one_hit c r i hi
    rw [if_pos (by omega), hi]
    subst ha
    simp [hc]
end Go.Proofs.YtjfjliobencppaaGreatDoor.Sp

namespace Go.Proofs.YtjfjliobencppaaGreatDoor.Sp
open Go.RowKit

theorem clone_any (s : ByteArray) (w : World) (hs : s.size ≤ 4294967280) : Calls Tryz.prog 83 #[.string s] w fun e w' => e = .returned (.string s) ∧ Below w.heap.size w w' := by
  have K1 := Lib.hid (Tryz.z_stringslite_Clone s w (by omega))
  go_enter Tryz.func83, Tryz.ntmps83
  go_wp2_with (go_at_call 118; ((with_reducible refine (K1.out).mono ?_); rintro e w1 ⟨rfl, hb⟩))
  go_ret
  exact ⟨rfl, hb⟩

theorem parts_take (l : List (List UInt8)) (k : Nat) (h : k < l.length) : (l.take (k + 1)).filter (fun p => !p.isEmpty) = (l.take k).filter (fun p => !p.isEmpty) ++ (if l.getD k [] = [] then [] else [l.getD k []]) := by
  rw [List.take_succ_eq_append_getElem h, List.filter_append, List.getD_eq_getElem?_getD, List.getElem?_eq_getElem h]
  by_cases e : l[k] = [] <;> simp [e]

end Go.Proofs.YtjfjliobencppaaGreatDoor.Sp

namespace Go.Proofs.YtjfjliobencppaaGreatDoor.Sp
open Go.RowKit

/-- Variable MaxLen of the library's holds a number. -/
def Mx (w : World) (m : Int) : Prop := w.cell? ⟨0, 0, none⟩ = some (.int .i64 m)
theorem Mx.later {w w' : World} {m : Int} (h : Mx w m) (hb : Below w.heap.size w w') : Mx w' m := by
  unfold Mx at *
  rw [hb.cell (p := ⟨0, 0, none⟩) (World.block_lt_of_cell? _ _ h)]; exact h

theorem getD_take (l : List (List UInt8)) (k j : Nat) (h : j < k) : (l.take k).getD j [] = l.getD j [] := by
  rw [List.getD_eq_getElem?_getD, List.getD_eq_getElem?_getD, List.getElem?_take, if_pos h]
theorem reads_take {w : World} {a : Option Addr} {c : Nat} {l : List (List UInt8)} (h : Reads w (.slice a l.length c) l) (k : Nat) (hk : k ≤ l.length) : Reads w (.slice a k c) (l.take k) := by
  obtain ⟨a', c', hv, hc, hN, h⟩ := h
  injection hv with e1 e2 e3
  subst e1 e3
  have hl : (l.take k).length = k := by simp; omega
  refine ⟨a, c, by rw [hl], by omega, by omega, fun h0 => ?_⟩
  rw [hl] at h0
  obtain ⟨b, o, ha, hb, hcell⟩ := h (by omega)
  exact ⟨b, o, ha, hb, fun j hj => by rw [hl] at hj; rw [getD_take l k j hj]; exact hcell j (by omega)⟩
theorem prefix_take (A B : List (List UInt8)) : A.isPrefixOf B = decide (A = B.take A.length) := by
  rw [Bool.eq_iff_iff, List.isPrefixOf_iff_prefix, decide_eq_true_eq, List.prefix_iff_eq_take]

end Go.Proofs.YtjfjliobencppaaGreatDoor.Sp

namespace Go.Proofs.YtjfjliobencppaaGreatDoor.Sp
open Go.RowKit

/-- What of Go's library the world holds. -/
def Lay (w : World) : Prop := (∃ m, Mx w m) ∧ Lib.TabIs Tryz.prog w "internal/strconv.uint64pow10" .u64 Lib.pow10Tab ∧ ∃ tp pv, w.var? Tryz.prog "strconv.ErrRange" = some #[.iface tp pv]
theorem gER : Tryz.prog.globalNamed "strconv.ErrRange" = some 2 := by kernel_rfl
theorem Lay.later {w w' : World} (h : Lay w) (hb : Below w.heap.size w w') : Lay w' := by
  obtain ⟨⟨m, hm⟩, ht, tp, pv, hv⟩ := h
  have hlt : 2 < w.heap.size := by
    have hc := World.var?_cell gER hv 0
    rcases Nat.lt_or_ge 2 w.heap.size with h | h
    · exact h
    · simp [World.cell?, Array.getElem?_eq_none h] at hc
  exact ⟨⟨m, hm.later hb⟩, Lib.tabBelow_of_tabIs ht w' hb, tp, pv, var?_below hb gER hlt hv⟩

def NumR (l : List UInt8) (w : World) (e : Ending) (w' : World) : Prop :=
  ∃ n k : Nat, e = .returned (.tuple #[.int .u64 n, .int .i64 k]) ∧ n ≤ 18446744073709551615 ∧ (k = 0 ∨ (k ≠ 0 ∧ ((k : Int) == 0) = false)) ∧ (k = 0 → W.good l ∧ W.val l = n) ∧ (k ≠ 0 → ∀ m, m ≤ 18446744073709551615 → ¬ ∃ x, Num l m x) ∧ Below w.heap.size w w'

theorem good_cases (s : ByteArray) : s.size = 0 ∨ (1 < s.size ∧ ∃ h : 0 < s.size, s[0].toNat = 48) ∨
    (1 ≤ s.size ∧ (¬ ∃ h : 1 < s.size, s[0].toNat = 48) ∧ ∃ j, ∃ h : j < s.size, ¬ (48 ≤ s[j].toNat ∧ s[j].toNat ≤ 57)) ∨
    (1 ≤ s.size ∧ (¬ ∃ h : 1 < s.size, s[0].toNat = 48) ∧ ∀ j, (h : j < s.size) → 48 ≤ s[j].toNat ∧ s[j].toNat ≤ 57) := by
  rcases Nat.eq_zero_or_pos s.size with h0 | h0
  · exact Or.inl h0
  · by_cases h1 : ∃ h : 1 < s.size, s[0].toNat = 48
    · obtain ⟨a, b⟩ := h1
      exact Or.inr (Or.inl ⟨a, h0, b⟩)
    · by_cases hb : ∃ j, ∃ h : j < s.size, ¬ (48 ≤ s[j].toNat ∧ s[j].toNat ≤ 57)
      · exact Or.inr (Or.inr (Or.inl ⟨h0, h1, hb⟩))
      · refine Or.inr (Or.inr (Or.inr ⟨h0, h1, fun j h => ?_⟩))
        by_cases e : 48 ≤ s[j].toNat ∧ s[j].toNat ≤ 57
        · exact e
        · exact absurd ⟨j, h, e⟩ hb
theorem number_any (s : ByteArray) (hs : s.size ≤ 100) (w : World) (hl : Lay w) : Calls Tryz.prog 120 #[.string s] w (NumR s.data.toList w) := by
  obtain ⟨_, ht, tp, pv, hv⟩ := hl
  have z0 : (0 : Nat) = 0 ∨ ((0 : Nat) ≠ 0 ∧ (((0 : Nat) : Int) == 0) = false) := Or.inl rfl
  have z4 : (4 : Nat) = 0 ∨ ((4 : Nat) ≠ 0 ∧ (((4 : Nat) : Int) == 0) = false) := Or.inr ⟨by decide, by decide⟩
  have z7 : (7 : Nat) = 0 ∨ ((7 : Nat) ≠ 0 ∧ (((7 : Nat) : Int) == 0) = false) := Or.inr ⟨by decide, by decide⟩
  rcases good_cases s with h0 | ⟨h1, h0, h48⟩ | ⟨h1, hz, hb⟩ | ⟨h1, hz, ha⟩
  · refine (W.number_empty s h0 w).mono ?_
    rintro e w' ⟨rfl, hb⟩
    refine ⟨0, 4, rfl, by decide, z4, fun h => absurd h (by decide), fun _ m _ => ?_, hb⟩
    rintro ⟨x, hg, _⟩
    exact hg.1 (List.eq_nil_of_length_eq_zero (by rw [← Lib.size_eq]; exact h0))
  · refine (W.number_nought s h1 h48 w).mono ?_
    rintro e w' ⟨rfl, hb⟩
    refine ⟨0, 4, rfl, by decide, z4, fun h => absurd h (by decide), fun _ m _ => ?_, hb⟩
    rintro ⟨x, hg, _⟩
    exact (W.of_good s hg (by omega)).1 ⟨h1, h48⟩
  · have hz' : ¬ (1 < s.size ∧ s[0].toNat = 48) := fun ⟨a, b⟩ => hz ⟨a, b⟩
    refine (W.number_bad s h1 hz' hb hs w).mono ?_
    rintro e w' ⟨rfl, hb1⟩
    refine ⟨0, 4, rfl, by decide, z4, fun h => absurd h (by decide), fun _ m _ => ?_, hb1⟩
    rintro ⟨x, hg, _⟩
    obtain ⟨j, h, hn⟩ := hb
    exact hn ((W.of_good s hg h1).2 j h)
  · have hz' : ¬ (1 < s.size ∧ s[0].toNat = 48) := fun ⟨a, b⟩ => hz ⟨a, b⟩
    have hg := W.good_of s h1 hz' ha
    by_cases hu : W.val s.data.toList ≤ 18446744073709551615
    · refine (W.number_ok s h1 hz' ha _ (W.parse_ok _ hg.1 hg.2.1 hu) hs w).mono ?_
      rintro e w' ⟨rfl, hb1⟩
      exact ⟨_, 0, rfl, hu, z0, fun _ => ⟨hg, rfl⟩, fun h => absurd rfl h, hb1⟩
    · refine (W.number_range s h1 hz' ha w (W.parse_range _ hg.1 hg.2.1 hu) tp pv hv hs).mono ?_
      rintro e w' ⟨rfl, hb1⟩
      refine ⟨0, 7, rfl, by decide, z7, fun h => absurd h (by decide), fun _ m hm => ?_, hb1⟩
      rintro ⟨x, _, he, hx⟩
      omega
/-- What the closure of Parse answers, and leaves. -/
def CloR (l : List UInt8) (most fb : Nat) (w : World) (e : Ending) (w' : World) : Prop :=
  ∃ (n : Nat) (v : Bool) (w1 : World), e = .returned (.int .u64 n) ∧ n ≤ 18446744073709551615 ∧ (v = true → Num l most n) ∧ (v = false → ¬ ∃ x, Num l most x) ∧ Below w.heap.size w w1 ∧ w' = w1.setCell ⟨fb, 0, none⟩ (.bool v)
set_option maxRecDepth 1000000 in
theorem clo_any (s : ByteArray) (hs : s.size ≤ 100) (most fb : Nat) (hm : most ≤ 18446744073709551615) (w : World) (hl : Lay w) (hc : w.cell? ⟨fb, 0, none⟩ = some (.bool true)) (hf : w.frozen? ⟨fb, 0, none⟩ = false) :
    Calls Tryz.prog 119 #[.string s, .int .u64 most, .pointer (some ⟨fb, 0, none⟩)] w (CloR s.data.toList most fb w) := by
  have hfb : fb < w.heap.size := World.block_lt_of_cell? _ _ hc
  have K1 := Lib.hid (number_any s hs w hl)
  have HM := Lib.hid hm
  clear hm
  go_enter Tryz.func119, Tryz.ntmps119
  go_wp2_with fail
  refine (K1.out).mono ?_
  rintro e w1 ⟨n, k, rfl, hn, hk, h1, h2, hb⟩
  have H1 := Lib.hid h1
  have H2 := Lib.hid h2
  have HN := Lib.hid hn
  have HB := Lib.hid hb
  have hc1 : w1.cell? ⟨fb, 0, none⟩ = some (.bool true) := by rw [hb.cell (p := ⟨fb, 0, none⟩) hfb]; exact hc
  have hf1 : w1.frozen? ⟨fb, 0, none⟩ = false := by rw [hb.frozen (p := ⟨fb, 0, none⟩) hfb]; exact hf
  clear h1 h2 hn hb hc hf
  rcases hk with rfl | ⟨hk, hkb⟩
  · by_cases hle : n ≤ most
    · have d1 : decide ((n : Int) ≤ (most : Int)) = true := decide_eq_true (by omega)
      go_wp2
      go_ret
      exact ⟨n, true, w1, rfl, HN.out, fun _ => ⟨(H1.out (by trivial)).1, (H1.out (by trivial)).2, hle⟩, (fun h => by cases h), HB.out, rfl⟩
    · have d1 : decide ((n : Int) ≤ (most : Int)) = false := decide_eq_false (by omega)
      go_wp2
      go_ret
      refine ⟨n, false, w1, rfl, HN.out, (fun h => by cases h), fun _ => ?_, HB.out, rfl⟩
      rintro ⟨x, _, e, hx⟩
      have := (H1.out (by trivial)).2
      omega
  · go_wp2
    go_ret
    exact ⟨n, false, w1, rfl, HN.out, (fun h => by cases h), fun _ => H2.out hk most HM.out, HB.out, rfl⟩
end Go.Proofs.YtjfjliobencppaaGreatDoor.Sp
