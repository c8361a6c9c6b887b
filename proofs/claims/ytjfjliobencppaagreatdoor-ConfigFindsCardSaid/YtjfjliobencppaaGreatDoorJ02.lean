/- YtjfjliobencppaaGreatDoorO; YtjfjliobencppaaGreatDoorQ; DERIVED: THE SHELF's CONTRACTS AT THIS DUMP, IN PLAIN WORDS (tools/lay-plain.mjs out of 'YtjfjliobencppaaGreatDoorShelf.lean', which tools/lay-shelf.mjs wrote): THE SAME DECLARATIONS UNDER THE SAME NAMES: 'import', 'namespace', 'open', 'def', 'theorem' AND NOTHING ELSE: no command of the shelf's: FOR A HAND-IN. Each laying: the table of numbers ('.._ren') and one theorem, a field a fact of the dump's own or the kernel's comparison; each contract: ONE APPLICATION.; YtjfjliobencppaaGreatDoorR; Values of the codec: trees, and how they lie in memory.; codec.sound. -/
import Derived.Test.YtjfjliobencppaaGreatDoorJ01
import Derived.Shelf.LaysM
import Derived.Shelf.Strconv.Clone
import Derived.Shelf.Strings.Prefix
import Derived.Test.YtjfjliobencppaaGreatDoorProg
import Derived.Lib.Strings
import Derived.Test.YtjfjliobencppaaGreatDoorJ00
set_option linter.unusedVariables false
set_option linter.unusedSimpArgs false
namespace Go.Proofs.YtjfjliobencppaaGreatDoor
open Go.RowKit

/-- The CRC of a list of bytes. -/
def crcV (l : List UInt8) : Nat := 4294967295 - crc0 l
theorem cell_new (w : World) (cs : Array Value) (t : TypeId) (j : Nat) : (w.alloc (.cells cs t)).cell? ⟨w.heap.size, j, none⟩ = cs[j]? := World.cell?_alloc_new w cs t j

end Go.Proofs.YtjfjliobencppaaGreatDoor

namespace Go.Proofs.YtjfjliobencppaaGreatDoor
open Go.RowKit

/-- The bytes turned about. -/
def revN (x : Nat) : Nat := 65536 * (256 * (x % 256) + x / 256 % 256) + (256 * (x / 65536 % 256) + x / 16777216)

/-- A number of 32 bits as bytes, the lowest first. -/
def le4 (n : Nat) : List UInt8 := [UInt8.ofNat n, UInt8.ofNat (n / 256), UInt8.ofNat (n / 65536), UInt8.ofNat (n / 16777216)]
end Go.Proofs.YtjfjliobencppaaGreatDoor

namespace Go.Proofs
open Go.Shelf
def Tryz.laysM316_ren : Go.Shelf.Ren := ⟨fun | 316 => 118 | n => n, fun | 9 => 9 | 3 => 3 | 4 => 4 | 37 => 113 | 0 => 0 | 127 => 196 | 5 => 5 | n => n, fun | n => n⟩
theorem Tryz.laysM316 : Go.Proofs.LaysM.n316 Tryz.prog Tryz.laysM316_ren := {
  mixed := by kernel_rfl
  f316 := Tryz.func118.trans (congrArg some (by kernel_rfl))
  t0 := Tryz.underlying0
  a0 := Tryz.isAgg0
  z0 := Tryz.sizeOf0
  v0 := Tryz.zeroValue0
  t3 := Tryz.underlying3
  a3 := Tryz.isAgg3
  z3 := Tryz.sizeOf3
  v3 := Tryz.zeroValue3
  t4 := Tryz.underlying4
  a4 := Tryz.isAgg4
  z4 := Tryz.sizeOf4
  v4 := Tryz.zeroValue4
  t9 := Tryz.underlying9
  a9 := Tryz.isAgg9
  z9 := Tryz.sizeOf9
  v9 := Tryz.zeroValue9
  t37 := Tryz.underlying113
  a37 := Tryz.isAgg113
  z37 := Tryz.sizeOf113
  v37 := Tryz.zeroValue113
  t127 := Tryz.underlying196
  a127 := Tryz.isAgg196
  z127 := Tryz.sizeOf196
  v127 := Tryz.zeroValue196
  t5 := Tryz.underlying5
  a5 := Tryz.isAgg5
  z5 := Tryz.sizeOf5
  v5 := Tryz.zeroValue5
  i0 := by kernel_rfl
  i3 := by kernel_rfl
  i4 := by kernel_rfl
  i5 := by kernel_rfl
  i9 := by kernel_rfl
  i37 := by kernel_rfl
  i127 := by kernel_rfl }
open Go.RowKit in
/-- internal/stringslite.Clone (what strings.Clone calls): "Clone returns a fresh copy of s.": THE SAME BYTES. Of what was there nothing has turned (a new row is laid, and frozen, where s is not empty). (LAID: no walk: one application.) -/
theorem Tryz.stringslite_Clone (s : ByteArray) (w : World) (hlim : s.size ≤ 281474976710656) :
    Calls Tryz.prog 118 #[.string s] w fun e w' => e = .returned (.string s) ∧ Below w.heap.size w w' := Any.stringslite_Clone Tryz.laysM316 s w hlim
end Go.Proofs

namespace Go.Proofs.YtjfjliobencppaaGreatDoor
open Go.RowKit

/-- A text, and its sum behind it. -/
def markL (l : List UInt8) : List UInt8 := l ++ le4 (crcV l)
theorem str_data (p : ByteArray) : str p.data.toList = p := by
  apply ByteArray.ext; simp [str]
theorem clone_any (p : ByteArray) (w : World) (hp : p.size ≤ 1000000000) : Calls Tryz.prog 83 #[.string p] w fun e w' => e = .returned (.string p) ∧ Below w.heap.size w w' := by
  have K1 := Lib.hid (fun w => Tryz.stringslite_Clone p w (by omega))
  go_enter Tryz.func83, Tryz.ntmps83
  go_wp2_with (first
    | (go_at_call 118; go_must (refine (K1.out _).mono ?_); rintro e w2 ⟨rfl, hb2⟩))
  go_ret
  exact ⟨rfl, hb2⟩

end Go.Proofs.YtjfjliobencppaaGreatDoor

namespace Go.Proofs.YtjfjliobencppaaGreatDoor
open Go.RowKit

theorem empty_no (s : ByteArray) (h : 1 ≤ s.size) : s.toList.isEmpty = false := by
  rw [ByteArray.toList_eq]
  have e : s.data.toList.length = s.size := by simp
  cases hl : s.data.toList with
  | nil => rw [hl] at e; simp at e; omega
  | cons c l => rfl
theorem empty_yes (s : ByteArray) (h : s.size = 0) : s.toList.isEmpty = true := by
  rw [ByteArray.toList_eq]
  have e : s.data.toList.length = s.size := by simp
  rw [List.eq_nil_of_length_eq_zero (by omega : s.data.toList.length = 0)]
  rfl
theorem alloc_below (w : World) (o : Obj) : Below w.heap.size w (w.alloc o) := (Below.refl _ _).alloc (Nat.le_refl _) _
theorem alloc_lt (w : World) (o : Obj) : w.heap.size < (w.alloc o).heap.size := by simp
theorem be_one (k : Nat) : be k 1 = [UInt8.ofNat k] := by simp [be]

/-- A value: its kind, its number, its text, the values within. -/
inductive Tr : Type where
  | mk (k : Int) (n : Nat) (s : ByteArray) (l : List Tr) : Tr
theorem Tr.ind {P : Tr → Prop} (h : ∀ k n s l, (∀ x ∈ l, P x) → P (.mk k n s l)) : ∀ t, P t
  | .mk k n s l => h k n s l (fun x _ => Tr.ind h x)
termination_by t => SizeOf.sizeOf t
decreasing_by
  have := List.sizeOf_lt_of_mem ‹x ∈ l›
  simp; omega

mutual
/-- A value as it lies in memory: its four cells. -/
def VIn (w : World) : Tr → Value → Value → Value → Value → Prop
  | .mk k n s l, c0, c1, c2, c3 => c0 = .int .i64 k ∧ c1 = .int .u64 (n : Int) ∧ n ≤ 18446744073709551615 ∧ c2 = .string s ∧ (s.size ≤ 1000000000 ∧ l.length ≤ 1000000) ∧ ∃ (o : Option Addr) (cap b off : Nat), c3 = .slice o l.length cap ∧ (0 < l.length → o = some ⟨b, off, none⟩ ∧ b < w.heap.size) ∧ VInL w b off l
def VInL (w : World) (b : Nat) : Nat → List Tr → Prop
  | _, [] => True
  | off, t :: ts => (∃ c0 c1 c2 c3, w.cell? ⟨b, off, none⟩ = some c0 ∧ w.cell? ⟨b, off + 1, none⟩ = some c1 ∧ w.cell? ⟨b, off + 2, none⟩ = some c2 ∧ w.cell? ⟨b, off + 3, none⟩ = some c3 ∧ VIn w t c0 c1 c2 c3) ∧ VInL w b (off + 4) ts
end
theorem VInL.at {w : World} {b : Nat} : ∀ {off : Nat} {l : List Tr} (i : Nat) (h : i < l.length), VInL w b off l → ∃ c0 c1 c2 c3, w.cell? ⟨b, off + i * 4, none⟩ = some c0 ∧ w.cell? ⟨b, off + i * 4 + 1, none⟩ = some c1 ∧ w.cell? ⟨b, off + i * 4 + 2, none⟩ = some c2 ∧ w.cell? ⟨b, off + i * 4 + 3, none⟩ = some c3 ∧ VIn w l[i] c0 c1 c2 c3
  | off, t :: ts, 0, _, h => by
    unfold VInL at h
    simpa using h.1
  | off, t :: ts, i + 1, hi, h => by
    unfold VInL at h
    have := VInL.at i (by simpa using hi) h.2
    rw [show off + (i + 1) * 4 = off + 4 + i * 4 by omega]
    simpa using this
theorem VInL.of {w : World} {b : Nat} : ∀ {off : Nat} {l : List Tr}, (∀ (i : Nat) (h : i < l.length), ∃ c0 c1 c2 c3, w.cell? ⟨b, off + i * 4, none⟩ = some c0 ∧ w.cell? ⟨b, off + i * 4 + 1, none⟩ = some c1 ∧ w.cell? ⟨b, off + i * 4 + 2, none⟩ = some c2 ∧ w.cell? ⟨b, off + i * 4 + 3, none⟩ = some c3 ∧ VIn w l[i] c0 c1 c2 c3) → VInL w b off l
  | off, [], _ => by unfold VInL; trivial
  | off, t :: ts, h => by
    unfold VInL
    have h0 := h 0 (by simp)
    rw [Nat.zero_mul, Nat.add_zero] at h0
    refine ⟨h0, VInL.of (fun i hi => ?_)⟩
    have := h (i + 1) (by simpa using hi)
    rw [show off + (i + 1) * 4 = off + 4 + i * 4 by omega] at this
    simpa using this
theorem VIn.cells {w : World} : ∀ {t : Tr} {c0 c1 c2 c3 : Value}, VIn w t c0 c1 c2 c3 → ∃ (k : Int) (n : Nat) (s : ByteArray) (o : Option Addr) (len cap : Nat), c0 = .int .i64 k ∧ c1 = .int .u64 (n : Int) ∧ c2 = .string s ∧ c3 = .slice o len cap
  | .mk k n s l, _, _, _, _, h => by
    unfold VIn at h
    obtain ⟨h0, h1, _, h2, _, o, cap, _, _, h3, _⟩ := h
    exact ⟨k, n, s, o, l.length, cap, h0, h1, h2, h3⟩
/-- What lies there goes on lying there. -/
theorem VIn.later {w w' : World} (hb : Below w.heap.size w w') : ∀ (t : Tr) {c0 c1 c2 c3 : Value}, VIn w t c0 c1 c2 c3 → VIn w' t c0 c1 c2 c3 := by
  refine Tr.ind ?_
  intro k n s l ih c0 c1 c2 c3 h
  unfold VIn at h ⊢
  obtain ⟨h0, h1, hn, h2, hz, o, cap, b, off, h3, ho, hl⟩ := h
  refine ⟨h0, h1, hn, h2, hz, o, cap, b, off, h3, fun hp => ⟨(ho hp).1, Nat.lt_of_lt_of_le (ho hp).2 hb.size⟩, VInL.of (fun i hi => ?_)⟩
  obtain ⟨d0, d1, d2, d3, e0, e1, e2, e3, hv⟩ := hl.at i hi
  have hbl := (ho (by omega)).2
  exact ⟨d0, d1, d2, d3, (hb.cell (p := ⟨b, _, none⟩) hbl).trans e0, (hb.cell (p := ⟨b, _, none⟩) hbl).trans e1, (hb.cell (p := ⟨b, _, none⟩) hbl).trans e2, (hb.cell (p := ⟨b, _, none⟩) hbl).trans e3, ih _ (List.getElem_mem hi) hv⟩

mutual
def sndT : Tr → Bool
  | .mk k n s l => decide (1 ≤ k ∧ k ≤ 3) && (decide (k = 1) || decide (n = 0)) && (decide (k = 2) || decide (s.size = 0)) && (decide (k = 3) || decide (l.length = 0)) && sndL l
def sndL : List Tr → Bool
  | [] => true
  | t :: ts => sndT t && sndL ts
end
theorem sndL_all : ∀ l : List Tr, sndL l = l.all sndT
  | [] => by unfold sndL; rfl
  | t :: ts => by unfold sndL; rw [List.all_cons, sndL_all ts]
mutual
def deepT : Tr → Nat
  | .mk k _ _ l => if k = 3 then deepL l + 1 else 0
def deepL : List Tr → Nat
  | [] => 0
  | t :: ts => max (deepT t) (deepL ts)
end
end Go.Proofs.YtjfjliobencppaaGreatDoor

namespace Go.Proofs.YtjfjliobencppaaGreatDoor
open Go.RowKit

theorem four_new (w : World) (a b c d : Value) (t : Nat) : (w.alloc (.cells #[a, b, c, d] t)).cell? ⟨w.heap.size, 0, none⟩ = some a ∧ (w.alloc (.cells #[a, b, c, d] t)).cell? ⟨w.heap.size, 1, none⟩ = some b ∧ (w.alloc (.cells #[a, b, c, d] t)).cell? ⟨w.heap.size, 2, none⟩ = some c ∧ (w.alloc (.cells #[a, b, c, d] t)).cell? ⟨w.heap.size, 3, none⟩ = some d :=
  ⟨cell_new w _ t 0, cell_new w _ t 1, cell_new w _ t 2, cell_new w _ t 3⟩
theorem four_below {w w' : World} {B g : Nat} {a b c d : Value} (h : w.cell? ⟨g, 0, none⟩ = some a ∧ w.cell? ⟨g, 1, none⟩ = some b ∧ w.cell? ⟨g, 2, none⟩ = some c ∧ w.cell? ⟨g, 3, none⟩ = some d) (hb : Below B w w') (hg : g < B) : w'.cell? ⟨g, 0, none⟩ = some a ∧ w'.cell? ⟨g, 1, none⟩ = some b ∧ w'.cell? ⟨g, 2, none⟩ = some c ∧ w'.cell? ⟨g, 3, none⟩ = some d :=
  ⟨(hb.cell (p := ⟨g, 0, none⟩) hg).trans h.1, (hb.cell (p := ⟨g, 1, none⟩) hg).trans h.2.1, (hb.cell (p := ⟨g, 2, none⟩) hg).trans h.2.2.1, (hb.cell (p := ⟨g, 3, none⟩) hg).trans h.2.2.2⟩

theorem store27 (w : World) (k : Int) (n : Nat) (s : ByteArray) (o : Option Addr) (l c : Nat) :
    (storeVar 69 ⟨w.heap.size, 0, none⟩ (.agg #[.int .i64 k, .int .u64 (n : Int), .string s, .slice o l c])).run Tryz.prog (w.alloc (.cells #[.int .i64 0, .int .u64 0, .string ⟨#[]⟩, .slice none 0 0] 69)) = .ok () (w.alloc (.cells #[.int .i64 k, .int .u64 (n : Int), .string s, .slice o l c] 69)) := by
  simp [go_sem]
theorem sound_kind (k : Int) (n : Int) (s : ByteArray) (o : Option Addr) (m cap : Nat) (hk : k < 1 ∨ 3 < k) (w : World) :
    Calls Tryz.prog 56 #[.agg #[.int .i64 k, .int .u64 n, .string s, .slice o m cap]] w fun e w' => e = .returned (.bool false) ∧ Below w.heap.size w w' := by
  obtain ⟨c0, c1, c2, c3⟩ := four_new w (.int .i64 k) (.int .u64 n) (.string s) (.slice o m cap) 69
  rcases hk with hk | hk
  · go_enter Tryz.func56, Tryz.ntmps56
    go_wp2
    go_ret
    exact ⟨rfl, (Below.refl _ _).alloc (Nat.le_refl _) _⟩
  · have hk2 : ¬ k < 1 := by omega
    go_enter Tryz.func56, Tryz.ntmps56
    go_wp2
    go_ret
    exact ⟨rfl, (Below.refl _ _).alloc (Nat.le_refl _) _⟩

theorem sound_one_text (n : Nat) (s : ByteArray) (o : Option Addr) (m cap : Nat) (hs : 1 ≤ s.size) (w : World) :
    Calls Tryz.prog 56 #[.agg #[.int .i64 1, .int .u64 (n : Int), .string s, .slice o m cap]] w fun e w' => e = .returned (.bool false) ∧ Below w.heap.size w w' := by
  obtain ⟨c0, c1, c2, c3⟩ := four_new w (.int .i64 1) (.int .u64 (n : Int)) (.string s) (.slice o m cap) 69
  have hs1 := empty_no s (by omega)
  have hs2 : (!s.toList.isEmpty) = true := by rw [hs1]; rfl
  go_enter Tryz.func56, Tryz.ntmps56
  go_wp2
  go_ret
  exact ⟨rfl, (Below.refl _ _).alloc (Nat.le_refl _) _⟩

theorem sound_one_list (n : Nat) (s : ByteArray) (o : Option Addr) (m cap : Nat) (hs : s.size = 0) (hm : 0 < m) (w : World) :
    Calls Tryz.prog 56 #[.agg #[.int .i64 1, .int .u64 (n : Int), .string s, .slice o m cap]] w fun e w' => e = .returned (.bool false) ∧ Below w.heap.size w w' := by
  obtain ⟨c0, c1, c2, c3⟩ := four_new w (.int .i64 1) (.int .u64 (n : Int)) (.string s) (.slice o m cap) 69
  have hs1 := empty_yes s hs
  have hs2 : (!s.toList.isEmpty) = false := by rw [hs1]; rfl
  have hm1 : (m : Int) > 0 := by omega
  go_enter Tryz.func56, Tryz.ntmps56
  go_wp2
  go_ret
  exact ⟨rfl, (Below.refl _ _).alloc (Nat.le_refl _) _⟩

theorem sound_two_num (n : Nat) (s : ByteArray) (o : Option Addr) (m cap : Nat) (hn : n ≠ 0) (w : World) :
    Calls Tryz.prog 56 #[.agg #[.int .i64 2, .int .u64 (n : Int), .string s, .slice o m cap]] w fun e w' => e = .returned (.bool false) ∧ Below w.heap.size w w' := by
  obtain ⟨c0, c1, c2, c3⟩ := four_new w (.int .i64 2) (.int .u64 (n : Int)) (.string s) (.slice o m cap) 69
  have hn1 : ((n : Int) != 0) = true := by rw [bne_iff_ne]; omega
  go_enter Tryz.func56, Tryz.ntmps56
  go_wp2
  go_ret
  exact ⟨rfl, (Below.refl _ _).alloc (Nat.le_refl _) _⟩

theorem sound_two_list (n : Nat) (s : ByteArray) (o : Option Addr) (m cap : Nat) (hn : n = 0) (hm : 0 < m) (w : World) :
    Calls Tryz.prog 56 #[.agg #[.int .i64 2, .int .u64 (n : Int), .string s, .slice o m cap]] w fun e w' => e = .returned (.bool false) ∧ Below w.heap.size w w' := by
  obtain ⟨c0, c1, c2, c3⟩ := four_new w (.int .i64 2) (.int .u64 (n : Int)) (.string s) (.slice o m cap) 69
  have hn1 : ((n : Int) != 0) = false := by rw [hn]; rfl
  have hm1 : (m : Int) > 0 := by omega
  go_enter Tryz.func56, Tryz.ntmps56
  go_wp2
  go_ret
  exact ⟨rfl, (Below.refl _ _).alloc (Nat.le_refl _) _⟩

theorem sound_three_num (n : Nat) (s : ByteArray) (o : Option Addr) (m cap : Nat) (hn : n ≠ 0) (w : World) :
    Calls Tryz.prog 56 #[.agg #[.int .i64 3, .int .u64 (n : Int), .string s, .slice o m cap]] w fun e w' => e = .returned (.bool false) ∧ Below w.heap.size w w' := by
  obtain ⟨c0, c1, c2, c3⟩ := four_new w (.int .i64 3) (.int .u64 (n : Int)) (.string s) (.slice o m cap) 69
  have hn1 : ((n : Int) != 0) = true := by rw [bne_iff_ne]; omega
  go_enter Tryz.func56, Tryz.ntmps56
  go_wp2
  go_ret
  exact ⟨rfl, (Below.refl _ _).alloc (Nat.le_refl _) _⟩

theorem sound_three_text (n : Nat) (s : ByteArray) (o : Option Addr) (m cap : Nat) (hn : n = 0) (hs : 1 ≤ s.size) (w : World) :
    Calls Tryz.prog 56 #[.agg #[.int .i64 3, .int .u64 (n : Int), .string s, .slice o m cap]] w fun e w' => e = .returned (.bool false) ∧ Below w.heap.size w w' := by
  obtain ⟨c0, c1, c2, c3⟩ := four_new w (.int .i64 3) (.int .u64 (n : Int)) (.string s) (.slice o m cap) 69
  have hn1 : ((n : Int) != 0) = false := by rw [hn]; rfl
  have hs1 := empty_no s (by omega)
  have hs2 : (!s.toList.isEmpty) = true := by rw [hs1]; rfl
  go_enter Tryz.func56, Tryz.ntmps56
  go_wp2
  go_ret
  exact ⟨rfl, (Below.refl _ _).alloc (Nat.le_refl _) _⟩
end Go.Proofs.YtjfjliobencppaaGreatDoor
