/- Walk of file.Seal.; Walk of strings.CutPrefix of OT; what opens, plainly.; DERIVED: THE SHELF's CONTRACTS AT THIS DUMP, IN PLAIN WORDS (tools/lay-plain.mjs out of 'YtjkpopdjmmgbbabGreatLay.lean', which tools/lay-shelf.mjs wrote): THE SAME DECLARATIONS UNDER THE SAME NAMES: 'import', 'namespace', 'open', 'def', 'theorem' AND NOTHING ELSE: no command of the shelf's: FOR A HAND-IN. Each laying: the table of numbers ('.._ren') and one theorem, a field a fact of the dump's own or the kernel's comparison; each contract: ONE APPLICATION. -/
import Derived.Test.YtjkpopdjmmgbbabGreatJ08
import Derived.Test.YtjkpopdjmmgbbabGreatJ07
import Derived.Test.YtjkpopdjmmgbbabGreatJ10
import Derived.Test.YtjkpopdjmmgbbabGreatJ01
import Derived.Shelf.LaysM
import Derived.Shelf.Strconv.Clone
import Derived.Shelf.SlIter.Nil
import Derived.Shelf.SortM.Plain
import Derived.Shelf.SortM.SortNone
import Derived.Shelf.SlMaps.Clone
import Derived.Test.YtjkpopdjmmgbbabGreatProg
set_option linter.unusedVariables false
set_option linter.unusedSimpArgs false
namespace Go.Proofs.YtjkpopdjmmgbbabGreat.Fi
open Go.RowKit

theorem gen_wp {P : Program} {c : Code} {Q : Exit → Act → World → Prop} {a : Act} {wz : World} {S : World → Prop} (h : S wz) (k : ∀ wz, S wz → c.wp P Q a wz) : c.wp P Q a wz := k _ h
/-- What a text is sealed with. -/
def preL (t : List UInt8) : List UInt8 := [79, 84] ++ Cd.sh t.length ++ t
def sealL (t : List UInt8) : List UInt8 := preL t ++ (Dg.sumL (preL t)).take 16
theorem str_same (l : List UInt8) : Cd.str l = W.str l := rfl
theorem str_list (t : ByteArray) : W.str t.data.toList = t := by
  apply ByteArray.ext
  simp [W.str]
theorem sh_len : ∀ (n : Nat), (Cd.sh n).length ≤ n + 1 := by
  intro n
  induction n using Nat.strongRecOn with
  | _ n ih =>
    rw [Cd.sh]
    split
    · have := ih (n / 128) (by omega)
      simp only [List.length_cons]
      omega
    · simp
theorem sh_len10 (n : Nat) (h : n ≤ 200000) : (Cd.sh n).length ≤ 3 := by
  have one : ∀ m, m ≤ 127 → (Cd.sh m).length = 1 := fun m hm => by rw [Cd.sh]; rw [dif_neg (by omega)]; rfl
  have two : ∀ m, m ≤ 16383 → (Cd.sh m).length ≤ 2 := fun m hm => by
    rw [Cd.sh]
    split
    · simp only [List.length_cons]; have := one (m / 128) (by omega); omega
    · simp
  rw [Cd.sh]
  split
  · simp only [List.length_cons]; have := two (n / 128) (by omega); omega
  · simp
theorem preL_len (t : List UInt8) (h : t.length ≤ 190000) : (preL t).length ≤ t.length + 5 ∧ t.length + 2 ≤ (preL t).length := by
  unfold preL
  have := sh_len10 t.length (by omega)
  simp only [List.length_append, List.length_cons, List.length_nil]
  omega
theorem sealL_len (t : List UInt8) : (sealL t).length = (preL t).length + 16 := by
  unfold sealL
  rw [List.length_append, List.length_take, Dg.sumL_len]
  rfl
theorem conv48 {g : Nat} {l : List UInt8} {w : World} (h : Dg.BB g 60 l w) (hl : l.length = 16) : (convert 51 9 (.slice (some ⟨g, 0, none⟩) 16 16)).run Tryz.prog w = .ok (.string (W.str l)) w := by
  have h2 := run_convert_bytes_back (P := Tryz.prog) w 51 9 5 ⟨g, 0, none⟩ 16 l Tryz.underlying51 Tryz.underlying5 Tryz.underlying9 (fun j hj => by
    have := h.cell j hj
    have hadd : (⟨g, 0, none⟩ : Addr).add j = ⟨g, j, none⟩ := by unfold Addr.add; split <;> simp_all
    rw [hadd]; exact this)
  rw [hl] at h2
  exact h2
theorem bb_lit16 (w : World) {A : Array Value} (hA : A = (W.bcells Dg.zb16).toArray) : Dg.BB w.heap.size 60 Dg.zb16 (w.alloc (.cells A 60)) := by subst hA; exact Dg.bb_new w Dg.zb16 60
set_option maxRecDepth 1000000 in
set_option maxHeartbeats 2000000 in
theorem seal_any (t : ByteArray) (ht : t.size ≤ 100000) (w : World) : Calls Tryz.prog 11 #[.string t] w fun e w' => e = .returned (.string (W.str (sealL t.data.toList))) ∧ Below w.heap.size w w' := by
  obtain ⟨l, hl⟩ : ∃ l, l = t.data.toList := ⟨_, rfl⟩
  obtain ⟨n, hn⟩ : ∃ n, n = t.size := ⟨_, rfl⟩
  have hln : l.length = n := by rw [hl, hn]; rfl
  have htl : t = W.str l := by rw [hl, str_list]
  have K28 : Hid (∀ w, Calls Tryz.prog 26 #[.int .u64 (n : Int)] w fun e w' => e = .returned (.string (W.str (Cd.sh n))) ∧ Below w.heap.size w w') := Lib.hid (fun w => Cd.short_any n (by omega) w)
  have hpl := preL_len l (by omega)
  have A1 : ∀ W0, (Op.stringOp .add ⟨#[79, 84]⟩ (W.str (Cd.sh n))).run Tryz.prog W0 = .ok (.string (W.str ([79, 84] ++ Cd.sh n))) W0 := fun W0 => W.run_str_add [79, 84] _ (by have := sh_len10 n (by omega); simp; omega) W0
  have A2 : ∀ W0, (Op.stringOp .add (W.str ([79, 84] ++ Cd.sh n)) t).run Tryz.prog W0 = .ok (.string (W.str (preL l))) W0 := fun W0 => by
    rw [htl, W.run_str_add _ _ (by have := sh_len10 n (by omega); simp; omega) W0]
    unfold preL; rw [hln]
  have K29 : Hid (∀ w, Calls Tryz.prog 27 #[.string (W.str (preL l))] w fun e w' => e = .returned (.agg (W.bcells ((Dg.sumL (preL l)).take 16)).toArray) ∧ Below w.heap.size w w') := Lib.hid (fun w => Dg.print_any (preL l) (by omega) w)
  have A3 : ∀ W0, (Op.stringOp .add (W.str (preL l)) (W.str ((Dg.sumL (preL l)).take 16))).run Tryz.prog W0 = .ok (.string (W.str (sealL l))) W0 := fun W0 => by
    rw [W.run_str_add _ _ (by simp; omega) W0]; rfl
  have HT := Lib.hid htl
  rw [← hl]
  have e4 : IntKind.u64.wrap (n : Int) = (n : Int) := IntWalk.u64_in _ ⟨by omega, by omega⟩
  have h16 : ((Dg.sumL (preL l)).take 16).length = 16 := by rw [List.length_take, Dg.sumL_len]; rfl
  generalize (Dg.sumL (preL l)).take 16 = o at *
  have HI48 := Lib.hid (Dg.info48 o h16)
  have HSZ48 := Lib.hid (Dg.size48 o h16)
  have HONE48 := Lib.hid (Dg.bcells_one o)
  have H16 := Lib.hid h16
  clear hl hln htl hpl h16 HT
  subst hn
  generalize W.str (sealL l) = s3 at *
  generalize W.str (preL l) = s2 at *
  generalize W.str ([79, 84] ++ Cd.sh t.size) = s1 at *
  generalize W.str (Cd.sh t.size) = s0 at *
  go_enter Tryz.func11, Tryz.ntmps11
  go_upto_region 3 with (first
    | (go_at_call 26; ((with_reducible refine (K28.out _).mono ?_); rintro e w1 ⟨rfl, hb1⟩))
    | (go_at_call 27; ((with_reducible refine (K29.out _).mono ?_); rintro e w2 ⟨rfl, hb2⟩))
    | (refine wpList_plain rfl fun _ hK => wp_store_row 60 (.tmp 4) (.tmp 13) rfl _ (W.bcells o).toArray rfl rfl 60 (W.bcells Dg.zb16).toArray (bb_lit16 _ Dg.zb16_is) HI48.out HSZ48.out HONE48.out (hK _ _ ?_)))
  rw [Dg.zb16_is]
  have hbw := (hb1.trans (hb2.mono hb1.size)).alloc (Nat.le_trans hb1.size hb2.size) (.cells (W.bcells Dg.zb16).toArray 60)
  refine gen_wp (S := fun wz => Hid (Dg.BB w2.heap.size 60 o wz) ∧ Hid (Below w.heap.size w wz)) ⟨Lib.hid (setRow_heap _ _ _ _ _ _ (Dg.bb_new w2 Dg.zb16 60)), Lib.hid (Dg.below_row hbw (Nat.le_trans hb1.size hb2.size) _)⟩ ?_
  intro W2 H2
  obtain ⟨hB, hW⟩ := H2
  have hcv := conv48 hB.out H16.out
  go_wp2
  go_ret
  exact ⟨rfl, hW.out⟩
end Go.Proofs.YtjkpopdjmmgbbabGreat.Fi

namespace Go.Proofs.YtjkpopdjmmgbbabGreat.Fi
open Go.RowKit

def otB (l : List UInt8) : Bool := Lib.hasPrefix l [79, 84]
theorem otB_iff (l : List UInt8) : otB l = true ↔ ∃ r, l = 79 :: 84 :: r := by
  unfold otB Lib.hasPrefix
  constructor
  · intro h
    obtain ⟨t, ht⟩ := List.isPrefixOf_iff_prefix.1 h
    exact ⟨t, ht.symm⟩
  · rintro ⟨r, rfl⟩
    rfl
theorem extract_str (s : ByteArray) (a b : Nat) : s.extract a b = W.str ((s.data.toList.drop a).take (b - a)) := by
  apply ByteArray.ext
  rw [ByteArray.data_extract]
  apply Array.ext'
  rw [Array.toList_extract]
  simp [W.str, List.extract_eq_take_drop]
theorem sl_has (s p : ByteArray) (w : World) : Calls Tryz.prog 54 #[.string s, .string p] w fun e w' => e = .returned (.bool (Lib.hasPrefix s.data.toList p.data.toList)) ∧ w' = w :=
  Any.stringslite_HasPrefix (ρ := Tryz.lays99_ren) { Tryz.lays99 with } s p w
set_option maxRecDepth 1000000 in
theorem slcut_any (s : ByteArray) (hs : s.size ≤ 1000000000) (w : World) : Calls Tryz.prog 42 #[.string s, .string ⟨#[79, 84]⟩] w fun e w' => e = .returned (.tuple #[.string (if otB s.data.toList then W.str (s.data.toList.drop 2) else s), .bool (otB s.data.toList)]) ∧ w' = w := by
  have K88 := Lib.hid (sl_has s ⟨#[79, 84]⟩)
  have hd : (⟨#[79, 84]⟩ : ByteArray).data.toList = [79, 84] := rfl
  rw [hd] at K88
  have hob : Lib.hasPrefix s.data.toList [79, 84] = otB s.data.toList := rfl
  rw [hob] at K88
  cases hh : otB s.data.toList
  · rw [hh] at K88
    clear hob hd hh
    go_enter Tryz.func42, Tryz.ntmps42
    go_wp2_with (first | (go_at_call 54; ((with_reducible refine (K88.out _).mono ?_); rintro e w1 ⟨rfl, hw⟩; subst hw)))
    go_ret2
    exact ⟨rfl, rfl⟩
  · rw [hh] at K88
    have h2 : 2 ≤ s.size := by
      obtain ⟨r, hr⟩ := (otB_iff _).1 hh
      have := congrArg List.length hr
      have hz : s.data.toList.length = s.size := rfl
      simp at this
      omega
    have he : s.extract 2 s.size = W.str (s.data.toList.drop 2) := by
      rw [extract_str]
      congr 1
      rw [List.take_of_length_le]
      rw [List.length_drop]
      exact Nat.le_refl _
    have HE := Lib.hid he
    have q1 : (2 : Int) ≤ (s.size : Int) := by omega
    clear hob hd hh he
    go_enter Tryz.func42, Tryz.ntmps42
    go_wp2_with (first | (go_at_call 54; ((with_reducible refine (K88.out _).mono ?_); rintro e w1 ⟨rfl, hw⟩; subst hw)))
    go_ret2
    rw [← HE.out]
    exact ⟨rfl, rfl⟩
set_option maxRecDepth 1000000 in
theorem cut_any (s : ByteArray) (hs : s.size ≤ 1000000000) (w : World) : Calls Tryz.prog 24 #[.string s, .string ⟨#[79, 84]⟩] w fun e w' => e = .returned (.tuple #[.string (if otB s.data.toList then W.str (s.data.toList.drop 2) else s), .bool (otB s.data.toList)]) ∧ w' = w := by
  have K60 := Lib.hid (slcut_any s hs)
  generalize (if otB s.data.toList then W.str (s.data.toList.drop 2) else s) = r at *
  generalize otB s.data.toList = b at *
  go_enter Tryz.func24, Tryz.ntmps24
  go_wp2_with (first | (go_at_call 42; ((with_reducible refine (K60.out _).mono ?_); rintro e w1 ⟨rfl, hw⟩; subst hw)))
  go_ret2
  exact ⟨rfl, rfl⟩
end Go.Proofs.YtjkpopdjmmgbbabGreat.Fi

namespace Go.Proofs
open Go.Shelf
def Tryz.laysM316_ren : Go.Shelf.Ren := ⟨fun | 316 => 41 | n => n, fun | 9 => 9 | 3 => 3 | 4 => 4 | 37 => 51 | 0 => 0 | 127 => 91 | 5 => 5 | n => n, fun | n => n⟩
theorem Tryz.laysM316 : Go.Proofs.LaysM.n316 Tryz.prog Tryz.laysM316_ren := {
  mixed := by kernel_rfl
  f316 := Tryz.func41.trans (congrArg some (by kernel_rfl))
  t0 := Tryz.underlying0
  a0 := Tryz.isAgg0
  z0 := Tryz.sizeOf0
  v0 := Tryz.zeroValue0
  t3 := Tryz.underlying3
  a3 := Tryz.isAgg3
  z3 := Tryz.sizeOf3
  v3 := Tryz.zeroValue3
  t4 := Tryz.underlying4
  a4 := Tryz.isAgg4
  z4 := Tryz.sizeOf4
  v4 := Tryz.zeroValue4
  t9 := Tryz.underlying9
  a9 := Tryz.isAgg9
  z9 := Tryz.sizeOf9
  v9 := Tryz.zeroValue9
  t37 := Tryz.underlying51
  a37 := Tryz.isAgg51
  z37 := Tryz.sizeOf51
  v37 := Tryz.zeroValue51
  t127 := Tryz.underlying91
  a127 := Tryz.isAgg91
  z127 := Tryz.sizeOf91
  v127 := Tryz.zeroValue91
  t5 := Tryz.underlying5
  a5 := Tryz.isAgg5
  z5 := Tryz.sizeOf5
  v5 := Tryz.zeroValue5
  i0 := by kernel_rfl
  i3 := by kernel_rfl
  i4 := by kernel_rfl
  i5 := by kernel_rfl
  i9 := by kernel_rfl
  i37 := by kernel_rfl
  i127 := by kernel_rfl }
def Tryz.keys40_ren : Go.Shelf.Ren := ⟨fun | 7 => 40 | 10 => 53 | n => n, fun | 23 => 44 | 26 => 9 | 3 => 62 | 28 => 75 | 0 => 0 | 27 => 74 | 33 => 65 | 4 => 4 | n => n, fun | n => n⟩
theorem Tryz.keys40 : Go.Proofs.SlLaysZ.n7 Tryz.prog Tryz.keys40_ren := {
  mixed := by kernel_rfl
  f7 := ⟨Tryz.f40.name, by decide, Tryz.func40.trans (congrArg some (by kernel_rfl))⟩
  f10 := ⟨Tryz.f53.name, by decide, Tryz.func53.trans (congrArg some (by kernel_rfl))⟩
  t0 := Tryz.underlying0
  a0 := Tryz.isAgg0
  z0 := Tryz.sizeOf0
  v0 := Tryz.zeroValue0
  t4 := Tryz.underlying4
  a4 := Tryz.isAgg4
  z4 := Tryz.sizeOf4
  v4 := Tryz.zeroValue4
  t23 := Tryz.underlying44
  a23 := Tryz.isAgg44
  z23 := Tryz.sizeOf44
  v23 := Tryz.zeroValue44
  t26 := Tryz.underlying9
  a26 := Tryz.isAgg9
  z26 := Tryz.sizeOf9
  v26 := Tryz.zeroValue9
  t27 := Tryz.underlying74
  a27 := Tryz.isAgg74
  z27 := Tryz.sizeOf74
  v27 := Tryz.zeroValue74
  t28 := Tryz.underlying75
  a28 := Tryz.isAgg75
  z28 := Tryz.sizeOf75
  v28 := Tryz.zeroValue75
  t33 := Tryz.underlying65
  a33 := Tryz.isAgg65
  z33 := Tryz.sizeOf65
  v33 := Tryz.zeroValue65 }
def Tryz.sorted39_ren : Go.Shelf.Ren := ⟨fun | 6 => 39 | 8 => 51 | 9 => 52 | 11 => 63 | 13 => 65 | 12 => 64 | 23 => 84 | 24 => 85 | 14 => 75 | 15 => 76 | 16 => 77 | 17 => 78 | 18 => 79 | 19 => 80 | 20 => 81 | 21 => 82 | 22 => 83 | 25 => 93 | 26 => 94 | 27 => 95 | 28 => 96 | 29 => 97 | 30 => 98 | 31 => 103 | n => n, fun | 26 => 9 | 28 => 75 | 24 => 30 | 0 => 0 | 3 => 3 | 37 => 77 | 48 => 93 | 50 => 55 | 4 => 4 | 40 => 124 | 39 => 123 | 45 => 128 | 5 => 5 | 9 => 9 | 51 => 138 | 55 => 142 | 57 => 151 | 58 => 152 | 33 => 65 | n => n, fun | n => n⟩
theorem Tryz.sorted39 : Go.Proofs.SlLaysZ.n6 Tryz.prog Tryz.sorted39_ren := {
  mixed := by kernel_rfl
  f6 := ⟨Tryz.f39.name, by decide, Tryz.func39.trans (congrArg some (by kernel_rfl))⟩
  f8 := ⟨Tryz.f51.name, by decide, Tryz.func51.trans (congrArg some (by kernel_rfl))⟩
  f11 := ⟨Tryz.f63.name, by decide, Tryz.func63.trans (congrArg some (by kernel_rfl))⟩
  t0 := Tryz.underlying0
  a0 := Tryz.isAgg0
  z0 := Tryz.sizeOf0
  v0 := Tryz.zeroValue0
  t24 := Tryz.underlying30
  a24 := Tryz.isAgg30
  z24 := Tryz.sizeOf30
  v24 := Tryz.zeroValue30
  t26 := Tryz.underlying9
  a26 := Tryz.isAgg9
  z26 := Tryz.sizeOf9
  v26 := Tryz.zeroValue9
  t28 := Tryz.underlying75
  a28 := Tryz.isAgg75
  z28 := Tryz.sizeOf75
  v28 := Tryz.zeroValue75
  i26 := by kernel_rfl }
def Tryz.sort43_ren : Go.Shelf.Ren := ⟨fun | 6 => 52 | 8 => 65 | 9 => 64 | 19 => 84 | 20 => 85 | 21 => 75 | 22 => 76 | 23 => 77 | 24 => 78 | 25 => 79 | 26 => 80 | 27 => 81 | 28 => 82 | 29 => 83 | 36 => 93 | 31 => 94 | 32 => 95 | 37 => 96 | 38 => 97 | 39 => 98 | 41 => 103 | n => n, fun | 27 => 30 | 29 => 9 | 3 => 3 | 32 => 77 | 26 => 30 | 0 => 0 | 44 => 93 | 46 => 55 | 4 => 4 | 36 => 124 | 35 => 123 | 41 => 128 | 5 => 5 | 9 => 9 | 53 => 138 | 57 => 142 | 63 => 151 | 64 => 152 | n => n, fun | n => n⟩
theorem Tryz.sort43 : Go.Proofs.SlLaysM.n6 Tryz.prog Tryz.sort43_ren := {
  mixed := by kernel_rfl
  f6 := ⟨Tryz.f52.name, by decide, Tryz.func52.trans (congrArg some (by kernel_rfl))⟩
  f8 := Tryz.func65.trans (congrArg some (by kernel_rfl))
  f9 := ⟨Tryz.f64.name, by decide, Tryz.func64.trans (congrArg some (by kernel_rfl))⟩
  f19 := Tryz.func84.trans (congrArg some (by kernel_rfl))
  f20 := Tryz.func85.trans (congrArg some (by kernel_rfl))
  f21 := ⟨Tryz.f75.name, by decide, Tryz.func75.trans (congrArg some (by kernel_rfl))⟩
  f22 := ⟨Tryz.f76.name, by decide, Tryz.func76.trans (congrArg some (by kernel_rfl))⟩
  f23 := ⟨Tryz.f77.name, by decide, Tryz.func77.trans (congrArg some (by kernel_rfl))⟩
  f24 := ⟨Tryz.f78.name, by decide, Tryz.func78.trans (congrArg some (by kernel_rfl))⟩
  f25 := ⟨Tryz.f79.name, by decide, Tryz.func79.trans (congrArg some (by kernel_rfl))⟩
  f26 := ⟨Tryz.f80.name, by decide, Tryz.func80.trans (congrArg some (by kernel_rfl))⟩
  f27 := ⟨Tryz.f81.name, by decide, Tryz.func81.trans (congrArg some (by kernel_rfl))⟩
  f28 := ⟨Tryz.f82.name, by decide, Tryz.func82.trans (congrArg some (by kernel_rfl))⟩
  f29 := ⟨Tryz.f83.name, by decide, Tryz.func83.trans (congrArg some (by kernel_rfl))⟩
  f31 := Tryz.func94.trans (congrArg some (by kernel_rfl))
  f32 := Tryz.func95.trans (congrArg some (by kernel_rfl))
  f36 := ⟨Tryz.f93.name, by decide, Tryz.func93.trans (congrArg some (by kernel_rfl))⟩
  f37 := ⟨Tryz.f96.name, by decide, Tryz.func96.trans (congrArg some (by kernel_rfl))⟩
  f38 := ⟨Tryz.f97.name, by decide, Tryz.func97.trans (congrArg some (by kernel_rfl))⟩
  f39 := ⟨Tryz.f98.name, by decide, Tryz.func98.trans (congrArg some (by kernel_rfl))⟩
  f41 := ⟨Tryz.f103.name, by decide, Tryz.func103.trans (congrArg some (by kernel_rfl))⟩
  t0 := Tryz.underlying0
  a0 := Tryz.isAgg0
  z0 := Tryz.sizeOf0
  v0 := Tryz.zeroValue0
  t3 := Tryz.underlying3
  a3 := Tryz.isAgg3
  z3 := Tryz.sizeOf3
  v3 := Tryz.zeroValue3
  t4 := Tryz.underlying4
  a4 := Tryz.isAgg4
  z4 := Tryz.sizeOf4
  v4 := Tryz.zeroValue4
  t5 := Tryz.underlying5
  a5 := Tryz.isAgg5
  z5 := Tryz.sizeOf5
  v5 := Tryz.zeroValue5
  t9 := Tryz.underlying9
  a9 := Tryz.isAgg9
  z9 := Tryz.sizeOf9
  v9 := Tryz.zeroValue9
  t26 := Tryz.underlying30
  a26 := Tryz.isAgg30
  z26 := Tryz.sizeOf30
  v26 := Tryz.zeroValue30
  t27 := Tryz.underlying30
  a27 := Tryz.isAgg30
  z27 := Tryz.sizeOf30
  v27 := Tryz.zeroValue30
  t29 := Tryz.underlying9
  a29 := Tryz.isAgg9
  z29 := Tryz.sizeOf9
  v29 := Tryz.zeroValue9
  t32 := Tryz.underlying77
  a32 := Tryz.isAgg77
  z32 := Tryz.sizeOf77
  v32 := Tryz.zeroValue77
  t35 := Tryz.underlying123
  a35 := Tryz.isAgg123
  z35 := Tryz.sizeOf123
  v35 := Tryz.zeroValue123
  t36 := Tryz.underlying124
  a36 := Tryz.isAgg124
  z36 := Tryz.sizeOf124
  v36 := Tryz.zeroValue124
  t41 := Tryz.underlying128
  a41 := Tryz.isAgg128
  z41 := Tryz.sizeOf128
  v41 := Tryz.zeroValue128
  t44 := Tryz.underlying93
  a44 := Tryz.isAgg93
  z44 := Tryz.sizeOf93
  v44 := Tryz.zeroValue93
  t46 := Tryz.underlying55
  a46 := Tryz.isAgg55
  z46 := Tryz.sizeOf55
  v46 := Tryz.zeroValue55
  t53 := Tryz.underlying138
  a53 := Tryz.isAgg138
  z53 := Tryz.sizeOf138
  v53 := Tryz.zeroValue138
  t57 := Tryz.underlying142
  a57 := Tryz.isAgg142
  z57 := Tryz.sizeOf142
  v57 := Tryz.zeroValue142
  t63 := Tryz.underlying151
  a63 := Tryz.isAgg151
  z63 := Tryz.sizeOf151
  v63 := Tryz.zeroValue151
  t64 := Tryz.underlying152
  a64 := Tryz.isAgg152
  z64 := Tryz.sizeOf152
  v64 := Tryz.zeroValue152 }
def Tryz.clone30_ren : Go.Shelf.Ren := ⟨fun | 5 => 38 | 7 => 50 | n => n, fun | 23 => 44 | 25 => 9 | 3 => 62 | 4 => 4 | 20 => 20 | n => n, fun | n => n⟩
theorem Tryz.clone30 : Go.Proofs.SlLaysW.n5 Tryz.prog Tryz.clone30_ren := {
  mixed := by kernel_rfl
  f5 := ⟨Tryz.f38.name, by decide, Tryz.func38.trans (congrArg some (by kernel_rfl))⟩
  f7 := Tryz.func50.trans (congrArg some (by kernel_rfl))
  t4 := Tryz.underlying4
  a4 := Tryz.isAgg4
  z4 := Tryz.sizeOf4
  v4 := Tryz.zeroValue4
  t20 := Tryz.underlying20
  a20 := Tryz.isAgg20
  z20 := Tryz.sizeOf20
  v20 := Tryz.zeroValue20
  t23 := Tryz.underlying44
  a23 := Tryz.isAgg44
  z23 := Tryz.sizeOf44
  v23 := Tryz.zeroValue44 }
end Go.Proofs
