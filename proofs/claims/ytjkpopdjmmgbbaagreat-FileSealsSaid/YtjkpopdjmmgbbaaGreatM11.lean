/- Walk of file.Seal.; Walk of strings.CutPrefix of OT; what opens, plainly.; DERIVED: THE SHELF's CONTRACTS AT THIS DUMP, IN PLAIN WORDS (tools/lay-plain.mjs out of 'YtjkpopdjmmgbbaaGreatLay.lean', which tools/lay-shelf.mjs wrote): THE SAME DECLARATIONS UNDER THE SAME NAMES: 'import', 'namespace', 'open', 'def', 'theorem' AND NOTHING ELSE: no command of the shelf's: FOR A HAND-IN. Each laying: the table of numbers ('.._ren') and one theorem, a field a fact of the dump's own or the kernel's comparison; each contract: ONE APPLICATION. -/
import Derived.Test.YtjkpopdjmmgbbaaGreatM08
import Derived.Test.YtjkpopdjmmgbbaaGreatM07
import Derived.Test.YtjkpopdjmmgbbaaGreatM10
import Derived.Test.YtjkpopdjmmgbbaaGreatM01
import Derived.Shelf.LaysM
import Derived.Shelf.Strconv.Clone
import Derived.Shelf.SlIter.Nil
import Derived.Shelf.SortM.Plain
import Derived.Shelf.SortM.SortNone
import Derived.Shelf.SlMaps.Clone
import Derived.Test.YtjkpopdjmmgbbaaGreatProg
set_option linter.unusedVariables false
set_option linter.unusedSimpArgs false
namespace Go.Proofs.YtjkpopdjmmgbbaaGreat.Fi
open Go.RowKit

theorem gen_wp {P : Program} {c : Code} {Q : Exit → Act → World → Prop} {a : Act} {wz : World} {S : World → Prop} (h : S wz) (k : ∀ wz, S wz → c.wp P Q a wz) : c.wp P Q a wz := k _ h
/-- What a text is sealed with. -/
def preL (t : List UInt8) : List UInt8 := [79, 84] ++ Cd.sh t.length ++ t
def sealL (t : List UInt8) : List UInt8 := preL t ++ (Dg.sumL (preL t)).take 16
theorem str_same (l : List UInt8) : Cd.str l = W.str l := rfl
theorem str_list (t : ByteArray) : W.str t.data.toList = t := by
  apply ByteArray.ext
  simp [W.str]
theorem sh_len : ∀ (n : Nat), (Cd.sh n).length ≤ n + 1 := by
  intro n
  induction n using Nat.strongRecOn with
  | _ n ih =>
    rw [Cd.sh]
    split
    · have := ih (n / 128) (by omega)
      simp only [List.length_cons]
      omega
    · simp
theorem sh_len10 (n : Nat) (h : n ≤ 200000) : (Cd.sh n).length ≤ 3 := by
  have one : ∀ m, m ≤ 127 → (Cd.sh m).length = 1 := fun m hm => by rw [Cd.sh]; rw [dif_neg (by omega)]; rfl
  have two : ∀ m, m ≤ 16383 → (Cd.sh m).length ≤ 2 := fun m hm => by
    rw [Cd.sh]
    split
    · simp only [List.length_cons]; have := one (m / 128) (by omega); omega
    · simp
  rw [Cd.sh]
  split
  · simp only [List.length_cons]; have := two (n / 128) (by omega); omega
  · simp
theorem preL_len (t : List UInt8) (h : t.length ≤ 190000) : (preL t).length ≤ t.length + 5 ∧ t.length + 2 ≤ (preL t).length := by
  unfold preL
  have := sh_len10 t.length (by omega)
  simp only [List.length_append, List.length_cons, List.length_nil]
  omega
theorem sealL_len (t : List UInt8) : (sealL t).length = (preL t).length + 16 := by
  unfold sealL
  rw [List.length_append, List.length_take, Dg.sumL_len]
  rfl
theorem conv48 {g : Nat} {l : List UInt8} {w : World} (h : Dg.BB g 66 l w) (hl : l.length = 16) : (convert 68 9 (.slice (some ⟨g, 0, none⟩) 16 16)).run Tryz.prog w = .ok (.string (W.str l)) w := by
  have h2 := run_convert_bytes_back (P := Tryz.prog) w 68 9 5 ⟨g, 0, none⟩ 16 l Tryz.underlying68 Tryz.underlying5 Tryz.underlying9 (fun j hj => by
    have := h.cell j hj
    have hadd : (⟨g, 0, none⟩ : Addr).add j = ⟨g, j, none⟩ := by unfold Addr.add; split <;> simp_all
    rw [hadd]; exact this)
  rw [hl] at h2
  exact h2
theorem bb_lit16 (w : World) {A : Array Value} (hA : A = (W.bcells Dg.zb16).toArray) : Dg.BB w.heap.size 66 Dg.zb16 (w.alloc (.cells A 66)) := by subst hA; exact Dg.bb_new w Dg.zb16 66
set_option maxRecDepth 1000000 in
set_option maxHeartbeats 2000000 in
theorem seal_any (t : ByteArray) (ht : t.size ≤ 100000) (w : World) : Calls Tryz.prog 7 #[.string t] w fun e w' => e = .returned (.string (W.str (sealL t.data.toList))) ∧ Below w.heap.size w w' := by
  obtain ⟨l, hl⟩ : ∃ l, l = t.data.toList := ⟨_, rfl⟩
  obtain ⟨n, hn⟩ : ∃ n, n = t.size := ⟨_, rfl⟩
  have hln : l.length = n := by rw [hl, hn]; rfl
  have htl : t = W.str l := by rw [hl, str_list]
  have K28 : Hid (∀ w, Calls Tryz.prog 28 #[.int .u64 (n : Int)] w fun e w' => e = .returned (.string (W.str (Cd.sh n))) ∧ Below w.heap.size w w') := Lib.hid (fun w => Cd.short_any n (by omega) w)
  have hpl := preL_len l (by omega)
  have A1 : ∀ W0, (Op.stringOp .add ⟨#[79, 84]⟩ (W.str (Cd.sh n))).run Tryz.prog W0 = .ok (.string (W.str ([79, 84] ++ Cd.sh n))) W0 := fun W0 => W.run_str_add [79, 84] _ (by have := sh_len10 n (by omega); simp; omega) W0
  have A2 : ∀ W0, (Op.stringOp .add (W.str ([79, 84] ++ Cd.sh n)) t).run Tryz.prog W0 = .ok (.string (W.str (preL l))) W0 := fun W0 => by
    rw [htl, W.run_str_add _ _ (by have := sh_len10 n (by omega); simp; omega) W0]
    unfold preL; rw [hln]
  have K29 : Hid (∀ w, Calls Tryz.prog 29 #[.string (W.str (preL l))] w fun e w' => e = .returned (.agg (W.bcells ((Dg.sumL (preL l)).take 16)).toArray) ∧ Below w.heap.size w w') := Lib.hid (fun w => Dg.print_any (preL l) (by omega) w)
  have A3 : ∀ W0, (Op.stringOp .add (W.str (preL l)) (W.str ((Dg.sumL (preL l)).take 16))).run Tryz.prog W0 = .ok (.string (W.str (sealL l))) W0 := fun W0 => by
    rw [W.run_str_add _ _ (by simp; omega) W0]; rfl
  have HT := Lib.hid htl
  rw [← hl]
  have e4 : IntKind.u64.wrap (n : Int) = (n : Int) := IntWalk.u64_in _ ⟨by omega, by omega⟩
  have h16 : ((Dg.sumL (preL l)).take 16).length = 16 := by rw [List.length_take, Dg.sumL_len]; rfl
  generalize (Dg.sumL (preL l)).take 16 = o at *
  have HI48 := Lib.hid (Dg.info48 o h16)
  have HSZ48 := Lib.hid (Dg.size48 o h16)
  have HONE48 := Lib.hid (Dg.bcells_one o)
  have H16 := Lib.hid h16
  clear hl hln htl hpl h16 HT
  subst hn
  generalize W.str (sealL l) = s3 at *
  generalize W.str (preL l) = s2 at *
  generalize W.str ([79, 84] ++ Cd.sh t.size) = s1 at *
  generalize W.str (Cd.sh t.size) = s0 at *
  go_enter Tryz.func7, Tryz.ntmps7
  go_upto_region 3 with (first
    | (go_at_call 28; ((with_reducible refine (K28.out _).mono ?_); rintro e w1 ⟨rfl, hb1⟩))
    | (go_at_call 29; ((with_reducible refine (K29.out _).mono ?_); rintro e w2 ⟨rfl, hb2⟩))
    | (refine wpList_plain rfl fun _ hK => wp_store_row 66 (.tmp 4) (.tmp 13) rfl _ (W.bcells o).toArray rfl rfl 66 (W.bcells Dg.zb16).toArray (bb_lit16 _ Dg.zb16_is) HI48.out HSZ48.out HONE48.out (hK _ _ ?_)))
  rw [Dg.zb16_is]
  have hbw := (hb1.trans (hb2.mono hb1.size)).alloc (Nat.le_trans hb1.size hb2.size) (.cells (W.bcells Dg.zb16).toArray 66)
  refine gen_wp (S := fun wz => Hid (Dg.BB w2.heap.size 66 o wz) ∧ Hid (Below w.heap.size w wz)) ⟨Lib.hid (setRow_heap _ _ _ _ _ _ (Dg.bb_new w2 Dg.zb16 66)), Lib.hid (Dg.below_row hbw (Nat.le_trans hb1.size hb2.size) _)⟩ ?_
  intro W2 H2
  obtain ⟨hB, hW⟩ := H2
  have hcv := conv48 hB.out H16.out
  go_wp2
  go_ret
  exact ⟨rfl, hW.out⟩
end Go.Proofs.YtjkpopdjmmgbbaaGreat.Fi

namespace Go.Proofs.YtjkpopdjmmgbbaaGreat.Fi
open Go.RowKit

def otB (l : List UInt8) : Bool := Lib.hasPrefix l [79, 84]
theorem otB_iff (l : List UInt8) : otB l = true ↔ ∃ r, l = 79 :: 84 :: r := by
  unfold otB Lib.hasPrefix
  constructor
  · intro h
    obtain ⟨t, ht⟩ := List.isPrefixOf_iff_prefix.1 h
    exact ⟨t, ht.symm⟩
  · rintro ⟨r, rfl⟩
    rfl
theorem extract_str (s : ByteArray) (a b : Nat) : s.extract a b = W.str ((s.data.toList.drop a).take (b - a)) := by
  apply ByteArray.ext
  rw [ByteArray.data_extract]
  apply Array.ext'
  rw [Array.toList_extract]
  simp [W.str, List.extract_eq_take_drop]
theorem sl_has (s p : ByteArray) (w : World) : Calls Tryz.prog 88 #[.string s, .string p] w fun e w' => e = .returned (.bool (Lib.hasPrefix s.data.toList p.data.toList)) ∧ w' = w :=
  Any.stringslite_HasPrefix (ρ := Tryz.lays99_ren) { Tryz.lays99 with } s p w
set_option maxRecDepth 1000000 in
theorem slcut_any (s : ByteArray) (hs : s.size ≤ 1000000000) (w : World) : Calls Tryz.prog 60 #[.string s, .string ⟨#[79, 84]⟩] w fun e w' => e = .returned (.tuple #[.string (if otB s.data.toList then W.str (s.data.toList.drop 2) else s), .bool (otB s.data.toList)]) ∧ w' = w := by
  have K88 := Lib.hid (sl_has s ⟨#[79, 84]⟩)
  have hd : (⟨#[79, 84]⟩ : ByteArray).data.toList = [79, 84] := rfl
  rw [hd] at K88
  have hob : Lib.hasPrefix s.data.toList [79, 84] = otB s.data.toList := rfl
  rw [hob] at K88
  cases hh : otB s.data.toList
  · rw [hh] at K88
    clear hob hd hh
    go_enter Tryz.func60, Tryz.ntmps60
    go_wp2_with (first | (go_at_call 88; ((with_reducible refine (K88.out _).mono ?_); rintro e w1 ⟨rfl, hw⟩; subst hw)))
    go_ret2
    exact ⟨rfl, rfl⟩
  · rw [hh] at K88
    have h2 : 2 ≤ s.size := by
      obtain ⟨r, hr⟩ := (otB_iff _).1 hh
      have := congrArg List.length hr
      have hz : s.data.toList.length = s.size := rfl
      simp at this
      omega
    have he : s.extract 2 s.size = W.str (s.data.toList.drop 2) := by
      rw [extract_str]
      congr 1
      rw [List.take_of_length_le]
      rw [List.length_drop]
      exact Nat.le_refl _
    have HE := Lib.hid he
    have q1 : (2 : Int) ≤ (s.size : Int) := by omega
    clear hob hd hh he
    go_enter Tryz.func60, Tryz.ntmps60
    go_wp2_with (first | (go_at_call 88; ((with_reducible refine (K88.out _).mono ?_); rintro e w1 ⟨rfl, hw⟩; subst hw)))
    go_ret2
    rw [← HE.out]
    exact ⟨rfl, rfl⟩
set_option maxRecDepth 1000000 in
theorem cut_any (s : ByteArray) (hs : s.size ≤ 1000000000) (w : World) : Calls Tryz.prog 30 #[.string s, .string ⟨#[79, 84]⟩] w fun e w' => e = .returned (.tuple #[.string (if otB s.data.toList then W.str (s.data.toList.drop 2) else s), .bool (otB s.data.toList)]) ∧ w' = w := by
  have K60 := Lib.hid (slcut_any s hs)
  generalize (if otB s.data.toList then W.str (s.data.toList.drop 2) else s) = r at *
  generalize otB s.data.toList = b at *
  go_enter Tryz.func30, Tryz.ntmps30
  go_wp2_with (first | (go_at_call 60; ((with_reducible refine (K60.out _).mono ?_); rintro e w1 ⟨rfl, hw⟩; subst hw)))
  go_ret2
  exact ⟨rfl, rfl⟩
end Go.Proofs.YtjkpopdjmmgbbaaGreat.Fi

namespace Go.Proofs
open Go.Shelf
def Tryz.laysM316_ren : Go.Shelf.Ren := ⟨fun | 316 => 61 | n => n, fun | 9 => 9 | 3 => 3 | 4 => 4 | 37 => 68 | 0 => 0 | 127 => 125 | 5 => 5 | n => n, fun | n => n⟩
theorem Tryz.laysM316 : Go.Proofs.LaysM.n316 Tryz.prog Tryz.laysM316_ren := {
  mixed := by kernel_rfl
  f316 := Tryz.func61.trans (congrArg some (by kernel_rfl))
  t0 := Tryz.underlying0
  a0 := Tryz.isAgg0
  z0 := Tryz.sizeOf0
  v0 := Tryz.zeroValue0
  t3 := Tryz.underlying3
  a3 := Tryz.isAgg3
  z3 := Tryz.sizeOf3
  v3 := Tryz.zeroValue3
  t4 := Tryz.underlying4
  a4 := Tryz.isAgg4
  z4 := Tryz.sizeOf4
  v4 := Tryz.zeroValue4
  t9 := Tryz.underlying9
  a9 := Tryz.isAgg9
  z9 := Tryz.sizeOf9
  v9 := Tryz.zeroValue9
  t37 := Tryz.underlying68
  a37 := Tryz.isAgg68
  z37 := Tryz.sizeOf68
  v37 := Tryz.zeroValue68
  t127 := Tryz.underlying125
  a127 := Tryz.isAgg125
  z127 := Tryz.sizeOf125
  v127 := Tryz.zeroValue125
  t5 := Tryz.underlying5
  a5 := Tryz.isAgg5
  z5 := Tryz.sizeOf5
  v5 := Tryz.zeroValue5
  i0 := by kernel_rfl
  i3 := by kernel_rfl
  i4 := by kernel_rfl
  i5 := by kernel_rfl
  i9 := by kernel_rfl
  i37 := by kernel_rfl
  i127 := by kernel_rfl }
def Tryz.keys40_ren : Go.Shelf.Ren := ⟨fun | 7 => 91 | 10 => 105 | n => n, fun | 23 => 72 | 26 => 9 | 3 => 85 | 28 => 130 | 0 => 0 | 27 => 129 | 33 => 110 | 4 => 4 | n => n, fun | n => n⟩
theorem Tryz.keys40 : Go.Proofs.SlLaysZ.n7 Tryz.prog Tryz.keys40_ren := {
  mixed := by kernel_rfl
  f7 := ⟨Tryz.f91.name, by decide, Tryz.func91.trans (congrArg some (by kernel_rfl))⟩
  f10 := ⟨Tryz.f105.name, by decide, Tryz.func105.trans (congrArg some (by kernel_rfl))⟩
  t0 := Tryz.underlying0
  a0 := Tryz.isAgg0
  z0 := Tryz.sizeOf0
  v0 := Tryz.zeroValue0
  t4 := Tryz.underlying4
  a4 := Tryz.isAgg4
  z4 := Tryz.sizeOf4
  v4 := Tryz.zeroValue4
  t23 := Tryz.underlying72
  a23 := Tryz.isAgg72
  z23 := Tryz.sizeOf72
  v23 := Tryz.zeroValue72
  t26 := Tryz.underlying9
  a26 := Tryz.isAgg9
  z26 := Tryz.sizeOf9
  v26 := Tryz.zeroValue9
  t27 := Tryz.underlying129
  a27 := Tryz.isAgg129
  z27 := Tryz.sizeOf129
  v27 := Tryz.zeroValue129
  t28 := Tryz.underlying130
  a28 := Tryz.isAgg130
  z28 := Tryz.sizeOf130
  v28 := Tryz.zeroValue130
  t33 := Tryz.underlying110
  a33 := Tryz.isAgg110
  z33 := Tryz.sizeOf110
  v33 := Tryz.zeroValue110 }
def Tryz.sorted39_ren : Go.Shelf.Ren := ⟨fun | 6 => 90 | 8 => 103 | 9 => 104 | 11 => 113 | 13 => 115 | 12 => 114 | 23 => 129 | 24 => 130 | 14 => 120 | 15 => 121 | 16 => 122 | 17 => 123 | 18 => 124 | 19 => 125 | 20 => 126 | 21 => 127 | 22 => 128 | 25 => 131 | 26 => 132 | 27 => 133 | 28 => 134 | 29 => 135 | 30 => 136 | 31 => 137 | n => n, fun | 26 => 9 | 28 => 130 | 24 => 41 | 0 => 0 | 3 => 3 | 37 => 94 | 48 => 100 | 50 => 64 | 4 => 4 | 40 => 166 | 39 => 165 | 45 => 170 | 5 => 5 | 9 => 9 | 51 => 174 | 55 => 178 | 57 => 180 | 58 => 105 | 33 => 110 | n => n, fun | n => n⟩
theorem Tryz.sorted39 : Go.Proofs.SlLaysZ.n6 Tryz.prog Tryz.sorted39_ren := {
  mixed := by kernel_rfl
  f6 := ⟨Tryz.f90.name, by decide, Tryz.func90.trans (congrArg some (by kernel_rfl))⟩
  f8 := ⟨Tryz.f103.name, by decide, Tryz.func103.trans (congrArg some (by kernel_rfl))⟩
  f11 := ⟨Tryz.f113.name, by decide, Tryz.func113.trans (congrArg some (by kernel_rfl))⟩
  t0 := Tryz.underlying0
  a0 := Tryz.isAgg0
  z0 := Tryz.sizeOf0
  v0 := Tryz.zeroValue0
  t24 := Tryz.underlying41
  a24 := Tryz.isAgg41
  z24 := Tryz.sizeOf41
  v24 := Tryz.zeroValue41
  t26 := Tryz.underlying9
  a26 := Tryz.isAgg9
  z26 := Tryz.sizeOf9
  v26 := Tryz.zeroValue9
  t28 := Tryz.underlying130
  a28 := Tryz.isAgg130
  z28 := Tryz.sizeOf130
  v28 := Tryz.zeroValue130
  i26 := by kernel_rfl }
def Tryz.sort43_ren : Go.Shelf.Ren := ⟨fun | 6 => 104 | 8 => 115 | 9 => 114 | 19 => 129 | 20 => 130 | 21 => 120 | 22 => 121 | 23 => 122 | 24 => 123 | 25 => 124 | 26 => 125 | 27 => 126 | 28 => 127 | 29 => 128 | 36 => 131 | 31 => 132 | 32 => 133 | 37 => 134 | 38 => 135 | 39 => 136 | 41 => 137 | n => n, fun | 27 => 41 | 29 => 9 | 3 => 3 | 32 => 94 | 26 => 41 | 0 => 0 | 44 => 100 | 46 => 64 | 4 => 4 | 36 => 166 | 35 => 165 | 41 => 170 | 5 => 5 | 9 => 9 | 53 => 174 | 57 => 178 | 63 => 180 | 64 => 105 | n => n, fun | n => n⟩
theorem Tryz.sort43 : Go.Proofs.SlLaysM.n6 Tryz.prog Tryz.sort43_ren := {
  mixed := by kernel_rfl
  f6 := ⟨Tryz.f104.name, by decide, Tryz.func104.trans (congrArg some (by kernel_rfl))⟩
  f8 := Tryz.func115.trans (congrArg some (by kernel_rfl))
  f9 := ⟨Tryz.f114.name, by decide, Tryz.func114.trans (congrArg some (by kernel_rfl))⟩
  f19 := Tryz.func129.trans (congrArg some (by kernel_rfl))
  f20 := Tryz.func130.trans (congrArg some (by kernel_rfl))
  f21 := ⟨Tryz.f120.name, by decide, Tryz.func120.trans (congrArg some (by kernel_rfl))⟩
  f22 := ⟨Tryz.f121.name, by decide, Tryz.func121.trans (congrArg some (by kernel_rfl))⟩
  f23 := ⟨Tryz.f122.name, by decide, Tryz.func122.trans (congrArg some (by kernel_rfl))⟩
  f24 := ⟨Tryz.f123.name, by decide, Tryz.func123.trans (congrArg some (by kernel_rfl))⟩
  f25 := ⟨Tryz.f124.name, by decide, Tryz.func124.trans (congrArg some (by kernel_rfl))⟩
  f26 := ⟨Tryz.f125.name, by decide, Tryz.func125.trans (congrArg some (by kernel_rfl))⟩
  f27 := ⟨Tryz.f126.name, by decide, Tryz.func126.trans (congrArg some (by kernel_rfl))⟩
  f28 := ⟨Tryz.f127.name, by decide, Tryz.func127.trans (congrArg some (by kernel_rfl))⟩
  f29 := ⟨Tryz.f128.name, by decide, Tryz.func128.trans (congrArg some (by kernel_rfl))⟩
  f31 := Tryz.func132.trans (congrArg some (by kernel_rfl))
  f32 := Tryz.func133.trans (congrArg some (by kernel_rfl))
  f36 := ⟨Tryz.f131.name, by decide, Tryz.func131.trans (congrArg some (by kernel_rfl))⟩
  f37 := ⟨Tryz.f134.name, by decide, Tryz.func134.trans (congrArg some (by kernel_rfl))⟩
  f38 := ⟨Tryz.f135.name, by decide, Tryz.func135.trans (congrArg some (by kernel_rfl))⟩
  f39 := ⟨Tryz.f136.name, by decide, Tryz.func136.trans (congrArg some (by kernel_rfl))⟩
  f41 := ⟨Tryz.f137.name, by decide, Tryz.func137.trans (congrArg some (by kernel_rfl))⟩
  t0 := Tryz.underlying0
  a0 := Tryz.isAgg0
  z0 := Tryz.sizeOf0
  v0 := Tryz.zeroValue0
  t3 := Tryz.underlying3
  a3 := Tryz.isAgg3
  z3 := Tryz.sizeOf3
  v3 := Tryz.zeroValue3
  t4 := Tryz.underlying4
  a4 := Tryz.isAgg4
  z4 := Tryz.sizeOf4
  v4 := Tryz.zeroValue4
  t5 := Tryz.underlying5
  a5 := Tryz.isAgg5
  z5 := Tryz.sizeOf5
  v5 := Tryz.zeroValue5
  t9 := Tryz.underlying9
  a9 := Tryz.isAgg9
  z9 := Tryz.sizeOf9
  v9 := Tryz.zeroValue9
  t26 := Tryz.underlying41
  a26 := Tryz.isAgg41
  z26 := Tryz.sizeOf41
  v26 := Tryz.zeroValue41
  t27 := Tryz.underlying41
  a27 := Tryz.isAgg41
  z27 := Tryz.sizeOf41
  v27 := Tryz.zeroValue41
  t29 := Tryz.underlying9
  a29 := Tryz.isAgg9
  z29 := Tryz.sizeOf9
  v29 := Tryz.zeroValue9
  t32 := Tryz.underlying94
  a32 := Tryz.isAgg94
  z32 := Tryz.sizeOf94
  v32 := Tryz.zeroValue94
  t35 := Tryz.underlying165
  a35 := Tryz.isAgg165
  z35 := Tryz.sizeOf165
  v35 := Tryz.zeroValue165
  t36 := Tryz.underlying166
  a36 := Tryz.isAgg166
  z36 := Tryz.sizeOf166
  v36 := Tryz.zeroValue166
  t41 := Tryz.underlying170
  a41 := Tryz.isAgg170
  z41 := Tryz.sizeOf170
  v41 := Tryz.zeroValue170
  t44 := Tryz.underlying100
  a44 := Tryz.isAgg100
  z44 := Tryz.sizeOf100
  v44 := Tryz.zeroValue100
  t46 := Tryz.underlying64
  a46 := Tryz.isAgg64
  z46 := Tryz.sizeOf64
  v46 := Tryz.zeroValue64
  t53 := Tryz.underlying174
  a53 := Tryz.isAgg174
  z53 := Tryz.sizeOf174
  v53 := Tryz.zeroValue174
  t57 := Tryz.underlying178
  a57 := Tryz.isAgg178
  z57 := Tryz.sizeOf178
  v57 := Tryz.zeroValue178
  t63 := Tryz.underlying180
  a63 := Tryz.isAgg180
  z63 := Tryz.sizeOf180
  v63 := Tryz.zeroValue180
  t64 := Tryz.underlying105
  a64 := Tryz.isAgg105
  z64 := Tryz.sizeOf105
  v64 := Tryz.zeroValue105 }
def Tryz.clone30_ren : Go.Shelf.Ren := ⟨fun | 5 => 55 | 7 => 78 | n => n, fun | 23 => 72 | 25 => 9 | 3 => 85 | 4 => 4 | 20 => 20 | n => n, fun | n => n⟩
theorem Tryz.clone30 : Go.Proofs.SlLaysW.n5 Tryz.prog Tryz.clone30_ren := {
  mixed := by kernel_rfl
  f5 := ⟨Tryz.f55.name, by decide, Tryz.func55.trans (congrArg some (by kernel_rfl))⟩
  f7 := Tryz.func78.trans (congrArg some (by kernel_rfl))
  t4 := Tryz.underlying4
  a4 := Tryz.isAgg4
  z4 := Tryz.sizeOf4
  v4 := Tryz.zeroValue4
  t20 := Tryz.underlying20
  a20 := Tryz.isAgg20
  z20 := Tryz.sizeOf20
  v20 := Tryz.zeroValue20
  t23 := Tryz.underlying72
  a23 := Tryz.isAgg72
  z23 := Tryz.sizeOf72
  v23 := Tryz.zeroValue72 }
end Go.Proofs
