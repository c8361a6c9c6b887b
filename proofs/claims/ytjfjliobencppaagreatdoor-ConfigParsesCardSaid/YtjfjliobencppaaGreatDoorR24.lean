/- Walks of the document's Number.; DERIVED: THE SHELF's CONTRACTS AT THIS DUMP, IN PLAIN WORDS (tools/lay-plain.mjs out of 'YtjfjliobencppaaGreatDoorShelfF.lean', which tools/lay-shelf.mjs wrote): THE SAME DECLARATIONS UNDER THE SAME NAMES: 'import', 'namespace', 'open', 'def', 'theorem' AND NOTHING ELSE: no command of the shelf's: FOR A HAND-IN. Each laying: the table of numbers ('.._ren') and one theorem, a field a fact of the dump's own or the kernel's comparison; each contract: ONE APPLICATION.; Walks of strconv.FormatUint at base 10.; The law WordDigits, every input.; Places: the small functions of package spot.; Places as bytes.; Plain: the place that a text tells. -/
import Derived.Test.YtjfjliobencppaaGreatDoorR23
import Derived.Shelf.Strings.Builder1
import Derived.Shelf.Strings.Builder2
import Derived.Shelf.Strings.OnBuilder
import Derived.Shelf.Small.Strs
import Derived.Shelf.Strings.BuilderF
import Derived.Shelf.Strconv.Itoa0
import Derived.Shelf.Strconv.Itoa1
import Derived.Shelf.LaysM
import Derived.Shelf.Strconv.Itoa2
import Derived.Shelf.Strconv.Clone
import Derived.Ground.MpProg
import Derived.Shelf.Pu.ParseUintPublic10
import Derived.Shelf.Pu.ErrVarParseUint
import Derived.Shelf.Strings.Search1
import Derived.Shelf.Strings.Search2
import Derived.Shelf.Strings.Search3
import Derived.Shelf.Strings.Cut
import Derived.Shelf.Strings.Count
import Derived.Shelf.Strings.Prefix
import Derived.Shelf.Strings.Split
import Derived.Shelf.Slices.Equal
import Derived.Shelf.Slices.Empties2
import Derived.Test.YtjfjliobencppaaGreatDoorProg
import Derived.Test.YtjfjliobencppaaGreatDoorRows
import Derived.WalkKit
import Derived.WalkLawsBesides
import Derived.WalkSpells
import Derived.Outline
import Derived.Lib.Hide
import Derived.Lib.ItoaMem
import Derived.Lib.AppendIntMem
import Derived.WalkSmall
import Derived.Test.YtjfjliobencppaaGreatDoorR21
import Derived.Test.YtjfjliobencppaaGreatDoorR22
import Derived.Deep.RegionHeld3
import Derived.Laws.StructEq
import Derived.ChangeKeysEq
import Derived.Test.YtjfjliobencppaaGreatDoorR20
import Derived.Lib.CutLaws
set_option linter.unusedVariables false
set_option linter.unusedSimpArgs false
namespace Go.Proofs.YtjfjliobencppaaGreatDoor.Sp.W
open Go.RowKit
def Far (l : List UInt8) (a : Int) (gb : Bool) : Prop :=
 0≤a∧a≤18446744073709551615∧(gb=false→a=(val l : Int))∧(gb=true→18446744073709551615 < val l)
end Go.Proofs.YtjfjliobencppaaGreatDoor.Sp.W

namespace Go.Proofs
open Go.Shelf
def Tryz.z_lays283_ren : Go.Shelf.Ren:=⟨fun | 283 => 155 | n => n,fun | 3 => 3 | 9 => 9 | 4 => 4 | n => n,fun | n => n⟩
theorem Tryz.z_lays283 : Go.Proofs.Lays.n283 Tryz.prog Tryz.z_lays283_ren:={
 mixed:=by kernel_rfl
 f283:=Tryz.func155.trans (congrArg some (by kernel_rfl))
 t3:=Tryz.underlying3
 a3:=Tryz.isAgg3
 z3:=Tryz.sizeOf3
 v3:=Tryz.zeroValue3
 t4:=Tryz.underlying4
 a4:=Tryz.isAgg4
 z4:=Tryz.sizeOf4
 v4:=Tryz.zeroValue4
 t9:=Tryz.underlying9
 a9:=Tryz.isAgg9
 z9:=Tryz.sizeOf9
 v9:=Tryz.zeroValue9 }
open Go.Lib in
theorem Tryz.z_internal_strconv_small (i : Nat) (h : i < 100) (w : World) :
  Calls Tryz.prog 155 #[.int .i64 i] w fun e w' => e=.returned (.string ⟨(Lib.decDigits i).toArray⟩)∧w'=w:=Any.internal_strconv_small Tryz.z_lays283 i h w
def Tryz.z_laysM284_ren : Go.Shelf.Ren:=⟨fun | 284 => 156 | 129 => 166 | 317 => 165 | 318 => 167 | n => n,fun | 53 => 22 | 3 => 3 | 212 => 231 | 0 => 0 | 4 => 4 | 46 => 191 | 5 => 5 | 9 => 9 | n => n,fun | 17 => 3 | n => n⟩
theorem Tryz.z_laysM284 : Go.Proofs.LaysM.n284 Tryz.prog Tryz.z_laysM284_ren:={
 mixed:=by kernel_rfl
 f129:=Tryz.func166.trans (congrArg some (by kernel_rfl))
 f284:=Tryz.func156.trans (congrArg some (by kernel_rfl))
 f317:=Tryz.func165.trans (congrArg some (by kernel_rfl))
 f318:=Tryz.func167.trans (congrArg some (by kernel_rfl))
 t0:=Tryz.underlying0
 a0:=Tryz.isAgg0
 z0:=Tryz.sizeOf0
 v0:=Tryz.zeroValue0
 t3:=Tryz.underlying3
 a3:=Tryz.isAgg3
 z3:=Tryz.sizeOf3
 v3:=Tryz.zeroValue3
 t4:=Tryz.underlying4
 a4:=Tryz.isAgg4
 z4:=Tryz.sizeOf4
 v4:=Tryz.zeroValue4
 t5:=Tryz.underlying5
 a5:=Tryz.isAgg5
 z5:=Tryz.sizeOf5
 v5:=Tryz.zeroValue5
 t9:=Tryz.underlying9
 a9:=Tryz.isAgg9
 z9:=Tryz.sizeOf9
 v9:=Tryz.zeroValue9
 t46:=Tryz.underlying191
 a46:=Tryz.isAgg191
 z46:=Tryz.sizeOf191
 v46:=Tryz.zeroValue191
 t53:=Tryz.underlying22
 a53:=Tryz.isAgg22
 z53:=Tryz.sizeOf22
 v53:=Tryz.zeroValue22
 t212:=Tryz.underlying231
 a212:=Tryz.isAgg231
 z212:=Tryz.sizeOf231
 v212:=Tryz.zeroValue231
 g17:=by kernel_rfl
 i0:=by kernel_rfl
 i3:=by kernel_rfl
 i4:=by kernel_rfl
 i5:=by kernel_rfl
 i9:=by kernel_rfl
 i46:=by kernel_rfl
 i53:=by kernel_rfl
 i212:=by kernel_rfl
 m17:=by kernel_rfl }
open Go.Lib in
theorem Tryz.z_internal_strconv_numDigits (u : Nat) (h1 : 1 ≤ u) (h2 : u < 18446744073709551616) (w : World) (htab : Lib.TabIs Tryz.prog w "internal/strconv.uint64pow10" .u64 Lib.pow10Tab) :
  Calls Tryz.prog 156 #[.int .u64 u] w fun e w' => e=.returned (.int .i64 (Lib.nDigits u))∧w'=w:=Any.internal_strconv_numDigits Tryz.z_laysM284 u h1 h2 w htab
def Tryz.z_lays285_ren : Go.Shelf.Ren:=⟨fun | 285 => 157 | n => n,fun | 37 => 113 | 53 => 22 | 3 => 3 | 4 => 4 | 51 => 227 | 9 => 9 | 5 => 5 | 0 => 0 | n => n,fun | n => n⟩
theorem Tryz.z_lays285 : Go.Proofs.Lays.n285 Tryz.prog Tryz.z_lays285_ren:={
 mixed:=by kernel_rfl
 f285:=Tryz.func157.trans (congrArg some (by kernel_rfl))
 t0:=Tryz.underlying0
 a0:=Tryz.isAgg0
 z0:=Tryz.sizeOf0
 v0:=Tryz.zeroValue0
 t3:=Tryz.underlying3
 a3:=Tryz.isAgg3
 z3:=Tryz.sizeOf3
 v3:=Tryz.zeroValue3
 t4:=Tryz.underlying4
 a4:=Tryz.isAgg4
 z4:=Tryz.sizeOf4
 v4:=Tryz.zeroValue4
 t5:=Tryz.underlying5
 a5:=Tryz.isAgg5
 z5:=Tryz.sizeOf5
 v5:=Tryz.zeroValue5
 t9:=Tryz.underlying9
 a9:=Tryz.isAgg9
 z9:=Tryz.sizeOf9
 v9:=Tryz.zeroValue9
 t37:=Tryz.underlying113
 a37:=Tryz.isAgg113
 z37:=Tryz.sizeOf113
 v37:=Tryz.zeroValue113
 t51:=Tryz.underlying227
 a51:=Tryz.isAgg227
 z51:=Tryz.sizeOf227
 v51:=Tryz.zeroValue227
 t53:=Tryz.underlying22
 a53:=Tryz.isAgg22
 z53:=Tryz.sizeOf22
 v53:=Tryz.zeroValue22 }
open Go.RowKit Go.Sort Go.Lib in
theorem Tryz.z_internal_strconv_formatBase10 (blk off cap : Nat) (u : Nat) (d : Array UInt8) (w : World) (hH : Holds (fun (b : UInt8) => Value.int .u8 (b.toNat : Int)) w blk off d) (hu : u < 10 ^ d.size) (hu64 : u < 18446744073709551616) (hsz : d.size < 4611686018427387904) :
  Calls Tryz.prog 157 #[.slice (some ⟨blk,off,none⟩) d.size cap,.int .u64 u] w fun e w' =>
   e=.returned (.tuple #[])∧∃ (n v' : Nat) (dk : Array UInt8),w'=(putRow (fun (b : UInt8) => Value.int .u8 (b.toNat : Int)) w blk off dk).drewN n∧FmtInv d.size u 0 v' dk:=Any.internal_strconv_formatBase10 Tryz.z_lays285 blk off cap u d w hH hu hu64 hsz
end Go.Proofs

set_option maxRecDepth 100000
set_option maxHeartbeats 2000000
namespace Go.Proofs.YtjfjliobencppaaGreatDoor.Sp.W
open Go.RowKit Go.Sort
theorem grow_below (w : World) (k : Nat) (os : Array Obj) : Below w.heap.size w (grow (w.drewN k) os):=by
 refine ⟨rfl,rfl,rfl,?_,?_⟩
 ·simp [grow]
 ·intro i hi
  simp [grow,Array.getElem?_append_left,hi]
theorem fmt_any (u : Nat) (hu64 : u < 18446744073709551616) (w : World) (htab : Lib.TabIs Tryz.prog w "internal/strconv.uint64pow10" .u64 Lib.pow10Tab) :
  Calls Tryz.prog 142 #[.int .u64 u,.int .i64 10] w fun e w' => e=.returned (.string ⟨(Lib.decDigits u).toArray⟩)∧Below w.heap.size w w':=by
 by_cases h100 : u < 100
 ·have K1:=Lib.hid (fun w => Tryz.z_internal_strconv_small u h100 w)
  clear htab
  go_enter Tryz.func142,Tryz.ntmps142
  go_wp2_with (first | (go_at_call 155; go_must (refine (K1.out _).mono ?_); rintro e w' ⟨rfl,rfl⟩))
  go_ret
  exact ⟨rfl,Below.refl _ _⟩
 ·have hnd20 : Lib.nDigits u≤20:=by have:=Lib.numDigits_eq u (by omega) hu64; split at this <;> omega
  have hH0:=Lib.holds_zero0 w 216 (Lib.nDigits u) (by omega)
  have hfmt:=Tryz.z_internal_strconv_formatBase10 w.heap.size 0 24 u (Array.replicate (Lib.nDigits u) 0) (w.alloc (.cells Lib.zeros24 216)) hH0 (by rw [Array.size_replicate]; exact Lib.lt_pow_nDigits u) hu64 (by rw [Array.size_replicate]; omega)
  rw [Array.size_replicate] at hfmt
  have K1:=Lib.hid (fun w ht => Tryz.z_internal_strconv_numDigits u (by omega) hu64 w ht)
  have HT:=Lib.hid htab
  have HF:=Lib.hid hfmt
  have HH0:=Lib.hid hH0
  have HU:=Lib.hid hu64
  obtain ⟨nd,hnd⟩ : ∃ nd,nd=Lib.nDigits u:=⟨_,rfl⟩
  have hsl : ∀ W,(Instr.sliceAt 216 (.pointer (some ⟨w.heap.size,0,none⟩)) none (some (.int .i64 (Lib.nDigits u : Int))) none).run Tryz.prog W=.ok (.slice (some ⟨w.heap.size,0,none⟩) (Lib.nDigits u) 24) W:=fun W => by
   rw [run_sliceAt_array_h W 216 ⟨w.heap.size,0,none⟩ (by kernel_rfl) .i64 (Lib.nDigits u : Int) (by omega) (by rw [show Tryz.prog.arrayLen 216=24 by kernel_rfl]; omega)]
   rw [show Tryz.prog.arrayLen 216=24 by kernel_rfl,show Tryz.prog.elem 216=5 by kernel_rfl]
   go_simp
  clear htab hfmt hH0 hnd hu64
  go_enter Tryz.func142,Tryz.ntmps142
  go_wp2_with (first
   | (go_at_call 156; go_must (refine (K1.out _ (Lib.tabIs_alloc HT.out _)).mono ?_); rintro e w' ⟨rfl,rfl⟩))
  refine HF.out.mono ?_
  rintro e w' ⟨rfl,k,v',dk,rfl,hF⟩
  have hcv : (convert 113 9 (.slice (some ⟨w.heap.size,0,none⟩) (Lib.nDigits u) 24)).run Tryz.prog ((putRow (fun (b : UInt8) => Value.int .u8 (b.toNat : Int)) (w.alloc (.cells Lib.zeros24 216)) w.heap.size 0 dk).drewN k)=.ok (.string ⟨(Lib.decDigits u).toArray⟩) ((putRow (fun (b : UInt8) => Value.int .u8 (b.toNat : Int)) (w.alloc (.cells Lib.zeros24 216)) w.heap.size 0 dk).drewN k):=by
   have h:=run_convert_bytes_back (P:=Tryz.prog) ((putRow (fun (b : UInt8) => Value.int .u8 (b.toNat : Int)) (w.alloc (.cells Lib.zeros24 216)) w.heap.size 0 dk).drewN k) 113 9 5 ⟨w.heap.size,0,none⟩ 24 (Lib.decDigits u) Tryz.underlying113 Tryz.underlying5 Tryz.underlying9 (fun j hj => by
    rw [Lib.row_is_numeral hF j hj,Lib.add_plain,World.cell?_drewN]
    exact cell?_putRow (fun (b : UInt8) => Value.int .u8 (b.toNat : Int)) _ w.heap.size 0 _ dk HH0.out (by rw [hF.size,Array.size_replicate]) j (by rw [hF.size]; rw [Lib.decDigits_length] at hj; exact hj))
   rw [Lib.decDigits_length] at h
   exact h
  obtain ⟨os,eo⟩:=Lib.fin_at w (.cells Lib.zeros24 216) dk k 0
  have EO:=Lib.hid eo
  clear eo
  go_wp2
  go_ret
  exact ⟨rfl,by rw [EO.out]; exact grow_below w k os⟩
theorem digits_any (u : Nat) (hu64 : u < 18446744073709551616) (w : World) (htab : Lib.TabIs Tryz.prog w "internal/strconv.uint64pow10" .u64 Lib.pow10Tab) :
  Calls Tryz.prog 123 #[.int .u64 u] w fun e w' => e=.returned (.string ⟨(Lib.decDigits u).toArray⟩)∧Below w.heap.size w w':=by
 have K1:=Lib.hid (fmt_any u hu64 w htab)
 clear htab hu64
 have K2 : Hid (Calls Tryz.prog 134 #[.int .u64 u,.int .i64 10] w fun e w' => e=.returned (.string ⟨(Lib.decDigits u).toArray⟩)∧Below w.heap.size w w'):=by
  refine Lib.hid ?_
  go_enter Tryz.func134,Tryz.ntmps134
  go_wp2_with (first | (go_at_call 142; go_must (refine (K1.out).mono ?_); rintro e w' ⟨rfl,hb⟩))
  go_ret
  exact ⟨rfl,hb⟩
 go_enter Tryz.func123,Tryz.ntmps123
 go_wp2_with (first | (go_at_call 134; go_must (refine (K2.out).mono ?_); rintro e w' ⟨rfl,hb⟩))
 go_ret
 exact ⟨rfl,hb⟩
end Go.Proofs.YtjfjliobencppaaGreatDoor.Sp.W

namespace Go.Proofs.YtjfjliobencppaaGreatDoor.Sp.W
open Go.RowKit
theorem at_list (s : ByteArray) (j : Nat) (h : j < s.size) : s.data.toList[j]'(by simpa using h)=s[j]:=by simp; rfl
theorem good_of (s : ByteArray) (h1 : 1≤s.size) (hz : ¬ (1 < s.size∧s[0].toNat=48)) (hall : ∀ j,(h : j < s.size)→48≤s[j].toNat∧s[j].toNat≤57) : good s.data.toList:=by
 have hl : s.data.toList.length=s.size:=by simp
 refine ⟨?_,?_,?_⟩
 ·intro h; rw [h] at hl; simp at hl; omega
 ·intro c hc
  obtain ⟨j,hj,rfl⟩:=List.mem_iff_getElem.1 hc
  have:=hall j (by omega)
  rw [at_list s j (by omega)]
  exact this
 ·intro h48
  rw [hl]
  have h0 : s.data.toList.head?=some (s.data.toList[0]'(by omega)):=by
   rw [List.head?_eq_getElem?,List.getElem?_eq_getElem]
  rw [h0,at_list s 0 (by omega)] at h48
  have e : s[0]=48:=by simpa using h48
  rcases Nat.lt_or_ge 1 s.size with h | h
  ·exact absurd ⟨h,by rw [e]; rfl⟩ hz
  ·omega
theorem of_good (s : ByteArray) (g : good s.data.toList) (h1 : 1≤s.size) : (¬ (1 < s.size∧s[0].toNat=48))∧∀ j,(h : j < s.size)→48≤s[j].toNat∧s[j].toNat≤57:=by
 have hl : s.data.toList.length=s.size:=by simp
 obtain ⟨g1,g2,g3⟩:=g
 refine ⟨?_,?_⟩
 ·intro ⟨ha,hb⟩
  have h0 : s.data.toList.head?=some (s.data.toList[0]'(by omega)):=by
   rw [List.head?_eq_getElem?,List.getElem?_eq_getElem]
  rw [at_list s 0 (by omega)] at h0
  have e : s[0]=48:=UInt8.toNat_inj.1 hb
  rw [e] at h0
  have:=g3 h0
  omega
 ·intro j h
  have:=g2 (s.data.toList[j]'(by omega)) (List.getElem_mem _)
  rw [at_list s j h] at this
  exact this
theorem str_data (p : ByteArray) : str p.data.toList=p:=by
 apply ByteArray.ext; simp [str]
end Go.Proofs.YtjfjliobencppaaGreatDoor.Sp.W

namespace Go.Proofs.YtjfjliobencppaaGreatDoor.Sp
open Go.RowKit
def ipc (a b c d : Nat) : Array Value:=#[.int .u8 a,.int .u8 b,.int .u8 c,.int .u8 d]
def plc (a b c d p : Nat) : Value:=.agg #[.int .u8 a,.int .u8 b,.int .u8 c,.int .u8 d,.int .u16 p]
def anyN (a b c d : Nat) : Bool:=decide (a=0∧b=0∧c=0∧d=0)
def meetN (a b c d p a2 b2 c2 d2 p2 : Nat) : Bool:=decide (p=p2) && (decide (a=a2∧b=b2∧c=c2∧d=d2) || anyN a b c d || anyN a2 b2 c2 d2)
end Go.Proofs.YtjfjliobencppaaGreatDoor.Sp

set_option maxRecDepth 1000000
set_option maxHeartbeats 1000000
namespace Go.Proofs.YtjfjliobencppaaGreatDoor.Sp
open Go.RowKit
def bytesN (a b c d p : Nat) : List UInt8:=[UInt8.ofNat a,UInt8.ofNat b,UInt8.ofNat c,UInt8.ofNat d]++W.be p 2
theorem run_ip_string (a b c d : Nat) (ha : a < 256) (hb : b < 256) (hc : c < 256) (hd : d < 256) (g : Nat) (w : World)
  (h0 : w.cell? ⟨g,0,none⟩=some (.int .u8 a)) (h1 : w.cell? ⟨g,1,none⟩=some (.int .u8 b)) (h2 : w.cell? ⟨g,2,none⟩=some (.int .u8 c)) (h3 : w.cell? ⟨g,3,none⟩=some (.int .u8 d)) :
  (convert 113 9 (.slice (some ⟨g,0,none⟩) 4 4)).run Tryz.prog w=.ok (.string (str [UInt8.ofNat a,UInt8.ofNat b,UInt8.ofNat c,UInt8.ofNat d])) w:=by
 have h:=run_convert_bytes_back (P:=Tryz.prog) w 113 9 5 ⟨g,0,none⟩ 4 [UInt8.ofNat a,UInt8.ofNat b,UInt8.ofNat c,UInt8.ofNat d] Tryz.underlying113 Tryz.underlying5 Tryz.underlying9 (fun j hj => by
  match j,hj with
  | 0,_ => simpa [Addr.add,Nat.mod_eq_of_lt ha] using h0
  | 1,_ => simpa [Addr.add,Nat.mod_eq_of_lt hb] using h1
  | 2,_ => simpa [Addr.add,Nat.mod_eq_of_lt hc] using h2
  | 3,_ => simpa [Addr.add,Nat.mod_eq_of_lt hd] using h3)
 exact h
theorem bytes_any (a b c d p : Nat) (ha : a < 256) (hb : b < 256) (hc : c < 256) (hd : d < 256) (hp : p < 65536) (w : World) :
  Calls Tryz.prog 97 #[plc a b c d p] w fun e w' => e=.returned (.string (str (bytesN a b c d p)))∧Below w.heap.size w w':=by
 have K1 : Hid (∀ w,Calls Tryz.prog 93 #[.int .u64 (IntKind.u64.wrap (p : Int)),.int .i64 2] w fun e w' => e=.returned (.string (str (W.be p 2)))∧Below w.heap.size w w'):=Lib.hid (fun w => by
  rw [IntWalk.u64_in _ (by omega)]; exact W.put_any p 2 (by omega) w)
 obtain ⟨x,hx⟩ : ∃ x,str [UInt8.ofNat a,UInt8.ofNat b,UInt8.ofNat c,UInt8.ofNat d]=x:=⟨_,rfl⟩
 obtain ⟨y,hy⟩ : ∃ y,str (W.be p 2)=y:=⟨_,rfl⟩
 have hadd : ∀ w,(Op.stringOp .add x y).run Tryz.prog w=.ok (.string (str (bytesN a b c d p))) w:=fun w => by
  rw [← hx,← hy,run_string_add_sum w _ _ (by rw [str_size,str_size,W.be_length]; simp)]
  rfl
 have hcv : ∀ w' : World,w'.cell? ⟨w.heap.size,0,none⟩=some (.int .u8 a)→w'.cell? ⟨w.heap.size,1,none⟩=some (.int .u8 b)→w'.cell? ⟨w.heap.size,2,none⟩=some (.int .u8 c)→w'.cell? ⟨w.heap.size,3,none⟩=some (.int .u8 d) →
   (convert 113 9 (.slice (some ⟨w.heap.size,0,none⟩) 4 4)).run Tryz.prog w'=.ok (.string x) w':=fun w' h0 h1 h2 h3 => by
  rw [← hx]; exact run_ip_string a b c d ha hb hc hd _ w' h0 h1 h2 h3
 rw [hy] at K1
 generalize str (bytesN a b c d p)=z at *
 clear hx hy ha hb hc hd
 have g0 : (w.alloc (.cells #[.int .u8 a,.int .u8 b,.int .u8 c,.int .u8 d,.int .u16 p] 49)).cell? ⟨w.heap.size,0,none⟩=some (.int .u8 a):=by rw [World.cell?_alloc_new]; rfl
 have g1 : (w.alloc (.cells #[.int .u8 a,.int .u8 b,.int .u8 c,.int .u8 d,.int .u16 p] 49)).cell? ⟨w.heap.size,1,none⟩=some (.int .u8 b):=by rw [World.cell?_alloc_new]; rfl
 have g2 : (w.alloc (.cells #[.int .u8 a,.int .u8 b,.int .u8 c,.int .u8 d,.int .u16 p] 49)).cell? ⟨w.heap.size,2,none⟩=some (.int .u8 c):=by rw [World.cell?_alloc_new]; rfl
 have g3 : (w.alloc (.cells #[.int .u8 a,.int .u8 b,.int .u8 c,.int .u8 d,.int .u16 p] 49)).cell? ⟨w.heap.size,3,none⟩=some (.int .u8 d):=by rw [World.cell?_alloc_new]; rfl
 have g4 : (w.alloc (.cells #[.int .u8 a,.int .u8 b,.int .u8 c,.int .u8 d,.int .u16 p] 49)).cell? ⟨w.heap.size,4,none⟩=some (.int .u16 p):=by rw [World.cell?_alloc_new]; rfl
 have g5 : w.heap.size < (w.alloc (.cells #[.int .u8 a,.int .u8 b,.int .u8 c,.int .u8 d,.int .u16 p] 49)).heap.size:=by simp
 have g6 : Below w.heap.size w (w.alloc (.cells #[.int .u8 a,.int .u8 b,.int .u8 c,.int .u8 d,.int .u16 p] 49)):=(Below.refl _ _).alloc (Nat.le_refl _) _
 unfold plc
 go_enter Tryz.func97,Tryz.ntmps97
 go_wp2
 generalize w.alloc (.cells #[.int .u8 a,.int .u8 b,.int .u8 c,.int .u8 d,.int .u16 p] 49)=W at *
 go_region_held3 (fun w' => w'.cell? ⟨w.heap.size,0,none⟩=some (.int .u8 a)∧w'.cell? ⟨w.heap.size,1,none⟩=some (.int .u8 b)∧w'.cell? ⟨w.heap.size,2,none⟩=some (.int .u8 c)∧w'.cell? ⟨w.heap.size,3,none⟩=some (.int .u8 d)∧w'.cell? ⟨w.heap.size,4,none⟩=some (.int .u16 p)∧w.heap.size < w'.heap.size∧Below w.heap.size w w')
  (first
   | exact ⟨g0,g1,g2,g3,g4,g5,g6.drew⟩
   | (
     go_split_ands
     refine ⟨?_,?_,?_,?_,?_,?_,?_⟩
     ·(rw [hb1.cell (p:=⟨w.heap.size,0,none⟩) (by assumption)]; assumption)
     ·(rw [hb1.cell (p:=⟨w.heap.size,1,none⟩) (by assumption)]; assumption)
     ·(rw [hb1.cell (p:=⟨w.heap.size,2,none⟩) (by assumption)]; assumption)
     ·(rw [hb1.cell (p:=⟨w.heap.size,3,none⟩) (by assumption)]; assumption)
     ·(rw [hb1.cell (p:=⟨w.heap.size,4,none⟩) (by assumption)]; assumption)
     ·exact Nat.lt_of_lt_of_le (by assumption) hb1.size
     ·exact Below.trans (by assumption) (hb1.mono (Nat.le_of_lt (by assumption))))
   | go_keep)
  (first | (go_at_call 93; ((with_reducible refine (K1.out _).mono ?_); rintro e w1 ⟨rfl,hb1⟩)))
 all_goals go_wp2
 all_goals go_ret
 all_goals
  refine ⟨rfl,?_⟩
  rename_i hS
  exact hS.2.2.2.2.2.2
theorem be_two (p : Nat) : W.be p 2=[UInt8.ofNat (p / 256),UInt8.ofNat (p % 256)]:=by
 have e : UInt8.ofNat (p % 256)=UInt8.ofNat p:=by rw [← UInt8.toNat_inj]; simp
 rw [e]
 simp [W.be]
theorem rbytes_any (a b c d p : Nat) (ha : a < 256) (hb : b < 256) (hc : c < 256) (hd : d < 256) (hp : p < 65536) (w : World) :
  Calls Tryz.prog 70 #[plc a b c d p] w fun e w' => e=.returned (.string (str (bytesN a b c d p)))∧Below w.heap.size w w':=by
 have hcv : ∀ (W : World) (x y : Int),x=((p / 256 : Nat) : Int)→y=((p % 256 : Nat) : Int)→(convert 113 9 (.slice (some ⟨W.heap.size,0,none⟩) 6 6)).run Tryz.prog (W.alloc (.cells #[.int .u8 a,.int .u8 b,.int .u8 c,.int .u8 d,.int .u8 x,.int .u8 y] 5)) =
   .ok (.string (str (bytesN a b c d p))) (W.alloc (.cells #[.int .u8 a,.int .u8 b,.int .u8 c,.int .u8 d,.int .u8 x,.int .u8 y] 5)):=fun W x y hx hy => by
  subst hx hy
  have h:=run_convert_bytes_back (P:=Tryz.prog) (W.alloc (.cells #[.int .u8 a,.int .u8 b,.int .u8 c,.int .u8 d,.int .u8 ((p / 256 : Nat) : Int),.int .u8 ((p % 256 : Nat) : Int)] 5)) 113 9 5 ⟨W.heap.size,0,none⟩ 6 (bytesN a b c d p) Tryz.underlying113 Tryz.underlying5 Tryz.underlying9 (fun j hj => by
   unfold bytesN at hj ⊢
   simp only [be_two] at hj ⊢
   match j,hj with
   | 0,_ => simp [Addr.add,World.cell?_alloc_new,Nat.mod_eq_of_lt ha]
   | 1,_ => simp [Addr.add,World.cell?_alloc_new,Nat.mod_eq_of_lt hb]
   | 2,_ => simp [Addr.add,World.cell?_alloc_new,Nat.mod_eq_of_lt hc]
   | 3,_ => simp [Addr.add,World.cell?_alloc_new,Nat.mod_eq_of_lt hd]
   | 4,_ => simp [Addr.add,World.cell?_alloc_new,Nat.mod_eq_of_lt (show p / 256 < 256 by omega)]
   | 5,_ => simp [Addr.add,World.cell?_alloc_new])
  exact h
 have hcv1:=hcv (w.alloc (.cells #[.int .u8 a,.int .u8 b,.int .u8 c,.int .u8 d,.int .u16 p] 75)) ((p : Int) / 256) ((p : Int) % 256) (by omega) (by omega)
 rw [show (w.alloc (.cells #[.int .u8 a,.int .u8 b,.int .u8 c,.int .u8 d,.int .u16 p] 75)).heap.size=w.heap.size+1 by simp] at hcv1
 clear hcv
 generalize str (bytesN a b c d p)=z at *
 unfold plc
 go_enter Tryz.func70,Tryz.ntmps70
 go_wp2
 go_ret
 exact ⟨rfl,((Below.refl _ _).alloc (Nat.le_refl _) _).alloc (by simp) _⟩
end Go.Proofs.YtjfjliobencppaaGreatDoor.Sp

namespace Go.Proofs.YtjfjliobencppaaGreatDoor.Sp
def Num (l : List UInt8) (m n : Nat) : Prop:=W.good l∧W.val l=n∧n≤m
def sepAt (k : Nat) : UInt8:=if k < 3 then 46 else 58
def DecT : Nat→Nat→List UInt8→(Nat→Nat)→Nat→Prop
 | 0,_,r,_,port => Num r 65535 port∧1≤port
 | f+1,k,r,xs,port => ∃ d r',r=d++sepAt k::r'∧Num d 255 (xs k)∧DecT f (k+1) r' xs port
def Dec (l : List UInt8) (xs : Nat→Nat) (port : Nat) : Prop:=DecT 4 0 l xs port
theorem good_free {l : List UInt8} (h : W.good l) : (46 : UInt8) ∉ l∧(58 : UInt8) ∉ l:=by
 obtain ⟨_,hd,_⟩:=h
 constructor
 ·intro hm
  have:=hd _ hm
  unfold W.digit at this
  simp at this
 ·intro hm
  have:=hd _ hm
  unfold W.digit at this
  simp at this
theorem good_sep {l : List UInt8} (h : W.good l) (k : Nat) : sepAt k ∉ l:=by
 unfold sepAt
 split
 ·exact (good_free h).1
 ·exact (good_free h).2
theorem first_unique {c : UInt8} : ∀ {a b a' b' : List UInt8},c ∉ a→c ∉ a'→a++c::b=a'++c::b'→a=a'∧b=b'
 | [],b,[],b',_,_,h => by simpa using h
 | [],b,x::a',b',_,h2,h => by
  simp at h
  exact absurd (h.1 ▸ List.mem_cons_self) h2
 | x::a,b,[],b',h1,_,h => by
  simp at h
  exact absurd (h.1 ▸ List.mem_cons_self) h1
 | x::a,b,y::a',b',h1,h2,h => by
  simp at h
  obtain ⟨rfl,h⟩:=h
  have:=first_unique (fun e => h1 (List.mem_cons_of_mem _ e)) (fun e => h2 (List.mem_cons_of_mem _ e)) h
  exact ⟨by rw [this.1],this.2⟩
theorem decT_step {f k : Nat} {d r' : List UInt8} (hd : sepAt k ∉ d) (xs : Nat→Nat) (port : Nat) :
  DecT (f+1) k (d++sepAt k::r') xs port↔Num d 255 (xs k)∧DecT f (k+1) r' xs port:=by
 constructor
 ·rintro ⟨d2,r2,e,hn,ht⟩
  obtain ⟨rfl,rfl⟩:=first_unique hd (good_sep hn.1 k) e
  exact ⟨hn,ht⟩
 ·rintro ⟨hn,ht⟩
  exact ⟨d,r',rfl,hn,ht⟩
theorem decT_none {f k : Nat} {r : List UInt8} (h : sepAt k ∉ r) (xs : Nat→Nat) (port : Nat) : ¬ DecT (f+1) k r xs port:=by
 rintro ⟨d,r',rfl,_⟩
 exact h (by simp)
theorem decT_unique : ∀ (f k : Nat) (r : List UInt8) (xs ys : Nat→Nat) (p q : Nat),DecT f k r xs p→DecT f k r ys q→p=q∧∀ j,k≤j→j < k+f→xs j=ys j
 | 0,_,_,_,_,_,_,h1,h2 => ⟨h1.1.2.1.symm.trans h2.1.2.1,fun j a b => absurd a (by omega)⟩
 | f+1,k,r,xs,ys,p,q,⟨d,r',e,hn,ht⟩,⟨d2,r2,e2,hn2,ht2⟩ => by
  subst e
  obtain ⟨rfl,rfl⟩:=first_unique (good_sep hn.1 k) (good_sep hn2.1 k) e2
  obtain ⟨h1,h2⟩:=decT_unique f (k+1) r' xs ys p q ht ht2
  refine ⟨h1,fun j a b => ?_⟩
  by_cases e : j=k
  ·subst e; exact hn.2.1.symm.trans hn2.2.1
  ·exact h2 j (by omega) (by omega)
theorem cut_one (r : List UInt8) (c : UInt8) : (Lib.cut r [c]).2.2=true∧r=(Lib.cut r [c]).1++c::(Lib.cut r [c]).2.1∧c ∉ (Lib.cut r [c]).1 ∨
  (Lib.cut r [c])=(r,[],false)∧c ∉ r:=by
 unfold Lib.cut
 have hge:=Lib.index_ge r [c]
 by_cases h : Lib.index r [c]=-1
 ·right
  rw [if_neg (by omega)]
  exact ⟨rfl,index_one_miss c r h⟩
 ·left
  obtain ⟨i,hi⟩ : ∃ i : Nat,Lib.index r [c]=i:=⟨(Lib.index r [c]).toNat,by omega⟩
  obtain ⟨a,b,rfl,ha,hc⟩:=index_one_hit c r i hi
  rw [if_pos (by omega),hi]
  subst ha
  simp [hc]
end Go.Proofs.YtjfjliobencppaaGreatDoor.Sp
