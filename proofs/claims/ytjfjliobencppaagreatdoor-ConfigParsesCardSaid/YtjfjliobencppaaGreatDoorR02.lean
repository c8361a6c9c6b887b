/- YtjfjliobencppaaGreatDoorQ; DERIVED: THE SHELF's CONTRACTS AT THIS DUMP, IN PLAIN WORDS (tools/lay-plain.mjs out of 'YtjfjliobencppaaGreatDoorShelf.lean', which tools/lay-shelf.mjs wrote): THE SAME DECLARATIONS UNDER THE SAME NAMES: 'import', 'namespace', 'open', 'def', 'theorem' AND NOTHING ELSE: no command of the shelf's: FOR A HAND-IN. Each laying: the table of numbers ('.._ren') and one theorem, a field a fact of the dump's own or the kernel's comparison; each contract: ONE APPLICATION.; YtjfjliobencppaaGreatDoorR; Values of the codec: trees, and how they lie in memory.; codec.sound.; codec.sound of values that may be: the values within.; codec.Deep and the document's: how deep lists stand in one another. -/
import Derived.Test.YtjfjliobencppaaGreatDoorR01
import Derived.Shelf.LaysM
import Derived.Shelf.Strconv.Clone
import Derived.Shelf.Strings.Prefix
import Derived.Test.YtjfjliobencppaaGreatDoorProg
import Derived.Lib.Strings
import Derived.Test.YtjfjliobencppaaGreatDoorR00
set_option linter.unusedVariables false
set_option linter.unusedSimpArgs false
namespace Go.Proofs.YtjfjliobencppaaGreatDoor
open Go.RowKit
def revN (x : Nat) : Nat:=65536 * (256 * (x % 256)+x / 256 % 256)+(256 * (x / 65536 % 256)+x / 16777216)
def le4 (n : Nat) : List UInt8:=[UInt8.ofNat n,UInt8.ofNat (n / 256),UInt8.ofNat (n / 65536),UInt8.ofNat (n / 16777216)]
end Go.Proofs.YtjfjliobencppaaGreatDoor

namespace Go.Proofs
open Go.Shelf
def Tryz.laysM316_ren : Go.Shelf.Ren:=⟨fun | 316 => 118 | n => n,fun | 9 => 9 | 3 => 3 | 4 => 4 | 37 => 113 | 0 => 0 | 127 => 196 | 5 => 5 | n => n,fun | n => n⟩
theorem Tryz.laysM316 : Go.Proofs.LaysM.n316 Tryz.prog Tryz.laysM316_ren:={
 mixed:=by kernel_rfl
 f316:=Tryz.func118.trans (congrArg some (by kernel_rfl))
 t0:=Tryz.underlying0
 a0:=Tryz.isAgg0
 z0:=Tryz.sizeOf0
 v0:=Tryz.zeroValue0
 t3:=Tryz.underlying3
 a3:=Tryz.isAgg3
 z3:=Tryz.sizeOf3
 v3:=Tryz.zeroValue3
 t4:=Tryz.underlying4
 a4:=Tryz.isAgg4
 z4:=Tryz.sizeOf4
 v4:=Tryz.zeroValue4
 t9:=Tryz.underlying9
 a9:=Tryz.isAgg9
 z9:=Tryz.sizeOf9
 v9:=Tryz.zeroValue9
 t37:=Tryz.underlying113
 a37:=Tryz.isAgg113
 z37:=Tryz.sizeOf113
 v37:=Tryz.zeroValue113
 t127:=Tryz.underlying196
 a127:=Tryz.isAgg196
 z127:=Tryz.sizeOf196
 v127:=Tryz.zeroValue196
 t5:=Tryz.underlying5
 a5:=Tryz.isAgg5
 z5:=Tryz.sizeOf5
 v5:=Tryz.zeroValue5
 i0:=by kernel_rfl
 i3:=by kernel_rfl
 i4:=by kernel_rfl
 i5:=by kernel_rfl
 i9:=by kernel_rfl
 i37:=by kernel_rfl
 i127:=by kernel_rfl }
open Go.RowKit in
theorem Tryz.stringslite_Clone (s : ByteArray) (w : World) (hlim : s.size≤281474976710656) :
  Calls Tryz.prog 118 #[.string s] w fun e w' => e=.returned (.string s)∧Below w.heap.size w w':=Any.stringslite_Clone Tryz.laysM316 s w hlim
end Go.Proofs

namespace Go.Proofs.YtjfjliobencppaaGreatDoor
open Go.RowKit
def markL (l : List UInt8) : List UInt8:=l++le4 (crcV l)
theorem str_data (p : ByteArray) : str p.data.toList=p:=by
 apply ByteArray.ext; simp [str]
theorem clone_any (p : ByteArray) (w : World) (hp : p.size≤1000000000) : Calls Tryz.prog 83 #[.string p] w fun e w' => e=.returned (.string p)∧Below w.heap.size w w':=by
 have K1:=Lib.hid (fun w => Tryz.stringslite_Clone p w (by omega))
 go_enter Tryz.func83,Tryz.ntmps83
 go_wp2_with (first
  | (go_at_call 118; go_must (refine (K1.out _).mono ?_); rintro e w2 ⟨rfl,hb2⟩))
 go_ret
 exact ⟨rfl,hb2⟩
end Go.Proofs.YtjfjliobencppaaGreatDoor

namespace Go.Proofs.YtjfjliobencppaaGreatDoor
open Go.RowKit
theorem empty_no (s : ByteArray) (h : 1≤s.size) : s.toList.isEmpty=false:=by
 rw [ByteArray.toList_eq]
 have e : s.data.toList.length=s.size:=by simp
 cases hl : s.data.toList with
 | nil => rw [hl] at e; simp at e; omega
 | cons c l => rfl
theorem empty_yes (s : ByteArray) (h : s.size=0) : s.toList.isEmpty=true:=by
 rw [ByteArray.toList_eq]
 have e : s.data.toList.length=s.size:=by simp
 rw [List.eq_nil_of_length_eq_zero (by omega : s.data.toList.length=0)]
 rfl
theorem alloc_below (w : World) (o : Obj) : Below w.heap.size w (w.alloc o):=(Below.refl _ _).alloc (Nat.le_refl _) _
theorem alloc_lt (w : World) (o : Obj) : w.heap.size < (w.alloc o).heap.size:=by simp
theorem be_one (k : Nat) : be k 1=[UInt8.ofNat k]:=by simp [be]
inductive Tr : Type where
 | mk (k : Int) (n : Nat) (s : ByteArray) (l : List Tr) : Tr
theorem Tr.ind {P : Tr→Prop} (h : ∀ k n s l,(∀ x ∈ l,P x)→P (.mk k n s l)) : ∀ t,P t
 | .mk k n s l => h k n s l (fun x _ => Tr.ind h x)
termination_by t => SizeOf.sizeOf t
decreasing_by
 have:=List.sizeOf_lt_of_mem ‹x ∈ l›
 simp; omega
mutual
def VIn (w : World) : Tr→Value→Value→Value→Value→Prop
 | .mk k n s l,c0,c1,c2,c3 => c0=.int .i64 k∧c1=.int .u64 (n : Int)∧n≤18446744073709551615∧c2=.string s∧(s.size≤1000000000∧l.length≤1000000)∧∃ (o : Option Addr) (cap b off : Nat),c3=.slice o l.length cap∧(0 < l.length→o=some ⟨b,off,none⟩∧b < w.heap.size)∧VInL w b off l
def VInL (w : World) (b : Nat) : Nat→List Tr→Prop
 | _,[] => True
 | off,t::ts => (∃ c0 c1 c2 c3,w.cell? ⟨b,off,none⟩=some c0∧w.cell? ⟨b,off+1,none⟩=some c1∧w.cell? ⟨b,off+2,none⟩=some c2∧w.cell? ⟨b,off+3,none⟩=some c3∧VIn w t c0 c1 c2 c3)∧VInL w b (off+4) ts
end
theorem VInL.at {w : World} {b : Nat} : ∀ {off : Nat} {l : List Tr} (i : Nat) (h : i < l.length),VInL w b off l→∃ c0 c1 c2 c3,w.cell? ⟨b,off+i * 4,none⟩=some c0∧w.cell? ⟨b,off+i * 4+1,none⟩=some c1∧w.cell? ⟨b,off+i * 4+2,none⟩=some c2∧w.cell? ⟨b,off+i * 4+3,none⟩=some c3∧VIn w l[i] c0 c1 c2 c3
 | off,t::ts,0,_,h => by
  unfold VInL at h
  simpa using h.1
 | off,t::ts,i+1,hi,h => by
  unfold VInL at h
  have:=VInL.at i (by simpa using hi) h.2
  rw [show off+(i+1) * 4=off+4+i * 4 by omega]
  simpa using this
theorem VInL.of {w : World} {b : Nat} : ∀ {off : Nat} {l : List Tr},(∀ (i : Nat) (h : i < l.length),∃ c0 c1 c2 c3,w.cell? ⟨b,off+i * 4,none⟩=some c0∧w.cell? ⟨b,off+i * 4+1,none⟩=some c1∧w.cell? ⟨b,off+i * 4+2,none⟩=some c2∧w.cell? ⟨b,off+i * 4+3,none⟩=some c3∧VIn w l[i] c0 c1 c2 c3)→VInL w b off l
 | off,[],_ => by unfold VInL; trivial
 | off,t::ts,h => by
  unfold VInL
  have h0:=h 0 (by simp)
  rw [Nat.zero_mul,Nat.add_zero] at h0
  refine ⟨h0,VInL.of (fun i hi => ?_)⟩
  have:=h (i+1) (by simpa using hi)
  rw [show off+(i+1) * 4=off+4+i * 4 by omega] at this
  simpa using this
theorem VIn.cells {w : World} : ∀ {t : Tr} {c0 c1 c2 c3 : Value},VIn w t c0 c1 c2 c3→∃ (k : Int) (n : Nat) (s : ByteArray) (o : Option Addr) (len cap : Nat),c0=.int .i64 k∧c1=.int .u64 (n : Int)∧c2=.string s∧c3=.slice o len cap
 | .mk k n s l,_,_,_,_,h => by
  unfold VIn at h
  obtain ⟨h0,h1,_,h2,_,o,cap,_,_,h3,_⟩:=h
  exact ⟨k,n,s,o,l.length,cap,h0,h1,h2,h3⟩
theorem VIn.later {w w' : World} (hb : Below w.heap.size w w') : ∀ (t : Tr) {c0 c1 c2 c3 : Value},VIn w t c0 c1 c2 c3→VIn w' t c0 c1 c2 c3:=by
 refine Tr.ind ?_
 intro k n s l ih c0 c1 c2 c3 h
 unfold VIn at h ⊢
 obtain ⟨h0,h1,hn,h2,hz,o,cap,b,off,h3,ho,hl⟩:=h
 refine ⟨h0,h1,hn,h2,hz,o,cap,b,off,h3,fun hp => ⟨(ho hp).1,Nat.lt_of_lt_of_le (ho hp).2 hb.size⟩,VInL.of (fun i hi => ?_)⟩
 obtain ⟨d0,d1,d2,d3,e0,e1,e2,e3,hv⟩:=hl.at i hi
 have hbl:=(ho (by omega)).2
 exact ⟨d0,d1,d2,d3,(hb.cell (p:=⟨b,_,none⟩) hbl).trans e0,(hb.cell (p:=⟨b,_,none⟩) hbl).trans e1,(hb.cell (p:=⟨b,_,none⟩) hbl).trans e2,(hb.cell (p:=⟨b,_,none⟩) hbl).trans e3,ih _ (List.getElem_mem hi) hv⟩
mutual
def sndT : Tr→Bool
 | .mk k n s l => decide (1≤k∧k≤3) && (decide (k=1) || decide (n=0)) && (decide (k=2) || decide (s.size=0)) && (decide (k=3) || decide (l.length=0)) && sndL l
def sndL : List Tr→Bool
 | [] => true
 | t::ts => sndT t && sndL ts
end
theorem sndL_all : ∀ l : List Tr,sndL l=l.all sndT
 | [] => by unfold sndL; rfl
 | t::ts => by unfold sndL; rw [List.all_cons,sndL_all ts]
mutual
def deepT : Tr→Nat
 | .mk k _ _ l => if k=3 then deepL l+1 else 0
def deepL : List Tr→Nat
 | [] => 0
 | t::ts => max (deepT t) (deepL ts)
end
end Go.Proofs.YtjfjliobencppaaGreatDoor

namespace Go.Proofs.YtjfjliobencppaaGreatDoor
open Go.RowKit
theorem four_new (w : World) (a b c d : Value) (t : Nat) : (w.alloc (.cells #[a,b,c,d] t)).cell? ⟨w.heap.size,0,none⟩=some a∧(w.alloc (.cells #[a,b,c,d] t)).cell? ⟨w.heap.size,1,none⟩=some b∧(w.alloc (.cells #[a,b,c,d] t)).cell? ⟨w.heap.size,2,none⟩=some c∧(w.alloc (.cells #[a,b,c,d] t)).cell? ⟨w.heap.size,3,none⟩=some d :=
 ⟨cell_new w _ t 0,cell_new w _ t 1,cell_new w _ t 2,cell_new w _ t 3⟩
theorem four_below {w w' : World} {B g : Nat} {a b c d : Value} (h : w.cell? ⟨g,0,none⟩=some a∧w.cell? ⟨g,1,none⟩=some b∧w.cell? ⟨g,2,none⟩=some c∧w.cell? ⟨g,3,none⟩=some d) (hb : Below B w w') (hg : g < B) : w'.cell? ⟨g,0,none⟩=some a∧w'.cell? ⟨g,1,none⟩=some b∧w'.cell? ⟨g,2,none⟩=some c∧w'.cell? ⟨g,3,none⟩=some d :=
 ⟨(hb.cell (p:=⟨g,0,none⟩) hg).trans h.1,(hb.cell (p:=⟨g,1,none⟩) hg).trans h.2.1,(hb.cell (p:=⟨g,2,none⟩) hg).trans h.2.2.1,(hb.cell (p:=⟨g,3,none⟩) hg).trans h.2.2.2⟩
theorem store27 (w : World) (k : Int) (n : Nat) (s : ByteArray) (o : Option Addr) (l c : Nat) :
  (storeVar 69 ⟨w.heap.size,0,none⟩ (.agg #[.int .i64 k,.int .u64 (n : Int),.string s,.slice o l c])).run Tryz.prog (w.alloc (.cells #[.int .i64 0,.int .u64 0,.string ⟨#[]⟩,.slice none 0 0] 69))=.ok () (w.alloc (.cells #[.int .i64 k,.int .u64 (n : Int),.string s,.slice o l c] 69)):=by
 simp [go_sem]
theorem sound_kind (k : Int) (n : Int) (s : ByteArray) (o : Option Addr) (m cap : Nat) (hk : k < 1∨3 < k) (w : World) :
  Calls Tryz.prog 56 #[.agg #[.int .i64 k,.int .u64 n,.string s,.slice o m cap]] w fun e w' => e=.returned (.bool false)∧Below w.heap.size w w':=by
 obtain ⟨c0,c1,c2,c3⟩:=four_new w (.int .i64 k) (.int .u64 n) (.string s) (.slice o m cap) 69
 rcases hk with hk | hk
 ·go_enter Tryz.func56,Tryz.ntmps56
  go_wp2
  go_ret
  exact ⟨rfl,(Below.refl _ _).alloc (Nat.le_refl _) _⟩
 ·have hk2 : ¬ k < 1:=by omega
  go_enter Tryz.func56,Tryz.ntmps56
  go_wp2
  go_ret
  exact ⟨rfl,(Below.refl _ _).alloc (Nat.le_refl _) _⟩
theorem sound_one_text (n : Nat) (s : ByteArray) (o : Option Addr) (m cap : Nat) (hs : 1≤s.size) (w : World) :
  Calls Tryz.prog 56 #[.agg #[.int .i64 1,.int .u64 (n : Int),.string s,.slice o m cap]] w fun e w' => e=.returned (.bool false)∧Below w.heap.size w w':=by
 obtain ⟨c0,c1,c2,c3⟩:=four_new w (.int .i64 1) (.int .u64 (n : Int)) (.string s) (.slice o m cap) 69
 have hs1:=empty_no s (by omega)
 have hs2 : (!s.toList.isEmpty)=true:=by rw [hs1]; rfl
 go_enter Tryz.func56,Tryz.ntmps56
 go_wp2
 go_ret
 exact ⟨rfl,(Below.refl _ _).alloc (Nat.le_refl _) _⟩
theorem sound_one_list (n : Nat) (s : ByteArray) (o : Option Addr) (m cap : Nat) (hs : s.size=0) (hm : 0 < m) (w : World) :
  Calls Tryz.prog 56 #[.agg #[.int .i64 1,.int .u64 (n : Int),.string s,.slice o m cap]] w fun e w' => e=.returned (.bool false)∧Below w.heap.size w w':=by
 obtain ⟨c0,c1,c2,c3⟩:=four_new w (.int .i64 1) (.int .u64 (n : Int)) (.string s) (.slice o m cap) 69
 have hs1:=empty_yes s hs
 have hs2 : (!s.toList.isEmpty)=false:=by rw [hs1]; rfl
 have hm1 : (m : Int) > 0:=by omega
 go_enter Tryz.func56,Tryz.ntmps56
 go_wp2
 go_ret
 exact ⟨rfl,(Below.refl _ _).alloc (Nat.le_refl _) _⟩
theorem sound_two_num (n : Nat) (s : ByteArray) (o : Option Addr) (m cap : Nat) (hn : n≠0) (w : World) :
  Calls Tryz.prog 56 #[.agg #[.int .i64 2,.int .u64 (n : Int),.string s,.slice o m cap]] w fun e w' => e=.returned (.bool false)∧Below w.heap.size w w':=by
 obtain ⟨c0,c1,c2,c3⟩:=four_new w (.int .i64 2) (.int .u64 (n : Int)) (.string s) (.slice o m cap) 69
 have hn1 : ((n : Int) != 0)=true:=by rw [bne_iff_ne]; omega
 go_enter Tryz.func56,Tryz.ntmps56
 go_wp2
 go_ret
 exact ⟨rfl,(Below.refl _ _).alloc (Nat.le_refl _) _⟩
theorem sound_two_list (n : Nat) (s : ByteArray) (o : Option Addr) (m cap : Nat) (hn : n=0) (hm : 0 < m) (w : World) :
  Calls Tryz.prog 56 #[.agg #[.int .i64 2,.int .u64 (n : Int),.string s,.slice o m cap]] w fun e w' => e=.returned (.bool false)∧Below w.heap.size w w':=by
 obtain ⟨c0,c1,c2,c3⟩:=four_new w (.int .i64 2) (.int .u64 (n : Int)) (.string s) (.slice o m cap) 69
 have hn1 : ((n : Int) != 0)=false:=by rw [hn]; rfl
 have hm1 : (m : Int) > 0:=by omega
 go_enter Tryz.func56,Tryz.ntmps56
 go_wp2
 go_ret
 exact ⟨rfl,(Below.refl _ _).alloc (Nat.le_refl _) _⟩
theorem sound_three_num (n : Nat) (s : ByteArray) (o : Option Addr) (m cap : Nat) (hn : n≠0) (w : World) :
  Calls Tryz.prog 56 #[.agg #[.int .i64 3,.int .u64 (n : Int),.string s,.slice o m cap]] w fun e w' => e=.returned (.bool false)∧Below w.heap.size w w':=by
 obtain ⟨c0,c1,c2,c3⟩:=four_new w (.int .i64 3) (.int .u64 (n : Int)) (.string s) (.slice o m cap) 69
 have hn1 : ((n : Int) != 0)=true:=by rw [bne_iff_ne]; omega
 go_enter Tryz.func56,Tryz.ntmps56
 go_wp2
 go_ret
 exact ⟨rfl,(Below.refl _ _).alloc (Nat.le_refl _) _⟩
theorem sound_three_text (n : Nat) (s : ByteArray) (o : Option Addr) (m cap : Nat) (hn : n=0) (hs : 1≤s.size) (w : World) :
  Calls Tryz.prog 56 #[.agg #[.int .i64 3,.int .u64 (n : Int),.string s,.slice o m cap]] w fun e w' => e=.returned (.bool false)∧Below w.heap.size w w':=by
 obtain ⟨c0,c1,c2,c3⟩:=four_new w (.int .i64 3) (.int .u64 (n : Int)) (.string s) (.slice o m cap) 69
 have hn1 : ((n : Int) != 0)=false:=by rw [hn]; rfl
 have hs1:=empty_no s (by omega)
 have hs2 : (!s.toList.isEmpty)=true:=by rw [hs1]; rfl
 go_enter Tryz.func56,Tryz.ntmps56
 go_wp2
 go_ret
 exact ⟨rfl,(Below.refl _ _).alloc (Nat.le_refl _) _⟩
end Go.Proofs.YtjfjliobencppaaGreatDoor

set_option maxHeartbeats 1000000
namespace Go.Proofs.YtjfjliobencppaaGreatDoor
open Go.RowKit
theorem sound_loop1 (n : Nat) (s : ByteArray) (l : List Tr) (o : Option Addr) (cap b off : Nat) (hs : s.size=0) (hm0 : l.length=0) (hlen : l.length≤1000000)
  (ih : ∀ x ∈ l,∀ (c0 c1 c2 c3 : Value) (w : World),VIn w x c0 c1 c2 c3→Calls Tryz.prog 56 #[.agg #[c0,c1,c2,c3]] w fun e w' => e=.returned (.bool (sndT x))∧Below w.heap.size w w')
  (w : World) (ho : 0 < l.length→o=some ⟨b,off,none⟩∧b < w.heap.size) (hl : VInL w b off l) :
  Calls Tryz.prog 56 #[.agg #[.int .i64 1,.int .u64 (n : Int),.string s,.slice o l.length cap]] w fun e w' => e=.returned (.bool (l.all sndT))∧Below w.heap.size w w':=by
 obtain ⟨m,hm⟩ : ∃ m,m=l.length:=⟨_,rfl⟩
 rw [← hm] at hlen ⊢
 have HM:=Lib.hid hm
 have HO:=Lib.hid ho
 have HL:=Lib.hid hl
 have IH:=Lib.hid ih
 have hs1:=empty_yes s hs
 have hs2 : (!s.toList.isEmpty)=false:=by rw [hs1]; rfl
 have hm1 : ¬ (m : Int) > 0:=by omega
 obtain ⟨w0,hw0⟩ : ∃ w0,w0=w.alloc (.cells #[.int .i64 1,.int .u64 (n : Int),.string s,.slice o m cap] 69):=⟨_,rfl⟩
 have HB:=Lib.hid (show Below w.heap.size w w0 by rw [hw0]; exact alloc_below _ _)
 obtain ⟨c0,c1,c2,c3⟩:=four_new w (.int .i64 1) (.int .u64 (n : Int)) (.string s) (.slice o m cap) 69
 rw [← hw0] at c0 c1 c2 c3
 have HW:=Lib.hid hw0
 clear hw0 ho hl ih hm
 go_enter Tryz.func56,Tryz.ntmps56
 go_wp2_with fail
 rw [← HW.out]
 clear HW
 go_wp2_with fail
 clear c0 c1 c2 c3
 go_loopw [45] (fun iv wr => ∃ j : Nat,j≤m∧iv=.int .i64 (j : Int)∧Hid (∀ i (h : i < l.length),i < j→sndT l[i]=true)∧Hid (Below w.heap.size w wr)) (fun iv _ => m - (intOf iv).toNat)
 case atStart => exact ⟨0,Nat.zero_le _,rfl,Lib.hid (fun i _ h => absurd h (by omega)),HB⟩
 case round =>
  obtain ⟨j,hj,rfl,hS,hB⟩:=hrel
  by_cases hjm : j < m
  ·exact absurd hjm (by have:=HM.out; omega)
  ·have HALL : Hid (l.all sndT=true):=Lib.hid (by
    rw [List.all_eq_true]
    intro x hx
    obtain ⟨i,hi,rfl⟩:=List.getElem_of_mem hx
    exact hS.out i hi (by have:=HM.out; omega))
   go_wp2
   go_ret
   exact ⟨by rw [HALL.out]; rfl,hB.out⟩
theorem sound_loop2 (s : ByteArray) (l : List Tr) (o : Option Addr) (cap b off : Nat) (hm0 : l.length=0) (hlen : l.length≤1000000)
  (ih : ∀ x ∈ l,∀ (c0 c1 c2 c3 : Value) (w : World),VIn w x c0 c1 c2 c3→Calls Tryz.prog 56 #[.agg #[c0,c1,c2,c3]] w fun e w' => e=.returned (.bool (sndT x))∧Below w.heap.size w w')
  (w : World) (ho : 0 < l.length→o=some ⟨b,off,none⟩∧b < w.heap.size) (hl : VInL w b off l) :
  Calls Tryz.prog 56 #[.agg #[.int .i64 2,.int .u64 0,.string s,.slice o l.length cap]] w fun e w' => e=.returned (.bool (l.all sndT))∧Below w.heap.size w w':=by
 obtain ⟨m,hm⟩ : ∃ m,m=l.length:=⟨_,rfl⟩
 rw [← hm] at hlen ⊢
 have HM:=Lib.hid hm
 have HO:=Lib.hid ho
 have HL:=Lib.hid hl
 have IH:=Lib.hid ih
 have hm1 : ¬ (m : Int) > 0:=by omega
 obtain ⟨w0,hw0⟩ : ∃ w0,w0=w.alloc (.cells #[.int .i64 2,.int .u64 0,.string s,.slice o m cap] 69):=⟨_,rfl⟩
 have HB:=Lib.hid (show Below w.heap.size w w0 by rw [hw0]; exact alloc_below _ _)
 obtain ⟨c0,c1,c2,c3⟩:=four_new w (.int .i64 2) (.int .u64 0) (.string s) (.slice o m cap) 69
 rw [← hw0] at c0 c1 c2 c3
 have HW:=Lib.hid hw0
 clear hw0 ho hl ih hm
 go_enter Tryz.func56,Tryz.ntmps56
 go_wp2_with fail
 rw [← HW.out]
 clear HW
 go_wp2_with fail
 clear c0 c1 c2 c3
 go_loopw [45] (fun iv wr => ∃ j : Nat,j≤m∧iv=.int .i64 (j : Int)∧Hid (∀ i (h : i < l.length),i < j→sndT l[i]=true)∧Hid (Below w.heap.size w wr)) (fun iv _ => m - (intOf iv).toNat)
 case atStart => exact ⟨0,Nat.zero_le _,rfl,Lib.hid (fun i _ h => absurd h (by omega)),HB⟩
 case round =>
  obtain ⟨j,hj,rfl,hS,hB⟩:=hrel
  by_cases hjm : j < m
  ·exact absurd hjm (by have:=HM.out; omega)
  ·have HALL : Hid (l.all sndT=true):=Lib.hid (by
    rw [List.all_eq_true]
    intro x hx
    obtain ⟨i,hi,rfl⟩:=List.getElem_of_mem hx
    exact hS.out i hi (by have:=HM.out; omega))
   go_wp2
   go_ret
   exact ⟨by rw [HALL.out]; rfl,hB.out⟩
theorem sound_loop3 (s : ByteArray) (l : List Tr) (o : Option Addr) (cap b off : Nat) (hs : s.size=0) (hlen : l.length≤1000000)
  (ih : ∀ x ∈ l,∀ (c0 c1 c2 c3 : Value) (w : World),VIn w x c0 c1 c2 c3→Calls Tryz.prog 56 #[.agg #[c0,c1,c2,c3]] w fun e w' => e=.returned (.bool (sndT x))∧Below w.heap.size w w')
  (w : World) (ho : 0 < l.length→o=some ⟨b,off,none⟩∧b < w.heap.size) (hl : VInL w b off l) :
  Calls Tryz.prog 56 #[.agg #[.int .i64 3,.int .u64 0,.string s,.slice o l.length cap]] w fun e w' => e=.returned (.bool (l.all sndT))∧Below w.heap.size w w':=by
 obtain ⟨m,hm⟩ : ∃ m,m=l.length:=⟨_,rfl⟩
 rw [← hm] at hlen ⊢
 have HM:=Lib.hid hm
 have HO:=Lib.hid ho
 have HL:=Lib.hid hl
 have IH:=Lib.hid ih
 have hs1:=empty_yes s hs
 have hs2 : (!s.toList.isEmpty)=false:=by rw [hs1]; rfl
 obtain ⟨w0,hw0⟩ : ∃ w0,w0=w.alloc (.cells #[.int .i64 3,.int .u64 0,.string s,.slice o m cap] 69):=⟨_,rfl⟩
 have HB:=Lib.hid (show Below w.heap.size w w0 by rw [hw0]; exact alloc_below _ _)
 obtain ⟨c0,c1,c2,c3⟩:=four_new w (.int .i64 3) (.int .u64 0) (.string s) (.slice o m cap) 69
 rw [← hw0] at c0 c1 c2 c3
 have HW:=Lib.hid hw0
 clear hw0 ho hl ih hm
 go_enter Tryz.func56,Tryz.ntmps56
 go_wp2_with fail
 rw [← HW.out]
 clear HW
 go_wp2_with fail
 clear c0 c1 c2 c3
 go_loopw [45] (fun iv wr => ∃ j : Nat,j≤m∧iv=.int .i64 (j : Int)∧Hid (∀ i (h : i < l.length),i < j→sndT l[i]=true)∧Hid (Below w.heap.size w wr)) (fun iv _ => m - (intOf iv).toNat)
 case atStart => exact ⟨0,Nat.zero_le _,rfl,Lib.hid (fun i _ h => absurd h (by omega)),HB⟩
 case round =>
  obtain ⟨j,hj,rfl,hS,hB⟩:=hrel
  by_cases hjm : j < m
  ·have hjl : j < l.length:=by rw [← HM.out]; exact hjm
   obtain ⟨ho',hb'⟩:=HO.out (by omega)
   subst ho'
   obtain ⟨d0,d1,d2,d3,e0,e1,e2,e3,hv⟩:=HL.out.at j hjl
   obtain ⟨k',n',s',o',len',cap',rfl,rfl,rfl,rfl⟩:=hv.cells
   have f0:=(hB.out.cell (p:=⟨b,_,none⟩) hb').trans e0
   have f1:=(hB.out.cell (p:=⟨b,_,none⟩) hb').trans e1
   have f2:=(hB.out.cell (p:=⟨b,_,none⟩) hb').trans e2
   have f3:=(hB.out.cell (p:=⟨b,_,none⟩) hb').trans e3
   have hst:=store27 wr k' n' s' o' len' cap'
   have HV:=Lib.hid hv
   clear e0 e1 e2 e3 hv
   go_wp2_with fail
   obtain ⟨wa,hwa⟩ : ∃ wa,wa=wr.alloc (.cells #[.int .i64 k',.int .u64 (n' : Int),.string s',.slice o' len' cap'] 69):=⟨_,rfl⟩
   rw [← hwa]
   have HBA:=Lib.hid (hB.out.trans ((show Below wr.heap.size wr wa by rw [hwa]; exact alloc_below _ _).mono hB.out.size))
   clear hwa f0 f1 f2 f3 hst
   refine (IH.out l[j] (List.getElem_mem hjl) _ _ _ _ wa (HV.out.later HBA.out)).mono ?_
   rintro r w5 ⟨rfl,hb5⟩
   have HB5:=Lib.hid (HBA.out.trans (hb5.mono HBA.out.size))
   clear hb5
   have HSJ:=Lib.hid (show sndT l[j]=sndT l[j] from rfl)
   by_cases hs : sndT l[j]=true
   ·have HSS:=Lib.hid hs
    rw [hs]
    clear hs HSJ
    go_wp2
    go_roundw
    case rel =>
     refine ⟨j+1,by omega,by go_num,Lib.hid (fun i h hi => ?_),HB5⟩
     by_cases hij : i=j
     ·subst hij; exact HSS.out
     ·exact hS.out i h (by omega)
    case measure => simp [intOf]; omega
   ·have hs' : sndT l[j]=false:=by simpa using hs
    have HALL : Hid (l.all sndT=false):=Lib.hid (by
     rw [List.all_eq_false]
     exact ⟨l[j],List.getElem_mem hjl,by rw [hs']; simp⟩)
    rw [hs']
    clear hs hs' HSJ
    go_wp2
    go_ret
    exact ⟨by rw [HALL.out]; rfl,HB5.out⟩
  ·have HALL : Hid (l.all sndT=true):=Lib.hid (by
    rw [List.all_eq_true]
    intro x hx
    obtain ⟨i,hi,rfl⟩:=List.getElem_of_mem hx
    exact hS.out i hi (by have:=HM.out; omega))
   go_wp2
   go_ret
   exact ⟨by rw [HALL.out]; rfl,hB.out⟩
theorem sound_any : ∀ (t : Tr) (c0 c1 c2 c3 : Value) (w : World),VIn w t c0 c1 c2 c3→Calls Tryz.prog 56 #[.agg #[c0,c1,c2,c3]] w fun e w' => e=.returned (.bool (sndT t))∧Below w.heap.size w w':=by
 refine Tr.ind ?_
 intro k n s l ih c0 c1 c2 c3 w h
 unfold VIn at h
 obtain ⟨rfl,rfl,hn,rfl,⟨_,hlen⟩,o,cap,b,off,rfl,ho,hl⟩:=h
 unfold sndT
 rw [sndL_all]
 by_cases hk : k < 1∨3 < k
 ·rw [show decide (1≤k∧k≤3)=false by simp; omega]
  simpa using sound_kind k n s o l.length cap hk w
 ·rw [show decide (1≤k∧k≤3)=true by simp; omega]
  rcases (show k=1∨k=2∨k=3 by omega) with rfl | rfl | rfl
  ·by_cases hs : s.size=0
   ·by_cases hm : l.length=0
    ·simpa [hs,hm] using sound_loop1 n s l o cap b off hs hm hlen ih w ho hl
    ·simpa [hs,hm] using sound_one_list n s o l.length cap hs (by omega) w
   ·simpa [hs] using sound_one_text n s o l.length cap (by omega) w
  ·by_cases hn0 : n=0
   ·by_cases hm : l.length=0
    ·simpa [hn0,hm] using sound_loop2 s l o cap b off hm hlen ih w ho hl
    ·simpa [hn0,hm] using sound_two_list n s o l.length cap hn0 (by omega) w
   ·simpa [hn0] using sound_two_num n s o l.length cap hn0 w
  ·by_cases hn0 : n=0
   ·by_cases hs : s.size=0
    ·simpa [hn0,hs] using sound_loop3 s l o cap b off hs hlen ih w ho hl
    ·simpa [hn0,hs] using sound_three_text n s o l.length cap hn0 (by omega) w
   ·simpa [hn0] using sound_three_num n s o l.length cap hn0 w
end Go.Proofs.YtjfjliobencppaaGreatDoor

set_option maxHeartbeats 1000000
namespace Go.Proofs.YtjfjliobencppaaGreatDoor
open Go.RowKit
theorem deepL_le : ∀ (l : List Tr) (N : Nat),deepL l≤N→∀ x ∈ l,deepT x≤N
 | [],_,_,x,hx => by simp at hx
 | t::ts,N,h,x,hx => by
  unfold deepL at h
  rcases List.mem_cons.1 hx with rfl | hx
  ·omega
  ·exact deepL_le ts N (by omega) x hx
def deepP (l : List Tr) (j : Nat) : Nat:=(l.take j).foldl (fun a t => max a (deepT t)) 0
theorem deepP_succ (l : List Tr) (j : Nat) (h : j < l.length) : deepP l (j+1)=max (deepP l j) (deepT l[j]):=by
 unfold deepP
 rw [List.take_succ_eq_append_getElem h,List.foldl_append]
 rfl
theorem deep_fold : ∀ (l : List Tr) (a : Nat),l.foldl (fun a t => max a (deepT t)) a=max a (deepL l)
 | [],a => by unfold deepL; simp
 | t::ts,a => by
  rw [List.foldl_cons,deep_fold ts]
  conv => rhs; unfold deepL
  omega
theorem deepP_all (l : List Tr) : deepP l l.length=deepL l:=by
 unfold deepP
 rw [List.take_length,deep_fold]; omega
theorem deepP_le (l : List Tr) (j : Nat) : deepP l j≤deepL l:=by
 rw [← deepP_all]
 have gen : ∀ (l : List Tr) (j a b : Nat),a≤b→(l.take j).foldl (fun a t => max a (deepT t)) a≤l.foldl (fun a t => max a (deepT t)) b:=by
  intro l
  induction l with
  | nil => intro j a b hab; simpa using hab
  | cons t ts ih =>
   intro j a b hab
   match j with
   | 0 => rw [List.take_zero,List.foldl_nil,deep_fold]; omega
   | j+1 => rw [List.take_succ_cons,List.foldl_cons,List.foldl_cons]; exact ih j _ _ (by omega)
 unfold deepP
 rw [List.take_length]
 exact gen l j 0 0 (Nat.le_refl _)
theorem deep_no (k : Int) (n : Int) (s : ByteArray) (o : Option Addr) (m cap : Nat) (hk : k≠3) (w : World) :
  Calls Tryz.prog 57 #[.agg #[.int .i64 k,.int .u64 n,.string s,.slice o m cap]] w fun e w' => e=.returned (.int .i64 0)∧Below w.heap.size w w':=by
 obtain ⟨c0,c1,c2,c3⟩:=four_new w (.int .i64 k) (.int .u64 n) (.string s) (.slice o m cap) 69
 have hk2 : (k != 3)=true:=by rw [bne_iff_ne]; exact hk
 go_enter Tryz.func57,Tryz.ntmps57
 go_wp2
 go_ret
 exact ⟨rfl,(Below.refl _ _).alloc (Nat.le_refl _) _⟩
theorem deep_yes (n : Nat) (s : ByteArray) (l : List Tr) (o : Option Addr) (cap b off : Nat) (hlen : l.length≤1000000) (hd : deepL l≤1000000000)
  (ih : ∀ x ∈ l,∀ (c0 c1 c2 c3 : Value) (w : World),VIn w x c0 c1 c2 c3→Calls Tryz.prog 57 #[.agg #[c0,c1,c2,c3]] w fun e w' => e=.returned (.int .i64 (deepT x : Nat))∧Below w.heap.size w w')
  (w : World) (ho : 0 < l.length→o=some ⟨b,off,none⟩∧b < w.heap.size) (hl : VInL w b off l) :
  Calls Tryz.prog 57 #[.agg #[.int .i64 3,.int .u64 (n : Int),.string s,.slice o l.length cap]] w fun e w' => e=.returned (.int .i64 (deepL l+1 : Nat))∧Below w.heap.size w w':=by
 obtain ⟨m,hm⟩ : ∃ m,m=l.length:=⟨_,rfl⟩
 have HDA:=Lib.hid (deepP_all l)
 have HDL:=Lib.hid (fun j => Nat.le_trans (deepP_le l j) hd)
 obtain ⟨D,hD⟩ : ∃ D,D=deepL l:=⟨_,rfl⟩
 rw [← hD] at HDA hd ⊢
 rw [← hm] at hlen ⊢
 have HM:=Lib.hid hm
 have HO:=Lib.hid ho
 have HL:=Lib.hid hl
 have IH:=Lib.hid ih
 have HDD:=Lib.hid hD
 obtain ⟨w0,hw0⟩ : ∃ w0,w0=w.alloc (.cells #[.int .i64 3,.int .u64 (n : Int),.string s,.slice o m cap] 69):=⟨_,rfl⟩
 have HB:=Lib.hid (show Below w.heap.size w w0 by rw [hw0]; exact alloc_below _ _)
 have HW:=Lib.hid hw0
 clear hw0 ho hl ih hm hD
 go_enter Tryz.func57,Tryz.ntmps57
 go_wp2_with fail
 rw [← HW.out]
 clear HW
 go_loopw [3,12] (fun mv iv wr => ∃ j : Nat,j≤m∧iv=.int .i64 (j : Int)∧mv=.int .i64 (deepP l j : Nat)∧Hid (Below w.heap.size w wr)) (fun _ iv _ => m - (intOf iv).toNat)
 case atStart => exact ⟨0,Nat.zero_le _,rfl,rfl,HB⟩
 case round =>
  obtain ⟨j,hj,rfl,rfl,hB⟩:=hrel
  by_cases hjm : j < m
  ·have hjl : j < l.length:=by rw [← HM.out]; exact hjm
   obtain ⟨ho',hb'⟩:=HO.out (by omega)
   subst ho'
   obtain ⟨d0,d1,d2,d3,e0,e1,e2,e3,hv⟩:=HL.out.at j hjl
   obtain ⟨k',n',s',o',len',cap',rfl,rfl,rfl,rfl⟩:=hv.cells
   have f0:=(hB.out.cell (p:=⟨b,_,none⟩) hb').trans e0
   have f1:=(hB.out.cell (p:=⟨b,_,none⟩) hb').trans e1
   have f2:=(hB.out.cell (p:=⟨b,_,none⟩) hb').trans e2
   have f3:=(hB.out.cell (p:=⟨b,_,none⟩) hb').trans e3
   have hst:=store27 wr k' n' s' o' len' cap'
   have HV:=Lib.hid hv
   have HSU:=Lib.hid (deepP_succ l j hjl)
   obtain ⟨p,hp⟩ : ∃ p,p=deepP l j:=⟨_,rfl⟩
   rw [← hp]
   have HP:=Lib.hid hp
   clear e0 e1 e2 e3 hv hp
   go_wp2_with fail
   obtain ⟨wa,hwa⟩ : ∃ wa,wa=wr.alloc (.cells #[.int .i64 k',.int .u64 (n' : Int),.string s',.slice o' len' cap'] 69):=⟨_,rfl⟩
   rw [← hwa]
   have HBA:=Lib.hid (hB.out.trans ((show Below wr.heap.size wr wa by rw [hwa]; exact alloc_below _ _).mono hB.out.size))
   clear hwa f0 f1 f2 f3 hst
   refine (IH.out l[j] (List.getElem_mem hjl) _ _ _ _ wa (HV.out.later HBA.out)).mono ?_
   rintro r w5 ⟨rfl,hb5⟩
   have HB5:=Lib.hid (HBA.out.trans (hb5.mono HBA.out.size))
   clear hb5
   obtain ⟨q,hq⟩ : ∃ q,q=deepT l[j]:=⟨_,rfl⟩
   rw [← hq]
   have HQ:=Lib.hid hq
   clear hq
   go_wp2
   go_roundw
   case rel => exact ⟨j+1,by omega,by go_num,by rw [HSU.out,← HP.out,← HQ.out]; congr 1; omega,HB5⟩
   case measure => simp [intOf]; omega
  ·have ejm : j=l.length:=by rw [← HM.out]; omega
   have hpd : deepP l j=D:=by rw [ejm]; exact HDA.out
   rw [hpd]
   clear hpd ejm
   go_wp2
   go_ret
   exact ⟨by congr 2 <;> omega,hB.out⟩
theorem deep_any : ∀ (t : Tr) (c0 c1 c2 c3 : Value) (w : World),deepT t≤1000000000→VIn w t c0 c1 c2 c3→Calls Tryz.prog 57 #[.agg #[c0,c1,c2,c3]] w fun e w' => e=.returned (.int .i64 (deepT t : Nat))∧Below w.heap.size w w':=by
 refine Tr.ind ?_
 intro k n s l ih c0 c1 c2 c3 w hd h
 unfold VIn at h
 obtain ⟨rfl,rfl,hn,rfl,⟨_,hlen⟩,o,cap,b,off,rfl,ho,hl⟩:=h
 unfold deepT at hd ⊢
 by_cases hk : k=3
 ·subst hk
  rw [if_pos rfl] at hd ⊢
  exact deep_yes n s l o cap b off hlen (by omega) (fun x hx c0 c1 c2 c3 w hv => ih x hx c0 c1 c2 c3 w (deepL_le l _ (by omega) x hx) hv) w ho hl
 ·rw [if_neg hk]
  exact deep_no k n s o l.length cap hk w
end Go.Proofs.YtjfjliobencppaaGreatDoor
