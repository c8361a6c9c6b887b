/- config: the document's Bytes.; config: the law's ports.; config: reading: a value of a kind.; config: reading: the values of a list.; config: reading: a weight.; spot.Of.; word.Get of two bytes, walked. -/
import Derived.Test.YtjfjliobencppaaGreatDoorR30
import Derived.Test.YtjfjliobencppaaGreatDoorR31
import Derived.Laws.OwnMore
import Derived.Test.YtjfjliobencppaaGreatDoorR27
import Derived.Laws.IdiomCopy
import Derived.Test.YtjfjliobencppaaGreatDoorR24
import Derived.Laws.BitsAllLaws
set_option linter.unusedVariables false
set_option linter.unusedSimpArgs false
namespace Go.Proofs.YtjfjliobencppaaGreatDoor.Cf
open Go.RowKit
end Go.Proofs.YtjfjliobencppaaGreatDoor.Cf

namespace Go.Proofs.YtjfjliobencppaaGreatDoor.Cf
open Go.RowKit
def Ls.bad (l : Ls) : Bool:=decide (l.p.port=0)
def Ep.bad (e : Ep) : Bool:=decide (e.p.port=0) || decide (2147483648≤e.w)
def Cl.bad (c : Cl) : Bool:=c.e.any Ep.bad
def Co.ports (c : Co) : Bool:=!(c.l.any Ls.bad || c.c.any Cl.bad)
end Go.Proofs.YtjfjliobencppaaGreatDoor.Cf

set_option maxRecDepth 100000
set_option maxHeartbeats 4000000
namespace Go.Proofs.YtjfjliobencppaaGreatDoor.Cf
open Go.RowKit
def Tr.tk : Tr→Int | .mk k _ _ _ => k
def Tr.tn : Tr→Nat | .mk _ n _ _ => n
def Tr.ts : Tr→ByteArray | .mk _ _ s _ => s
def Tr.tl : Tr→List Tr | .mk _ _ _ l => l
def Zt : Tr:=.mk 0 0 ⟨#[]⟩ []
def ofT (k : Int) (t : Tr) : Tr:=if Tr.tk t=k then t else Zt
def Rd (R : Nat) (b : Bool) (w w' : World) : Prop:=Bk w' R #[.bool b] 90∧Chg R none w w'
theorem vin_zero (w : World) (P : Nat→Prop) : VInP w P Zt (.int .i64 0) (.int .u64 0) (.string ⟨#[]⟩) (.slice none 0 0):=by
 unfold Zt VInP
 exact ⟨rfl,rfl,by omega,rfl,⟨by simp [ByteArray.size],by simp⟩,none,0,0,0,rfl,fun h => absurd h (by simp),by unfold VInPL; trivial⟩
theorem chg_vin {R : Nat} {w w' : World} (h : Chg R none w w') {t : Tr} {c0 c1 c2 c3 : Value} (hv : VInP w (fun b => b≠R) t c0 c1 c2 c3) : VInP w' (fun b => b≠R) t c0 c1 c2 c3:=VInP.keep h.2.2.2.1 (fun b hb hP => ⟨h.2.2.2.2 b hb hP (by simp),hP⟩) _ hv
theorem chg_then {R : Nat} {w w' w'' : World} (h : Chg R none w w') (h2 : Chg R none w' w'') : Chg R none w w'':=h.trans (Or.inl rfl) h2
theorem chg_put {R : Nat} {w w' : World} (h : Chg R none w w') (j : Nat) (u : Value) : Chg R none w (w'.setCell ⟨R,j,none⟩ u):=by
 obtain ⟨h1,h2,h3,h4,h5⟩:=h
 have hb:=(Below.refl R w').setCell (p:=⟨R,j,none⟩) (Nat.le_refl R) u
 exact ⟨hb.os.trans h1,hb.tape.trans h2,hb.output.trans h3,by simpa using h4,fun k hk hg hr => (heap_setCell_other _ ⟨R,j,none⟩ k _ hg).trans (h5 k hk hg hr)⟩
theorem bk1 {w : World} {g : Nat} {a0 : Value} {T : TypeId} (h : Bk w g #[a0] T) : w.cell? ⟨g,0,none⟩=some a0∧w.frozen? ⟨g,0,none⟩=false:=⟨(cell_of_row _ _ 0 _ _ _ h).trans rfl,frozen_of_row w g 0 _ _ h⟩
theorem of_any (R : Nat) (b : Bool) (k : Int) (t : Tr) (c0 c1 c2 c3 : Value) (w : World) (hR : Bk w R #[.bool b] 90) (hv : VInP w (fun b => b≠R) t c0 c1 c2 c3) :
  Calls Tryz.prog 109 #[.pointer (some ⟨R,0,none⟩),.int .i64 k,.agg #[c0,c1,c2,c3]] w fun e w' => (∃ d0 d1 d2 d3,e=.returned (.agg #[d0,d1,d2,d3])∧VInP w' (fun b => b≠R) (ofT k t) d0 d1 d2 d3)∧Rd R (b || decide (Tr.tk t≠k)) w w':=by
 obtain ⟨k',n,s,l⟩:=t
 have HV:=Lib.hid hv
 have HR:=Lib.hid hR
 have hlt:=lt_of_heap hR
 unfold VInP at hv
 obtain ⟨rfl,rfl,_,rfl,_,o,cap,_,_,rfl,_⟩:=hv
 clear hR
 by_cases hk : k'=k
 ·subst hk
  have HB:=Lib.hid (show Below w.heap.size w ((w.alloc (.cells #[.int .i64 k',.int .u64 (n : Int),.string s,.slice o l.length cap] 69)).alloc (.cells #[.int .i64 k',.int .u64 (n : Int),.string s,.slice o l.length cap] 69)) from (alloc_below _ _).trans ((alloc_below _ _).mono (by simp)))
  have HO : Hid (ofT k' (.mk k' n s l)=.mk k' n s l):=Lib.hid (by unfold ofT Tr.tk; simp)
  have HT : Hid ((b || decide (Tr.tk (.mk k' n s l)≠k'))=b):=Lib.hid (by unfold Tr.tk; simp)
  go_enter Tryz.func109,Tryz.ntmps109
  go_wp2
  refine bodyPost_ret (v:=.agg #[.int .i64 k',.int .u64 (n : Int),.string s,.slice o l.length cap]) (by simp [results,Tryz.results109,go_sem, *]) rfl ⟨⟨_,_,_,_,rfl,?_⟩,?_⟩
  ·rw [HO.out]
   exact chg_vin (Chg.of_below HB.out) HV.out
  ·rw [HT.out]
   exact ⟨HR.out.later HB.out,Chg.of_below HB.out⟩
 ·have q1 : (k' != k)=true:=by simpa using hk
  have q2 : ¬ k'=k:=hk
  have HB:=Lib.hid (show Below (w.setCell ⟨R,0,none⟩ (.bool true)).heap.size (w.setCell ⟨R,0,none⟩ (.bool true)) (((w.setCell ⟨R,0,none⟩ (.bool true)).alloc (.cells #[.int .i64 k',.int .u64 (n : Int),.string s,.slice o l.length cap] 69)).alloc (.cells #[.int .i64 0,.int .u64 0,.string ⟨#[]⟩,.slice none 0 0] 69)) from (alloc_below _ _).trans ((alloc_below _ _).mono (by simp)))
  have HO : Hid (ofT k (.mk k' n s l)=Zt):=Lib.hid (by unfold ofT Tr.tk; simp [hk])
  have HT : Hid ((b || decide (Tr.tk (.mk k' n s l)≠k))=true):=Lib.hid (by unfold Tr.tk; simp [hk])
  obtain ⟨y0,z0⟩:=bk1 ((HR.out.later (alloc_below w (.cells #[.int .i64 k',.int .u64 (n : Int),.string s,.slice o l.length cap] 69))).later (alloc_below _ (.cells #[.int .i64 0,.int .u64 0,.string ⟨#[]⟩,.slice none 0 0] 69)))
  go_enter Tryz.func109,Tryz.ntmps109
  go_wp2
  refine bodyPost_ret (v:=.agg #[.int .i64 0,.int .u64 0,.string ⟨#[]⟩,.slice none 0 0]) (by simp [results,Tryz.results109,go_sem, *]) rfl ⟨⟨_,_,_,_,rfl,?_⟩,?_⟩
  ·rw [HO.out]
   exact vin_zero _ _
  ·rw [HT.out]
   exact ⟨(HR.out.set (i:=0) (.bool true)).later HB.out,chg_then (chg_put (Chg.refl R none w) 0 (.bool true)) (Chg.of_below HB.out)⟩
def numR (t : Tr) : Nat:=Tr.tn (ofT 1 t)
def txtR (t : Tr) : ByteArray:=Tr.ts (ofT 2 t)
theorem number_any (R : Nat) (b : Bool) (t : Tr) (c0 c1 c2 c3 : Value) (w : World) (hR : Bk w R #[.bool b] 90) (hv : VInP w (fun b => b≠R) t c0 c1 c2 c3) :
  Calls Tryz.prog 73 #[.pointer (some ⟨R,0,none⟩),.agg #[c0,c1,c2,c3]] w fun e w' => e=.returned (.int .u64 (numR t : Int))∧Rd R (b || decide (Tr.tk t≠1)) w w':=by
 have KO:=Lib.hid (fun W h1 h2 => of_any R b 1 t c0 c1 c2 c3 W h1 h2)
 have HC:=Lib.hid (alloc_below w (.cells #[c0,c1,c2,c3] 69))
 have HR:=Lib.hid (hR.later HC.out)
 have HV:=Lib.hid (chg_vin (Chg.of_below (g:=R) (ρ:=none) HC.out) hv)
 obtain ⟨k,n,s,o,len,cap,rfl,rfl,rfl,rfl⟩:=hv.cells
 clear hR hv
 go_enter Tryz.func73,Tryz.ntmps73
 go_wp2_with fail
 refine (KO.out _ HR.out HV.out).mono ?_
 rintro e w1 ⟨⟨d0,d1,d2,d3,rfl,hv1⟩,hr1⟩
 have HD:=Lib.hid (show Rd R _ w w1 from ⟨hr1.1,chg_then (Chg.of_below HC.out) hr1.2⟩)
 have HN : Hid (d1=.int .u64 (numR t : Int)):=Lib.hid (by
  unfold numR
  generalize ofT 1 t=u at hv1
  obtain ⟨ku,nu,su,lu⟩:=u
  unfold VInP at hv1
  exact hv1.2.1)
 obtain ⟨_,_,_,_,_,_,rfl,rfl,rfl,rfl⟩:=hv1.cells
 clear hv1 hr1
 have hfd : ∀ (y x : Int) (s' : ByteArray) (o' : Option Addr) (l' p' : Nat) (W : World),(Instr.field 69 (.agg #[.int .i64 y,.int .u64 x,.string s',.slice o' l' p']) 1).run Tryz.prog W=.ok (.int .u64 x) W:=fun _ _ _ _ _ _ _ => by kernel_rfl
 go_wp2
 refine bodyPost_ret (v:=.int .u64 (numR t : Int)) (by simp [results,Tryz.results73,go_sem,← HN.out]) rfl ⟨rfl,HD.out⟩
theorem text_any' (R : Nat) (b : Bool) (t : Tr) (c0 c1 c2 c3 : Value) (w : World) (hR : Bk w R #[.bool b] 90) (hv : VInP w (fun b => b≠R) t c0 c1 c2 c3) :
  Calls Tryz.prog 111 #[.pointer (some ⟨R,0,none⟩),.agg #[c0,c1,c2,c3]] w fun e w' => e=.returned (.string (txtR t))∧Rd R (b || decide (Tr.tk t≠2)) w w':=by
 have KO:=Lib.hid (fun W h1 h2 => of_any R b 2 t c0 c1 c2 c3 W h1 h2)
 have HC:=Lib.hid (alloc_below w (.cells #[c0,c1,c2,c3] 69))
 have HR:=Lib.hid (hR.later HC.out)
 have HV:=Lib.hid (chg_vin (Chg.of_below (g:=R) (ρ:=none) HC.out) hv)
 obtain ⟨k,n,s,o,len,cap,rfl,rfl,rfl,rfl⟩:=hv.cells
 clear hR hv
 go_enter Tryz.func111,Tryz.ntmps111
 go_wp2_with fail
 refine (KO.out _ HR.out HV.out).mono ?_
 rintro e w1 ⟨⟨d0,d1,d2,d3,rfl,hv1⟩,hr1⟩
 have HD:=Lib.hid (show Rd R _ w w1 from ⟨hr1.1,chg_then (Chg.of_below HC.out) hr1.2⟩)
 have HN : Hid (d2=.string (txtR t)):=Lib.hid (by
  unfold txtR
  generalize ofT 2 t=u at hv1
  obtain ⟨ku,nu,su,lu⟩:=u
  unfold VInP at hv1
  exact hv1.2.2.2.1)
 obtain ⟨_,_,_,_,_,_,rfl,rfl,rfl,rfl⟩:=hv1.cells
 clear hv1 hr1
 have hfd : ∀ (y x : Int) (s' : ByteArray) (o' : Option Addr) (l' p' : Nat) (W : World),(Instr.field 69 (.agg #[.int .i64 y,.int .u64 x,.string s',.slice o' l' p']) 2).run Tryz.prog W=.ok (.string s') W:=fun _ _ _ _ _ _ _ => by kernel_rfl
 go_wp2
 refine bodyPost_ret (v:=.string (txtR t)) (by simp [results,Tryz.results111,go_sem,← HN.out]) rfl ⟨rfl,HD.out⟩
end Go.Proofs.YtjfjliobencppaaGreatDoor.Cf

set_option maxRecDepth 100000
set_option maxHeartbeats 4000000
namespace Go.Proofs.YtjfjliobencppaaGreatDoor.Cf
open Go.RowKit
theorem zero_at (n : Nat) (hn : n=2∨n=3∨n=4) (i : Nat) (h : i < n) : (madeCells #[.int .i64 0,.int .u64 0,.string ⟨#[]⟩,.slice none 0 0] (n * 4)).toList[i * 4]?=some (.int .i64 0)∧(madeCells #[.int .i64 0,.int .u64 0,.string ⟨#[]⟩,.slice none 0 0] (n * 4)).toList[i * 4+1]?=some (.int .u64 0)∧(madeCells #[.int .i64 0,.int .u64 0,.string ⟨#[]⟩,.slice none 0 0] (n * 4)).toList[i * 4+2]?=some (.string ⟨#[]⟩)∧(madeCells #[.int .i64 0,.int .u64 0,.string ⟨#[]⟩,.slice none 0 0] (n * 4)).toList[i * 4+3]?=some (.slice none 0 0):=by
 rcases hn with rfl | rfl | rfl
 ·obtain rfl | rfl : i=0∨i=1:=by omega
  all_goals exact ⟨by kernel_rfl,by kernel_rfl,by kernel_rfl,by kernel_rfl⟩
 ·obtain rfl | rfl | rfl : i=0∨i=1∨i=2:=by omega
  all_goals exact ⟨by kernel_rfl,by kernel_rfl,by kernel_rfl,by kernel_rfl⟩
 ·obtain rfl | rfl | rfl | rfl : i=0∨i=1∨i=2∨i=3:=by omega
  all_goals exact ⟨by kernel_rfl,by kernel_rfl,by kernel_rfl,by kernel_rfl⟩
theorem made_zero (n R : Nat) (hn : n=2∨n=3∨n=4) (w : World) (hR : R < w.heap.size) : ∃ w',(Instr.makeSlice 67 (.int .i64 (n : Int)) (.int .i64 (n : Int))).run Tryz.prog w=.ok (.slice (some ⟨w.heap.size,0,none⟩) n n) w'∧w.heap.size < w'.heap.size∧VInPL w' (fun b => b≠R) w.heap.size 0 (List.replicate n Zt)∧Below w.heap.size w w':=by
 obtain ⟨i,hi,hz,hsz,hby⟩:=info_parts info27
 obtain ⟨w',hr,hown,hg⟩:=run_makeSlice_full (P:=Tryz.prog) w w.heap.size 67 69 i _ 4 (by kernel_rfl) hi hz hsz .i64 .i64 n (by omega) (by rw [hby]; omega) (by unfold maxLen; omega) (Nat.le_refl _)
 have hcell : ∀ j u,(madeCells #[.int .i64 0,.int .u64 0,.string ⟨#[]⟩,.slice none 0 0] (n * 4)).toList[j]?=some u→w'.cell? ⟨w.heap.size,j,none⟩=some u:=by
  rcases hown.2 with ⟨h,_⟩ | ⟨g,cap,cur,h,_,hg,_,_,_,htk⟩
  ·cases h
  ·cases h
   intro j u hj
   rw [cell_of_row _ _ _ _ _ _ hg,← Array.getElem?_toList]
   have h2:=congrArg (fun x => x[j]?) htk
   simp only [List.getElem?_take] at h2
   have hlt : j < n * 4:=by
    have h3:=(List.getElem?_eq_some_iff.1 hj).1
    have h4:=hown.1
    exact Nat.lt_of_lt_of_le h3 (Nat.le_of_eq h4)
   rw [if_pos hlt] at h2
   rw [h2]
   exact hj
 have hlt : w.heap.size < w'.heap.size:=World.block_lt_of_cell? w' _ (hcell 0 _ (zero_at n hn 0 (by omega)).1)
 refine ⟨w',hr,hlt,VInPL.of (fun k hk => ?_),⟨hg.os,hg.tape,hg.output,hg.size,fun b hb => hg.block b hb (by simp)⟩⟩
 have hk' : k < n:=by simpa using hk
 obtain ⟨z0,z1,z2,z3⟩:=zero_at n hn k hk'
 rw [List.getElem_replicate,Nat.zero_add]
 exact ⟨_,_,_,_,hcell _ _ z0,hcell _ _ z1,hcell _ _ z2,hcell _ _ z3,vin_zero _ _⟩
def fldT (n : Nat) (t : Tr) : List Tr:=if (Tr.tl (ofT 3 t)).length=n then Tr.tl (ofT 3 t) else List.replicate n Zt
def FldP (R n : Nat) (b : Bool) (t : Tr) (w : World) (e : Ending) (w' : World) : Prop :=
 (∃ (o : Option Addr) (cap g off : Nat),e=.returned (.slice o n cap)∧(0 < n→o=some ⟨g,off,none⟩∧g < w'.heap.size∧g≠R)∧VInPL w' (fun b => b≠R) g off (fldT n t))∧Rd R (b || decide (Tr.tk t≠3) || decide ((Tr.tl (ofT 3 t)).length≠n)) w w'
theorem fields_any (R n : Nat) (b : Bool) (t : Tr) (c0 c1 c2 c3 : Value) (w : World) (hn : n=2∨n=3∨n=4) (hR : Bk w R #[.bool b] 90) (hv : VInP w (fun b => b≠R) t c0 c1 c2 c3) :
  Calls Tryz.prog 72 #[.pointer (some ⟨R,0,none⟩),.agg #[c0,c1,c2,c3],.int .i64 (n : Int)] w (FldP R n b t w):=by
 have KO:=Lib.hid (fun W h1 h2 => of_any R b 3 t c0 c1 c2 c3 W h1 h2)
 have HC:=Lib.hid (alloc_below w (.cells #[c0,c1,c2,c3] 69))
 have HR:=Lib.hid (hR.later HC.out)
 have HV:=Lib.hid (chg_vin (Chg.of_below (g:=R) (ρ:=none) HC.out) hv)
 have hlt:=lt_of_heap hR
 obtain ⟨k,m,s,o,len,cap,rfl,rfl,rfl,rfl⟩:=hv.cells
 clear hR hv
 go_enter Tryz.func72,Tryz.ntmps72
 go_wp2_with fail
 refine (KO.out _ HR.out HV.out).mono ?_
 rintro e w1 ⟨⟨d0,d1,d2,d3,rfl,hv1⟩,hr1⟩
 have HD:=Lib.hid (show Rd R _ w w1 from ⟨hr1.1,chg_then (Chg.of_below HC.out) hr1.2⟩)
 have HL : Hid (∃ (o2 : Option Addr) (cap2 g off : Nat),d3=.slice o2 (Tr.tl (ofT 3 t)).length cap2∧(0 < (Tr.tl (ofT 3 t)).length→o2=some ⟨g,off,none⟩∧g < w1.heap.size∧g≠R)∧VInPL w1 (fun b => b≠R) g off (Tr.tl (ofT 3 t))∧(Tr.tl (ofT 3 t)).length≤1000000):=Lib.hid (by
  generalize ofT 3 t=u at hv1
  obtain ⟨ku,nu,su,lu⟩:=u
  unfold VInP at hv1
  obtain ⟨_,_,_,_,hz,o2,cap2,g,off,h3,h4,h5⟩:=hv1
  exact ⟨o2,cap2,g,off,h3,h4,h5,hz.2⟩)
 obtain ⟨_,_,_,_,_,_,rfl,rfl,rfl,hd3⟩:=hv1.cells
 obtain ⟨o2,cap2,g,off,hd,ho2,hl2,hz2⟩:=HL.out
 clear hd3
 subst hd
 have HO2:=Lib.hid ho2
 have HL2:=Lib.hid hl2
 clear hv1 hr1 HL ho2 hl2
 have hfd : ∀ (y x : Int) (s' : ByteArray) (o' : Option Addr) (l' p' : Nat) (W : World),(Instr.field 69 (.agg #[.int .i64 y,.int .u64 x,.string s',.slice o' l' p']) 3).run Tryz.prog W=.ok (.slice o' l' p') W:=fun _ _ _ _ _ _ _ => by kernel_rfl
 obtain ⟨L,hL⟩ : ∃ L,Tr.tl (ofT 3 t)=L:=⟨_,rfl⟩
 have HTL:=Lib.hid hL
 rw [hL] at HO2 HL2 hz2 ⊢
 clear hL
 by_cases hk : L.length=n
 ·have HF : Hid (fldT n t=L):=Lib.hid (by unfold fldT; rw [HTL.out,if_pos hk])
  have HT : Hid ((b || decide (Tr.tk t≠3) || decide ((Tr.tl (ofT 3 t)).length≠n))=(b || decide (Tr.tk t≠3))):=Lib.hid (by rw [HTL.out]; simp [hk])
  subst hk
  go_wp2
  refine bodyPost_ret (v:=.slice o2 L.length cap2) (by simp [results,Tryz.results72,go_sem, *]) rfl ⟨⟨o2,cap2,g,off,rfl,HO2.out,by rw [HF.out]; exact HL2.out⟩,by rw [HT.out]; exact HD.out⟩
 ·have q1 : ¬ (L.length : Int)=(n : Int):=by omega
  have q2 : ((L.length : Int) != (n : Int))=true:=by simpa using q1
  have hR1 : R < w1.heap.size:=lt_of_heap HD.out.1
  obtain ⟨w2,hmk,hsz2,hz2',hb2⟩:=made_zero n R hn (w1.setCell ⟨R,0,none⟩ (.bool true)) (by simpa using hR1)
  have HM:=Lib.hid hb2
  have HZ:=Lib.hid hz2'
  have HS:=Lib.hid hsz2
  have HF : Hid (fldT n t=List.replicate n Zt):=Lib.hid (by unfold fldT; rw [HTL.out,if_neg hk])
  have HT : Hid ((b || decide (Tr.tk t≠3) || decide ((Tr.tl (ofT 3 t)).length≠n))=true):=Lib.hid (by rw [HTL.out]; simp [hk])
  have HE : Hid (Rd R true w w2):=Lib.hid ⟨(HD.out.1.set (i:=0) (.bool true)).later hb2,chg_then (chg_put HD.out.2 0 (.bool true)) (Chg.of_below hb2)⟩
  have HNE : Hid ((w1.setCell ⟨R,0,none⟩ (.bool true)).heap.size≠R):=Lib.hid (by simp; omega)
  clear hb2 hz2' hsz2
  obtain ⟨y0,z0⟩:=bk1 HD.out.1
  have hss : (w1.setCell ⟨R,0,none⟩ (.bool true)).heap.size=w1.heap.size:=by simp
  rw [hss] at hmk HZ HS HNE
  go_wp2
  refine bodyPost_ret (v:=.slice (some ⟨w1.heap.size,0,none⟩) n n) (by simp [results,Tryz.results72,go_sem, *]) rfl ⟨⟨_,_,_,_,rfl,fun _ => ⟨rfl,HS.out,HNE.out⟩,by rw [HF.out]; exact HZ.out⟩,by rw [HT.out]; exact HE.out⟩
end Go.Proofs.YtjfjliobencppaaGreatDoor.Cf

set_option maxRecDepth 100000
set_option maxHeartbeats 4000000
namespace Go.Proofs.YtjfjliobencppaaGreatDoor.Cf
open Go.RowKit
def wgtR (t : Tr) : Nat:=if 2147483647 < numR t then 0 else numR t
theorem numR_le {w : World} {P : Nat→Prop} {t : Tr} {c0 c1 c2 c3 : Value} (hv : VInP w P t c0 c1 c2 c3) : numR t≤18446744073709551615:=by
 unfold numR ofT
 split
 ·obtain ⟨k,n,s,l⟩:=t
  unfold VInP at hv
  exact hv.2.2.1
 ·show (0 : Nat)≤_
  omega
theorem weight_any (R : Nat) (b : Bool) (t : Tr) (c0 c1 c2 c3 : Value) (w : World) (hR : Bk w R #[.bool b] 90) (hv : VInP w (fun b => b≠R) t c0 c1 c2 c3) :
  Calls Tryz.prog 131 #[.pointer (some ⟨R,0,none⟩),.agg #[c0,c1,c2,c3]] w fun e w' => e=.returned (.int .i64 (wgtR t : Int))∧Rd R (b || decide (Tr.tk t≠1) || decide (2147483647 < numR t)) w w':=by
 have KO:=Lib.hid (fun W h1 h2 => number_any R b t c0 c1 c2 c3 W h1 h2)
 have HC:=Lib.hid (alloc_below w (.cells #[c0,c1,c2,c3] 69))
 have HR:=Lib.hid (hR.later HC.out)
 have HV:=Lib.hid (chg_vin (Chg.of_below (g:=R) (ρ:=none) HC.out) hv)
 have HNL:=Lib.hid (numR_le hv)
 obtain ⟨k,n,s,o,len,cap,rfl,rfl,rfl,rfl⟩:=hv.cells
 clear hR hv
 go_enter Tryz.func131,Tryz.ntmps131
 go_wp2_with fail
 refine (KO.out _ HR.out HV.out).mono ?_
 rintro e w1 ⟨rfl,hr1⟩
 have HNL2:=Lib.hid HNL.out
 have HD:=Lib.hid (show Rd R _ w w1 from ⟨hr1.1,chg_then (Chg.of_below HC.out) hr1.2⟩)
 clear hr1
 have hnl : (numR t : Int)≤18446744073709551615:=by have:=HNL.out; omega
 by_cases hk : 2147483647 < numR t
 ·have q1 : (2147483647 : Int) < (numR t : Int):=by omega
  have HW : Hid (wgtR t=0):=Lib.hid (by unfold wgtR; rw [if_pos hk])
  have HT : Hid ((b || decide (Tr.tk t≠1) || decide (2147483647 < numR t))=true):=Lib.hid (by simp [hk])
  have HE : Hid (Rd R true w (w1.setCell ⟨R,0,none⟩ (.bool true))):=Lib.hid ⟨HD.out.1.set (i:=0) (.bool true),chg_put HD.out.2 0 (.bool true)⟩
  obtain ⟨y0,z0⟩:=bk1 HD.out.1
  go_wp2
  refine bodyPost_ret (v:=.int .i64 0) (by simp [results,Tryz.results131,go_sem, *]) rfl ⟨by rw [HW.out]; rfl,by rw [HT.out]; exact HE.out⟩
 ·have q1 : ¬ (2147483647 : Int) < (numR t : Int):=by omega
  have HW : Hid (wgtR t=numR t):=Lib.hid (by unfold wgtR; rw [if_neg hk])
  have HT : Hid ((b || decide (Tr.tk t≠1) || decide (2147483647 < numR t))=(b || decide (Tr.tk t≠1))):=Lib.hid (by simp [hk])
  have hwr : IntKind.i64.wrap (numR t : Int)=(numR t : Int):=by simp [IntKind.wrap,IntKind.bits,IntKind.signed]; omega
  go_wp2
  refine bodyPost_ret (v:=.int .i64 (numR t : Int)) (by simp [results,Tryz.results131,go_sem, *]) rfl ⟨by rw [HW.out],by rw [HT.out]; exact HD.out⟩
end Go.Proofs.YtjfjliobencppaaGreatDoor.Cf

namespace Go.Proofs.YtjfjliobencppaaGreatDoor.Sp
open Go.RowKit
def byt (s : ByteArray) (j : Nat) : Nat:=(s.data.toList.getD j 0).toNat
theorem byt_lt (s : ByteArray) (j : Nat) : byt s j < 256:=UInt8.toNat_lt _
def ofCs (s : ByteArray) : List Value:=[.int .u8 (byt s 0),.int .u8 (byt s 1),.int .u8 (byt s 2),.int .u8 (byt s 3)]
theorem six (s : ByteArray) (hs : s.size=6) : ∃ c0 c1 c2 c3 c4 c5,s=⟨#[c0,c1,c2,c3,c4,c5]⟩:=by
 obtain ⟨⟨l⟩⟩:=s
 match l,hs with
 | [c0,c1,c2,c3,c4,c5],_ => exact ⟨c0,c1,c2,c3,c4,c5,rfl⟩
theorem first_four (s : ByteArray) (hs : s.size=6) (w : World) : (Builtin.firstCells 1 4 (.string s)).run Tryz.prog w=.ok (ofCs s).toArray w:=by
 obtain ⟨c0,c1,c2,c3,c4,c5,rfl⟩:=six s hs
 simp [Builtin.firstCells,ofCs,byt,ByteArray.data_extract]
theorem of_copy (s : ByteArray) (hs : s.size=6) (w : World) : ∃ W1,(Builtin.copy_ #[113,9] 3 #[.slice (some ⟨w.heap.size+1,0,none⟩) 4 4,.string s]).run Tryz.prog ((w.alloc (.cells #[.int .u8 0,.int .u8 0,.int .u8 0,.int .u8 0,.int .u16 0] 49)).alloc (.cells #[.int .u8 0,.int .u8 0,.int .u8 0,.int .u8 0,.int .u16 0] 49))=.ok (.int .i64 4) W1 ∧
  Blk w.heap.size 0 0 0 0 0 W1∧Blk (w.heap.size+1) (byt s 0) (byt s 1) (byt s 2) (byt s 3) 0 W1∧Below w.heap.size w W1:=by
 have h1 : ((w.alloc (.cells #[.int .u8 0,.int .u8 0,.int .u8 0,.int .u8 0,.int .u16 0] 49)).alloc (.cells #[.int .u8 0,.int .u8 0,.int .u8 0,.int .u8 0,.int .u16 0] 49)).heap[w.heap.size]?=some (.cells #[.int .u8 0,.int .u8 0,.int .u8 0,.int .u8 0,.int .u16 0] 49 (0,0)):=by
  rw [Below.heap_alloc _ _ _ (by simp),heap_alloc_new]
 have h2:=heap_alloc_new (w.alloc (.cells #[.int .u8 0,.int .u8 0,.int .u8 0,.int .u8 0,.int .u16 0] 49)) (.cells #[.int .u8 0,.int .u8 0,.int .u8 0,.int .u8 0,.int .u16 0] 49)
 rw [show (w.alloc (.cells #[.int .u8 0,.int .u8 0,.int .u8 0,.int .u8 0,.int .u16 0] 49)).heap.size=w.heap.size+1 by simp] at h2
 have hb : Below w.heap.size w ((w.alloc (.cells #[.int .u8 0,.int .u8 0,.int .u8 0,.int .u8 0,.int .u16 0] 49)).alloc (.cells #[.int .u8 0,.int .u8 0,.int .u8 0,.int .u8 0,.int .u16 0] 49)):=((Below.refl _ _).alloc (Nat.le_refl _) _).alloc (by simp) _
 generalize ((w.alloc (.cells #[.int .u8 0,.int .u8 0,.int .u8 0,.int .u8 0,.int .u16 0] 49)).alloc (.cells #[.int .u8 0,.int .u8 0,.int .u8 0,.int .u8 0,.int .u16 0] 49))=W at *
 have hblk : Blk (w.heap.size+1) 0 0 0 0 0 W:=h2
 obtain ⟨⟨c0,c1,c2,c3,_⟩,cf⟩:=hblk.cells
 have hst:=run_storeCells_cells (P:=Tryz.prog) (w.heap.size+1) 0 (ofCs s) 0 W (by
   intro j hj
   simp only [Nat.zero_add]
   match j,hj with
   | 0,_ => rw [c0]; rfl
   | 1,_ => rw [c1]; rfl
   | 2,_ => rw [c2]; rfl
   | 3,_ => rw [c3]; rfl) (fun j _ => cf _) (by
   intro v hv
   simp [ofCs] at hv
   rcases hv with rfl | rfl | rfl | rfl <;> rfl)
 have k1:=first_four s hs W
 refine ⟨W.setCells (w.heap.size+1) 0 (ofCs s),?_,?_,?_,?_⟩
 ·obtain ⟨i,hi,hz,hsz,_⟩:=info_parts (show (Tryz.prog.info? 5).map (fun i => (i.zero,i.size,i.bytes))=some (some (.int .u8 0),1,1) by kernel_rfl)
  have hmin : Nat.min 6 4=4:=rfl
  simp only [Nat.zero_add] at hst
  simp [Builtin.copy_,run_underlying Tryz.underlying113,Builtin.lenOf,sizeOf,typeInfo,hi,hsz,hs,k1,hst,hmin]
  rfl
 ·exact (((((heap_setCell_other _ ⟨w.heap.size+1,0+1+1+1,none⟩ _ _ (by simp)).trans (heap_setCell_other _ ⟨w.heap.size+1,0+1+1,none⟩ _ _ (by simp))).trans (heap_setCell_other _ ⟨w.heap.size+1,0+1,none⟩ _ _ (by simp))).trans (heap_setCell_other _ ⟨w.heap.size+1,0,none⟩ _ _ (by simp))).trans h1)
 ·have e0:=heap_setCell_same W _ 0 _ _ (.int .u8 (byt s 0)) h2
  have e1:=heap_setCell_same _ _ 1 _ _ (.int .u8 (byt s 1)) e0
  have e2:=heap_setCell_same _ _ 2 _ _ (.int .u8 (byt s 2)) e1
  have e3:=heap_setCell_same _ _ 3 _ _ (.int .u8 (byt s 3)) e2
  exact e3
 ·exact (((hb.setCell (by simp) _).setCell (by simp) _).setCell (by simp) _).setCell (by simp) _
end Go.Proofs.YtjfjliobencppaaGreatDoor.Sp

set_option maxRecDepth 1000000
namespace Go.Proofs.YtjfjliobencppaaGreatDoor.Sp
open Go.RowKit
theorem or_step (n c : Nat) (hn : n < 256) (hc : c < 256) : bits BinOp.or IntKind.u64 (IntKind.u64.wrap ((n : Int) * 256)) (IntKind.u64.wrap (c : Int))=((n * 256+c : Nat) : Int):=by
 rw [IntWalk.u64_in _ ⟨by omega,by omega⟩,IntWalk.u64_in _ ⟨by omega,by omega⟩]
 have h:=u64_or_nat (n * 256) c (by omega) (by omega)
 have h2:=Nat.two_pow_add_eq_or_of_lt (i:=8) (show c < 2 ^ 8 from hc) n
 rw [show n * 256 ||| c=n * 256+c by rw [show n * 256=2 ^ 8 * n by omega,← h2]] at h
 rw [← h]; simp
def gv (c0 c1 : UInt8) (k : Nat) : Nat:=if k=0 then 0 else if k=1 then c0.toNat else c0.toNat * 256+c1.toNat
theorem get_two (c0 c1 : UInt8) (w : World) : Calls Tryz.prog 138 #[.string ⟨#[c0,c1]⟩] w fun e w' => e=.returned (.tuple #[.int .u64 ((c0.toNat * 256+c1.toNat : Nat) : Int),.int .i64 0])∧w=w':=by
 have s0:=or_step 0 c0.toNat (by omega) c0.toNat_lt
 have s1:=or_step c0.toNat c1.toNat c0.toNat_lt c1.toNat_lt
 have hsz : (⟨#[c0,c1]⟩ : ByteArray).size=2:=rfl
 have i0 : (⟨#[c0,c1]⟩ : ByteArray)[0]=c0:=rfl
 have i1 : (⟨#[c0,c1]⟩ : ByteArray)[1]=c1:=rfl
 go_enter Tryz.func138,Tryz.ntmps138
 go_wp2
 go_loop [4,14] (fun n i => ∃ k : Nat,k≤2∧i=.int .i64 k∧n=.int .u64 (gv c0 c1 k)) (fun _ i => 2 - (intOf i).toNat)
 case atStart => exact ⟨0,Nat.zero_le _,rfl,rfl⟩
 case round =>
  obtain ⟨k,hk,rfl,rfl⟩:=hrel
  rcases (show k=0∨k=1∨k=2 by omega) with rfl | rfl | rfl
  ·go_wp2
   refine ⟨⟨1,by omega,rfl,?_⟩,by simp [intOf]⟩
   have e : gv c0 c1 0=0:=rfl
   have e1 : gv c0 c1 1=0 * 256+c0.toNat:=by simp [gv]
   rw [e,e1,s0]
  ·go_wp2
   refine ⟨⟨2,by omega,rfl,?_⟩,by simp [intOf]⟩
   have e : gv c0 c1 1=c0.toNat:=rfl
   have e1 : gv c0 c1 2=c0.toNat * 256+c1.toNat:=rfl
   rw [e,e1,s1]
  ·go_wp2
   go_ret2
   exact ⟨rfl,rfl⟩
end Go.Proofs.YtjfjliobencppaaGreatDoor.Sp
