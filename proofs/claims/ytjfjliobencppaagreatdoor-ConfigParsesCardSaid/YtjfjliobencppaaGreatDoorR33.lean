/- spot.Of, walked.; config: reading: a place.; config: reading: endpoints, routes and their lists.; config: reading (EGa).; config: reading (EGb).; config: reading (EGc).; config: reading (EH). -/
import Derived.Test.YtjfjliobencppaaGreatDoorR32
import Derived.Test.YtjfjliobencppaaGreatDoorR00
import Derived.Test.YtjfjliobencppaaGreatDoorR29
set_option linter.unusedVariables false
set_option linter.unusedSimpArgs false
set_option maxRecDepth 1000000
set_option maxHeartbeats 4000000
namespace Go.Proofs.YtjfjliobencppaaGreatDoor.Sp
open Go.RowKit
def portB (s : ByteArray) : Nat:=byt s 4 * 256+byt s 5
def OfR (s : ByteArray) (w : World) (e : Ending) (w' : World) : Prop :=
 Below w.heap.size w w'∧((s.size=6∧portB s≠0∧e=.returned (.tuple #[plc (byt s 0) (byt s 1) (byt s 2) (byt s 3) (portB s),.int .i64 0]))∨(¬ (s.size=6∧portB s≠0)∧e=.returned (.tuple #[plc 0 0 0 0 0,.int .i64 4])))
def OfJ (s : ByteArray) (w : World) (a' : Act) (w' : World) : Prop :=
 (¬ (s.size=6∧portB s≠0))∧Below w.heap.size w w'∧Blk w.heap.size 0 0 0 0 0 w'∧∃ (u0 u1 u3 u4 u5 u6 u7 u8 u9 u10 u11 u12 u13 u14 u15 u16 u17 u18 u19 u20 u21 u22 u23 u24 u25 : Value),a'={ tmps:=#[u0,u1,(.pointer (some ⟨w.heap.size,0,none⟩)),u3,u4,u5,u6,u7,u8,u9,u10,u11,u12,u13,u14,u15,u16,u17,u18,u19,u20,u21,u22,u23,u24,u25],defers:=[] }
theorem get_rest (s : ByteArray) (hs : s.size=6) (w : World) : Calls Tryz.prog 138 #[.string (s.extract 4 6)] w fun e w' => e=.returned (.tuple #[.int .u64 (portB s : Nat),.int .i64 0])∧w=w':=by
 obtain ⟨c0,c1,c2,c3,c4,c5,rfl⟩:=six s hs
 have e : (⟨#[c0,c1,c2,c3,c4,c5]⟩ : ByteArray).extract 4 6=⟨#[c4,c5]⟩:=by
  apply ByteArray.ext
  simp [ByteArray.data_extract]
 rw [e]
 exact get_two c4 c5 w
theorem of_any (s : ByteArray) (w : World) : Calls Tryz.prog 128 #[.string s] w (OfR s w):=by
 by_cases hs : s.size=6
 ·obtain ⟨W1,hcopy,HA,HP,HB⟩:=of_copy s hs w
  have KG:=Lib.hid (get_rest s hs)
  have hA:=Lib.hid HA
  have hP:=Lib.hid HP
  have hB:=Lib.hid HB
  clear HA HP HB
  go_enter Tryz.func128,Tryz.ntmps128
  go_wp2
  refine wp_scope_jumps 0 (OfJ s w) (fun _ _ => 0) rfl ?_ ?_
  ·go_wp2_with fail
   refine (KG.out _).mono ?_
   rintro e w2 ⟨rfl,rfl⟩
   by_cases hp : portB s=0
   ·have HNO : Hid (¬ (s.size=6∧portB s≠0)):=Lib.hid (fun h => h.2 hp)
    rw [hp]
    go_wp2
    go_step3
    exact ⟨rfl,HNO.out,hB.out,hA.out,_,_,_,_,_,_,_,_,_,_,_,_,_,_,_,_,_,_,_,_,_,_,_,_,_,rfl⟩
   ·have q0 : (((portB s : Nat) : Int) == 0)=false:=neq_int hp
    have hlt : portB s < 65536:=by have:=byt_lt s 4; have:=byt_lt s 5; unfold portB; omega
    have HYES : Hid (s.size=6∧portB s≠0):=Lib.hid ⟨hs,hp⟩
    obtain ⟨⟨p0,p1,p2,p3,p4⟩,pf⟩:=hP.out.cells
    obtain ⟨⟨c0,c1,c2,c3,c4⟩,cf⟩:=hA.out.cells
    have pf4:=pf 4
    have f0:=cf 0
    have f1:=cf 1
    have f2:=cf 2
    have f3:=cf 3
    have f4:=cf 4
    clear pf cf
    obtain ⟨n,hn⟩ : ∃ n,portB s=n:=⟨_,rfl⟩
    obtain ⟨b0,e0⟩ : ∃ n,byt s 0=n:=⟨_,rfl⟩
    obtain ⟨b1,e1⟩ : ∃ n,byt s 1=n:=⟨_,rfl⟩
    obtain ⟨b2,e2⟩ : ∃ n,byt s 2=n:=⟨_,rfl⟩
    obtain ⟨b3,e3⟩ : ∃ n,byt s 3=n:=⟨_,rfl⟩
    have HRES : Hid (∀ e,e=Ending.returned (.tuple #[plc b0 b1 b2 b3 n,.int .i64 0])→∀ w',Below w.heap.size w w'→OfR s w e w'):=Lib.hid (fun e he w' hb => ⟨hb,Or.inl ⟨HYES.out.1,HYES.out.2,by rw [he,hn,e0,e1,e2,e3]⟩⟩)
    rw [hn] at q0 hlt
    rw [e0] at p0
    rw [e1] at p1
    rw [e2] at p2
    rw [e3] at p3
    rw [hn]
    clear hn e0 e1 e2 e3 HYES KG hP hp
    go_wp2
    simp only [Exit.jump]
    refine bodyPost_ret (v:=.tuple #[plc b0 b1 b2 b3 n,.int .i64 0]) (by simp [results,Tryz.results128,go_sem,plc, *]) rfl (HRES.out _ rfl _ ?_)
    exact (((((hB.out.setCell (show w.heap.size≤w.heap.size+1 by omega) _).setCell (Nat.le_refl _) _).setCell (Nat.le_refl _) _).setCell (Nat.le_refl _) _).setCell (Nat.le_refl _) _).setCell (Nat.le_refl _) _
  ·rintro a' w' ⟨hr,hb,hR,u0,u1,u3,u4,u5,u6,u7,u8,u9,u10,u11,u12,u13,u14,u15,u16,u17,u18,u19,u20,u21,u22,u23,u24,u25,rfl⟩
   have HNO:=Lib.hid hr
   clear hr hcopy hA hP hB KG
   obtain ⟨⟨c0,c1,c2,c3,c4⟩,hf⟩:=hR.cells
   have f0:=hf 0
   have f1:=hf 1
   have f2:=hf 2
   have f3:=hf 3
   have f4:=hf 4
   have HR:=Lib.hid hR
   clear hf hR
   go_wp2
   refine bodyPost_ret (v:=.tuple #[plc 0 0 0 0 0,.int .i64 4]) (by simp [results,Tryz.results128,go_sem,plc, *]) rfl ⟨?_,Or.inr ⟨HNO.out,rfl⟩⟩
   exact ((((hb.setCell (Nat.le_refl _) _).setCell (Nat.le_refl _) _).setCell (Nat.le_refl _) _).setCell (Nat.le_refl _) _).setCell (Nat.le_refl _) _
 ·have HNO : Hid (¬ (s.size=6∧portB s≠0)):=Lib.hid (fun h => hs h.1)
  have hne : ((s.size : Int) == 6)=false:=neq_int hs
  have hneq : ((s.size : Int) != 6)=true:=by unfold bne; rw [hne]; rfl
  have hA0:=heap_alloc_new w (.cells #[.int .u8 0,.int .u8 0,.int .u8 0,.int .u8 0,.int .u16 0] 49)
  go_enter Tryz.func128,Tryz.ntmps128
  go_wp2
  refine wp_scope_jumps 0 (OfJ s w) (fun _ _ => 0) rfl ?_ ?_
  ·go_wp2
   go_step3
   refine ⟨rfl,HNO.out,?_,?_,_,_,_,_,_,_,_,_,_,_,_,_,_,_,_,_,_,_,_,_,_,_,_,_,_,rfl⟩
   ·exact ((Below.refl _ _).alloc (Nat.le_refl _) _).alloc (by simp) _
   ·unfold Blk
    rw [Below.heap_alloc _ _ _ (by simp)]; exact hA0
  ·rintro a' w' ⟨hr,hb,hR,u0,u1,u3,u4,u5,u6,u7,u8,u9,u10,u11,u12,u13,u14,u15,u16,u17,u18,u19,u20,u21,u22,u23,u24,u25,rfl⟩
   clear hr hA0
   obtain ⟨⟨c0,c1,c2,c3,c4⟩,hf⟩:=hR.cells
   have f0:=hf 0
   have f1:=hf 1
   have f2:=hf 2
   have f3:=hf 3
   have f4:=hf 4
   have HR:=Lib.hid hR
   clear hf hR
   go_wp2
   refine bodyPost_ret (v:=.tuple #[plc 0 0 0 0 0,.int .i64 4]) (by simp [results,Tryz.results128,go_sem,plc, *]) rfl ⟨?_,Or.inr ⟨HNO.out,rfl⟩⟩
   exact ((((hb.setCell (Nat.le_refl _) _).setCell (Nat.le_refl _) _).setCell (Nat.le_refl _) _).setCell (Nat.le_refl _) _).setCell (Nat.le_refl _) _
end Go.Proofs.YtjfjliobencppaaGreatDoor.Sp

set_option maxRecDepth 100000
set_option maxHeartbeats 4000000
namespace Go.Proofs.YtjfjliobencppaaGreatDoor.Cf
open Go.RowKit
theorem chg_set {R g : Nat} {w w' : World} (h : Chg R none w w') (hg : w.heap.size≤g) (j : Nat) (u : Value) : Chg R none w (w'.setCell ⟨g,j,none⟩ u):=by
 obtain ⟨h1,h2,h3,h4,h5⟩:=h
 have hb:=(Below.refl w.heap.size w').setCell (p:=⟨g,j,none⟩) hg u
 exact ⟨hb.os.trans h1,hb.tape.trans h2,hb.output.trans h3,by simpa using h4,fun k hk hg2 hr => (heap_setCell_other _ ⟨g,j,none⟩ k _ (by show k≠g; omega)).trans (h5 k hk hg2 hr)⟩
theorem bk5 {w : World} {g : Nat} {a0 a1 a2 a3 a4 : Value} {T : TypeId} (h : Bk w g #[a0,a1,a2,a3,a4] T) : (w.cell? ⟨g,0,none⟩=some a0∧w.cell? ⟨g,1,none⟩=some a1∧w.cell? ⟨g,2,none⟩=some a2∧w.cell? ⟨g,3,none⟩=some a3∧w.cell? ⟨g,4,none⟩=some a4)∧(w.frozen? ⟨g,0,none⟩=false∧w.frozen? ⟨g,1,none⟩=false∧w.frozen? ⟨g,2,none⟩=false∧w.frozen? ⟨g,3,none⟩=false∧w.frozen? ⟨g,4,none⟩=false) :=
 ⟨⟨(cell_of_row _ _ 0 _ _ _ h).trans rfl,(cell_of_row _ _ 1 _ _ _ h).trans rfl,(cell_of_row _ _ 2 _ _ _ h).trans rfl,(cell_of_row _ _ 3 _ _ _ h).trans rfl,(cell_of_row _ _ 4 _ _ _ h).trans rfl⟩,frozen_of_row w g 0 _ _ h,frozen_of_row w g 1 _ _ h,frozen_of_row w g 2 _ _ h,frozen_of_row w g 3 _ _ h,frozen_of_row w g 4 _ _ h⟩
theorem rd_place {R N : Nat} {b1 v : Bool} {w w2 : World} {p0 p1 p2 p3 p4 : Value} {obj : Obj} (h : Rd R b1 w w2) (hN : w.heap.size≤N) (hne : R≠N) : Rd R v w (((((((w2.setCell ⟨R,0,none⟩ (.bool v)).setCell ⟨N,0,none⟩ p0).setCell ⟨N,1,none⟩ p1).setCell ⟨N,2,none⟩ p2).setCell ⟨N,3,none⟩ p3).setCell ⟨N,4,none⟩ p4).alloc obj):=by
 have h1 : Bk (w2.setCell ⟨R,0,none⟩ (.bool v)) R #[.bool v] 90:=h.1.set (i:=0) (.bool v)
 exact ⟨(((((h1.away hne 0 p0).away hne 1 p1).away hne 2 p2).away hne 3 p3).away hne 4 p4).later (alloc_below _ _),chg_then (chg_set (chg_set (chg_set (chg_set (chg_set (chg_put h.2 0 (.bool v)) hN 0 p0) hN 1 p1) hN 2 p2) hN 3 p3) hN 4 p4) (Chg.of_below (alloc_below _ _))⟩
def okP (s : ByteArray) : Bool:=decide (s.size=6∧Sp.portB s≠0)
def plR (t : Tr) : Pl:=if okP (txtR t) then ⟨Sp.byt (txtR t) 0,Sp.byt (txtR t) 1,Sp.byt (txtR t) 2,Sp.byt (txtR t) 3,Sp.portB (txtR t)⟩ else ⟨0,0,0,0,0⟩
theorem place_any (R : Nat) (b : Bool) (t : Tr) (c0 c1 c2 c3 : Value) (w : World) (hR : Bk w R #[.bool b] 90) (hv : VInP w (fun b => b≠R) t c0 c1 c2 c3) :
  Calls Tryz.prog 112 #[.pointer (some ⟨R,0,none⟩),.agg #[c0,c1,c2,c3]] w fun e w' => e=.returned (Sp.plc (plR t).a (plR t).b (plR t).c (plR t).d (plR t).port)∧Rd R (b || decide (Tr.tk t≠2) || !okP (txtR t)) w w':=by
 have KO:=Lib.hid (fun W h1 h2 => text_any' R b t c0 c1 c2 c3 W h1 h2)
 have HC:=Lib.hid (show Below w.heap.size w ((w.alloc (.cells #[c0,c1,c2,c3] 69)).alloc (.cells #[.int .u8 0,.int .u8 0,.int .u8 0,.int .u8 0,.int .u16 0] 49)) from (alloc_below _ _).trans ((alloc_below _ _).mono (by simp)))
 have HR:=Lib.hid (hR.later HC.out)
 have HV:=Lib.hid (chg_vin (Chg.of_below (g:=R) (ρ:=none) HC.out) hv)
 have hlt:=lt_of_heap hR
 have HBx : Hid (Bk ((w.alloc (.cells #[c0,c1,c2,c3] 69)).alloc (.cells #[.int .u8 0,.int .u8 0,.int .u8 0,.int .u8 0,.int .u16 0] 49)) (w.heap.size+1) #[.int .u8 0,.int .u8 0,.int .u8 0,.int .u8 0,.int .u16 0] 49):=Lib.hid (alloc_at (w:=w.alloc (.cells #[c0,c1,c2,c3] 69)) _ _ (by simp))
 obtain ⟨k,n,s,o,len,cap,rfl,rfl,rfl,rfl⟩:=hv.cells
 clear hR hv
 go_enter Tryz.func112,Tryz.ntmps112
 go_wp2_with fail
 refine (KO.out _ HR.out HV.out).mono ?_
 rintro e w1 ⟨rfl,hr1⟩
 go_wp2_with fail
 refine (Sp.of_any (txtR t) w1).mono ?_
 rintro e w2 ⟨hb2,hor⟩
 have HD:=Lib.hid (show Rd R _ w w2 from ⟨hr1.1.later hb2,chg_then (chg_then (Chg.of_below HC.out) hr1.2) (Chg.of_below hb2)⟩)
 have HX:=Lib.hid (show Bk w2 (w.heap.size+1) _ 49 from Bk.later (show Bk w1 (w.heap.size+1) _ 49 from (hr1.2.2.2.2.2 _ (by simp) (by omega) (by simp)).trans HBx.out) hb2)
 clear hr1 hb2
 have hR2:=lt_of_heap HD.out.1
 obtain ⟨⟨v0,v1,v2,v3,v4⟩,f0,f1,f2,f3,f4⟩:=bk5 HX.out
 obtain ⟨y0,z0⟩:=bk1 HD.out.1
 have hne : R≠w.heap.size+1:=by omega
 have hne2 : w.heap.size+1 < w2.heap.size:=lt_of_heap HX.out
 obtain ⟨b',hb'⟩ : ∃ b',(b || decide (Tr.tk t≠2))=b':=⟨_,rfl⟩
 have HB':=Lib.hid hb'
 rw [hb'] at y0
 clear hb'
 rcases hor with ⟨h6,hp,rfl⟩ | ⟨hno,rfl⟩
 ·have hok : okP (txtR t)=true:=decide_eq_true ⟨h6,hp⟩
  have HP : Hid (plR t=⟨Sp.byt (txtR t) 0,Sp.byt (txtR t) 1,Sp.byt (txtR t) 2,Sp.byt (txtR t) 3,Sp.portB (txtR t)⟩):=Lib.hid (by unfold plR; rw [hok]; rfl)
  have HT : Hid ((b || decide (Tr.tk t≠2) || !okP (txtR t))=b'):=Lib.hid (by rw [hok,HB'.out]; cases b' <;> rfl)
  clear hok h6 hp
  unfold Sp.plc
  cases b' with
  | true =>
   go_wp2
   refine bodyPost_ret (v:=.agg #[.int .u8 (Sp.byt (txtR t) 0 : Int),.int .u8 (Sp.byt (txtR t) 1 : Int),.int .u8 (Sp.byt (txtR t) 2 : Int),.int .u8 (Sp.byt (txtR t) 3 : Int),.int .u16 (Sp.portB (txtR t) : Int)]) (by simp [results,Tryz.results112,go_sem, *]) rfl ⟨by rw [HP.out]; rfl,by rw [HT.out]; exact rd_place HD.out (by omega) hne⟩
  | false =>
   go_wp2
   refine bodyPost_ret (v:=.agg #[.int .u8 (Sp.byt (txtR t) 0 : Int),.int .u8 (Sp.byt (txtR t) 1 : Int),.int .u8 (Sp.byt (txtR t) 2 : Int),.int .u8 (Sp.byt (txtR t) 3 : Int),.int .u16 (Sp.portB (txtR t) : Int)]) (by simp [results,Tryz.results112,go_sem, *]) rfl ⟨by rw [HP.out]; rfl,by rw [HT.out]; exact rd_place HD.out (by omega) hne⟩
 ·have hok : okP (txtR t)=false:=decide_eq_false hno
  have HP : Hid (plR t=⟨0,0,0,0,0⟩):=Lib.hid (by unfold plR; rw [hok]; rfl)
  have HT : Hid ((b || decide (Tr.tk t≠2) || !okP (txtR t))=true):=Lib.hid (by rw [hok]; simp)
  clear hok hno
  unfold Sp.plc
  cases b' with
  | true =>
   go_wp2
   refine bodyPost_ret (v:=.agg #[.int .u8 0,.int .u8 0,.int .u8 0,.int .u8 0,.int .u16 0]) (by simp [results,Tryz.results112,go_sem, *]) rfl ⟨by rw [HP.out]; rfl,by rw [HT.out]; exact rd_place HD.out (by omega) hne⟩
  | false =>
   go_wp2
   refine bodyPost_ret (v:=.agg #[.int .u8 0,.int .u8 0,.int .u8 0,.int .u8 0,.int .u16 0]) (by simp [results,Tryz.results112,go_sem, *]) rfl ⟨by rw [HP.out]; rfl,by rw [HT.out]; exact rd_place HD.out (by omega) hne⟩
end Go.Proofs.YtjfjliobencppaaGreatDoor.Cf

set_option maxRecDepth 100000
set_option maxHeartbeats 4000000
namespace Go.Proofs.YtjfjliobencppaaGreatDoor.Cf
open Go.RowKit
theorem fldT_len (n : Nat) (t : Tr) : (fldT n t).length=n:=by
 unfold fldT
 split
 ·assumption
 ·exact List.length_replicate
def fld (n i : Nat) (t : Tr) : Tr:=(fldT n t).getD i Zt
theorem fld_at {n i : Nat} {t : Tr} (h : i < (fldT n t).length) : (fldT n t)[i]=fld n i t:=by
 unfold fld
 rw [List.getD_eq_getElem?_getD,List.getElem?_eq_getElem h]
 rfl
def wrF (n : Nat) (t : Tr) : Bool:=decide (Tr.tk t≠3) || decide ((Tr.tl (ofT 3 t)).length≠n)
def wrP (t : Tr) : Bool:=decide (Tr.tk t≠2) || !okP (txtR t)
def wrW (t : Tr) : Bool:=decide (Tr.tk t≠1) || decide (2147483647 < numR t)
def wrS (t : Tr) : Bool:=decide (Tr.tk t≠2)
def wrN (t : Tr) : Bool:=decide (Tr.tk t≠1)
def rows (t : Tr) : List Tr:=Tr.tl (ofT 3 t)
def wrL (wr : Tr→Bool) (t : Tr) : Bool:=decide (Tr.tk t≠3) || (rows t).any wr
def rdE (t : Tr) : Ep:=⟨plR (fld 2 0 t),(wgtR (fld 2 1 t) : Int)⟩
def wrE (t : Tr) : Bool:=wrF 2 t || wrP (fld 2 0 t) || wrW (fld 2 1 t)
def rdR (t : Tr) : Rt:=⟨txtR (fld 4 0 t),txtR (fld 4 1 t),txtR (fld 4 2 t),numR (fld 4 3 t)⟩
def wrR (t : Tr) : Bool:=wrF 4 t || wrS (fld 4 0 t) || wrS (fld 4 1 t) || wrS (fld 4 2 t) || wrN (fld 4 3 t)
def rdLs (t : Tr) : Ls:=⟨txtR (fld 3 0 t),plR (fld 3 1 t),(rows (fld 3 2 t)).map rdR⟩
def wrLs (t : Tr) : Bool:=wrF 3 t || wrS (fld 3 0 t) || wrP (fld 3 1 t) || wrL wrR (fld 3 2 t)
def rdCl (t : Tr) : Cl:=⟨txtR (fld 2 0 t),(rows (fld 2 1 t)).map rdE⟩
def wrCl (t : Tr) : Bool:=wrF 2 t || wrS (fld 2 0 t) || wrL wrE (fld 2 1 t)
def rdC (t : Tr) : Co:=⟨numR (fld 3 0 t),(rows (fld 3 1 t)).map rdLs,(rows (fld 3 2 t)).map rdCl⟩
def wrC (t : Tr) : Bool:=wrF 3 t || wrN (fld 3 0 t) || wrL wrLs (fld 3 1 t) || wrL wrCl (fld 3 2 t)
theorem chg_sets {R g : Nat} {w : World} : ∀ {w' : World} (_ : Chg R none w w') (_ : w.heap.size≤g) (vs : List Value) (i : Nat),Chg R none w (sets w' g i vs)
 | _,h,_,[],_ => h
 | _,h,hg,v::r,i => chg_sets (chg_set h hg i v) hg r (i+1)
theorem chg_below {R : Nat} {w W w' : World} (h : Chg R none w W) (hb : Below w.heap.size W w') : Chg R none w w' :=
 ⟨hb.os.trans h.1,hb.tape.trans h.2.1,hb.output.trans h.2.2.1,Nat.le_trans h.2.2.2.1 hb.size,fun k hk hg hr => (hb.block k hk).trans (h.2.2.2.2 k hk hg hr)⟩
theorem bk_ne2 {w : World} {g g' T T' : Nat} {cs cs' : Array Value} (h : w.heap[g]?=some (.cells cs T (0,0))) (h' : Bk w g' cs' T') (ht : T≠T') : g≠g':=by
 intro e
 subst e
 have h3 : _=some (Obj.cells cs' T' (0,0)):=h'
 rw [h] at h3
 cases h3
 exact ht rfl
theorem own_chg {w w' : World} {B t k n R : Nat} {v : Value} {xs : List Value} {cs : Array Value} (h : w.ownsRow B t k v n xs) (hc : Chg R none w w') (hR : Bk w R cs 90) (ht : t≠90) : w'.ownsRow B t k v n xs :=
 own_keep h fun g c _ _ hgg => hc.2.2.2.2 g (lt_of_heap hgg) (bk_ne2 hgg hR ht) (by simp)
theorem LcR.chg {w w' : World} {B R : Nat} {V : Value} {L : List Ls} {cs : Array Value} (h : LcR w B V L) (hc : Chg R none w w') (hR : Bk w R cs 90) : LcR w' B V L:=by
 obtain ⟨PL,e1,e2,e3⟩:=h
 exact ⟨PL,e1,own_chg e2 hc hR (by decide),fun p hp => own_chg (e3 p hp) hc hR (by decide)⟩
theorem noiu64 (j : Nat) (x : Int) (y : Nat) (h1 : (#[.int .u8 0,.int .u8 0,.int .u8 0,.int .u8 0,.int .u16 0,.int .i64 0] : Array Value)[j]?=some (.int .i64 x)) (h2 : (#[.int .u8 0,.int .u8 0,.int .u8 0,.int .u8 0,.int .u16 0,.int .i64 0] : Array Value)[j+1]?=some (.int .u64 (y : Int))) : False:=by
 match j,h1,h2 with
 | 0,h1,h2 => simp at h1 h2
 | 1,h1,h2 => simp at h1 h2
 | 2,h1,h2 => simp at h1 h2
 | 3,h1,h2 => simp at h1 h2
 | 4,h1,h2 => simp at h1 h2
 | 5,h1,h2 => simp at h1 h2
 | j+6,h1,_ => simp at h1
theorem noiu62 (j : Nat) (x : Int) (y : Nat) (h1 : (#[.string ⟨#[]⟩,.string ⟨#[]⟩,.string ⟨#[]⟩,.int .u64 0] : Array Value)[j]?=some (.int .i64 x)) (h2 : (#[.string ⟨#[]⟩,.string ⟨#[]⟩,.string ⟨#[]⟩,.int .u64 0] : Array Value)[j+1]?=some (.int .u64 (y : Int))) : False:=by
 match j,h1,h2 with
 | 0,h1,h2 => simp at h1 h2
 | 1,h1,h2 => simp at h1 h2
 | 2,h1,h2 => simp at h1 h2
 | 3,h1,h2 => simp at h1 h2
 | j+4,h1,_ => simp at h1
theorem noiu52 (j : Nat) (x : Int) (y : Nat) (h1 : (#[.string ⟨#[]⟩,.int .u8 0,.int .u8 0,.int .u8 0,.int .u8 0,.int .u16 0,.slice none 0 0] : Array Value)[j]?=some (.int .i64 x)) (h2 : (#[.string ⟨#[]⟩,.int .u8 0,.int .u8 0,.int .u8 0,.int .u8 0,.int .u16 0,.slice none 0 0] : Array Value)[j+1]?=some (.int .u64 (y : Int))) : False:=by
 match j,h1,h2 with
 | 0,h1,h2 => simp at h1 h2
 | 1,h1,h2 => simp at h1 h2
 | 2,h1,h2 => simp at h1 h2
 | 3,h1,h2 => simp at h1 h2
 | 4,h1,h2 => simp at h1 h2
 | 5,h1,h2 => simp at h1 h2
 | 6,h1,h2 => simp at h1 h2
 | j+7,h1,_ => simp at h1
theorem noiu57 (j : Nat) (x : Int) (y : Nat) (h1 : (#[.string ⟨#[]⟩,.slice none 0 0] : Array Value)[j]?=some (.int .i64 x)) (h2 : (#[.string ⟨#[]⟩,.slice none 0 0] : Array Value)[j+1]?=some (.int .u64 (y : Int))) : False:=by
 match j,h1,h2 with
 | 0,h1,h2 => simp at h1 h2
 | 1,h1,h2 => simp at h1 h2
 | j+2,h1,_ => simp at h1
theorem noiu26 (j : Nat) (x : Int) (y : Nat) (h1 : (#[.int .u64 0,.slice none 0 0,.slice none 0 0] : Array Value)[j]?=some (.int .i64 x)) (h2 : (#[.int .u64 0,.slice none 0 0,.slice none 0 0] : Array Value)[j+1]?=some (.int .u64 (y : Int))) : False:=by
 match j,h1,h2 with
 | 0,h1,h2 => simp at h1 h2
 | 1,h1,h2 => simp at h1 h2
 | 2,h1,h2 => simp at h1 h2
 | j+3,h1,_ => simp at h1
theorem rd_ep (R : Nat) (b : Bool) (t : Tr) (c0 c1 c2 c3 : Value) (w : World) (hR : Bk w R #[.bool b] 90) (hv : VInP w (fun b => b≠R) t c0 c1 c2 c3) :
  Calls Tryz.prog 117 #[.pointer (some ⟨R,0,none⟩),.agg #[c0,c1,c2,c3]] w fun e w' => e=.returned (.agg #[.int .u8 ((plR (fld 2 0 t)).a : Int),.int .u8 ((plR (fld 2 0 t)).b : Int),.int .u8 ((plR (fld 2 0 t)).c : Int),.int .u8 ((plR (fld 2 0 t)).d : Int),.int .u16 ((plR (fld 2 0 t)).port : Int),.int .i64 (wgtR (fld 2 1 t) : Int)])∧Rd R (b || wrE t) w w':=by
 have HNE : Hid (w.heap.size+1≠R):=Lib.hid (by have:=lt_of_heap hR; omega)
 have HBx:=Lib.hid (show Below w.heap.size w ((w.alloc (.cells #[c0,c1,c2,c3] 69)).alloc (.cells #[.int .u8 0,.int .u8 0,.int .u8 0,.int .u8 0,.int .u16 0,.int .i64 0] 64)) from (alloc_below _ _).trans ((alloc_below _ _).mono (by simp)))
 have HY:=Lib.hid (alloc_at (w:=(w.alloc (.cells #[c0,c1,c2,c3] 69))) (g:=w.heap.size+1) #[.int .u8 0,.int .u8 0,.int .u8 0,.int .u8 0,.int .u16 0,.int .i64 0] 64 (by simp))
 have K72:=Lib.hid (fields_any R 2 b t c0 c1 c2 c3 ((w.alloc (.cells #[c0,c1,c2,c3] 69)).alloc (.cells #[.int .u8 0,.int .u8 0,.int .u8 0,.int .u8 0,.int .u16 0,.int .i64 0] 64)) (by omega) (hR.later HBx.out) (chg_vin (Chg.of_below (g:=R) (ρ:=none) HBx.out) hv))
 have HVR:=Lib.hid hv
 obtain ⟨W0,hW0⟩ : ∃ W0,W0=((w.alloc (.cells #[c0,c1,c2,c3] 69)).alloc (.cells #[.int .u8 0,.int .u8 0,.int .u8 0,.int .u8 0,.int .u16 0,.int .i64 0] 64)):=⟨_,rfl⟩
 rw [← hW0] at HBx HY K72
 obtain ⟨k',n',s',o',len',cap',rfl,rfl,rfl,rfl⟩:=hv.cells
 clear hv hR
 go_enter Tryz.func117,Tryz.ntmps117
 go_wp2_with fail
 rw [← hW0]
 clear hW0
 refine (K72.out).mono ?_
 rintro e w1 ⟨⟨o,cap,g,off,rfl,ho,hl⟩,hrn⟩
 obtain ⟨rfl,hgl,hgR⟩:=ho (by omega)
 have HGA:=Lib.hid (show Chg R none w w1 from chg_then (Chg.of_below HBx.out) hrn.2)
 have HYA:=Lib.hid (show Bk w1 (w.heap.size+1) #[.int .u8 0,.int .u8 0,.int .u8 0,.int .u8 0,.int .u16 0,.int .i64 0] 64 from (hrn.2.2.2.2.2 _ (lt_of_heap HY.out) HNE.out (by simp)).trans HY.out)
 obtain ⟨b1,hb1⟩ : ∃ b1,(b || decide (Tr.tk t≠3) || decide ((Tr.tl (ofT 3 t)).length≠2))=b1:=⟨_,rfl⟩
 have HB1:=Lib.hid hb1
 rw [hb1] at hrn
 have HRA:=Lib.hid hrn.1
 clear hb1
 have hfl : (fldT 2 t).length=2:=fldT_len 2 t
 obtain ⟨d0_0,d0_1,d0_2,d0_3,e0_0,e0_1,e0_2,e0_3,hv0⟩:=hl.at 0 (by omega)
 simp only [Nat.zero_mul,Nat.one_mul,Nat.reduceMul,Nat.add_zero,Nat.add_assoc,Nat.reduceAdd] at e0_0 e0_1 e0_2 e0_3
 have hz0 : (fldT 2 t)[0]'(by omega)=fld 2 0 t:=fld_at _
 rw [hz0] at hv0
 obtain ⟨d1_0,d1_1,d1_2,d1_3,e1_0,e1_1,e1_2,e1_3,hv1⟩:=hl.at 1 (by omega)
 simp only [Nat.zero_mul,Nat.one_mul,Nat.reduceMul,Nat.add_zero,Nat.add_assoc,Nat.reduceAdd] at e1_0 e1_1 e1_2 e1_3
 have hz1 : (fldT 2 t)[1]'(by omega)=fld 2 1 t:=fld_at _
 rw [hz1] at hv1
 have hgY : g≠w.heap.size+1:=fun h => by
  obtain ⟨x,y,_,_,_,_,hx,hy,_,_⟩:=hv0.cells
  have h1:=e0_0
  have h2:=e0_1
  rw [h,cell_of_row _ _ _ _ _ _ HYA.out,hx] at h1
  rw [h,cell_of_row _ _ _ _ _ _ HYA.out,hy] at h2
  exact noiu64 off x y h1 h2
 clear hl ho hrn hfl hz0 hz1
 go_upto_region 2 with fail
 have hS1 : ∀ wz,Chg R none w1 wz→wz.cell? ⟨g,off,none⟩=some (d0_0)∧wz.cell? ⟨g,off+1,none⟩=some (d0_1)∧wz.cell? ⟨g,off+2,none⟩=some (d0_2)∧wz.cell? ⟨g,off+3,none⟩=some (d0_3)∧wz.cell? ⟨g,off+4,none⟩=some (d1_0)∧wz.cell? ⟨g,off+5,none⟩=some (d1_1)∧wz.cell? ⟨g,off+6,none⟩=some (d1_2)∧wz.cell? ⟨g,off+7,none⟩=some (d1_3):=fun wz h => by
  have hb:=h.2.2.2.2 g hgl hgR (by simp)
  have hc : ∀ j,wz.cell? ⟨g,j,none⟩=w1.cell? ⟨g,j,none⟩:=fun j => World.cell?_of_block hb
  exact ⟨(hc _).trans e0_0,(hc _).trans e0_1,(hc _).trans e0_2,(hc _).trans e0_3,(hc _).trans e1_0,(hc _).trans e1_1,(hc _).trans e1_2,(hc _).trans e1_3⟩
 have mkS:=Lib.hid hS1
 have mkS2 : Hid (∀ wz,Chg R none w1 wz→∀ vs i,(sets wz (w.heap.size+1) i vs).cell? ⟨g,off,none⟩=some (d0_0)∧(sets wz (w.heap.size+1) i vs).cell? ⟨g,off+1,none⟩=some (d0_1)∧(sets wz (w.heap.size+1) i vs).cell? ⟨g,off+2,none⟩=some (d0_2)∧(sets wz (w.heap.size+1) i vs).cell? ⟨g,off+3,none⟩=some (d0_3)∧(sets wz (w.heap.size+1) i vs).cell? ⟨g,off+4,none⟩=some (d1_0)∧(sets wz (w.heap.size+1) i vs).cell? ⟨g,off+5,none⟩=some (d1_1)∧(sets wz (w.heap.size+1) i vs).cell? ⟨g,off+6,none⟩=some (d1_2)∧(sets wz (w.heap.size+1) i vs).cell? ⟨g,off+7,none⟩=some (d1_3)):=Lib.hid (fun wz h vs i => by
  have hb:=h.2.2.2.2 g hgl hgR (by simp)
  have hc : ∀ j,(sets wz (w.heap.size+1) i vs).cell? ⟨g,j,none⟩=w1.cell? ⟨g,j,none⟩:=fun j => World.cell?_of_block ((sets_other _ _ hgY vs i wz).trans hb)
  exact ⟨(hc _).trans e0_0,(hc _).trans e0_1,(hc _).trans e0_2,(hc _).trans e0_3,(hc _).trans e1_0,(hc _).trans e1_1,(hc _).trans e1_2,(hc _).trans e1_3⟩)
 clear hS1
 have HG0:=Lib.hid (show Chg R none w w1.drew from chg_then HGA.out ⟨rfl,rfl,rfl,Nat.le_refl _,fun _ _ _ _ => rfl⟩)
 have HR0:=Lib.hid (show Bk w1.drew R #[.bool b1] 90 from HRA.out)
 have HY0:=Lib.hid (show Bk w1.drew (w.heap.size+1) #[.int .u8 0,.int .u8 0,.int .u8 0,.int .u8 0,.int .u16 0,.int .i64 0] 64 from HYA.out)
 have HS0 : Hid (Chg R none w1 w1.drew):=Lib.hid ⟨rfl,rfl,rfl,Nat.le_refl _,fun _ _ _ _ => rfl⟩
 have HV0_0:=Lib.hid (chg_vin HS0.out hv0)
 have HV1_0:=Lib.hid (chg_vin HS0.out hv1)
 clear hv0 hv1 e0_0 e0_1 e0_2 e0_3 e1_0 e1_1 e1_2 e1_3
 refine wp_region_held_drew (S:=fun wz => wz.cell? ⟨g,off,none⟩=some (d0_0)∧wz.cell? ⟨g,off+1,none⟩=some (d0_1)∧wz.cell? ⟨g,off+2,none⟩=some (d0_2)∧wz.cell? ⟨g,off+3,none⟩=some (d0_3)∧wz.cell? ⟨g,off+4,none⟩=some (d1_0)∧wz.cell? ⟨g,off+5,none⟩=some (d1_1)∧wz.cell? ⟨g,off+6,none⟩=some (d1_2)∧wz.cell? ⟨g,off+7,none⟩=some (d1_3)) (by kernel_rfl) (mkS.out _ HS0.out) (fun hj9 => ?_)
 generalize w1.drew=wc0 at *
 refine tkH (i:=0) (oi:=⟨some 9,_,_,_,_,_⟩) (v:=?_) rfl (Or.inl ⟨by rfl,by (intro w hSw; (try dsimp only at hSw); go_simp; try with_reducible rfl)⟩) hj9 ?_
 try simp only [Act.put,pS,p0,p1]
 refine tkH (i:=1) (oi:=⟨some 10,_,_,_,_,_⟩) (v:=?_) rfl (Or.inl ⟨by rfl,by (intro w hSw; (try dsimp only at hSw); go_simp; try with_reducible rfl)⟩) hj9 ?_
 try simp only [Act.put,pS,p0,p1]
 refine tkH (i:=2) (oi:=⟨some 11,_,_,_,_,_⟩) (v:=?_) rfl (Or.inl ⟨by rfl,by (intro w hSw; (try dsimp only at hSw); go_simp; try with_reducible rfl)⟩) hj9 ?_
 try simp only [Act.put,pS,p0,p1]
 refine tkH (i:=3) (oi:=⟨some 12,_,_,_,_,_⟩) (v:=?_) rfl (Or.inl ⟨by rfl,by (intro w hSw; (try dsimp only at hSw); go_simp; try with_reducible rfl)⟩) hj9 ?_
 try simp only [Act.put,pS,p0,p1]
 refine tkH (i:=5) (oi:=⟨some 14,_,_,_,_,_⟩) (v:=?_) rfl (Or.inl ⟨by rfl,by (intro w hSw; (try dsimp only at hSw); go_simp; try with_reducible rfl)⟩) hj9 ?_
 try simp only [Act.put,pS,p0,p1]
 refine tkH (i:=6) (oi:=⟨some 15,_,_,_,_,_⟩) (v:=?_) rfl (Or.inl ⟨by rfl,by (intro w hSw; (try dsimp only at hSw); go_simp; try with_reducible rfl)⟩) hj9 ?_
 try simp only [Act.put,pS,p0,p1]
 refine tkH (i:=7) (oi:=⟨some 16,_,_,_,_,_⟩) (v:=?_) rfl (Or.inl ⟨by rfl,by (intro w hSw; (try dsimp only at hSw); go_simp; try with_reducible rfl)⟩) hj9 ?_
 try simp only [Act.put,pS,p0,p1]
 refine tkH (i:=8) (oi:=⟨some 17,_,_,_,_,_⟩) (v:=?_) rfl (Or.inl ⟨by rfl,by (intro w hSw; (try dsimp only at hSw); go_simp; try with_reducible rfl)⟩) hj9 ?_
 try simp only [Act.put,pS,p0,p1]
 refine wpAnyH_ready (rs:=[4]) (by kernel_rfl) (by simp) ?_
 refine AllReadyH.cons (o:=⟨some 13,_,_,_,_,_⟩) rfl (fun K hK => ?_) ?_
 ·go_simp
  refine ((show Calls Tryz.prog 112 _ _ fun e w' => e=.returned (.agg #[.int .u8 ((plR (fld 2 0 t)).a : Int),.int .u8 ((plR (fld 2 0 t)).b : Int),.int .u8 ((plR (fld 2 0 t)).c : Int),.int .u8 ((plR (fld 2 0 t)).d : Int),.int .u16 ((plR (fld 2 0 t)).port : Int)])∧Rd R _ _ w' from place_any R _ _ _ _ _ _ _ HR0.out HV0_0.out)).mono ?_
  rintro ze wc1 ⟨rfl,hrn⟩
  try go_simp
  have HR1:=Lib.hid hrn.1
  have HG1:=Lib.hid (chg_then HG0.out hrn.2)
  have HY1:=Lib.hid (show Bk wc1 (w.heap.size+1) _ _ from (hrn.2.2.2.2.2 _ (lt_of_heap HY0.out) HNE.out (by simp)).trans HY0.out)
  have HS1:=Lib.hid (chg_then HS0.out hrn.2)
  have HV0_1:=Lib.hid (chg_vin hrn.2 HV0_0.out)
  have HV1_1:=Lib.hid (chg_vin hrn.2 HV1_0.out)
  refine hK.out _ _ (mkS.out _ HS1.out) (fun hj8 => ?_)
  clear hK K hj9
  have hj9:=hj8
  clear hj8
  clear hrn
  try simp only [Act.put,pS,p0,p1]
  refine wpAnyH_ready (rs:=[9]) (by kernel_rfl) (by simp) ?_
  refine AllReadyH.cons (o:=⟨some 18,_,_,_,_,_⟩) rfl (fun K hK => ?_) ?_
  ·go_simp
   refine (weight_any R _ _ _ _ _ _ _ HR1.out HV1_1.out).mono ?_
   rintro ze wc2 ⟨rfl,hrn⟩
   try go_simp
   have HR2:=Lib.hid hrn.1
   have HG2:=Lib.hid (chg_then HG1.out hrn.2)
   have HY2:=Lib.hid (show Bk wc2 (w.heap.size+1) _ _ from (hrn.2.2.2.2.2 _ (lt_of_heap HY1.out) HNE.out (by simp)).trans HY1.out)
   have HS2:=Lib.hid (chg_then HS1.out hrn.2)
   have HV0_2:=Lib.hid (chg_vin hrn.2 HV0_1.out)
   have HV1_2:=Lib.hid (chg_vin hrn.2 HV1_1.out)
   refine hK.out _ _ (mkS.out _ HS2.out) (fun hj8 => ?_)
   clear hK K hj9
   have hj9:=hj8
   clear hj8
   clear hrn
   try simp only [Act.put,pS,p0,p1]
   refine tkH (i:=10) (oi:=⟨some 19,_,_,_,_,_⟩) (v:=?_) rfl (Or.inl ⟨by rfl,by (intro w hSw; (try dsimp only at hSw); go_simp; try with_reducible rfl)⟩) hj9 ?_
   try simp only [Act.put,pS,p0,p1]
   refine wpAnyH_ready (rs:=[11]) (by kernel_rfl) (by simp) ?_
   refine AllReadyH.cons (o:=⟨none,_,_,_,_,_⟩) rfl (fun K hK => ?_) ?_
   ·have y0:=(cell_of_row _ _ 0 _ _ _ HY2.out).trans rfl
    have z0:=frozen_of_row _ _ 0 _ _ HY2.out
    have y1:=(cell_of_row _ _ 1 _ _ _ HY2.out).trans rfl
    have z1:=frozen_of_row _ _ 1 _ _ HY2.out
    have y2:=(cell_of_row _ _ 2 _ _ _ HY2.out).trans rfl
    have z2:=frozen_of_row _ _ 2 _ _ HY2.out
    have y3:=(cell_of_row _ _ 3 _ _ _ HY2.out).trans rfl
    have z3:=frozen_of_row _ _ 3 _ _ HY2.out
    have y4:=(cell_of_row _ _ 4 _ _ _ HY2.out).trans rfl
    have z4:=frozen_of_row _ _ 4 _ _ HY2.out
    have y5:=(cell_of_row _ _ 5 _ _ _ HY2.out).trans rfl
    have z5:=frozen_of_row _ _ 5 _ _ HY2.out
    go_simp
    have hch : ((((((wc2.setCell ⟨w.heap.size+1,0,none⟩ (.int .u8 ((plR (fld 2 0 t)).a : Int))).setCell ⟨w.heap.size+1,1,none⟩ (.int .u8 ((plR (fld 2 0 t)).b : Int))).setCell ⟨w.heap.size+1,2,none⟩ (.int .u8 ((plR (fld 2 0 t)).c : Int))).setCell ⟨w.heap.size+1,3,none⟩ (.int .u8 ((plR (fld 2 0 t)).d : Int))).setCell ⟨w.heap.size+1,4,none⟩ (.int .u16 ((plR (fld 2 0 t)).port : Int))).setCell ⟨w.heap.size+1,5,none⟩ (.int .i64 (wgtR (fld 2 1 t) : Int)))=sets wc2 (w.heap.size+1) 0 [.int .u8 ((plR (fld 2 0 t)).a : Int),.int .u8 ((plR (fld 2 0 t)).b : Int),.int .u8 ((plR (fld 2 0 t)).c : Int),.int .u8 ((plR (fld 2 0 t)).d : Int),.int .u16 ((plR (fld 2 0 t)).port : Int),.int .i64 (wgtR (fld 2 1 t) : Int)]:=rfl
    have HY3 : Hid (Bk (sets wc2 (w.heap.size+1) 0 [.int .u8 ((plR (fld 2 0 t)).a : Int),.int .u8 ((plR (fld 2 0 t)).b : Int),.int .u8 ((plR (fld 2 0 t)).c : Int),.int .u8 ((plR (fld 2 0 t)).d : Int),.int .u16 ((plR (fld 2 0 t)).port : Int),.int .i64 (wgtR (fld 2 1 t) : Int)]) (w.heap.size+1) #[.int .u8 ((plR (fld 2 0 t)).a : Int),.int .u8 ((plR (fld 2 0 t)).b : Int),.int .u8 ((plR (fld 2 0 t)).c : Int),.int .u8 ((plR (fld 2 0 t)).d : Int),.int .u16 ((plR (fld 2 0 t)).port : Int),.int .i64 (wgtR (fld 2 1 t) : Int)] 64):=Lib.hid (sets_bk [.int .u8 ((plR (fld 2 0 t)).a : Int),.int .u8 ((plR (fld 2 0 t)).b : Int),.int .u8 ((plR (fld 2 0 t)).c : Int),.int .u8 ((plR (fld 2 0 t)).d : Int),.int .u16 ((plR (fld 2 0 t)).port : Int),.int .i64 (wgtR (fld 2 1 t) : Int)] [.int .u8 0,.int .u8 0,.int .u8 0,.int .u8 0,.int .u16 0,.int .i64 0] [] rfl HY2.out)
    have HG3:=Lib.hid (chg_sets HG2.out (show w.heap.size≤w.heap.size+1 by omega) [.int .u8 ((plR (fld 2 0 t)).a : Int),.int .u8 ((plR (fld 2 0 t)).b : Int),.int .u8 ((plR (fld 2 0 t)).c : Int),.int .u8 ((plR (fld 2 0 t)).d : Int),.int .u16 ((plR (fld 2 0 t)).port : Int),.int .i64 (wgtR (fld 2 1 t) : Int)] 0)
    have HR3:=Lib.hid (show Bk (sets wc2 (w.heap.size+1) 0 [.int .u8 ((plR (fld 2 0 t)).a : Int),.int .u8 ((plR (fld 2 0 t)).b : Int),.int .u8 ((plR (fld 2 0 t)).c : Int),.int .u8 ((plR (fld 2 0 t)).d : Int),.int .u16 ((plR (fld 2 0 t)).port : Int),.int .i64 (wgtR (fld 2 1 t) : Int)]) R _ 90 from (sets_other (w.heap.size+1) R (Ne.symm HNE.out) [.int .u8 ((plR (fld 2 0 t)).a : Int),.int .u8 ((plR (fld 2 0 t)).b : Int),.int .u8 ((plR (fld 2 0 t)).c : Int),.int .u8 ((plR (fld 2 0 t)).d : Int),.int .u16 ((plR (fld 2 0 t)).port : Int),.int .i64 (wgtR (fld 2 1 t) : Int)] 0 wc2).trans HR2.out)
    refine hK.out _ _ (mkS2.out _ HS2.out [.int .u8 ((plR (fld 2 0 t)).a : Int),.int .u8 ((plR (fld 2 0 t)).b : Int),.int .u8 ((plR (fld 2 0 t)).c : Int),.int .u8 ((plR (fld 2 0 t)).d : Int),.int .u16 ((plR (fld 2 0 t)).port : Int),.int .i64 (wgtR (fld 2 1 t) : Int)] 0) (fun hj8 => ?_)
    clear hK K hj9
    have hj9:=hj8
    clear hj8
    clear y0 z0 y1 z1 y2 z2 y3 z3 y4 z4 y5 z5
    try simp only [Act.put,pS,p0,p1]
    rw [hch]
    clear hch
    generalize sets wc2 (w.heap.size+1) 0 [.int .u8 ((plR (fld 2 0 t)).a : Int),.int .u8 ((plR (fld 2 0 t)).b : Int),.int .u8 ((plR (fld 2 0 t)).c : Int),.int .u8 ((plR (fld 2 0 t)).d : Int),.int .u16 ((plR (fld 2 0 t)).port : Int),.int .i64 (wgtR (fld 2 1 t) : Int)]=wc3 at *
    refine wpAnyH_done (by kernel_rfl) ?_ _
    simp only [Exit.then]
    apply_assumption
    have y0:=(cell_of_row _ _ 0 _ _ _ HY3.out).trans rfl
    have y1:=(cell_of_row _ _ 1 _ _ _ HY3.out).trans rfl
    have y2:=(cell_of_row _ _ 2 _ _ _ HY3.out).trans rfl
    have y3:=(cell_of_row _ _ 3 _ _ _ HY3.out).trans rfl
    have y4:=(cell_of_row _ _ 4 _ _ _ HY3.out).trans rfl
    have y5:=(cell_of_row _ _ 5 _ _ _ HY3.out).trans rfl
    try go_wp2
    refine bodyPost_ret (v:=.agg #[.int .u8 ((plR (fld 2 0 t)).a : Int),.int .u8 ((plR (fld 2 0 t)).b : Int),.int .u8 ((plR (fld 2 0 t)).c : Int),.int .u8 ((plR (fld 2 0 t)).d : Int),.int .u16 ((plR (fld 2 0 t)).port : Int),.int .i64 (wgtR (fld 2 1 t) : Int)]) (by simp [results,Tryz.results117,go_sem, *]) rfl ?_
    refine ⟨rfl,?_,HG3.out⟩
    have h:=HR3.out
    rw [← HB1.out] at h
    simp only [wrE,wrR,wrLs,wrCl,wrC,wrF,wrP,wrW,wrS,wrN,Bool.or_assoc] at h ⊢
    exact h
   ·exact AllReadyH.nil
  ·exact AllReadyH.nil
 ·exact AllReadyH.nil
end Go.Proofs.YtjfjliobencppaaGreatDoor.Cf

set_option maxRecDepth 100000
set_option maxHeartbeats 4000000
namespace Go.Proofs.YtjfjliobencppaaGreatDoor.Cf
open Go.RowKit
theorem rd_rt (R : Nat) (b : Bool) (t : Tr) (c0 c1 c2 c3 : Value) (w : World) (hR : Bk w R #[.bool b] 90) (hv : VInP w (fun b => b≠R) t c0 c1 c2 c3) :
  Calls Tryz.prog 114 #[.pointer (some ⟨R,0,none⟩),.agg #[c0,c1,c2,c3]] w fun e w' => e=.returned (.agg #[.string (txtR (fld 4 0 t)),.string (txtR (fld 4 1 t)),.string (txtR (fld 4 2 t)),.int .u64 (numR (fld 4 3 t) : Int)])∧Rd R (b || wrR t) w w':=by
 have HNE : Hid (w.heap.size+1≠R):=Lib.hid (by have:=lt_of_heap hR; omega)
 have HBx:=Lib.hid (show Below w.heap.size w ((w.alloc (.cells #[c0,c1,c2,c3] 69)).alloc (.cells #[.string ⟨#[]⟩,.string ⟨#[]⟩,.string ⟨#[]⟩,.int .u64 0] 62)) from (alloc_below _ _).trans ((alloc_below _ _).mono (by simp)))
 have HY:=Lib.hid (alloc_at (w:=(w.alloc (.cells #[c0,c1,c2,c3] 69))) (g:=w.heap.size+1) #[.string ⟨#[]⟩,.string ⟨#[]⟩,.string ⟨#[]⟩,.int .u64 0] 62 (by simp))
 have K72:=Lib.hid (fields_any R 4 b t c0 c1 c2 c3 ((w.alloc (.cells #[c0,c1,c2,c3] 69)).alloc (.cells #[.string ⟨#[]⟩,.string ⟨#[]⟩,.string ⟨#[]⟩,.int .u64 0] 62)) (by omega) (hR.later HBx.out) (chg_vin (Chg.of_below (g:=R) (ρ:=none) HBx.out) hv))
 have HVR:=Lib.hid hv
 obtain ⟨W0,hW0⟩ : ∃ W0,W0=((w.alloc (.cells #[c0,c1,c2,c3] 69)).alloc (.cells #[.string ⟨#[]⟩,.string ⟨#[]⟩,.string ⟨#[]⟩,.int .u64 0] 62)):=⟨_,rfl⟩
 rw [← hW0] at HBx HY K72
 obtain ⟨k',n',s',o',len',cap',rfl,rfl,rfl,rfl⟩:=hv.cells
 clear hv hR
 go_enter Tryz.func114,Tryz.ntmps114
 go_wp2_with fail
 rw [← hW0]
 clear hW0
 refine (K72.out).mono ?_
 rintro e w1 ⟨⟨o,cap,g,off,rfl,ho,hl⟩,hrn⟩
 obtain ⟨rfl,hgl,hgR⟩:=ho (by omega)
 have HGA:=Lib.hid (show Chg R none w w1 from chg_then (Chg.of_below HBx.out) hrn.2)
 have HYA:=Lib.hid (show Bk w1 (w.heap.size+1) #[.string ⟨#[]⟩,.string ⟨#[]⟩,.string ⟨#[]⟩,.int .u64 0] 62 from (hrn.2.2.2.2.2 _ (lt_of_heap HY.out) HNE.out (by simp)).trans HY.out)
 obtain ⟨b1,hb1⟩ : ∃ b1,(b || decide (Tr.tk t≠3) || decide ((Tr.tl (ofT 3 t)).length≠4))=b1:=⟨_,rfl⟩
 have HB1:=Lib.hid hb1
 rw [hb1] at hrn
 have HRA:=Lib.hid hrn.1
 clear hb1
 have hfl : (fldT 4 t).length=4:=fldT_len 4 t
 obtain ⟨d0_0,d0_1,d0_2,d0_3,e0_0,e0_1,e0_2,e0_3,hv0⟩:=hl.at 0 (by omega)
 simp only [Nat.zero_mul,Nat.one_mul,Nat.reduceMul,Nat.add_zero,Nat.add_assoc,Nat.reduceAdd] at e0_0 e0_1 e0_2 e0_3
 have hz0 : (fldT 4 t)[0]'(by omega)=fld 4 0 t:=fld_at _
 rw [hz0] at hv0
 obtain ⟨d1_0,d1_1,d1_2,d1_3,e1_0,e1_1,e1_2,e1_3,hv1⟩:=hl.at 1 (by omega)
 simp only [Nat.zero_mul,Nat.one_mul,Nat.reduceMul,Nat.add_zero,Nat.add_assoc,Nat.reduceAdd] at e1_0 e1_1 e1_2 e1_3
 have hz1 : (fldT 4 t)[1]'(by omega)=fld 4 1 t:=fld_at _
 rw [hz1] at hv1
 obtain ⟨d2_0,d2_1,d2_2,d2_3,e2_0,e2_1,e2_2,e2_3,hv2⟩:=hl.at 2 (by omega)
 simp only [Nat.zero_mul,Nat.one_mul,Nat.reduceMul,Nat.add_zero,Nat.add_assoc,Nat.reduceAdd] at e2_0 e2_1 e2_2 e2_3
 have hz2 : (fldT 4 t)[2]'(by omega)=fld 4 2 t:=fld_at _
 rw [hz2] at hv2
 obtain ⟨d3_0,d3_1,d3_2,d3_3,e3_0,e3_1,e3_2,e3_3,hv3⟩:=hl.at 3 (by omega)
 simp only [Nat.zero_mul,Nat.one_mul,Nat.reduceMul,Nat.add_zero,Nat.add_assoc,Nat.reduceAdd] at e3_0 e3_1 e3_2 e3_3
 have hz3 : (fldT 4 t)[3]'(by omega)=fld 4 3 t:=fld_at _
 rw [hz3] at hv3
 have hgY : g≠w.heap.size+1:=fun h => by
  obtain ⟨x,y,_,_,_,_,hx,hy,_,_⟩:=hv0.cells
  have h1:=e0_0
  have h2:=e0_1
  rw [h,cell_of_row _ _ _ _ _ _ HYA.out,hx] at h1
  rw [h,cell_of_row _ _ _ _ _ _ HYA.out,hy] at h2
  exact noiu62 off x y h1 h2
 clear hl ho hrn hfl hz0 hz1 hz2 hz3
 go_upto_region 2 with fail
 have hS1 : ∀ wz,Chg R none w1 wz→wz.cell? ⟨g,off,none⟩=some (d0_0)∧wz.cell? ⟨g,off+1,none⟩=some (d0_1)∧wz.cell? ⟨g,off+2,none⟩=some (d0_2)∧wz.cell? ⟨g,off+3,none⟩=some (d0_3)∧wz.cell? ⟨g,off+4,none⟩=some (d1_0)∧wz.cell? ⟨g,off+5,none⟩=some (d1_1)∧wz.cell? ⟨g,off+6,none⟩=some (d1_2)∧wz.cell? ⟨g,off+7,none⟩=some (d1_3)∧wz.cell? ⟨g,off+8,none⟩=some (d2_0)∧wz.cell? ⟨g,off+9,none⟩=some (d2_1)∧wz.cell? ⟨g,off+10,none⟩=some (d2_2)∧wz.cell? ⟨g,off+11,none⟩=some (d2_3)∧wz.cell? ⟨g,off+12,none⟩=some (d3_0)∧wz.cell? ⟨g,off+13,none⟩=some (d3_1)∧wz.cell? ⟨g,off+14,none⟩=some (d3_2)∧wz.cell? ⟨g,off+15,none⟩=some (d3_3):=fun wz h => by
  have hb:=h.2.2.2.2 g hgl hgR (by simp)
  have hc : ∀ j,wz.cell? ⟨g,j,none⟩=w1.cell? ⟨g,j,none⟩:=fun j => World.cell?_of_block hb
  exact ⟨(hc _).trans e0_0,(hc _).trans e0_1,(hc _).trans e0_2,(hc _).trans e0_3,(hc _).trans e1_0,(hc _).trans e1_1,(hc _).trans e1_2,(hc _).trans e1_3,(hc _).trans e2_0,(hc _).trans e2_1,(hc _).trans e2_2,(hc _).trans e2_3,(hc _).trans e3_0,(hc _).trans e3_1,(hc _).trans e3_2,(hc _).trans e3_3⟩
 have mkS:=Lib.hid hS1
 have mkS2 : Hid (∀ wz,Chg R none w1 wz→∀ vs i,(sets wz (w.heap.size+1) i vs).cell? ⟨g,off,none⟩=some (d0_0)∧(sets wz (w.heap.size+1) i vs).cell? ⟨g,off+1,none⟩=some (d0_1)∧(sets wz (w.heap.size+1) i vs).cell? ⟨g,off+2,none⟩=some (d0_2)∧(sets wz (w.heap.size+1) i vs).cell? ⟨g,off+3,none⟩=some (d0_3)∧(sets wz (w.heap.size+1) i vs).cell? ⟨g,off+4,none⟩=some (d1_0)∧(sets wz (w.heap.size+1) i vs).cell? ⟨g,off+5,none⟩=some (d1_1)∧(sets wz (w.heap.size+1) i vs).cell? ⟨g,off+6,none⟩=some (d1_2)∧(sets wz (w.heap.size+1) i vs).cell? ⟨g,off+7,none⟩=some (d1_3)∧(sets wz (w.heap.size+1) i vs).cell? ⟨g,off+8,none⟩=some (d2_0)∧(sets wz (w.heap.size+1) i vs).cell? ⟨g,off+9,none⟩=some (d2_1)∧(sets wz (w.heap.size+1) i vs).cell? ⟨g,off+10,none⟩=some (d2_2)∧(sets wz (w.heap.size+1) i vs).cell? ⟨g,off+11,none⟩=some (d2_3)∧(sets wz (w.heap.size+1) i vs).cell? ⟨g,off+12,none⟩=some (d3_0)∧(sets wz (w.heap.size+1) i vs).cell? ⟨g,off+13,none⟩=some (d3_1)∧(sets wz (w.heap.size+1) i vs).cell? ⟨g,off+14,none⟩=some (d3_2)∧(sets wz (w.heap.size+1) i vs).cell? ⟨g,off+15,none⟩=some (d3_3)):=Lib.hid (fun wz h vs i => by
  have hb:=h.2.2.2.2 g hgl hgR (by simp)
  have hc : ∀ j,(sets wz (w.heap.size+1) i vs).cell? ⟨g,j,none⟩=w1.cell? ⟨g,j,none⟩:=fun j => World.cell?_of_block ((sets_other _ _ hgY vs i wz).trans hb)
  exact ⟨(hc _).trans e0_0,(hc _).trans e0_1,(hc _).trans e0_2,(hc _).trans e0_3,(hc _).trans e1_0,(hc _).trans e1_1,(hc _).trans e1_2,(hc _).trans e1_3,(hc _).trans e2_0,(hc _).trans e2_1,(hc _).trans e2_2,(hc _).trans e2_3,(hc _).trans e3_0,(hc _).trans e3_1,(hc _).trans e3_2,(hc _).trans e3_3⟩)
 clear hS1
 have HG0:=Lib.hid (show Chg R none w w1.drew from chg_then HGA.out ⟨rfl,rfl,rfl,Nat.le_refl _,fun _ _ _ _ => rfl⟩)
 have HR0:=Lib.hid (show Bk w1.drew R #[.bool b1] 90 from HRA.out)
 have HY0:=Lib.hid (show Bk w1.drew (w.heap.size+1) #[.string ⟨#[]⟩,.string ⟨#[]⟩,.string ⟨#[]⟩,.int .u64 0] 62 from HYA.out)
 have HS0 : Hid (Chg R none w1 w1.drew):=Lib.hid ⟨rfl,rfl,rfl,Nat.le_refl _,fun _ _ _ _ => rfl⟩
 have HV0_0:=Lib.hid (chg_vin HS0.out hv0)
 have HV1_0:=Lib.hid (chg_vin HS0.out hv1)
 have HV2_0:=Lib.hid (chg_vin HS0.out hv2)
 have HV3_0:=Lib.hid (chg_vin HS0.out hv3)
 clear hv0 hv1 hv2 hv3 e0_0 e0_1 e0_2 e0_3 e1_0 e1_1 e1_2 e1_3 e2_0 e2_1 e2_2 e2_3 e3_0 e3_1 e3_2 e3_3
 refine wp_region_held_drew (S:=fun wz => wz.cell? ⟨g,off,none⟩=some (d0_0)∧wz.cell? ⟨g,off+1,none⟩=some (d0_1)∧wz.cell? ⟨g,off+2,none⟩=some (d0_2)∧wz.cell? ⟨g,off+3,none⟩=some (d0_3)∧wz.cell? ⟨g,off+4,none⟩=some (d1_0)∧wz.cell? ⟨g,off+5,none⟩=some (d1_1)∧wz.cell? ⟨g,off+6,none⟩=some (d1_2)∧wz.cell? ⟨g,off+7,none⟩=some (d1_3)∧wz.cell? ⟨g,off+8,none⟩=some (d2_0)∧wz.cell? ⟨g,off+9,none⟩=some (d2_1)∧wz.cell? ⟨g,off+10,none⟩=some (d2_2)∧wz.cell? ⟨g,off+11,none⟩=some (d2_3)∧wz.cell? ⟨g,off+12,none⟩=some (d3_0)∧wz.cell? ⟨g,off+13,none⟩=some (d3_1)∧wz.cell? ⟨g,off+14,none⟩=some (d3_2)∧wz.cell? ⟨g,off+15,none⟩=some (d3_3)) (by kernel_rfl) (mkS.out _ HS0.out) (fun hj9 => ?_)
 generalize w1.drew=wc0 at *
 refine tkH (i:=0) (oi:=⟨some 9,_,_,_,_,_⟩) (v:=?_) rfl (Or.inl ⟨by rfl,by (intro w hSw; (try dsimp only at hSw); go_simp; try with_reducible rfl)⟩) hj9 ?_
 try simp only [Act.put,pS,p0,p1]
 refine tkH (i:=1) (oi:=⟨some 10,_,_,_,_,_⟩) (v:=?_) rfl (Or.inl ⟨by rfl,by (intro w hSw; (try dsimp only at hSw); go_simp; try with_reducible rfl)⟩) hj9 ?_
 try simp only [Act.put,pS,p0,p1]
 refine tkH (i:=2) (oi:=⟨some 11,_,_,_,_,_⟩) (v:=?_) rfl (Or.inl ⟨by rfl,by (intro w hSw; (try dsimp only at hSw); go_simp; try with_reducible rfl)⟩) hj9 ?_
 try simp only [Act.put,pS,p0,p1]
 refine tkH (i:=3) (oi:=⟨some 12,_,_,_,_,_⟩) (v:=?_) rfl (Or.inl ⟨by rfl,by (intro w hSw; (try dsimp only at hSw); go_simp; try with_reducible rfl)⟩) hj9 ?_
 try simp only [Act.put,pS,p0,p1]
 refine tkH (i:=5) (oi:=⟨some 14,_,_,_,_,_⟩) (v:=?_) rfl (Or.inl ⟨by rfl,by (intro w hSw; (try dsimp only at hSw); go_simp; try with_reducible rfl)⟩) hj9 ?_
 try simp only [Act.put,pS,p0,p1]
 refine tkH (i:=6) (oi:=⟨some 15,_,_,_,_,_⟩) (v:=?_) rfl (Or.inl ⟨by rfl,by (intro w hSw; (try dsimp only at hSw); go_simp; try with_reducible rfl)⟩) hj9 ?_
 try simp only [Act.put,pS,p0,p1]
 refine tkH (i:=7) (oi:=⟨some 16,_,_,_,_,_⟩) (v:=?_) rfl (Or.inl ⟨by rfl,by (intro w hSw; (try dsimp only at hSw); go_simp; try with_reducible rfl)⟩) hj9 ?_
 try simp only [Act.put,pS,p0,p1]
 refine tkH (i:=8) (oi:=⟨some 17,_,_,_,_,_⟩) (v:=?_) rfl (Or.inl ⟨by rfl,by (intro w hSw; (try dsimp only at hSw); go_simp; try with_reducible rfl)⟩) hj9 ?_
 try simp only [Act.put,pS,p0,p1]
 refine tkH (i:=10) (oi:=⟨some 19,_,_,_,_,_⟩) (v:=?_) rfl (Or.inl ⟨by rfl,by (intro w hSw; (try dsimp only at hSw); go_simp; try with_reducible rfl)⟩) hj9 ?_
 try simp only [Act.put,pS,p0,p1]
 refine tkH (i:=11) (oi:=⟨some 20,_,_,_,_,_⟩) (v:=?_) rfl (Or.inl ⟨by rfl,by (intro w hSw; (try dsimp only at hSw); go_simp; try with_reducible rfl)⟩) hj9 ?_
 try simp only [Act.put,pS,p0,p1]
 refine tkH (i:=12) (oi:=⟨some 21,_,_,_,_,_⟩) (v:=?_) rfl (Or.inl ⟨by rfl,by (intro w hSw; (try dsimp only at hSw); go_simp; try with_reducible rfl)⟩) hj9 ?_
 try simp only [Act.put,pS,p0,p1]
 refine tkH (i:=13) (oi:=⟨some 22,_,_,_,_,_⟩) (v:=?_) rfl (Or.inl ⟨by rfl,by (intro w hSw; (try dsimp only at hSw); go_simp; try with_reducible rfl)⟩) hj9 ?_
 try simp only [Act.put,pS,p0,p1]
 refine tkH (i:=15) (oi:=⟨some 24,_,_,_,_,_⟩) (v:=?_) rfl (Or.inl ⟨by rfl,by (intro w hSw; (try dsimp only at hSw); go_simp; try with_reducible rfl)⟩) hj9 ?_
 try simp only [Act.put,pS,p0,p1]
 refine tkH (i:=16) (oi:=⟨some 25,_,_,_,_,_⟩) (v:=?_) rfl (Or.inl ⟨by rfl,by (intro w hSw; (try dsimp only at hSw); go_simp; try with_reducible rfl)⟩) hj9 ?_
 try simp only [Act.put,pS,p0,p1]
 refine tkH (i:=17) (oi:=⟨some 26,_,_,_,_,_⟩) (v:=?_) rfl (Or.inl ⟨by rfl,by (intro w hSw; (try dsimp only at hSw); go_simp; try with_reducible rfl)⟩) hj9 ?_
 try simp only [Act.put,pS,p0,p1]
 refine tkH (i:=18) (oi:=⟨some 27,_,_,_,_,_⟩) (v:=?_) rfl (Or.inl ⟨by rfl,by (intro w hSw; (try dsimp only at hSw); go_simp; try with_reducible rfl)⟩) hj9 ?_
 try simp only [Act.put,pS,p0,p1]
 refine wpAnyH_ready (rs:=[4]) (by kernel_rfl) (by simp) ?_
 refine AllReadyH.cons (o:=⟨some 13,_,_,_,_,_⟩) rfl (fun K hK => ?_) ?_
 ·go_simp
  refine (text_any' R _ _ _ _ _ _ _ HR0.out HV0_0.out).mono ?_
  rintro ze wc1 ⟨rfl,hrn⟩
  try go_simp
  have HR1:=Lib.hid hrn.1
  have HG1:=Lib.hid (chg_then HG0.out hrn.2)
  have HY1:=Lib.hid (show Bk wc1 (w.heap.size+1) _ _ from (hrn.2.2.2.2.2 _ (lt_of_heap HY0.out) HNE.out (by simp)).trans HY0.out)
  have HS1:=Lib.hid (chg_then HS0.out hrn.2)
  have HV0_1:=Lib.hid (chg_vin hrn.2 HV0_0.out)
  have HV1_1:=Lib.hid (chg_vin hrn.2 HV1_0.out)
  have HV2_1:=Lib.hid (chg_vin hrn.2 HV2_0.out)
  have HV3_1:=Lib.hid (chg_vin hrn.2 HV3_0.out)
  refine hK.out _ _ (mkS.out _ HS1.out) (fun hj8 => ?_)
  clear hK K hj9
  have hj9:=hj8
  clear hj8
  clear hrn
  try simp only [Act.put,pS,p0,p1]
  refine wpAnyH_ready (rs:=[9]) (by kernel_rfl) (by simp) ?_
  refine AllReadyH.cons (o:=⟨some 18,_,_,_,_,_⟩) rfl (fun K hK => ?_) ?_
  ·go_simp
   refine (text_any' R _ _ _ _ _ _ _ HR1.out HV1_1.out).mono ?_
   rintro ze wc2 ⟨rfl,hrn⟩
   try go_simp
   have HR2:=Lib.hid hrn.1
   have HG2:=Lib.hid (chg_then HG1.out hrn.2)
   have HY2:=Lib.hid (show Bk wc2 (w.heap.size+1) _ _ from (hrn.2.2.2.2.2 _ (lt_of_heap HY1.out) HNE.out (by simp)).trans HY1.out)
   have HS2:=Lib.hid (chg_then HS1.out hrn.2)
   have HV0_2:=Lib.hid (chg_vin hrn.2 HV0_1.out)
   have HV1_2:=Lib.hid (chg_vin hrn.2 HV1_1.out)
   have HV2_2:=Lib.hid (chg_vin hrn.2 HV2_1.out)
   have HV3_2:=Lib.hid (chg_vin hrn.2 HV3_1.out)
   refine hK.out _ _ (mkS.out _ HS2.out) (fun hj8 => ?_)
   clear hK K hj9
   have hj9:=hj8
   clear hj8
   clear hrn
   try simp only [Act.put,pS,p0,p1]
   refine wpAnyH_ready (rs:=[14]) (by kernel_rfl) (by simp) ?_
   refine AllReadyH.cons (o:=⟨some 23,_,_,_,_,_⟩) rfl (fun K hK => ?_) ?_
   ·go_simp
    refine (text_any' R _ _ _ _ _ _ _ HR2.out HV2_2.out).mono ?_
    rintro ze wc3 ⟨rfl,hrn⟩
    try go_simp
    have HR3:=Lib.hid hrn.1
    have HG3:=Lib.hid (chg_then HG2.out hrn.2)
    have HY3:=Lib.hid (show Bk wc3 (w.heap.size+1) _ _ from (hrn.2.2.2.2.2 _ (lt_of_heap HY2.out) HNE.out (by simp)).trans HY2.out)
    have HS3:=Lib.hid (chg_then HS2.out hrn.2)
    have HV0_3:=Lib.hid (chg_vin hrn.2 HV0_2.out)
    have HV1_3:=Lib.hid (chg_vin hrn.2 HV1_2.out)
    have HV2_3:=Lib.hid (chg_vin hrn.2 HV2_2.out)
    have HV3_3:=Lib.hid (chg_vin hrn.2 HV3_2.out)
    refine hK.out _ _ (mkS.out _ HS3.out) (fun hj8 => ?_)
    clear hK K hj9
    have hj9:=hj8
    clear hj8
    clear hrn
    try simp only [Act.put,pS,p0,p1]
    refine wpAnyH_ready (rs:=[19]) (by kernel_rfl) (by simp) ?_
    refine AllReadyH.cons (o:=⟨some 28,_,_,_,_,_⟩) rfl (fun K hK => ?_) ?_
    ·go_simp
     refine (number_any R _ _ _ _ _ _ _ HR3.out HV3_3.out).mono ?_
     rintro ze wc4 ⟨rfl,hrn⟩
     try go_simp
     have HR4:=Lib.hid hrn.1
     have HG4:=Lib.hid (chg_then HG3.out hrn.2)
     have HY4:=Lib.hid (show Bk wc4 (w.heap.size+1) _ _ from (hrn.2.2.2.2.2 _ (lt_of_heap HY3.out) HNE.out (by simp)).trans HY3.out)
     have HS4:=Lib.hid (chg_then HS3.out hrn.2)
     have HV0_4:=Lib.hid (chg_vin hrn.2 HV0_3.out)
     have HV1_4:=Lib.hid (chg_vin hrn.2 HV1_3.out)
     have HV2_4:=Lib.hid (chg_vin hrn.2 HV2_3.out)
     have HV3_4:=Lib.hid (chg_vin hrn.2 HV3_3.out)
     refine hK.out _ _ (mkS.out _ HS4.out) (fun hj8 => ?_)
     clear hK K hj9
     have hj9:=hj8
     clear hj8
     clear hrn
     try simp only [Act.put,pS,p0,p1]
     refine tkH (i:=20) (oi:=⟨some 29,_,_,_,_,_⟩) (v:=?_) rfl (Or.inl ⟨by rfl,by (intro w hSw; (try dsimp only at hSw); go_simp; try with_reducible rfl)⟩) hj9 ?_
     try simp only [Act.put,pS,p0,p1]
     refine wpAnyH_ready (rs:=[21]) (by kernel_rfl) (by simp) ?_
     refine AllReadyH.cons (o:=⟨none,_,_,_,_,_⟩) rfl (fun K hK => ?_) ?_
     ·have y0:=(cell_of_row _ _ 0 _ _ _ HY4.out).trans rfl
      have z0:=frozen_of_row _ _ 0 _ _ HY4.out
      have y1:=(cell_of_row _ _ 1 _ _ _ HY4.out).trans rfl
      have z1:=frozen_of_row _ _ 1 _ _ HY4.out
      have y2:=(cell_of_row _ _ 2 _ _ _ HY4.out).trans rfl
      have z2:=frozen_of_row _ _ 2 _ _ HY4.out
      have y3:=(cell_of_row _ _ 3 _ _ _ HY4.out).trans rfl
      have z3:=frozen_of_row _ _ 3 _ _ HY4.out
      go_simp
      have hch : ((((wc4.setCell ⟨w.heap.size+1,0,none⟩ (.string (txtR (fld 4 0 t)))).setCell ⟨w.heap.size+1,1,none⟩ (.string (txtR (fld 4 1 t)))).setCell ⟨w.heap.size+1,2,none⟩ (.string (txtR (fld 4 2 t)))).setCell ⟨w.heap.size+1,3,none⟩ (.int .u64 (numR (fld 4 3 t) : Int)))=sets wc4 (w.heap.size+1) 0 [.string (txtR (fld 4 0 t)),.string (txtR (fld 4 1 t)),.string (txtR (fld 4 2 t)),.int .u64 (numR (fld 4 3 t) : Int)]:=rfl
      have HY5 : Hid (Bk (sets wc4 (w.heap.size+1) 0 [.string (txtR (fld 4 0 t)),.string (txtR (fld 4 1 t)),.string (txtR (fld 4 2 t)),.int .u64 (numR (fld 4 3 t) : Int)]) (w.heap.size+1) #[.string (txtR (fld 4 0 t)),.string (txtR (fld 4 1 t)),.string (txtR (fld 4 2 t)),.int .u64 (numR (fld 4 3 t) : Int)] 62):=Lib.hid (sets_bk [.string (txtR (fld 4 0 t)),.string (txtR (fld 4 1 t)),.string (txtR (fld 4 2 t)),.int .u64 (numR (fld 4 3 t) : Int)] [.string ⟨#[]⟩,.string ⟨#[]⟩,.string ⟨#[]⟩,.int .u64 0] [] rfl HY4.out)
      have HG5:=Lib.hid (chg_sets HG4.out (show w.heap.size≤w.heap.size+1 by omega) [.string (txtR (fld 4 0 t)),.string (txtR (fld 4 1 t)),.string (txtR (fld 4 2 t)),.int .u64 (numR (fld 4 3 t) : Int)] 0)
      have HR5:=Lib.hid (show Bk (sets wc4 (w.heap.size+1) 0 [.string (txtR (fld 4 0 t)),.string (txtR (fld 4 1 t)),.string (txtR (fld 4 2 t)),.int .u64 (numR (fld 4 3 t) : Int)]) R _ 90 from (sets_other (w.heap.size+1) R (Ne.symm HNE.out) [.string (txtR (fld 4 0 t)),.string (txtR (fld 4 1 t)),.string (txtR (fld 4 2 t)),.int .u64 (numR (fld 4 3 t) : Int)] 0 wc4).trans HR4.out)
      refine hK.out _ _ (mkS2.out _ HS4.out [.string (txtR (fld 4 0 t)),.string (txtR (fld 4 1 t)),.string (txtR (fld 4 2 t)),.int .u64 (numR (fld 4 3 t) : Int)] 0) (fun hj8 => ?_)
      clear hK K hj9
      have hj9:=hj8
      clear hj8
      clear y0 z0 y1 z1 y2 z2 y3 z3
      try simp only [Act.put,pS,p0,p1]
      rw [hch]
      clear hch
      generalize sets wc4 (w.heap.size+1) 0 [.string (txtR (fld 4 0 t)),.string (txtR (fld 4 1 t)),.string (txtR (fld 4 2 t)),.int .u64 (numR (fld 4 3 t) : Int)]=wc5 at *
      refine wpAnyH_done (by kernel_rfl) ?_ _
      simp only [Exit.then]
      apply_assumption
      have y0:=(cell_of_row _ _ 0 _ _ _ HY5.out).trans rfl
      have y1:=(cell_of_row _ _ 1 _ _ _ HY5.out).trans rfl
      have y2:=(cell_of_row _ _ 2 _ _ _ HY5.out).trans rfl
      have y3:=(cell_of_row _ _ 3 _ _ _ HY5.out).trans rfl
      try go_wp2
      refine bodyPost_ret (v:=.agg #[.string (txtR (fld 4 0 t)),.string (txtR (fld 4 1 t)),.string (txtR (fld 4 2 t)),.int .u64 (numR (fld 4 3 t) : Int)]) (by simp [results,Tryz.results114,go_sem, *]) rfl ?_
      refine ⟨rfl,?_,HG5.out⟩
      have h:=HR5.out
      rw [← HB1.out] at h
      simp only [wrE,wrR,wrLs,wrCl,wrC,wrF,wrP,wrW,wrS,wrN,Bool.or_assoc] at h ⊢
      exact h
     ·exact AllReadyH.nil
    ·exact AllReadyH.nil
   ·exact AllReadyH.nil
  ·exact AllReadyH.nil
 ·exact AllReadyH.nil
end Go.Proofs.YtjfjliobencppaaGreatDoor.Cf

set_option maxRecDepth 100000
set_option maxHeartbeats 4000000
namespace Go.Proofs.YtjfjliobencppaaGreatDoor.Cf
open Go.RowKit
theorem rl_end (R : Nat) (b : Bool) (ts : List Tr) (o : Option Addr) (cap g off : Nat) (hlen : ts.length≤1000000) (w : World) (hR : Bk w R #[.bool b] 90) (ho : 0 < ts.length→o=some ⟨g,off,none⟩∧g < w.heap.size∧g≠R) (hl : VInPL w (fun b => b≠R) g off ts)
  (hK : ∀ t (b' : Bool) (wz : World) (c0 c1 c2 c3 : Value),Bk wz R #[.bool b'] 90→VInP wz (fun b => b≠R) t c0 c1 c2 c3→Calls Tryz.prog 117 #[.pointer (some ⟨R,0,none⟩),.agg #[c0,c1,c2,c3]] wz fun e w' => e=.returned (.agg #[.int .u8 ((rdE t).p.a : Int),.int .u8 ((rdE t).p.b : Int),.int .u8 ((rdE t).p.c : Int),.int .u8 ((rdE t).p.d : Int),.int .u16 ((rdE t).p.port : Int),.int .i64 (rdE t).w])∧Rd R (b' || wrE t) wz w') :
  Calls Tryz.prog 130 #[.slice o ts.length cap,(.func (.func 117) #[.pointer (some ⟨R,0,none⟩)] #[])] w fun e w' => ∃ oo cc,e=.returned (.slice oo ts.length cc)∧w'.ownsRow w.heap.size 64 6 (.slice oo ts.length cc) ts.length ((ts.map rdE).flatMap Ep.cs)∧Rd R (b || ts.any wrE) w w':=by
 have HO:=Lib.hid ho
 have HL:=Lib.hid hl
 have HK:=Lib.hid hK
 have HR:=Lib.hid hR
 clear ho hl hK hR
 go_enter Tryz.func130,Tryz.ntmps130
 go_wp2
 refine wp_scope_again 0 (fun a' w' => ∃ (j : Nat) (oo : Option Addr) (cc : Nat) (u2 u3 u4 u6 u7 u8 u9 u10 u11 u12 u13 u14 u15 u16 u17 u18 u19 u20 u21 : Value),j≤ts.length∧a'={ tmps:=#[.slice o ts.length cap,(.func (.func 117) #[.pointer (some ⟨R,0,none⟩)] #[]),u2,u3,u4,.slice oo j cc,u6,u7,u8,u9,u10,u11,u12,u13,u14,u15,u16,u17,u18,u19,u20,u21],defers:=[] }∧Hid (w'.ownsRow w.heap.size 64 6 (.slice oo j cc) j (((ts.take j).map rdE).flatMap Ep.cs)∧Rd R (b || (ts.take j).any wrE) w w')) (fun a' _ => ts.length - slen (a'.tmps.getD 5 undef)) rfl ?_ ?_
 ·intro K Qe hK
  go_wp2
  first | exact hK _ _ ⟨0,none,0,_,_,_,_,_,_,_,_,_,_,_,_,_,_,_,_,_,_,_,Nat.zero_le _,rfl,Lib.hid ⟨(by rw [List.take_zero]; exact World.ownsRow_nil _ _ _ _),by rw [List.take_zero,List.any_nil,Bool.or_false]; exact HR.out,Chg.refl R none w⟩⟩ | exact ⟨0,none,0,_,_,_,_,_,_,_,_,_,_,_,_,_,_,_,_,_,_,_,Nat.zero_le _,rfl,Lib.hid ⟨(by rw [List.take_zero]; exact World.ownsRow_nil _ _ _ _),by rw [List.take_zero,List.any_nil,Bool.or_false]; exact HR.out,Chg.refl R none w⟩⟩
 ·rintro a' wr ⟨j,oo,cc,u2,u3,u4,u6,u7,u8,u9,u10,u11,u12,u13,u14,u15,u16,u17,u18,u19,u20,u21,hj,rfl,hT⟩
  by_cases hjl : j < ts.length
  ·have hjm : (j : Int) < (ts.length : Int):=by omega
   obtain ⟨ho',hgl,hgR⟩:=HO.out (by omega)
   subst ho'
   obtain ⟨hT,hRD⟩:=hT.out
   obtain ⟨c0,c1,c2,c3,e0,e1,e2,e3,hv⟩:=HL.out.at j hjl
   have hb:=hRD.2.2.2.2.2 g hgl hgR (by simp)
   have hc : ∀ q,wr.cell? ⟨g,q,none⟩=w.cell? ⟨g,q,none⟩:=fun q => World.cell?_of_block hb
   have f0:=(hc _).trans e0
   have f1:=(hc _).trans e1
   have f2:=(hc _).trans e2
   have f3:=(hc _).trans e3
   have K1:=Lib.hid (HK.out (ts[j]'hjl) _ wr c0 c1 c2 c3 hRD.1 (chg_vin hRD.2 hv))
   have HTK : Hid (ts.take j++[ts[j]'hjl]=ts.take (j+1)):=Lib.hid (by rw [List.take_append_getElem])
   have HNJ : Hid (j≤1000000):=Lib.hid (by omega)
   have HRB:=Lib.hid hRD
   have HRW0:=Lib.hid hT
   obtain ⟨_,_,_,_,_,_,rfl,rfl,rfl,rfl⟩:=hv.cells
   clear hb hc e0 e1 e2 e3 hv hT hRD hgl hgR
   generalize (ts[j]'hjl)=t at *
   have HJL:=Lib.hid hjl
   go_wp2_with fail
   refine (K1.out).mono ?_
   rintro r w5 ⟨rfl,hrn⟩
   have HAB:=Lib.hid (alloc_below w5 (.cells #[.int .u8 ((rdE t).p.a : Int),.int .u8 ((rdE t).p.b : Int),.int .u8 ((rdE t).p.c : Int),.int .u8 ((rdE t).p.d : Int),.int .u16 ((rdE t).p.port : Int),.int .i64 (rdE t).w] 64))
   have HN5:=Lib.hid (alloc_at (w:=w5) (g:=w5.heap.size) #[.int .u8 ((rdE t).p.a : Int),.int .u8 ((rdE t).p.b : Int),.int .u8 ((rdE t).p.c : Int),.int .u8 ((rdE t).p.d : Int),.int .u16 ((rdE t).p.port : Int),.int .i64 (rdE t).w] 64 rfl)
   have HRN:=Lib.hid (show Rd R _ w (w5.alloc (.cells #[.int .u8 ((rdE t).p.a : Int),.int .u8 ((rdE t).p.b : Int),.int .u8 ((rdE t).p.c : Int),.int .u8 ((rdE t).p.d : Int),.int .u16 ((rdE t).p.port : Int),.int .i64 (rdE t).w] 64)) from ⟨hrn.1.later HAB.out,chg_then (chg_then HRB.out.2 hrn.2) (Chg.of_below HAB.out)⟩)
   have HGE:=Lib.hid HRN.out.2.2.2.2.1
   have HONE:=Lib.hid (show ∀ u ∈ ([.int .u8 ((rdE t).p.a : Int),.int .u8 ((rdE t).p.b : Int),.int .u8 ((rdE t).p.c : Int),.int .u8 ((rdE t).p.d : Int),.int .u16 ((rdE t).p.port : Int),.int .i64 (rdE t).w] : List Value),u.oneCell'=true by intro u hu; simp only [List.mem_cons,List.not_mem_nil,or_false] at hu; rcases hu with rfl | rfl | rfl | rfl | rfl | rfl <;> rfl)
   have HRW2:=Lib.hid (own_later (own_chg HRW0.out hrn.2 HRB.out.1 (by decide)) HAB.out)
   clear hrn
   go_wp2_with (first
    | (at_builtin; go_must (refine wpList_append_one (w5.alloc (.cells #[.int .u8 ((rdE t).p.a : Int),.int .u8 ((rdE t).p.b : Int),.int .u8 ((rdE t).p.c : Int),.int .u8 ((rdE t).p.d : Int),.int .u16 ((rdE t).p.port : Int),.int .i64 (rdE t).w] 64)) rfl (.tmp 11) (.tmp 19) (e:=64) (k:=6) Tryz.underlying55 (by kernel_rfl) (by decide) rfl (w.heap.size) (.slice oo j cc) j (((ts.take j).map rdE).flatMap Ep.cs) [.int .u8 ((rdE t).p.a : Int),.int .u8 ((rdE t).p.b : Int),.int .u8 ((rdE t).p.c : Int),.int .u8 ((rdE t).p.d : Int),.int .u16 ((rdE t).p.port : Int),.int .i64 (rdE t).w] w5.heap.size rfl HRW2.out rfl HN5.out rfl HONE.out HGE.out HNJ.out ?_); intro v6 w6 hv6 hg6 hb6 hn6; obtain ⟨o6,c6,hf6⟩:=own_form hv6; subst hf6; have HV6:=Lib.hid hv6; have HR6:=Lib.hid (show Rd R _ w w6 from ⟨HRN.out.1.grown HRW2.out hg6 (by decide),chg_below HRN.out.2 hb6⟩); clear hv6 hg6 hb6 hn6))
   go_step3
   refine ⟨rfl,⟨j+1,o6,c6,_,_,_,_,_,_,_,_,_,_,_,_,_,_,_,_,_,_,_,HJL.out,rfl,Lib.hid ⟨?_,?_⟩⟩,?_⟩
   ·rw [← HTK.out,List.map_append,List.flatMap_append,List.map_cons,List.map_nil,List.flatMap_cons,List.flatMap_nil,List.append_nil]
    exact HV6.out
   ·rw [← HTK.out,List.any_append,List.any_cons,List.any_nil,Bool.or_false,← Bool.or_assoc]
    exact HR6.out
   ·have HJM:=HJL.out
    simp [slen]
    omega
  ·obtain rfl : j=ts.length:=by omega
   have HX:=Lib.hid (show wr.ownsRow w.heap.size 64 6 (.slice oo ts.length cc) ts.length ((ts.map rdE).flatMap Ep.cs)∧Rd R (b || ts.any wrE) w wr by have h:=hT.out; rwa [List.take_length] at h)
   have hjm : ¬ ((ts.length : Int) < (ts.length : Int)):=by omega
   clear hT
   go_wp2
   try simp only [Exit.jump]
   go_ret
   exact ⟨_,_,rfl,HX.out.1,HX.out.2⟩
theorem rl_rou (R : Nat) (b : Bool) (ts : List Tr) (o : Option Addr) (cap g off : Nat) (hlen : ts.length≤1000000) (w : World) (hR : Bk w R #[.bool b] 90) (ho : 0 < ts.length→o=some ⟨g,off,none⟩∧g < w.heap.size∧g≠R) (hl : VInPL w (fun b => b≠R) g off ts)
  (hK : ∀ t (b' : Bool) (wz : World) (c0 c1 c2 c3 : Value),Bk wz R #[.bool b'] 90→VInP wz (fun b => b≠R) t c0 c1 c2 c3→Calls Tryz.prog 114 #[.pointer (some ⟨R,0,none⟩),.agg #[c0,c1,c2,c3]] wz fun e w' => e=.returned (.agg #[.string (rdR t).host,.string (rdR t).path,.string (rdR t).cluster,.int .u64 ((rdR t).idle : Int)])∧Rd R (b' || wrR t) wz w') :
  Calls Tryz.prog 129 #[.slice o ts.length cap,(.func (.func 114) #[.pointer (some ⟨R,0,none⟩)] #[])] w fun e w' => ∃ oo cc,e=.returned (.slice oo ts.length cc)∧w'.ownsRow w.heap.size 62 4 (.slice oo ts.length cc) ts.length ((ts.map rdR).flatMap Rt.cs)∧Rd R (b || ts.any wrR) w w':=by
 have HO:=Lib.hid ho
 have HL:=Lib.hid hl
 have HK:=Lib.hid hK
 have HR:=Lib.hid hR
 clear ho hl hK hR
 go_enter Tryz.func129,Tryz.ntmps129
 go_wp2
 refine wp_scope_again 0 (fun a' w' => ∃ (j : Nat) (oo : Option Addr) (cc : Nat) (u2 u3 u4 u6 u7 u8 u9 u10 u11 u12 u13 u14 u15 u16 u17 u18 u19 u20 u21 : Value),j≤ts.length∧a'={ tmps:=#[.slice o ts.length cap,(.func (.func 114) #[.pointer (some ⟨R,0,none⟩)] #[]),u2,u3,u4,.slice oo j cc,u6,u7,u8,u9,u10,u11,u12,u13,u14,u15,u16,u17,u18,u19,u20,u21],defers:=[] }∧Hid (w'.ownsRow w.heap.size 62 4 (.slice oo j cc) j (((ts.take j).map rdR).flatMap Rt.cs)∧Rd R (b || (ts.take j).any wrR) w w')) (fun a' _ => ts.length - slen (a'.tmps.getD 5 undef)) rfl ?_ ?_
 ·intro K Qe hK
  go_wp2
  first | exact hK _ _ ⟨0,none,0,_,_,_,_,_,_,_,_,_,_,_,_,_,_,_,_,_,_,_,Nat.zero_le _,rfl,Lib.hid ⟨(by rw [List.take_zero]; exact World.ownsRow_nil _ _ _ _),by rw [List.take_zero,List.any_nil,Bool.or_false]; exact HR.out,Chg.refl R none w⟩⟩ | exact ⟨0,none,0,_,_,_,_,_,_,_,_,_,_,_,_,_,_,_,_,_,_,_,Nat.zero_le _,rfl,Lib.hid ⟨(by rw [List.take_zero]; exact World.ownsRow_nil _ _ _ _),by rw [List.take_zero,List.any_nil,Bool.or_false]; exact HR.out,Chg.refl R none w⟩⟩
 ·rintro a' wr ⟨j,oo,cc,u2,u3,u4,u6,u7,u8,u9,u10,u11,u12,u13,u14,u15,u16,u17,u18,u19,u20,u21,hj,rfl,hT⟩
  by_cases hjl : j < ts.length
  ·have hjm : (j : Int) < (ts.length : Int):=by omega
   obtain ⟨ho',hgl,hgR⟩:=HO.out (by omega)
   subst ho'
   obtain ⟨hT,hRD⟩:=hT.out
   obtain ⟨c0,c1,c2,c3,e0,e1,e2,e3,hv⟩:=HL.out.at j hjl
   have hb:=hRD.2.2.2.2.2 g hgl hgR (by simp)
   have hc : ∀ q,wr.cell? ⟨g,q,none⟩=w.cell? ⟨g,q,none⟩:=fun q => World.cell?_of_block hb
   have f0:=(hc _).trans e0
   have f1:=(hc _).trans e1
   have f2:=(hc _).trans e2
   have f3:=(hc _).trans e3
   have K1:=Lib.hid (HK.out (ts[j]'hjl) _ wr c0 c1 c2 c3 hRD.1 (chg_vin hRD.2 hv))
   have HTK : Hid (ts.take j++[ts[j]'hjl]=ts.take (j+1)):=Lib.hid (by rw [List.take_append_getElem])
   have HNJ : Hid (j≤1000000):=Lib.hid (by omega)
   have HRB:=Lib.hid hRD
   have HRW0:=Lib.hid hT
   obtain ⟨_,_,_,_,_,_,rfl,rfl,rfl,rfl⟩:=hv.cells
   clear hb hc e0 e1 e2 e3 hv hT hRD hgl hgR
   generalize (ts[j]'hjl)=t at *
   have HJL:=Lib.hid hjl
   go_wp2_with fail
   refine (K1.out).mono ?_
   rintro r w5 ⟨rfl,hrn⟩
   have HAB:=Lib.hid (alloc_below w5 (.cells #[.string (rdR t).host,.string (rdR t).path,.string (rdR t).cluster,.int .u64 ((rdR t).idle : Int)] 62))
   have HN5:=Lib.hid (alloc_at (w:=w5) (g:=w5.heap.size) #[.string (rdR t).host,.string (rdR t).path,.string (rdR t).cluster,.int .u64 ((rdR t).idle : Int)] 62 rfl)
   have HRN:=Lib.hid (show Rd R _ w (w5.alloc (.cells #[.string (rdR t).host,.string (rdR t).path,.string (rdR t).cluster,.int .u64 ((rdR t).idle : Int)] 62)) from ⟨hrn.1.later HAB.out,chg_then (chg_then HRB.out.2 hrn.2) (Chg.of_below HAB.out)⟩)
   have HGE:=Lib.hid HRN.out.2.2.2.2.1
   have HONE:=Lib.hid (show ∀ u ∈ ([.string (rdR t).host,.string (rdR t).path,.string (rdR t).cluster,.int .u64 ((rdR t).idle : Int)] : List Value),u.oneCell'=true by intro u hu; simp only [List.mem_cons,List.not_mem_nil,or_false] at hu; rcases hu with rfl | rfl | rfl | rfl <;> rfl)
   have HRW2:=Lib.hid (own_later (own_chg HRW0.out hrn.2 HRB.out.1 (by decide)) HAB.out)
   clear hrn
   go_wp2_with (first
    | (at_builtin; go_must (refine wpList_append_one (w5.alloc (.cells #[.string (rdR t).host,.string (rdR t).path,.string (rdR t).cluster,.int .u64 ((rdR t).idle : Int)] 62)) rfl (.tmp 11) (.tmp 19) (e:=62) (k:=4) Tryz.underlying50 (by kernel_rfl) (by decide) rfl (w.heap.size) (.slice oo j cc) j (((ts.take j).map rdR).flatMap Rt.cs) [.string (rdR t).host,.string (rdR t).path,.string (rdR t).cluster,.int .u64 ((rdR t).idle : Int)] w5.heap.size rfl HRW2.out rfl HN5.out rfl HONE.out HGE.out HNJ.out ?_); intro v6 w6 hv6 hg6 hb6 hn6; obtain ⟨o6,c6,hf6⟩:=own_form hv6; subst hf6; have HV6:=Lib.hid hv6; have HR6:=Lib.hid (show Rd R _ w w6 from ⟨HRN.out.1.grown HRW2.out hg6 (by decide),chg_below HRN.out.2 hb6⟩); clear hv6 hg6 hb6 hn6))
   go_step3
   refine ⟨rfl,⟨j+1,o6,c6,_,_,_,_,_,_,_,_,_,_,_,_,_,_,_,_,_,_,_,HJL.out,rfl,Lib.hid ⟨?_,?_⟩⟩,?_⟩
   ·rw [← HTK.out,List.map_append,List.flatMap_append,List.map_cons,List.map_nil,List.flatMap_cons,List.flatMap_nil,List.append_nil]
    exact HV6.out
   ·rw [← HTK.out,List.any_append,List.any_cons,List.any_nil,Bool.or_false,← Bool.or_assoc]
    exact HR6.out
   ·have HJM:=HJL.out
    simp [slen]
    omega
  ·obtain rfl : j=ts.length:=by omega
   have HX:=Lib.hid (show wr.ownsRow w.heap.size 62 4 (.slice oo ts.length cc) ts.length ((ts.map rdR).flatMap Rt.cs)∧Rd R (b || ts.any wrR) w wr by have h:=hT.out; rwa [List.take_length] at h)
   have hjm : ¬ ((ts.length : Int) < (ts.length : Int)):=by omega
   clear hT
   go_wp2
   try simp only [Exit.jump]
   go_ret
   exact ⟨_,_,rfl,HX.out.1,HX.out.2⟩
end Go.Proofs.YtjfjliobencppaaGreatDoor.Cf

set_option maxRecDepth 100000
set_option maxHeartbeats 4000000
namespace Go.Proofs.YtjfjliobencppaaGreatDoor.Cf
open Go.RowKit
theorem rd_ends (R : Nat) (b : Bool) (t : Tr) (c0 c1 c2 c3 : Value) (w : World) (hR : Bk w R #[.bool b] 90) (hv : VInP w (fun b => b≠R) t c0 c1 c2 c3)
  (hK : ∀ (b' : Bool) (o : Option Addr) (cap g off : Nat) (wz : World),(rows t).length≤1000000→Bk wz R #[.bool b'] 90→(0 < (rows t).length→o=some ⟨g,off,none⟩∧g < wz.heap.size∧g≠R)→VInPL wz (fun b => b≠R) g off (rows t)→Calls Tryz.prog 130 #[.slice o (rows t).length cap,(.func (.func 117) #[.pointer (some ⟨R,0,none⟩)] #[])] wz fun e w' => ∃ oo cc,e=.returned (.slice oo (rows t).length cc)∧w'.ownsRow wz.heap.size 64 6 (.slice oo (rows t).length cc) (rows t).length (((rows t).map rdE).flatMap Ep.cs)∧Rd R (b' || (rows t).any wrE) wz w') :
  Calls Tryz.prog 116 #[.pointer (some ⟨R,0,none⟩),.agg #[c0,c1,c2,c3],(.func (.func 117) #[.pointer (some ⟨R,0,none⟩)] #[])] w fun e w' => ∃ oo cc,e=.returned (.slice oo (rows t).length cc)∧w'.ownsRow w.heap.size 64 6 (.slice oo (rows t).length cc) (rows t).length (((rows t).map rdE).flatMap Ep.cs)∧Rd R (b || wrL wrE t) w w':=by
 have KO:=Lib.hid (fun W h1 h2 => of_any R b 3 t c0 c1 c2 c3 W h1 h2)
 have HC:=Lib.hid (alloc_below w (.cells #[c0,c1,c2,c3] 69))
 have HR:=Lib.hid (hR.later HC.out)
 have HV:=Lib.hid (chg_vin (Chg.of_below (g:=R) (ρ:=none) HC.out) hv)
 have HK:=Lib.hid hK
 obtain ⟨k,m,s,o,len,cap,rfl,rfl,rfl,rfl⟩:=hv.cells
 clear hR hv hK
 go_enter Tryz.func116,Tryz.ntmps116
 go_wp2_with fail
 refine (KO.out _ HR.out HV.out).mono ?_
 rintro e w1 ⟨⟨d0,d1,d2,d3,rfl,hv1⟩,hr1⟩
 have HD:=Lib.hid (show Rd R _ w w1 from ⟨hr1.1,chg_then (Chg.of_below HC.out) hr1.2⟩)
 have HL : Hid (∃ (o2 : Option Addr) (cap2 g off : Nat),d3=.slice o2 (rows t).length cap2∧(0 < (rows t).length→o2=some ⟨g,off,none⟩∧g < w1.heap.size∧g≠R)∧VInPL w1 (fun b => b≠R) g off (rows t)∧(rows t).length≤1000000):=Lib.hid (by
  unfold rows
  generalize ofT 3 t=u at hv1
  obtain ⟨ku,nu,su,lu⟩:=u
  unfold VInP at hv1
  obtain ⟨_,_,_,_,hz,o2,cap2,g,off,h3,h4,h5⟩:=hv1
  exact ⟨o2,cap2,g,off,h3,h4,h5,hz.2⟩)
 obtain ⟨_,_,_,_,_,_,rfl,rfl,rfl,hd3⟩:=hv1.cells
 obtain ⟨o2,cap2,g,off,hd,ho2,hl2,hz2⟩:=HL.out
 clear hd3
 subst hd
 have K2:=Lib.hid (HK.out _ o2 cap2 g off w1 hz2 HD.out.1 ho2 hl2)
 clear hv1 hr1 HL ho2 hl2 hz2
 have hfd : ∀ (y x : Int) (s' : ByteArray) (o' : Option Addr) (l' p' : Nat) (W : World),(Instr.field 69 (.agg #[.int .i64 y,.int .u64 x,.string s',.slice o' l' p']) 3).run Tryz.prog W=.ok (.slice o' l' p') W:=fun _ _ _ _ _ _ _ => by kernel_rfl
 go_wp2_with fail
 refine (K2.out).mono ?_
 rintro e w2 ⟨oo,cc,rfl,hrow,hr2⟩
 have HF:=Lib.hid hrow
 have HG:=Lib.hid hr2
 clear hrow hr2
 go_wp2
 go_ret
 refine ⟨_,_,rfl,own_mono HF.out (by have:=HD.out.2.2.2.2.1; omega),?_,chg_then HD.out.2 HG.out.2⟩
 have h:=HG.out.1
 rwa [Bool.or_assoc] at h
theorem rd_rous (R : Nat) (b : Bool) (t : Tr) (c0 c1 c2 c3 : Value) (w : World) (hR : Bk w R #[.bool b] 90) (hv : VInP w (fun b => b≠R) t c0 c1 c2 c3)
  (hK : ∀ (b' : Bool) (o : Option Addr) (cap g off : Nat) (wz : World),(rows t).length≤1000000→Bk wz R #[.bool b'] 90→(0 < (rows t).length→o=some ⟨g,off,none⟩∧g < wz.heap.size∧g≠R)→VInPL wz (fun b => b≠R) g off (rows t)→Calls Tryz.prog 129 #[.slice o (rows t).length cap,(.func (.func 114) #[.pointer (some ⟨R,0,none⟩)] #[])] wz fun e w' => ∃ oo cc,e=.returned (.slice oo (rows t).length cc)∧w'.ownsRow wz.heap.size 62 4 (.slice oo (rows t).length cc) (rows t).length (((rows t).map rdR).flatMap Rt.cs)∧Rd R (b' || (rows t).any wrR) wz w') :
  Calls Tryz.prog 113 #[.pointer (some ⟨R,0,none⟩),.agg #[c0,c1,c2,c3],(.func (.func 114) #[.pointer (some ⟨R,0,none⟩)] #[])] w fun e w' => ∃ oo cc,e=.returned (.slice oo (rows t).length cc)∧w'.ownsRow w.heap.size 62 4 (.slice oo (rows t).length cc) (rows t).length (((rows t).map rdR).flatMap Rt.cs)∧Rd R (b || wrL wrR t) w w':=by
 have KO:=Lib.hid (fun W h1 h2 => of_any R b 3 t c0 c1 c2 c3 W h1 h2)
 have HC:=Lib.hid (alloc_below w (.cells #[c0,c1,c2,c3] 69))
 have HR:=Lib.hid (hR.later HC.out)
 have HV:=Lib.hid (chg_vin (Chg.of_below (g:=R) (ρ:=none) HC.out) hv)
 have HK:=Lib.hid hK
 obtain ⟨k,m,s,o,len,cap,rfl,rfl,rfl,rfl⟩:=hv.cells
 clear hR hv hK
 go_enter Tryz.func113,Tryz.ntmps113
 go_wp2_with fail
 refine (KO.out _ HR.out HV.out).mono ?_
 rintro e w1 ⟨⟨d0,d1,d2,d3,rfl,hv1⟩,hr1⟩
 have HD:=Lib.hid (show Rd R _ w w1 from ⟨hr1.1,chg_then (Chg.of_below HC.out) hr1.2⟩)
 have HL : Hid (∃ (o2 : Option Addr) (cap2 g off : Nat),d3=.slice o2 (rows t).length cap2∧(0 < (rows t).length→o2=some ⟨g,off,none⟩∧g < w1.heap.size∧g≠R)∧VInPL w1 (fun b => b≠R) g off (rows t)∧(rows t).length≤1000000):=Lib.hid (by
  unfold rows
  generalize ofT 3 t=u at hv1
  obtain ⟨ku,nu,su,lu⟩:=u
  unfold VInP at hv1
  obtain ⟨_,_,_,_,hz,o2,cap2,g,off,h3,h4,h5⟩:=hv1
  exact ⟨o2,cap2,g,off,h3,h4,h5,hz.2⟩)
 obtain ⟨_,_,_,_,_,_,rfl,rfl,rfl,hd3⟩:=hv1.cells
 obtain ⟨o2,cap2,g,off,hd,ho2,hl2,hz2⟩:=HL.out
 clear hd3
 subst hd
 have K2:=Lib.hid (HK.out _ o2 cap2 g off w1 hz2 HD.out.1 ho2 hl2)
 clear hv1 hr1 HL ho2 hl2 hz2
 have hfd : ∀ (y x : Int) (s' : ByteArray) (o' : Option Addr) (l' p' : Nat) (W : World),(Instr.field 69 (.agg #[.int .i64 y,.int .u64 x,.string s',.slice o' l' p']) 3).run Tryz.prog W=.ok (.slice o' l' p') W:=fun _ _ _ _ _ _ _ => by kernel_rfl
 go_wp2_with fail
 refine (K2.out).mono ?_
 rintro e w2 ⟨oo,cc,rfl,hrow,hr2⟩
 have HF:=Lib.hid hrow
 have HG:=Lib.hid hr2
 clear hrow hr2
 go_wp2
 go_ret
 refine ⟨_,_,rfl,own_mono HF.out (by have:=HD.out.2.2.2.2.1; omega),?_,chg_then HD.out.2 HG.out.2⟩
 have h:=HG.out.1
 rwa [Bool.or_assoc] at h
end Go.Proofs.YtjfjliobencppaaGreatDoor.Cf

set_option maxRecDepth 100000
set_option maxHeartbeats 4000000
namespace Go.Proofs.YtjfjliobencppaaGreatDoor.Cf
open Go.RowKit
theorem rd_ls (R : Nat) (b : Bool) (t : Tr) (c0 c1 c2 c3 : Value) (w : World) (hR : Bk w R #[.bool b] 90) (hv : VInP w (fun b => b≠R) t c0 c1 c2 c3) :
  Calls Tryz.prog 75 #[.pointer (some ⟨R,0,none⟩),.agg #[c0,c1,c2,c3]] w fun e w' => ∃ o c,e=.returned (.agg #[.string (rdLs t).name,.int .u8 ((rdLs t).p.a : Int),.int .u8 ((rdLs t).p.b : Int),.int .u8 ((rdLs t).p.c : Int),.int .u8 ((rdLs t).p.d : Int),.int .u16 ((rdLs t).p.port : Int),.slice o (rdLs t).r.length c])∧w'.ownsRow w.heap.size 62 4 (.slice o (rdLs t).r.length c) (rdLs t).r.length ((rdLs t).r.flatMap Rt.cs)∧Rd R (b || wrLs t) w w':=by
 have HNE : Hid (w.heap.size+1≠R):=Lib.hid (by have:=lt_of_heap hR; omega)
 have HBx:=Lib.hid (show Below w.heap.size w ((w.alloc (.cells #[c0,c1,c2,c3] 69)).alloc (.cells #[.string ⟨#[]⟩,.int .u8 0,.int .u8 0,.int .u8 0,.int .u8 0,.int .u16 0,.slice none 0 0] 52)) from (alloc_below _ _).trans ((alloc_below _ _).mono (by simp)))
 have HY:=Lib.hid (alloc_at (w:=(w.alloc (.cells #[c0,c1,c2,c3] 69))) (g:=w.heap.size+1) #[.string ⟨#[]⟩,.int .u8 0,.int .u8 0,.int .u8 0,.int .u8 0,.int .u16 0,.slice none 0 0] 52 (by simp))
 have K72:=Lib.hid (fields_any R 3 b t c0 c1 c2 c3 ((w.alloc (.cells #[c0,c1,c2,c3] 69)).alloc (.cells #[.string ⟨#[]⟩,.int .u8 0,.int .u8 0,.int .u8 0,.int .u8 0,.int .u16 0,.slice none 0 0] 52)) (by omega) (hR.later HBx.out) (chg_vin (Chg.of_below (g:=R) (ρ:=none) HBx.out) hv))
 have HVR:=Lib.hid hv
 obtain ⟨W0,hW0⟩ : ∃ W0,W0=((w.alloc (.cells #[c0,c1,c2,c3] 69)).alloc (.cells #[.string ⟨#[]⟩,.int .u8 0,.int .u8 0,.int .u8 0,.int .u8 0,.int .u16 0,.slice none 0 0] 52)):=⟨_,rfl⟩
 rw [← hW0] at HBx HY K72
 obtain ⟨k',n',s',o',len',cap',rfl,rfl,rfl,rfl⟩:=hv.cells
 clear hv hR
 go_enter Tryz.func75,Tryz.ntmps75
 go_wp2_with fail
 rw [← hW0]
 clear hW0
 refine (K72.out).mono ?_
 rintro e w1 ⟨⟨o,cap,g,off,rfl,ho,hl⟩,hrn⟩
 obtain ⟨rfl,hgl,hgR⟩:=ho (by omega)
 have HGA:=Lib.hid (show Chg R none w w1 from chg_then (Chg.of_below HBx.out) hrn.2)
 have HYA:=Lib.hid (show Bk w1 (w.heap.size+1) #[.string ⟨#[]⟩,.int .u8 0,.int .u8 0,.int .u8 0,.int .u8 0,.int .u16 0,.slice none 0 0] 52 from (hrn.2.2.2.2.2 _ (lt_of_heap HY.out) HNE.out (by simp)).trans HY.out)
 obtain ⟨b1,hb1⟩ : ∃ b1,(b || decide (Tr.tk t≠3) || decide ((Tr.tl (ofT 3 t)).length≠3))=b1:=⟨_,rfl⟩
 have HB1:=Lib.hid hb1
 rw [hb1] at hrn
 have HRA:=Lib.hid hrn.1
 clear hb1
 have hfl : (fldT 3 t).length=3:=fldT_len 3 t
 obtain ⟨d0_0,d0_1,d0_2,d0_3,e0_0,e0_1,e0_2,e0_3,hv0⟩:=hl.at 0 (by omega)
 simp only [Nat.zero_mul,Nat.one_mul,Nat.reduceMul,Nat.add_zero,Nat.add_assoc,Nat.reduceAdd] at e0_0 e0_1 e0_2 e0_3
 have hz0 : (fldT 3 t)[0]'(by omega)=fld 3 0 t:=fld_at _
 rw [hz0] at hv0
 obtain ⟨d1_0,d1_1,d1_2,d1_3,e1_0,e1_1,e1_2,e1_3,hv1⟩:=hl.at 1 (by omega)
 simp only [Nat.zero_mul,Nat.one_mul,Nat.reduceMul,Nat.add_zero,Nat.add_assoc,Nat.reduceAdd] at e1_0 e1_1 e1_2 e1_3
 have hz1 : (fldT 3 t)[1]'(by omega)=fld 3 1 t:=fld_at _
 rw [hz1] at hv1
 obtain ⟨d2_0,d2_1,d2_2,d2_3,e2_0,e2_1,e2_2,e2_3,hv2⟩:=hl.at 2 (by omega)
 simp only [Nat.zero_mul,Nat.one_mul,Nat.reduceMul,Nat.add_zero,Nat.add_assoc,Nat.reduceAdd] at e2_0 e2_1 e2_2 e2_3
 have hz2 : (fldT 3 t)[2]'(by omega)=fld 3 2 t:=fld_at _
 rw [hz2] at hv2
 have hgY : g≠w.heap.size+1:=fun h => by
  obtain ⟨x,y,_,_,_,_,hx,hy,_,_⟩:=hv0.cells
  have h1:=e0_0
  have h2:=e0_1
  rw [h,cell_of_row _ _ _ _ _ _ HYA.out,hx] at h1
  rw [h,cell_of_row _ _ _ _ _ _ HYA.out,hy] at h2
  exact noiu52 off x y h1 h2
 clear hl ho hrn hfl hz0 hz1 hz2
 go_upto_region 2 with fail
 have hS1 : ∀ wz,Chg R none w1 wz→wz.cell? ⟨g,off,none⟩=some (d0_0)∧wz.cell? ⟨g,off+1,none⟩=some (d0_1)∧wz.cell? ⟨g,off+2,none⟩=some (d0_2)∧wz.cell? ⟨g,off+3,none⟩=some (d0_3)∧wz.cell? ⟨g,off+4,none⟩=some (d1_0)∧wz.cell? ⟨g,off+5,none⟩=some (d1_1)∧wz.cell? ⟨g,off+6,none⟩=some (d1_2)∧wz.cell? ⟨g,off+7,none⟩=some (d1_3)∧wz.cell? ⟨g,off+8,none⟩=some (d2_0)∧wz.cell? ⟨g,off+9,none⟩=some (d2_1)∧wz.cell? ⟨g,off+10,none⟩=some (d2_2)∧wz.cell? ⟨g,off+11,none⟩=some (d2_3):=fun wz h => by
  have hb:=h.2.2.2.2 g hgl hgR (by simp)
  have hc : ∀ j,wz.cell? ⟨g,j,none⟩=w1.cell? ⟨g,j,none⟩:=fun j => World.cell?_of_block hb
  exact ⟨(hc _).trans e0_0,(hc _).trans e0_1,(hc _).trans e0_2,(hc _).trans e0_3,(hc _).trans e1_0,(hc _).trans e1_1,(hc _).trans e1_2,(hc _).trans e1_3,(hc _).trans e2_0,(hc _).trans e2_1,(hc _).trans e2_2,(hc _).trans e2_3⟩
 have mkS:=Lib.hid hS1
 have mkS2 : Hid (∀ wz,Chg R none w1 wz→∀ vs i,(sets wz (w.heap.size+1) i vs).cell? ⟨g,off,none⟩=some (d0_0)∧(sets wz (w.heap.size+1) i vs).cell? ⟨g,off+1,none⟩=some (d0_1)∧(sets wz (w.heap.size+1) i vs).cell? ⟨g,off+2,none⟩=some (d0_2)∧(sets wz (w.heap.size+1) i vs).cell? ⟨g,off+3,none⟩=some (d0_3)∧(sets wz (w.heap.size+1) i vs).cell? ⟨g,off+4,none⟩=some (d1_0)∧(sets wz (w.heap.size+1) i vs).cell? ⟨g,off+5,none⟩=some (d1_1)∧(sets wz (w.heap.size+1) i vs).cell? ⟨g,off+6,none⟩=some (d1_2)∧(sets wz (w.heap.size+1) i vs).cell? ⟨g,off+7,none⟩=some (d1_3)∧(sets wz (w.heap.size+1) i vs).cell? ⟨g,off+8,none⟩=some (d2_0)∧(sets wz (w.heap.size+1) i vs).cell? ⟨g,off+9,none⟩=some (d2_1)∧(sets wz (w.heap.size+1) i vs).cell? ⟨g,off+10,none⟩=some (d2_2)∧(sets wz (w.heap.size+1) i vs).cell? ⟨g,off+11,none⟩=some (d2_3)):=Lib.hid (fun wz h vs i => by
  have hb:=h.2.2.2.2 g hgl hgR (by simp)
  have hc : ∀ j,(sets wz (w.heap.size+1) i vs).cell? ⟨g,j,none⟩=w1.cell? ⟨g,j,none⟩:=fun j => World.cell?_of_block ((sets_other _ _ hgY vs i wz).trans hb)
  exact ⟨(hc _).trans e0_0,(hc _).trans e0_1,(hc _).trans e0_2,(hc _).trans e0_3,(hc _).trans e1_0,(hc _).trans e1_1,(hc _).trans e1_2,(hc _).trans e1_3,(hc _).trans e2_0,(hc _).trans e2_1,(hc _).trans e2_2,(hc _).trans e2_3⟩)
 clear hS1
 have HG0:=Lib.hid (show Chg R none w w1.drew from chg_then HGA.out ⟨rfl,rfl,rfl,Nat.le_refl _,fun _ _ _ _ => rfl⟩)
 have HR0:=Lib.hid (show Bk w1.drew R #[.bool b1] 90 from HRA.out)
 have HY0:=Lib.hid (show Bk w1.drew (w.heap.size+1) #[.string ⟨#[]⟩,.int .u8 0,.int .u8 0,.int .u8 0,.int .u8 0,.int .u16 0,.slice none 0 0] 52 from HYA.out)
 have HS0 : Hid (Chg R none w1 w1.drew):=Lib.hid ⟨rfl,rfl,rfl,Nat.le_refl _,fun _ _ _ _ => rfl⟩
 have HV0_0:=Lib.hid (chg_vin HS0.out hv0)
 have HV1_0:=Lib.hid (chg_vin HS0.out hv1)
 have HV2_0:=Lib.hid (chg_vin HS0.out hv2)
 clear hv0 hv1 hv2 e0_0 e0_1 e0_2 e0_3 e1_0 e1_1 e1_2 e1_3 e2_0 e2_1 e2_2 e2_3
 refine wp_region_held_drew (S:=fun wz => wz.cell? ⟨g,off,none⟩=some (d0_0)∧wz.cell? ⟨g,off+1,none⟩=some (d0_1)∧wz.cell? ⟨g,off+2,none⟩=some (d0_2)∧wz.cell? ⟨g,off+3,none⟩=some (d0_3)∧wz.cell? ⟨g,off+4,none⟩=some (d1_0)∧wz.cell? ⟨g,off+5,none⟩=some (d1_1)∧wz.cell? ⟨g,off+6,none⟩=some (d1_2)∧wz.cell? ⟨g,off+7,none⟩=some (d1_3)∧wz.cell? ⟨g,off+8,none⟩=some (d2_0)∧wz.cell? ⟨g,off+9,none⟩=some (d2_1)∧wz.cell? ⟨g,off+10,none⟩=some (d2_2)∧wz.cell? ⟨g,off+11,none⟩=some (d2_3)) (by kernel_rfl) (mkS.out _ HS0.out) (fun hj9 => ?_)
 generalize w1.drew=wc0 at *
 refine tkH (i:=0) (oi:=⟨some 9,_,_,_,_,_⟩) (v:=?_) rfl (Or.inl ⟨by rfl,by (intro w hSw; (try dsimp only at hSw); go_simp; try with_reducible rfl)⟩) hj9 ?_
 try simp only [Act.put,pS,p0,p1]
 refine tkH (i:=1) (oi:=⟨some 10,_,_,_,_,_⟩) (v:=?_) rfl (Or.inl ⟨by rfl,by (intro w hSw; (try dsimp only at hSw); go_simp; try with_reducible rfl)⟩) hj9 ?_
 try simp only [Act.put,pS,p0,p1]
 refine tkH (i:=2) (oi:=⟨some 11,_,_,_,_,_⟩) (v:=?_) rfl (Or.inl ⟨by rfl,by (intro w hSw; (try dsimp only at hSw); go_simp; try with_reducible rfl)⟩) hj9 ?_
 try simp only [Act.put,pS,p0,p1]
 refine tkH (i:=3) (oi:=⟨some 12,_,_,_,_,_⟩) (v:=?_) rfl (Or.inl ⟨by rfl,by (intro w hSw; (try dsimp only at hSw); go_simp; try with_reducible rfl)⟩) hj9 ?_
 try simp only [Act.put,pS,p0,p1]
 refine tkH (i:=5) (oi:=⟨some 14,_,_,_,_,_⟩) (v:=?_) rfl (Or.inl ⟨by rfl,by (intro w hSw; (try dsimp only at hSw); go_simp; try with_reducible rfl)⟩) hj9 ?_
 try simp only [Act.put,pS,p0,p1]
 refine tkH (i:=6) (oi:=⟨some 15,_,_,_,_,_⟩) (v:=?_) rfl (Or.inl ⟨by rfl,by (intro w hSw; (try dsimp only at hSw); go_simp; try with_reducible rfl)⟩) hj9 ?_
 try simp only [Act.put,pS,p0,p1]
 refine tkH (i:=7) (oi:=⟨some 16,_,_,_,_,_⟩) (v:=?_) rfl (Or.inl ⟨by rfl,by (intro w hSw; (try dsimp only at hSw); go_simp; try with_reducible rfl)⟩) hj9 ?_
 try simp only [Act.put,pS,p0,p1]
 refine tkH (i:=8) (oi:=⟨some 17,_,_,_,_,_⟩) (v:=?_) rfl (Or.inl ⟨by rfl,by (intro w hSw; (try dsimp only at hSw); go_simp; try with_reducible rfl)⟩) hj9 ?_
 try simp only [Act.put,pS,p0,p1]
 refine tkH (i:=10) (oi:=⟨some 19,_,_,_,_,_⟩) (v:=?_) rfl (Or.inl ⟨by rfl,by (intro w hSw; (try dsimp only at hSw); go_simp; try with_reducible rfl)⟩) hj9 ?_
 try simp only [Act.put,pS,p0,p1]
 refine tkH (i:=11) (oi:=⟨some 20,_,_,_,_,_⟩) (v:=?_) rfl (Or.inl ⟨by rfl,by (intro w hSw; (try dsimp only at hSw); go_simp; try with_reducible rfl)⟩) hj9 ?_
 try simp only [Act.put,pS,p0,p1]
 refine tkH (i:=12) (oi:=⟨some 21,_,_,_,_,_⟩) (v:=?_) rfl (Or.inl ⟨by rfl,by (intro w hSw; (try dsimp only at hSw); go_simp; try with_reducible rfl)⟩) hj9 ?_
 try simp only [Act.put,pS,p0,p1]
 refine tkH (i:=13) (oi:=⟨some 22,_,_,_,_,_⟩) (v:=?_) rfl (Or.inl ⟨by rfl,by (intro w hSw; (try dsimp only at hSw); go_simp; try with_reducible rfl)⟩) hj9 ?_
 try simp only [Act.put,pS,p0,p1]
 refine tkH (i:=14) (oi:=⟨some 23,_,_,_,_,_⟩) (v:=?_) rfl (Or.inl ⟨by rfl,by (intro w hSw; (try dsimp only at hSw); go_simp; try with_reducible rfl)⟩) hj9 ?_
 try simp only [Act.put,pS,p0,p1]
 refine tkH (i:=15) (oi:=⟨some 24,_,_,_,_,_⟩) (v:=?_) rfl (Or.inl ⟨by rfl,by (intro w hSw; (try dsimp only at hSw); go_simp; try with_reducible rfl)⟩) hj9 ?_
 try simp only [Act.put,pS,p0,p1]
 refine wpAnyH_ready (rs:=[4]) (by kernel_rfl) (by simp) ?_
 refine AllReadyH.cons (o:=⟨some 13,_,_,_,_,_⟩) rfl (fun K hK => ?_) ?_
 ·go_simp
  refine (text_any' R _ _ _ _ _ _ _ HR0.out HV0_0.out).mono ?_
  rintro ze wc1 ⟨rfl,hrn⟩
  try go_simp
  have HR1:=Lib.hid hrn.1
  have HG1:=Lib.hid (chg_then HG0.out hrn.2)
  have HY1:=Lib.hid (show Bk wc1 (w.heap.size+1) _ _ from (hrn.2.2.2.2.2 _ (lt_of_heap HY0.out) HNE.out (by simp)).trans HY0.out)
  have HS1:=Lib.hid (chg_then HS0.out hrn.2)
  have HV0_1:=Lib.hid (chg_vin hrn.2 HV0_0.out)
  have HV1_1:=Lib.hid (chg_vin hrn.2 HV1_0.out)
  have HV2_1:=Lib.hid (chg_vin hrn.2 HV2_0.out)
  refine hK.out _ _ (mkS.out _ HS1.out) (fun hj8 => ?_)
  clear hK K hj9
  have hj9:=hj8
  clear hj8
  clear hrn
  try simp only [Act.put,pS,p0,p1]
  refine wpAnyH_ready (rs:=[9]) (by kernel_rfl) (by simp) ?_
  refine AllReadyH.cons (o:=⟨some 18,_,_,_,_,_⟩) rfl (fun K hK => ?_) ?_
  ·go_simp
   refine ((show Calls Tryz.prog 112 _ _ fun e w' => e=.returned (.agg #[.int .u8 ((plR (fld 3 1 t)).a : Int),.int .u8 ((plR (fld 3 1 t)).b : Int),.int .u8 ((plR (fld 3 1 t)).c : Int),.int .u8 ((plR (fld 3 1 t)).d : Int),.int .u16 ((plR (fld 3 1 t)).port : Int)])∧Rd R _ _ w' from place_any R _ _ _ _ _ _ _ HR1.out HV1_1.out)).mono ?_
   rintro ze wc2 ⟨rfl,hrn⟩
   try go_simp
   have HR2:=Lib.hid hrn.1
   have HG2:=Lib.hid (chg_then HG1.out hrn.2)
   have HY2:=Lib.hid (show Bk wc2 (w.heap.size+1) _ _ from (hrn.2.2.2.2.2 _ (lt_of_heap HY1.out) HNE.out (by simp)).trans HY1.out)
   have HS2:=Lib.hid (chg_then HS1.out hrn.2)
   have HV0_2:=Lib.hid (chg_vin hrn.2 HV0_1.out)
   have HV1_2:=Lib.hid (chg_vin hrn.2 HV1_1.out)
   have HV2_2:=Lib.hid (chg_vin hrn.2 HV2_1.out)
   refine hK.out _ _ (mkS.out _ HS2.out) (fun hj8 => ?_)
   clear hK K hj9
   have hj9:=hj8
   clear hj8
   clear hrn
   try simp only [Act.put,pS,p0,p1]
   refine wpAnyH_ready (rs:=[16]) (by kernel_rfl) (by simp) ?_
   refine AllReadyH.cons (o:=⟨some 25,_,_,_,_,_⟩) rfl (fun K hK => ?_) ?_
   ·go_simp
    refine (rd_rous R _ _ _ _ _ _ _ HR2.out HV2_2.out (fun b' o cap g off wz h1 h2 h3 h4 => rl_rou R b' _ o cap g off h1 wz h2 h3 h4 (fun t b c c0 c1 c2 c3 k1 k2 => rd_rt R b t c0 c1 c2 c3 c k1 k2))).mono ?_
    rintro ze wc3 ⟨oW,cW,rfl,hrow,hrn⟩
    try go_simp
    have HR3:=Lib.hid hrn.1
    have HG3:=Lib.hid (chg_then HG2.out hrn.2)
    have HY3:=Lib.hid (show Bk wc3 (w.heap.size+1) _ _ from (hrn.2.2.2.2.2 _ (lt_of_heap HY2.out) HNE.out (by simp)).trans HY2.out)
    have HS3:=Lib.hid (chg_then HS2.out hrn.2)
    have HV0_3:=Lib.hid (chg_vin hrn.2 HV0_2.out)
    have HV1_3:=Lib.hid (chg_vin hrn.2 HV1_2.out)
    have HV2_3:=Lib.hid (chg_vin hrn.2 HV2_2.out)
    have HW3:=Lib.hid (own_mono (B':=w.heap.size) hrow HG2.out.2.2.2.1)
    clear hrow
    refine hK.out _ _ (mkS.out _ HS3.out) (fun hj8 => ?_)
    clear hK K hj9
    have hj9:=hj8
    clear hj8
    clear hrn
    try simp only [Act.put,pS,p0,p1]
    refine tkH (i:=17) (oi:=⟨some 26,_,_,_,_,_⟩) (v:=?_) rfl (Or.inl ⟨by rfl,by (intro w hSw; (try dsimp only at hSw); go_simp; try with_reducible rfl)⟩) hj9 ?_
    try simp only [Act.put,pS,p0,p1]
    refine wpAnyH_ready (rs:=[18]) (by kernel_rfl) (by simp) ?_
    refine AllReadyH.cons (o:=⟨none,_,_,_,_,_⟩) rfl (fun K hK => ?_) ?_
    ·have y0:=(cell_of_row _ _ 0 _ _ _ HY3.out).trans rfl
     have z0:=frozen_of_row _ _ 0 _ _ HY3.out
     have y1:=(cell_of_row _ _ 1 _ _ _ HY3.out).trans rfl
     have z1:=frozen_of_row _ _ 1 _ _ HY3.out
     have y2:=(cell_of_row _ _ 2 _ _ _ HY3.out).trans rfl
     have z2:=frozen_of_row _ _ 2 _ _ HY3.out
     have y3:=(cell_of_row _ _ 3 _ _ _ HY3.out).trans rfl
     have z3:=frozen_of_row _ _ 3 _ _ HY3.out
     have y4:=(cell_of_row _ _ 4 _ _ _ HY3.out).trans rfl
     have z4:=frozen_of_row _ _ 4 _ _ HY3.out
     have y5:=(cell_of_row _ _ 5 _ _ _ HY3.out).trans rfl
     have z5:=frozen_of_row _ _ 5 _ _ HY3.out
     have y6:=(cell_of_row _ _ 6 _ _ _ HY3.out).trans rfl
     have z6:=frozen_of_row _ _ 6 _ _ HY3.out
     go_simp
     have hch : (((((((wc3.setCell ⟨w.heap.size+1,0,none⟩ (.string (txtR (fld 3 0 t)))).setCell ⟨w.heap.size+1,1,none⟩ (.int .u8 ((plR (fld 3 1 t)).a : Int))).setCell ⟨w.heap.size+1,2,none⟩ (.int .u8 ((plR (fld 3 1 t)).b : Int))).setCell ⟨w.heap.size+1,3,none⟩ (.int .u8 ((plR (fld 3 1 t)).c : Int))).setCell ⟨w.heap.size+1,4,none⟩ (.int .u8 ((plR (fld 3 1 t)).d : Int))).setCell ⟨w.heap.size+1,5,none⟩ (.int .u16 ((plR (fld 3 1 t)).port : Int))).setCell ⟨w.heap.size+1,6,none⟩ (.slice oW (rows (fld 3 2 t)).length cW))=sets wc3 (w.heap.size+1) 0 [.string (txtR (fld 3 0 t)),.int .u8 ((plR (fld 3 1 t)).a : Int),.int .u8 ((plR (fld 3 1 t)).b : Int),.int .u8 ((plR (fld 3 1 t)).c : Int),.int .u8 ((plR (fld 3 1 t)).d : Int),.int .u16 ((plR (fld 3 1 t)).port : Int),.slice oW (rows (fld 3 2 t)).length cW]:=rfl
     have HY4 : Hid (Bk (sets wc3 (w.heap.size+1) 0 [.string (txtR (fld 3 0 t)),.int .u8 ((plR (fld 3 1 t)).a : Int),.int .u8 ((plR (fld 3 1 t)).b : Int),.int .u8 ((plR (fld 3 1 t)).c : Int),.int .u8 ((plR (fld 3 1 t)).d : Int),.int .u16 ((plR (fld 3 1 t)).port : Int),.slice oW (rows (fld 3 2 t)).length cW]) (w.heap.size+1) #[.string (txtR (fld 3 0 t)),.int .u8 ((plR (fld 3 1 t)).a : Int),.int .u8 ((plR (fld 3 1 t)).b : Int),.int .u8 ((plR (fld 3 1 t)).c : Int),.int .u8 ((plR (fld 3 1 t)).d : Int),.int .u16 ((plR (fld 3 1 t)).port : Int),.slice oW (rows (fld 3 2 t)).length cW] 52):=Lib.hid (sets_bk [.string (txtR (fld 3 0 t)),.int .u8 ((plR (fld 3 1 t)).a : Int),.int .u8 ((plR (fld 3 1 t)).b : Int),.int .u8 ((plR (fld 3 1 t)).c : Int),.int .u8 ((plR (fld 3 1 t)).d : Int),.int .u16 ((plR (fld 3 1 t)).port : Int),.slice oW (rows (fld 3 2 t)).length cW] [.string ⟨#[]⟩,.int .u8 0,.int .u8 0,.int .u8 0,.int .u8 0,.int .u16 0,.slice none 0 0] [] rfl HY3.out)
     have HG4:=Lib.hid (chg_sets HG3.out (show w.heap.size≤w.heap.size+1 by omega) [.string (txtR (fld 3 0 t)),.int .u8 ((plR (fld 3 1 t)).a : Int),.int .u8 ((plR (fld 3 1 t)).b : Int),.int .u8 ((plR (fld 3 1 t)).c : Int),.int .u8 ((plR (fld 3 1 t)).d : Int),.int .u16 ((plR (fld 3 1 t)).port : Int),.slice oW (rows (fld 3 2 t)).length cW] 0)
     have HR4:=Lib.hid (show Bk (sets wc3 (w.heap.size+1) 0 [.string (txtR (fld 3 0 t)),.int .u8 ((plR (fld 3 1 t)).a : Int),.int .u8 ((plR (fld 3 1 t)).b : Int),.int .u8 ((plR (fld 3 1 t)).c : Int),.int .u8 ((plR (fld 3 1 t)).d : Int),.int .u16 ((plR (fld 3 1 t)).port : Int),.slice oW (rows (fld 3 2 t)).length cW]) R _ 90 from (sets_other (w.heap.size+1) R (Ne.symm HNE.out) [.string (txtR (fld 3 0 t)),.int .u8 ((plR (fld 3 1 t)).a : Int),.int .u8 ((plR (fld 3 1 t)).b : Int),.int .u8 ((plR (fld 3 1 t)).c : Int),.int .u8 ((plR (fld 3 1 t)).d : Int),.int .u16 ((plR (fld 3 1 t)).port : Int),.slice oW (rows (fld 3 2 t)).length cW] 0 wc3).trans HR3.out)
     have HW4:=Lib.hid (sets_own HW3.out HY3.out (by decide) [.string (txtR (fld 3 0 t)),.int .u8 ((plR (fld 3 1 t)).a : Int),.int .u8 ((plR (fld 3 1 t)).b : Int),.int .u8 ((plR (fld 3 1 t)).c : Int),.int .u8 ((plR (fld 3 1 t)).d : Int),.int .u16 ((plR (fld 3 1 t)).port : Int),.slice oW (rows (fld 3 2 t)).length cW] 0)
     refine hK.out _ _ (mkS2.out _ HS3.out [.string (txtR (fld 3 0 t)),.int .u8 ((plR (fld 3 1 t)).a : Int),.int .u8 ((plR (fld 3 1 t)).b : Int),.int .u8 ((plR (fld 3 1 t)).c : Int),.int .u8 ((plR (fld 3 1 t)).d : Int),.int .u16 ((plR (fld 3 1 t)).port : Int),.slice oW (rows (fld 3 2 t)).length cW] 0) (fun hj8 => ?_)
     clear hK K hj9
     have hj9:=hj8
     clear hj8
     clear y0 z0 y1 z1 y2 z2 y3 z3 y4 z4 y5 z5 y6 z6
     try simp only [Act.put,pS,p0,p1]
     rw [hch]
     clear hch
     generalize sets wc3 (w.heap.size+1) 0 [.string (txtR (fld 3 0 t)),.int .u8 ((plR (fld 3 1 t)).a : Int),.int .u8 ((plR (fld 3 1 t)).b : Int),.int .u8 ((plR (fld 3 1 t)).c : Int),.int .u8 ((plR (fld 3 1 t)).d : Int),.int .u16 ((plR (fld 3 1 t)).port : Int),.slice oW (rows (fld 3 2 t)).length cW]=wc4 at *
     refine wpAnyH_done (by kernel_rfl) ?_ _
     simp only [Exit.then]
     apply_assumption
     have y0:=(cell_of_row _ _ 0 _ _ _ HY4.out).trans rfl
     have y1:=(cell_of_row _ _ 1 _ _ _ HY4.out).trans rfl
     have y2:=(cell_of_row _ _ 2 _ _ _ HY4.out).trans rfl
     have y3:=(cell_of_row _ _ 3 _ _ _ HY4.out).trans rfl
     have y4:=(cell_of_row _ _ 4 _ _ _ HY4.out).trans rfl
     have y5:=(cell_of_row _ _ 5 _ _ _ HY4.out).trans rfl
     have y6:=(cell_of_row _ _ 6 _ _ _ HY4.out).trans rfl
     try go_wp2
     refine bodyPost_ret (v:=.agg #[.string (txtR (fld 3 0 t)),.int .u8 ((plR (fld 3 1 t)).a : Int),.int .u8 ((plR (fld 3 1 t)).b : Int),.int .u8 ((plR (fld 3 1 t)).c : Int),.int .u8 ((plR (fld 3 1 t)).d : Int),.int .u16 ((plR (fld 3 1 t)).port : Int),.slice oW (rows (fld 3 2 t)).length cW]) (by simp [results,Tryz.results75,go_sem, *]) rfl ?_
     refine ⟨oW,cW,by unfold rdLs; rw [List.length_map],by unfold rdLs; rw [List.length_map]; exact HW4.out,?_,HG4.out⟩
     have h:=HR4.out
     rw [← HB1.out] at h
     simp only [wrLs,wrF,wrP,wrS,Bool.or_assoc] at h ⊢
     exact h
    ·exact AllReadyH.nil
   ·exact AllReadyH.nil
  ·exact AllReadyH.nil
 ·exact AllReadyH.nil
end Go.Proofs.YtjfjliobencppaaGreatDoor.Cf
