/- config: reading (EHa).; config: reading (EHb).; config: reading (EHc).; config: reading (EI).; config: Parse of any text.; config: the document's reading: what kind a value is, its place. -/
import Derived.Test.YtjfjliobencppaaGreatDoorR00
import Derived.Test.YtjfjliobencppaaGreatDoorR33
set_option linter.unusedVariables false
set_option linter.unusedSimpArgs false
set_option maxRecDepth 100000
set_option maxHeartbeats 4000000
namespace Go.Proofs.YtjfjliobencppaaGreatDoor.Cf
open Go.RowKit
theorem rd_cl (R : Nat) (b : Bool) (t : Tr) (c0 c1 c2 c3 : Value) (w : World) (hR : Bk w R #[.bool b] 90) (hv : VInP w (fun b => b≠R) t c0 c1 c2 c3) :
  Calls Tryz.prog 77 #[.pointer (some ⟨R,0,none⟩),.agg #[c0,c1,c2,c3]] w fun e w' => ∃ o c,e=.returned (.agg #[.string (rdCl t).name,.slice o (rdCl t).e.length c])∧w'.ownsRow w.heap.size 64 6 (.slice o (rdCl t).e.length c) (rdCl t).e.length ((rdCl t).e.flatMap Ep.cs)∧Rd R (b || wrCl t) w w':=by
 have HNE : Hid (w.heap.size+1≠R):=Lib.hid (by have:=lt_of_heap hR; omega)
 have HBx:=Lib.hid (show Below w.heap.size w ((w.alloc (.cells #[c0,c1,c2,c3] 69)).alloc (.cells #[.string ⟨#[]⟩,.slice none 0 0] 57)) from (alloc_below _ _).trans ((alloc_below _ _).mono (by simp)))
 have HY:=Lib.hid (alloc_at (w:=(w.alloc (.cells #[c0,c1,c2,c3] 69))) (g:=w.heap.size+1) #[.string ⟨#[]⟩,.slice none 0 0] 57 (by simp))
 have K72:=Lib.hid (fields_any R 2 b t c0 c1 c2 c3 ((w.alloc (.cells #[c0,c1,c2,c3] 69)).alloc (.cells #[.string ⟨#[]⟩,.slice none 0 0] 57)) (by omega) (hR.later HBx.out) (chg_vin (Chg.of_below (g:=R) (ρ:=none) HBx.out) hv))
 have HVR:=Lib.hid hv
 obtain ⟨W0,hW0⟩ : ∃ W0,W0=((w.alloc (.cells #[c0,c1,c2,c3] 69)).alloc (.cells #[.string ⟨#[]⟩,.slice none 0 0] 57)):=⟨_,rfl⟩
 rw [← hW0] at HBx HY K72
 obtain ⟨k',n',s',o',len',cap',rfl,rfl,rfl,rfl⟩:=hv.cells
 clear hv hR
 go_enter Tryz.func77,Tryz.ntmps77
 go_wp2_with fail
 rw [← hW0]
 clear hW0
 refine (K72.out).mono ?_
 rintro e w1 ⟨⟨o,cap,g,off,rfl,ho,hl⟩,hrn⟩
 obtain ⟨rfl,hgl,hgR⟩:=ho (by omega)
 have HGA:=Lib.hid (show Chg R none w w1 from chg_then (Chg.of_below HBx.out) hrn.2)
 have HYA:=Lib.hid (show Bk w1 (w.heap.size+1) #[.string ⟨#[]⟩,.slice none 0 0] 57 from (hrn.2.2.2.2.2 _ (lt_of_heap HY.out) HNE.out (by simp)).trans HY.out)
 obtain ⟨b1,hb1⟩ : ∃ b1,(b || decide (Tr.tk t≠3) || decide ((Tr.tl (ofT 3 t)).length≠2))=b1:=⟨_,rfl⟩
 have HB1:=Lib.hid hb1
 rw [hb1] at hrn
 have HRA:=Lib.hid hrn.1
 clear hb1
 have hfl : (fldT 2 t).length=2:=fldT_len 2 t
 obtain ⟨d0_0,d0_1,d0_2,d0_3,e0_0,e0_1,e0_2,e0_3,hv0⟩:=hl.at 0 (by omega)
 simp only [Nat.zero_mul,Nat.one_mul,Nat.reduceMul,Nat.add_zero,Nat.add_assoc,Nat.reduceAdd] at e0_0 e0_1 e0_2 e0_3
 have hz0 : (fldT 2 t)[0]'(by omega)=fld 2 0 t:=fld_at _
 rw [hz0] at hv0
 obtain ⟨d1_0,d1_1,d1_2,d1_3,e1_0,e1_1,e1_2,e1_3,hv1⟩:=hl.at 1 (by omega)
 simp only [Nat.zero_mul,Nat.one_mul,Nat.reduceMul,Nat.add_zero,Nat.add_assoc,Nat.reduceAdd] at e1_0 e1_1 e1_2 e1_3
 have hz1 : (fldT 2 t)[1]'(by omega)=fld 2 1 t:=fld_at _
 rw [hz1] at hv1
 have hgY : g≠w.heap.size+1:=fun h => by
  obtain ⟨x,y,_,_,_,_,hx,hy,_,_⟩:=hv0.cells
  have h1:=e0_0
  have h2:=e0_1
  rw [h,cell_of_row _ _ _ _ _ _ HYA.out,hx] at h1
  rw [h,cell_of_row _ _ _ _ _ _ HYA.out,hy] at h2
  exact noiu57 off x y h1 h2
 clear hl ho hrn hfl hz0 hz1
 go_upto_region 2 with fail
 have hS1 : ∀ wz,Chg R none w1 wz→wz.cell? ⟨g,off,none⟩=some (d0_0)∧wz.cell? ⟨g,off+1,none⟩=some (d0_1)∧wz.cell? ⟨g,off+2,none⟩=some (d0_2)∧wz.cell? ⟨g,off+3,none⟩=some (d0_3)∧wz.cell? ⟨g,off+4,none⟩=some (d1_0)∧wz.cell? ⟨g,off+5,none⟩=some (d1_1)∧wz.cell? ⟨g,off+6,none⟩=some (d1_2)∧wz.cell? ⟨g,off+7,none⟩=some (d1_3):=fun wz h => by
  have hb:=h.2.2.2.2 g hgl hgR (by simp)
  have hc : ∀ j,wz.cell? ⟨g,j,none⟩=w1.cell? ⟨g,j,none⟩:=fun j => World.cell?_of_block hb
  exact ⟨(hc _).trans e0_0,(hc _).trans e0_1,(hc _).trans e0_2,(hc _).trans e0_3,(hc _).trans e1_0,(hc _).trans e1_1,(hc _).trans e1_2,(hc _).trans e1_3⟩
 have mkS:=Lib.hid hS1
 have mkS2 : Hid (∀ wz,Chg R none w1 wz→∀ vs i,(sets wz (w.heap.size+1) i vs).cell? ⟨g,off,none⟩=some (d0_0)∧(sets wz (w.heap.size+1) i vs).cell? ⟨g,off+1,none⟩=some (d0_1)∧(sets wz (w.heap.size+1) i vs).cell? ⟨g,off+2,none⟩=some (d0_2)∧(sets wz (w.heap.size+1) i vs).cell? ⟨g,off+3,none⟩=some (d0_3)∧(sets wz (w.heap.size+1) i vs).cell? ⟨g,off+4,none⟩=some (d1_0)∧(sets wz (w.heap.size+1) i vs).cell? ⟨g,off+5,none⟩=some (d1_1)∧(sets wz (w.heap.size+1) i vs).cell? ⟨g,off+6,none⟩=some (d1_2)∧(sets wz (w.heap.size+1) i vs).cell? ⟨g,off+7,none⟩=some (d1_3)):=Lib.hid (fun wz h vs i => by
  have hb:=h.2.2.2.2 g hgl hgR (by simp)
  have hc : ∀ j,(sets wz (w.heap.size+1) i vs).cell? ⟨g,j,none⟩=w1.cell? ⟨g,j,none⟩:=fun j => World.cell?_of_block ((sets_other _ _ hgY vs i wz).trans hb)
  exact ⟨(hc _).trans e0_0,(hc _).trans e0_1,(hc _).trans e0_2,(hc _).trans e0_3,(hc _).trans e1_0,(hc _).trans e1_1,(hc _).trans e1_2,(hc _).trans e1_3⟩)
 clear hS1
 have HG0:=Lib.hid (show Chg R none w w1.drew from chg_then HGA.out ⟨rfl,rfl,rfl,Nat.le_refl _,fun _ _ _ _ => rfl⟩)
 have HR0:=Lib.hid (show Bk w1.drew R #[.bool b1] 90 from HRA.out)
 have HY0:=Lib.hid (show Bk w1.drew (w.heap.size+1) #[.string ⟨#[]⟩,.slice none 0 0] 57 from HYA.out)
 have HS0 : Hid (Chg R none w1 w1.drew):=Lib.hid ⟨rfl,rfl,rfl,Nat.le_refl _,fun _ _ _ _ => rfl⟩
 have HV0_0:=Lib.hid (chg_vin HS0.out hv0)
 have HV1_0:=Lib.hid (chg_vin HS0.out hv1)
 clear hv0 hv1 e0_0 e0_1 e0_2 e0_3 e1_0 e1_1 e1_2 e1_3
 refine wp_region_held_drew (S:=fun wz => wz.cell? ⟨g,off,none⟩=some (d0_0)∧wz.cell? ⟨g,off+1,none⟩=some (d0_1)∧wz.cell? ⟨g,off+2,none⟩=some (d0_2)∧wz.cell? ⟨g,off+3,none⟩=some (d0_3)∧wz.cell? ⟨g,off+4,none⟩=some (d1_0)∧wz.cell? ⟨g,off+5,none⟩=some (d1_1)∧wz.cell? ⟨g,off+6,none⟩=some (d1_2)∧wz.cell? ⟨g,off+7,none⟩=some (d1_3)) (by kernel_rfl) (mkS.out _ HS0.out) (fun hj9 => ?_)
 generalize w1.drew=wc0 at *
 refine tkH (i:=0) (oi:=⟨some 9,_,_,_,_,_⟩) (v:=?_) rfl (Or.inl ⟨by rfl,by (intro w hSw; (try dsimp only at hSw); go_simp; try with_reducible rfl)⟩) hj9 ?_
 try simp only [Act.put,pS,p0,p1]
 refine tkH (i:=1) (oi:=⟨some 10,_,_,_,_,_⟩) (v:=?_) rfl (Or.inl ⟨by rfl,by (intro w hSw; (try dsimp only at hSw); go_simp; try with_reducible rfl)⟩) hj9 ?_
 try simp only [Act.put,pS,p0,p1]
 refine tkH (i:=2) (oi:=⟨some 11,_,_,_,_,_⟩) (v:=?_) rfl (Or.inl ⟨by rfl,by (intro w hSw; (try dsimp only at hSw); go_simp; try with_reducible rfl)⟩) hj9 ?_
 try simp only [Act.put,pS,p0,p1]
 refine tkH (i:=3) (oi:=⟨some 12,_,_,_,_,_⟩) (v:=?_) rfl (Or.inl ⟨by rfl,by (intro w hSw; (try dsimp only at hSw); go_simp; try with_reducible rfl)⟩) hj9 ?_
 try simp only [Act.put,pS,p0,p1]
 refine tkH (i:=5) (oi:=⟨some 14,_,_,_,_,_⟩) (v:=?_) rfl (Or.inl ⟨by rfl,by (intro w hSw; (try dsimp only at hSw); go_simp; try with_reducible rfl)⟩) hj9 ?_
 try simp only [Act.put,pS,p0,p1]
 refine tkH (i:=6) (oi:=⟨some 15,_,_,_,_,_⟩) (v:=?_) rfl (Or.inl ⟨by rfl,by (intro w hSw; (try dsimp only at hSw); go_simp; try with_reducible rfl)⟩) hj9 ?_
 try simp only [Act.put,pS,p0,p1]
 refine tkH (i:=7) (oi:=⟨some 16,_,_,_,_,_⟩) (v:=?_) rfl (Or.inl ⟨by rfl,by (intro w hSw; (try dsimp only at hSw); go_simp; try with_reducible rfl)⟩) hj9 ?_
 try simp only [Act.put,pS,p0,p1]
 refine tkH (i:=8) (oi:=⟨some 17,_,_,_,_,_⟩) (v:=?_) rfl (Or.inl ⟨by rfl,by (intro w hSw; (try dsimp only at hSw); go_simp; try with_reducible rfl)⟩) hj9 ?_
 try simp only [Act.put,pS,p0,p1]
 refine tkH (i:=9) (oi:=⟨some 18,_,_,_,_,_⟩) (v:=?_) rfl (Or.inl ⟨by rfl,by (intro w hSw; (try dsimp only at hSw); go_simp; try with_reducible rfl)⟩) hj9 ?_
 try simp only [Act.put,pS,p0,p1]
 refine tkH (i:=10) (oi:=⟨some 19,_,_,_,_,_⟩) (v:=?_) rfl (Or.inl ⟨by rfl,by (intro w hSw; (try dsimp only at hSw); go_simp; try with_reducible rfl)⟩) hj9 ?_
 try simp only [Act.put,pS,p0,p1]
 refine wpAnyH_ready (rs:=[4]) (by kernel_rfl) (by simp) ?_
 refine AllReadyH.cons (o:=⟨some 13,_,_,_,_,_⟩) rfl (fun K hK => ?_) ?_
 ·go_simp
  refine (text_any' R _ _ _ _ _ _ _ HR0.out HV0_0.out).mono ?_
  rintro ze wc1 ⟨rfl,hrn⟩
  try go_simp
  have HR1:=Lib.hid hrn.1
  have HG1:=Lib.hid (chg_then HG0.out hrn.2)
  have HY1:=Lib.hid (show Bk wc1 (w.heap.size+1) _ _ from (hrn.2.2.2.2.2 _ (lt_of_heap HY0.out) HNE.out (by simp)).trans HY0.out)
  have HS1:=Lib.hid (chg_then HS0.out hrn.2)
  have HV0_1:=Lib.hid (chg_vin hrn.2 HV0_0.out)
  have HV1_1:=Lib.hid (chg_vin hrn.2 HV1_0.out)
  refine hK.out _ _ (mkS.out _ HS1.out) (fun hj8 => ?_)
  clear hK K hj9
  have hj9:=hj8
  clear hj8
  clear hrn
  try simp only [Act.put,pS,p0,p1]
  refine wpAnyH_ready (rs:=[11]) (by kernel_rfl) (by simp) ?_
  refine AllReadyH.cons (o:=⟨some 20,_,_,_,_,_⟩) rfl (fun K hK => ?_) ?_
  ·go_simp
   refine (rd_ends R _ _ _ _ _ _ _ HR1.out HV1_1.out (fun b' o cap g off wz h1 h2 h3 h4 => rl_end R b' _ o cap g off h1 wz h2 h3 h4 (fun t b c c0 c1 c2 c3 k1 k2 => rd_ep R b t c0 c1 c2 c3 c k1 k2))).mono ?_
   rintro ze wc2 ⟨oW,cW,rfl,hrow,hrn⟩
   try go_simp
   have HR2:=Lib.hid hrn.1
   have HG2:=Lib.hid (chg_then HG1.out hrn.2)
   have HY2:=Lib.hid (show Bk wc2 (w.heap.size+1) _ _ from (hrn.2.2.2.2.2 _ (lt_of_heap HY1.out) HNE.out (by simp)).trans HY1.out)
   have HS2:=Lib.hid (chg_then HS1.out hrn.2)
   have HV0_2:=Lib.hid (chg_vin hrn.2 HV0_1.out)
   have HV1_2:=Lib.hid (chg_vin hrn.2 HV1_1.out)
   have HW2:=Lib.hid (own_mono (B':=w.heap.size) hrow HG1.out.2.2.2.1)
   clear hrow
   refine hK.out _ _ (mkS.out _ HS2.out) (fun hj8 => ?_)
   clear hK K hj9
   have hj9:=hj8
   clear hj8
   clear hrn
   try simp only [Act.put,pS,p0,p1]
   refine tkH (i:=12) (oi:=⟨some 21,_,_,_,_,_⟩) (v:=?_) rfl (Or.inl ⟨by rfl,by (intro w hSw; (try dsimp only at hSw); go_simp; try with_reducible rfl)⟩) hj9 ?_
   try simp only [Act.put,pS,p0,p1]
   refine wpAnyH_ready (rs:=[13]) (by kernel_rfl) (by simp) ?_
   refine AllReadyH.cons (o:=⟨none,_,_,_,_,_⟩) rfl (fun K hK => ?_) ?_
   ·have y0:=(cell_of_row _ _ 0 _ _ _ HY2.out).trans rfl
    have z0:=frozen_of_row _ _ 0 _ _ HY2.out
    have y1:=(cell_of_row _ _ 1 _ _ _ HY2.out).trans rfl
    have z1:=frozen_of_row _ _ 1 _ _ HY2.out
    go_simp
    have hch : ((wc2.setCell ⟨w.heap.size+1,0,none⟩ (.string (txtR (fld 2 0 t)))).setCell ⟨w.heap.size+1,1,none⟩ (.slice oW (rows (fld 2 1 t)).length cW))=sets wc2 (w.heap.size+1) 0 [.string (txtR (fld 2 0 t)),.slice oW (rows (fld 2 1 t)).length cW]:=rfl
    have HY3 : Hid (Bk (sets wc2 (w.heap.size+1) 0 [.string (txtR (fld 2 0 t)),.slice oW (rows (fld 2 1 t)).length cW]) (w.heap.size+1) #[.string (txtR (fld 2 0 t)),.slice oW (rows (fld 2 1 t)).length cW] 57):=Lib.hid (sets_bk [.string (txtR (fld 2 0 t)),.slice oW (rows (fld 2 1 t)).length cW] [.string ⟨#[]⟩,.slice none 0 0] [] rfl HY2.out)
    have HG3:=Lib.hid (chg_sets HG2.out (show w.heap.size≤w.heap.size+1 by omega) [.string (txtR (fld 2 0 t)),.slice oW (rows (fld 2 1 t)).length cW] 0)
    have HR3:=Lib.hid (show Bk (sets wc2 (w.heap.size+1) 0 [.string (txtR (fld 2 0 t)),.slice oW (rows (fld 2 1 t)).length cW]) R _ 90 from (sets_other (w.heap.size+1) R (Ne.symm HNE.out) [.string (txtR (fld 2 0 t)),.slice oW (rows (fld 2 1 t)).length cW] 0 wc2).trans HR2.out)
    have HW3:=Lib.hid (sets_own HW2.out HY2.out (by decide) [.string (txtR (fld 2 0 t)),.slice oW (rows (fld 2 1 t)).length cW] 0)
    refine hK.out _ _ (mkS2.out _ HS2.out [.string (txtR (fld 2 0 t)),.slice oW (rows (fld 2 1 t)).length cW] 0) (fun hj8 => ?_)
    clear hK K hj9
    have hj9:=hj8
    clear hj8
    clear y0 z0 y1 z1
    try simp only [Act.put,pS,p0,p1]
    rw [hch]
    clear hch
    generalize sets wc2 (w.heap.size+1) 0 [.string (txtR (fld 2 0 t)),.slice oW (rows (fld 2 1 t)).length cW]=wc3 at *
    refine wpAnyH_done (by kernel_rfl) ?_ _
    simp only [Exit.then]
    apply_assumption
    have y0:=(cell_of_row _ _ 0 _ _ _ HY3.out).trans rfl
    have y1:=(cell_of_row _ _ 1 _ _ _ HY3.out).trans rfl
    try go_wp2
    refine bodyPost_ret (v:=.agg #[.string (txtR (fld 2 0 t)),.slice oW (rows (fld 2 1 t)).length cW]) (by simp [results,Tryz.results77,go_sem, *]) rfl ?_
    refine ⟨oW,cW,by unfold rdCl; rw [List.length_map],by unfold rdCl; rw [List.length_map]; exact HW3.out,?_,HG3.out⟩
    have h:=HR3.out
    rw [← HB1.out] at h
    simp only [wrCl,wrF,wrS,Bool.or_assoc] at h ⊢
    exact h
   ·exact AllReadyH.nil
  ·exact AllReadyH.nil
 ·exact AllReadyH.nil
end Go.Proofs.YtjfjliobencppaaGreatDoor.Cf

set_option maxRecDepth 100000
set_option maxHeartbeats 4000000
namespace Go.Proofs.YtjfjliobencppaaGreatDoor.Cf
open Go.RowKit
theorem rl_lis (R : Nat) (b : Bool) (ts : List Tr) (o : Option Addr) (cap g off : Nat) (hlen : ts.length≤1000000) (w : World) (hR : Bk w R #[.bool b] 90) (ho : 0 < ts.length→o=some ⟨g,off,none⟩∧g < w.heap.size∧g≠R) (hl : VInPL w (fun b => b≠R) g off ts)
  (hK : ∀ t (b' : Bool) (wz : World) (c0 c1 c2 c3 : Value),Bk wz R #[.bool b'] 90→VInP wz (fun b => b≠R) t c0 c1 c2 c3→Calls Tryz.prog 75 #[.pointer (some ⟨R,0,none⟩),.agg #[c0,c1,c2,c3]] wz fun e w' => ∃ o c,e=.returned (.agg #[.string (rdLs t).name,.int .u8 ((rdLs t).p.a : Int),.int .u8 ((rdLs t).p.b : Int),.int .u8 ((rdLs t).p.c : Int),.int .u8 ((rdLs t).p.d : Int),.int .u16 ((rdLs t).p.port : Int),.slice o (rdLs t).r.length c])∧w'.ownsRow wz.heap.size 62 4 (.slice o (rdLs t).r.length c) (rdLs t).r.length ((rdLs t).r.flatMap Rt.cs)∧Rd R (b' || wrLs t) wz w') :
  Calls Tryz.prog 110 #[.slice o ts.length cap,(.func (.func 75) #[.pointer (some ⟨R,0,none⟩)] #[])] w fun e w' => ∃ oo cc,e=.returned (.slice oo ts.length cc)∧LcR w' w.heap.size (.slice oo ts.length cc) (ts.map rdLs)∧Rd R (b || ts.any wrLs) w w':=by
 have HO:=Lib.hid ho
 have HL:=Lib.hid hl
 have HK:=Lib.hid hK
 have HR:=Lib.hid hR
 clear ho hl hK hR
 go_enter Tryz.func110,Tryz.ntmps110
 go_wp2
 refine wp_scope_again 0 (fun a' w' => ∃ (j : Nat) (oo : Option Addr) (cc : Nat) (u2 u3 u4 u6 u7 u8 u9 u10 u11 u12 u13 u14 u15 u16 u17 u18 u19 u20 u21 : Value),j≤ts.length∧a'={ tmps:=#[.slice o ts.length cap,(.func (.func 75) #[.pointer (some ⟨R,0,none⟩)] #[]),u2,u3,u4,.slice oo j cc,u6,u7,u8,u9,u10,u11,u12,u13,u14,u15,u16,u17,u18,u19,u20,u21],defers:=[] }∧Hid (LcR w' w.heap.size (.slice oo j cc) ((ts.take j).map rdLs)∧Rd R (b || (ts.take j).any wrLs) w w')) (fun a' _ => ts.length - slen (a'.tmps.getD 5 undef)) rfl ?_ ?_
 ·intro K Qe hK
  go_wp2
  first | exact hK _ _ ⟨0,none,0,_,_,_,_,_,_,_,_,_,_,_,_,_,_,_,_,_,_,_,Nat.zero_le _,rfl,Lib.hid ⟨(by rw [List.take_zero]; exact LcR.nil _ _),by rw [List.take_zero,List.any_nil,Bool.or_false]; exact HR.out,Chg.refl R none w⟩⟩ | exact ⟨0,none,0,_,_,_,_,_,_,_,_,_,_,_,_,_,_,_,_,_,_,_,Nat.zero_le _,rfl,Lib.hid ⟨(by rw [List.take_zero]; exact LcR.nil _ _),by rw [List.take_zero,List.any_nil,Bool.or_false]; exact HR.out,Chg.refl R none w⟩⟩
 ·rintro a' wr ⟨j,oo,cc,u2,u3,u4,u6,u7,u8,u9,u10,u11,u12,u13,u14,u15,u16,u17,u18,u19,u20,u21,hj,rfl,hT⟩
  by_cases hjl : j < ts.length
  ·have hjm : (j : Int) < (ts.length : Int):=by omega
   obtain ⟨ho',hgl,hgR⟩:=HO.out (by omega)
   subst ho'
   obtain ⟨hT,hRD⟩:=hT.out
   obtain ⟨c0,c1,c2,c3,e0,e1,e2,e3,hv⟩:=HL.out.at j hjl
   have hb:=hRD.2.2.2.2.2 g hgl hgR (by simp)
   have hc : ∀ q,wr.cell? ⟨g,q,none⟩=w.cell? ⟨g,q,none⟩:=fun q => World.cell?_of_block hb
   have f0:=(hc _).trans e0
   have f1:=(hc _).trans e1
   have f2:=(hc _).trans e2
   have f3:=(hc _).trans e3
   have K1:=Lib.hid (HK.out (ts[j]'hjl) _ wr c0 c1 c2 c3 hRD.1 (chg_vin hRD.2 hv))
   have HTK : Hid (ts.take j++[ts[j]'hjl]=ts.take (j+1)):=Lib.hid (by rw [List.take_append_getElem])
   have HNJ : Hid (j≤1000000):=Lib.hid (by omega)
   have HRB:=Lib.hid hRD
   have HRW0:=Lib.hid hT
   obtain ⟨_,_,_,_,_,_,rfl,rfl,rfl,rfl⟩:=hv.cells
   clear hb hc e0 e1 e2 e3 hv hT hRD hgl hgR
   generalize (ts[j]'hjl)=t at *
   have HJL:=Lib.hid hjl
   go_wp2_with fail
   refine (K1.out).mono ?_
   rintro r w5 ⟨o2,c2,rfl,hv5,hrn⟩
   have HAB:=Lib.hid (alloc_below w5 (.cells #[.string (rdLs t).name,.int .u8 ((rdLs t).p.a : Int),.int .u8 ((rdLs t).p.b : Int),.int .u8 ((rdLs t).p.c : Int),.int .u8 ((rdLs t).p.d : Int),.int .u16 ((rdLs t).p.port : Int),.slice o2 (rdLs t).r.length c2] 52))
   have HN5:=Lib.hid (alloc_at (w:=w5) (g:=w5.heap.size) #[.string (rdLs t).name,.int .u8 ((rdLs t).p.a : Int),.int .u8 ((rdLs t).p.b : Int),.int .u8 ((rdLs t).p.c : Int),.int .u8 ((rdLs t).p.d : Int),.int .u16 ((rdLs t).p.port : Int),.slice o2 (rdLs t).r.length c2] 52 rfl)
   have HRN:=Lib.hid (show Rd R _ w (w5.alloc (.cells #[.string (rdLs t).name,.int .u8 ((rdLs t).p.a : Int),.int .u8 ((rdLs t).p.b : Int),.int .u8 ((rdLs t).p.c : Int),.int .u8 ((rdLs t).p.d : Int),.int .u16 ((rdLs t).p.port : Int),.slice o2 (rdLs t).r.length c2] 52)) from ⟨hrn.1.later HAB.out,chg_then (chg_then HRB.out.2 hrn.2) (Chg.of_below HAB.out)⟩)
   have HGE:=Lib.hid HRN.out.2.2.2.2.1
   have HONE:=Lib.hid (show ∀ u ∈ ([.string (rdLs t).name,.int .u8 ((rdLs t).p.a : Int),.int .u8 ((rdLs t).p.b : Int),.int .u8 ((rdLs t).p.c : Int),.int .u8 ((rdLs t).p.d : Int),.int .u16 ((rdLs t).p.port : Int),.slice o2 (rdLs t).r.length c2] : List Value),u.oneCell'=true by intro u hu; simp only [List.mem_cons,List.not_mem_nil,or_false] at hu; rcases hu with rfl | rfl | rfl | rfl | rfl | rfl | rfl <;> rfl)
   obtain ⟨PL,hPL,hrow,hin⟩:=HRW0.out
   have HPL:=Lib.hid hPL
   have HIN:=Lib.hid hin
   have HLN : Hid (PL.length=j):=Lib.hid (by have h:=congrArg List.length hPL; rw [List.length_map,List.length_map,List.length_take] at h; omega)
   have HRW2 : Hid ((w5.alloc (.cells #[.string (rdLs t).name,.int .u8 ((rdLs t).p.a : Int),.int .u8 ((rdLs t).p.b : Int),.int .u8 ((rdLs t).p.c : Int),.int .u8 ((rdLs t).p.d : Int),.int .u16 ((rdLs t).p.port : Int),.slice o2 (rdLs t).r.length c2] 52)).ownsRow w.heap.size 52 7 (.slice oo j cc) j (PL.flatMap llcs)):=Lib.hid (by have h:=own_later (own_chg hrow hrn.2 HRB.out.1 (by decide)) HAB.out; rwa [HLN.out] at h)
   have HVB:=Lib.hid (own_mono (B':=w.heap.size) (own_later hv5 HAB.out) HRB.out.2.2.2.2.1)
   have HI5:=Lib.hid (fun p hp => own_later (own_chg (HIN.out p hp) hrn.2 HRB.out.1 (by decide)) HAB.out)
   clear hPL hrow hin hv5 hrn
   go_wp2_with (first
    | (at_builtin; go_must (refine wpList_append_one (w5.alloc (.cells #[.string (rdLs t).name,.int .u8 ((rdLs t).p.a : Int),.int .u8 ((rdLs t).p.b : Int),.int .u8 ((rdLs t).p.c : Int),.int .u8 ((rdLs t).p.d : Int),.int .u16 ((rdLs t).p.port : Int),.slice o2 (rdLs t).r.length c2] 52)) rfl (.tmp 11) (.tmp 19) (e:=52) (k:=7) Tryz.underlying23 (by kernel_rfl) (by decide) rfl (w.heap.size) (.slice oo j cc) j (PL.flatMap llcs) [.string (rdLs t).name,.int .u8 ((rdLs t).p.a : Int),.int .u8 ((rdLs t).p.b : Int),.int .u8 ((rdLs t).p.c : Int),.int .u8 ((rdLs t).p.d : Int),.int .u16 ((rdLs t).p.port : Int),.slice o2 (rdLs t).r.length c2] w5.heap.size rfl HRW2.out rfl HN5.out rfl HONE.out HGE.out HNJ.out ?_); intro v6 w6 hv6 hg6 hb6 hn6; obtain ⟨o6,c6,hf6⟩:=own_form hv6; subst hf6; have HV6:=Lib.hid hv6; have HI6:=Lib.hid (fun p hp => own_grown (HI5.out p hp) HRW2.out hg6 (by decide)); have HX6:=Lib.hid (own_grown HVB.out HRW2.out hg6 (by decide)); have HR6:=Lib.hid (show Rd R _ w w6 from ⟨HRN.out.1.grown HRW2.out hg6 (by decide),chg_below HRN.out.2 hb6⟩); clear hv6 hg6 hb6 hn6))
   go_step3
   refine ⟨rfl,⟨j+1,o6,c6,_,_,_,_,_,_,_,_,_,_,_,_,_,_,_,_,_,_,_,HJL.out,rfl,Lib.hid ⟨?_,?_⟩⟩,?_⟩
   ·rw [← HTK.out,List.map_append,← HPL.out]
    refine ⟨PL++[((rdLs t),.slice o2 (rdLs t).r.length c2)],by simp,?_,fun p hp => ?_⟩
    ·rw [List.length_append,HLN.out,List.flatMap_append]
     exact HV6.out
    ·rcases List.mem_append.1 hp with hp | hp
     ·exact HI6.out p hp
     ·obtain rfl:=List.mem_singleton.1 hp
      exact HX6.out
   ·rw [← HTK.out,List.any_append,List.any_cons,List.any_nil,Bool.or_false,← Bool.or_assoc]
    exact HR6.out
   ·have HJM:=HJL.out
    simp [slen]
    omega
  ·obtain rfl : j=ts.length:=by omega
   have HX:=Lib.hid (show LcR wr w.heap.size (.slice oo ts.length cc) (ts.map rdLs)∧Rd R (b || ts.any wrLs) w wr by have h:=hT.out; rwa [List.take_length] at h)
   have hjm : ¬ ((ts.length : Int) < (ts.length : Int)):=by omega
   clear hT
   go_wp2
   try simp only [Exit.jump]
   go_ret
   exact ⟨_,_,rfl,HX.out.1,HX.out.2⟩
theorem rl_clu (R : Nat) (b : Bool) (ts : List Tr) (o : Option Addr) (cap g off : Nat) (hlen : ts.length≤1000000) (w : World) (hR : Bk w R #[.bool b] 90) (ho : 0 < ts.length→o=some ⟨g,off,none⟩∧g < w.heap.size∧g≠R) (hl : VInPL w (fun b => b≠R) g off ts)
  (hK : ∀ t (b' : Bool) (wz : World) (c0 c1 c2 c3 : Value),Bk wz R #[.bool b'] 90→VInP wz (fun b => b≠R) t c0 c1 c2 c3→Calls Tryz.prog 77 #[.pointer (some ⟨R,0,none⟩),.agg #[c0,c1,c2,c3]] wz fun e w' => ∃ o c,e=.returned (.agg #[.string (rdCl t).name,.slice o (rdCl t).e.length c])∧w'.ownsRow wz.heap.size 64 6 (.slice o (rdCl t).e.length c) (rdCl t).e.length ((rdCl t).e.flatMap Ep.cs)∧Rd R (b' || wrCl t) wz w') :
  Calls Tryz.prog 115 #[.slice o ts.length cap,(.func (.func 77) #[.pointer (some ⟨R,0,none⟩)] #[])] w fun e w' => ∃ oo cc,e=.returned (.slice oo ts.length cc)∧KcR w' w.heap.size (.slice oo ts.length cc) (ts.map rdCl)∧Rd R (b || ts.any wrCl) w w':=by
 have HO:=Lib.hid ho
 have HL:=Lib.hid hl
 have HK:=Lib.hid hK
 have HR:=Lib.hid hR
 clear ho hl hK hR
 go_enter Tryz.func115,Tryz.ntmps115
 go_wp2
 refine wp_scope_again 0 (fun a' w' => ∃ (j : Nat) (oo : Option Addr) (cc : Nat) (u2 u3 u4 u6 u7 u8 u9 u10 u11 u12 u13 u14 u15 u16 u17 u18 u19 u20 u21 : Value),j≤ts.length∧a'={ tmps:=#[.slice o ts.length cap,(.func (.func 77) #[.pointer (some ⟨R,0,none⟩)] #[]),u2,u3,u4,.slice oo j cc,u6,u7,u8,u9,u10,u11,u12,u13,u14,u15,u16,u17,u18,u19,u20,u21],defers:=[] }∧Hid (KcR w' w.heap.size (.slice oo j cc) ((ts.take j).map rdCl)∧Rd R (b || (ts.take j).any wrCl) w w')) (fun a' _ => ts.length - slen (a'.tmps.getD 5 undef)) rfl ?_ ?_
 ·intro K Qe hK
  go_wp2
  first | exact hK _ _ ⟨0,none,0,_,_,_,_,_,_,_,_,_,_,_,_,_,_,_,_,_,_,_,Nat.zero_le _,rfl,Lib.hid ⟨(by rw [List.take_zero]; exact KcR.nil _ _),by rw [List.take_zero,List.any_nil,Bool.or_false]; exact HR.out,Chg.refl R none w⟩⟩ | exact ⟨0,none,0,_,_,_,_,_,_,_,_,_,_,_,_,_,_,_,_,_,_,_,Nat.zero_le _,rfl,Lib.hid ⟨(by rw [List.take_zero]; exact KcR.nil _ _),by rw [List.take_zero,List.any_nil,Bool.or_false]; exact HR.out,Chg.refl R none w⟩⟩
 ·rintro a' wr ⟨j,oo,cc,u2,u3,u4,u6,u7,u8,u9,u10,u11,u12,u13,u14,u15,u16,u17,u18,u19,u20,u21,hj,rfl,hT⟩
  by_cases hjl : j < ts.length
  ·have hjm : (j : Int) < (ts.length : Int):=by omega
   obtain ⟨ho',hgl,hgR⟩:=HO.out (by omega)
   subst ho'
   obtain ⟨hT,hRD⟩:=hT.out
   obtain ⟨c0,c1,c2,c3,e0,e1,e2,e3,hv⟩:=HL.out.at j hjl
   have hb:=hRD.2.2.2.2.2 g hgl hgR (by simp)
   have hc : ∀ q,wr.cell? ⟨g,q,none⟩=w.cell? ⟨g,q,none⟩:=fun q => World.cell?_of_block hb
   have f0:=(hc _).trans e0
   have f1:=(hc _).trans e1
   have f2:=(hc _).trans e2
   have f3:=(hc _).trans e3
   have K1:=Lib.hid (HK.out (ts[j]'hjl) _ wr c0 c1 c2 c3 hRD.1 (chg_vin hRD.2 hv))
   have HTK : Hid (ts.take j++[ts[j]'hjl]=ts.take (j+1)):=Lib.hid (by rw [List.take_append_getElem])
   have HNJ : Hid (j≤1000000):=Lib.hid (by omega)
   have HRB:=Lib.hid hRD
   have HRW0:=Lib.hid hT
   obtain ⟨_,_,_,_,_,_,rfl,rfl,rfl,rfl⟩:=hv.cells
   clear hb hc e0 e1 e2 e3 hv hT hRD hgl hgR
   generalize (ts[j]'hjl)=t at *
   have HJL:=Lib.hid hjl
   go_wp2_with fail
   refine (K1.out).mono ?_
   rintro r w5 ⟨o2,c2,rfl,hv5,hrn⟩
   have HAB:=Lib.hid (alloc_below w5 (.cells #[.string (rdCl t).name,.slice o2 (rdCl t).e.length c2] 57))
   have HN5:=Lib.hid (alloc_at (w:=w5) (g:=w5.heap.size) #[.string (rdCl t).name,.slice o2 (rdCl t).e.length c2] 57 rfl)
   have HRN:=Lib.hid (show Rd R _ w (w5.alloc (.cells #[.string (rdCl t).name,.slice o2 (rdCl t).e.length c2] 57)) from ⟨hrn.1.later HAB.out,chg_then (chg_then HRB.out.2 hrn.2) (Chg.of_below HAB.out)⟩)
   have HGE:=Lib.hid HRN.out.2.2.2.2.1
   have HONE:=Lib.hid (show ∀ u ∈ ([.string (rdCl t).name,.slice o2 (rdCl t).e.length c2] : List Value),u.oneCell'=true by intro u hu; simp only [List.mem_cons,List.not_mem_nil,or_false] at hu; rcases hu with rfl | rfl <;> rfl)
   obtain ⟨PL,hPL,hrow,hin⟩:=HRW0.out
   have HPL:=Lib.hid hPL
   have HIN:=Lib.hid hin
   have HLN : Hid (PL.length=j):=Lib.hid (by have h:=congrArg List.length hPL; rw [List.length_map,List.length_map,List.length_take] at h; omega)
   have HRW2 : Hid ((w5.alloc (.cells #[.string (rdCl t).name,.slice o2 (rdCl t).e.length c2] 57)).ownsRow w.heap.size 57 2 (.slice oo j cc) j (PL.flatMap cccs)):=Lib.hid (by have h:=own_later (own_chg hrow hrn.2 HRB.out.1 (by decide)) HAB.out; rwa [HLN.out] at h)
   have HVB:=Lib.hid (own_mono (B':=w.heap.size) (own_later hv5 HAB.out) HRB.out.2.2.2.2.1)
   have HI5:=Lib.hid (fun p hp => own_later (own_chg (HIN.out p hp) hrn.2 HRB.out.1 (by decide)) HAB.out)
   clear hPL hrow hin hv5 hrn
   go_wp2_with (first
    | (at_builtin; go_must (refine wpList_append_one (w5.alloc (.cells #[.string (rdCl t).name,.slice o2 (rdCl t).e.length c2] 57)) rfl (.tmp 11) (.tmp 19) (e:=57) (k:=2) Tryz.underlying24 (by kernel_rfl) (by decide) rfl (w.heap.size) (.slice oo j cc) j (PL.flatMap cccs) [.string (rdCl t).name,.slice o2 (rdCl t).e.length c2] w5.heap.size rfl HRW2.out rfl HN5.out rfl HONE.out HGE.out HNJ.out ?_); intro v6 w6 hv6 hg6 hb6 hn6; obtain ⟨o6,c6,hf6⟩:=own_form hv6; subst hf6; have HV6:=Lib.hid hv6; have HI6:=Lib.hid (fun p hp => own_grown (HI5.out p hp) HRW2.out hg6 (by decide)); have HX6:=Lib.hid (own_grown HVB.out HRW2.out hg6 (by decide)); have HR6:=Lib.hid (show Rd R _ w w6 from ⟨HRN.out.1.grown HRW2.out hg6 (by decide),chg_below HRN.out.2 hb6⟩); clear hv6 hg6 hb6 hn6))
   go_step3
   refine ⟨rfl,⟨j+1,o6,c6,_,_,_,_,_,_,_,_,_,_,_,_,_,_,_,_,_,_,_,HJL.out,rfl,Lib.hid ⟨?_,?_⟩⟩,?_⟩
   ·rw [← HTK.out,List.map_append,← HPL.out]
    refine ⟨PL++[((rdCl t),.slice o2 (rdCl t).e.length c2)],by simp,?_,fun p hp => ?_⟩
    ·rw [List.length_append,HLN.out,List.flatMap_append]
     exact HV6.out
    ·rcases List.mem_append.1 hp with hp | hp
     ·exact HI6.out p hp
     ·obtain rfl:=List.mem_singleton.1 hp
      exact HX6.out
   ·rw [← HTK.out,List.any_append,List.any_cons,List.any_nil,Bool.or_false,← Bool.or_assoc]
    exact HR6.out
   ·have HJM:=HJL.out
    simp [slen]
    omega
  ·obtain rfl : j=ts.length:=by omega
   have HX:=Lib.hid (show KcR wr w.heap.size (.slice oo ts.length cc) (ts.map rdCl)∧Rd R (b || ts.any wrCl) w wr by have h:=hT.out; rwa [List.take_length] at h)
   have hjm : ¬ ((ts.length : Int) < (ts.length : Int)):=by omega
   clear hT
   go_wp2
   try simp only [Exit.jump]
   go_ret
   exact ⟨_,_,rfl,HX.out.1,HX.out.2⟩
end Go.Proofs.YtjfjliobencppaaGreatDoor.Cf

set_option maxRecDepth 100000
set_option maxHeartbeats 4000000
namespace Go.Proofs.YtjfjliobencppaaGreatDoor.Cf
open Go.RowKit
theorem rd_liss (R : Nat) (b : Bool) (t : Tr) (c0 c1 c2 c3 : Value) (w : World) (hR : Bk w R #[.bool b] 90) (hv : VInP w (fun b => b≠R) t c0 c1 c2 c3)
  (hK : ∀ (b' : Bool) (o : Option Addr) (cap g off : Nat) (wz : World),(rows t).length≤1000000→Bk wz R #[.bool b'] 90→(0 < (rows t).length→o=some ⟨g,off,none⟩∧g < wz.heap.size∧g≠R)→VInPL wz (fun b => b≠R) g off (rows t)→Calls Tryz.prog 110 #[.slice o (rows t).length cap,(.func (.func 75) #[.pointer (some ⟨R,0,none⟩)] #[])] wz fun e w' => ∃ oo cc,e=.returned (.slice oo (rows t).length cc)∧LcR w' wz.heap.size (.slice oo (rows t).length cc) ((rows t).map rdLs)∧Rd R (b' || (rows t).any wrLs) wz w') :
  Calls Tryz.prog 74 #[.pointer (some ⟨R,0,none⟩),.agg #[c0,c1,c2,c3],(.func (.func 75) #[.pointer (some ⟨R,0,none⟩)] #[])] w fun e w' => ∃ oo cc,e=.returned (.slice oo (rows t).length cc)∧LcR w' w.heap.size (.slice oo (rows t).length cc) ((rows t).map rdLs)∧Rd R (b || wrL wrLs t) w w':=by
 have KO:=Lib.hid (fun W h1 h2 => of_any R b 3 t c0 c1 c2 c3 W h1 h2)
 have HC:=Lib.hid (alloc_below w (.cells #[c0,c1,c2,c3] 69))
 have HR:=Lib.hid (hR.later HC.out)
 have HV:=Lib.hid (chg_vin (Chg.of_below (g:=R) (ρ:=none) HC.out) hv)
 have HK:=Lib.hid hK
 obtain ⟨k,m,s,o,len,cap,rfl,rfl,rfl,rfl⟩:=hv.cells
 clear hR hv hK
 go_enter Tryz.func74,Tryz.ntmps74
 go_wp2_with fail
 refine (KO.out _ HR.out HV.out).mono ?_
 rintro e w1 ⟨⟨d0,d1,d2,d3,rfl,hv1⟩,hr1⟩
 have HD:=Lib.hid (show Rd R _ w w1 from ⟨hr1.1,chg_then (Chg.of_below HC.out) hr1.2⟩)
 have HL : Hid (∃ (o2 : Option Addr) (cap2 g off : Nat),d3=.slice o2 (rows t).length cap2∧(0 < (rows t).length→o2=some ⟨g,off,none⟩∧g < w1.heap.size∧g≠R)∧VInPL w1 (fun b => b≠R) g off (rows t)∧(rows t).length≤1000000):=Lib.hid (by
  unfold rows
  generalize ofT 3 t=u at hv1
  obtain ⟨ku,nu,su,lu⟩:=u
  unfold VInP at hv1
  obtain ⟨_,_,_,_,hz,o2,cap2,g,off,h3,h4,h5⟩:=hv1
  exact ⟨o2,cap2,g,off,h3,h4,h5,hz.2⟩)
 obtain ⟨_,_,_,_,_,_,rfl,rfl,rfl,hd3⟩:=hv1.cells
 obtain ⟨o2,cap2,g,off,hd,ho2,hl2,hz2⟩:=HL.out
 clear hd3
 subst hd
 have K2:=Lib.hid (HK.out _ o2 cap2 g off w1 hz2 HD.out.1 ho2 hl2)
 clear hv1 hr1 HL ho2 hl2 hz2
 have hfd : ∀ (y x : Int) (s' : ByteArray) (o' : Option Addr) (l' p' : Nat) (W : World),(Instr.field 69 (.agg #[.int .i64 y,.int .u64 x,.string s',.slice o' l' p']) 3).run Tryz.prog W=.ok (.slice o' l' p') W:=fun _ _ _ _ _ _ _ => by kernel_rfl
 go_wp2_with fail
 refine (K2.out).mono ?_
 rintro e w2 ⟨oo,cc,rfl,hrow,hr2⟩
 have HF:=Lib.hid hrow
 have HG:=Lib.hid hr2
 clear hrow hr2
 go_wp2
 go_ret
 refine ⟨_,_,rfl,LcR.mono HF.out (by have:=HD.out.2.2.2.2.1; omega),?_,chg_then HD.out.2 HG.out.2⟩
 have h:=HG.out.1
 rwa [Bool.or_assoc] at h
theorem rd_clus (R : Nat) (b : Bool) (t : Tr) (c0 c1 c2 c3 : Value) (w : World) (hR : Bk w R #[.bool b] 90) (hv : VInP w (fun b => b≠R) t c0 c1 c2 c3)
  (hK : ∀ (b' : Bool) (o : Option Addr) (cap g off : Nat) (wz : World),(rows t).length≤1000000→Bk wz R #[.bool b'] 90→(0 < (rows t).length→o=some ⟨g,off,none⟩∧g < wz.heap.size∧g≠R)→VInPL wz (fun b => b≠R) g off (rows t)→Calls Tryz.prog 115 #[.slice o (rows t).length cap,(.func (.func 77) #[.pointer (some ⟨R,0,none⟩)] #[])] wz fun e w' => ∃ oo cc,e=.returned (.slice oo (rows t).length cc)∧KcR w' wz.heap.size (.slice oo (rows t).length cc) ((rows t).map rdCl)∧Rd R (b' || (rows t).any wrCl) wz w') :
  Calls Tryz.prog 76 #[.pointer (some ⟨R,0,none⟩),.agg #[c0,c1,c2,c3],(.func (.func 77) #[.pointer (some ⟨R,0,none⟩)] #[])] w fun e w' => ∃ oo cc,e=.returned (.slice oo (rows t).length cc)∧KcR w' w.heap.size (.slice oo (rows t).length cc) ((rows t).map rdCl)∧Rd R (b || wrL wrCl t) w w':=by
 have KO:=Lib.hid (fun W h1 h2 => of_any R b 3 t c0 c1 c2 c3 W h1 h2)
 have HC:=Lib.hid (alloc_below w (.cells #[c0,c1,c2,c3] 69))
 have HR:=Lib.hid (hR.later HC.out)
 have HV:=Lib.hid (chg_vin (Chg.of_below (g:=R) (ρ:=none) HC.out) hv)
 have HK:=Lib.hid hK
 obtain ⟨k,m,s,o,len,cap,rfl,rfl,rfl,rfl⟩:=hv.cells
 clear hR hv hK
 go_enter Tryz.func76,Tryz.ntmps76
 go_wp2_with fail
 refine (KO.out _ HR.out HV.out).mono ?_
 rintro e w1 ⟨⟨d0,d1,d2,d3,rfl,hv1⟩,hr1⟩
 have HD:=Lib.hid (show Rd R _ w w1 from ⟨hr1.1,chg_then (Chg.of_below HC.out) hr1.2⟩)
 have HL : Hid (∃ (o2 : Option Addr) (cap2 g off : Nat),d3=.slice o2 (rows t).length cap2∧(0 < (rows t).length→o2=some ⟨g,off,none⟩∧g < w1.heap.size∧g≠R)∧VInPL w1 (fun b => b≠R) g off (rows t)∧(rows t).length≤1000000):=Lib.hid (by
  unfold rows
  generalize ofT 3 t=u at hv1
  obtain ⟨ku,nu,su,lu⟩:=u
  unfold VInP at hv1
  obtain ⟨_,_,_,_,hz,o2,cap2,g,off,h3,h4,h5⟩:=hv1
  exact ⟨o2,cap2,g,off,h3,h4,h5,hz.2⟩)
 obtain ⟨_,_,_,_,_,_,rfl,rfl,rfl,hd3⟩:=hv1.cells
 obtain ⟨o2,cap2,g,off,hd,ho2,hl2,hz2⟩:=HL.out
 clear hd3
 subst hd
 have K2:=Lib.hid (HK.out _ o2 cap2 g off w1 hz2 HD.out.1 ho2 hl2)
 clear hv1 hr1 HL ho2 hl2 hz2
 have hfd : ∀ (y x : Int) (s' : ByteArray) (o' : Option Addr) (l' p' : Nat) (W : World),(Instr.field 69 (.agg #[.int .i64 y,.int .u64 x,.string s',.slice o' l' p']) 3).run Tryz.prog W=.ok (.slice o' l' p') W:=fun _ _ _ _ _ _ _ => by kernel_rfl
 go_wp2_with fail
 refine (K2.out).mono ?_
 rintro e w2 ⟨oo,cc,rfl,hrow,hr2⟩
 have HF:=Lib.hid hrow
 have HG:=Lib.hid hr2
 clear hrow hr2
 go_wp2
 go_ret
 refine ⟨_,_,rfl,KcR.mono HF.out (by have:=HD.out.2.2.2.2.1; omega),?_,chg_then HD.out.2 HG.out.2⟩
 have h:=HG.out.1
 rwa [Bool.or_assoc] at h
end Go.Proofs.YtjfjliobencppaaGreatDoor.Cf

set_option maxRecDepth 100000
set_option maxHeartbeats 4000000
namespace Go.Proofs.YtjfjliobencppaaGreatDoor.Cf
open Go.RowKit
theorem rd_co (R : Nat) (b : Bool) (t : Tr) (c0 c1 c2 c3 : Value) (w : World) (hR : Bk w R #[.bool b] 90) (hv : VInP w (fun b => b≠R) t c0 c1 c2 c3) :
  Calls Tryz.prog 30 #[.pointer (some ⟨R,0,none⟩),.agg #[c0,c1,c2,c3]] w fun e w' => ∃ oV cV oK cK,e=.returned (.agg #[.int .u64 ((rdC t).v : Int),.slice oV (rdC t).l.length cV,.slice oK (rdC t).c.length cK])∧LcR w' w.heap.size (.slice oV (rdC t).l.length cV) (rdC t).l∧KcR w' w.heap.size (.slice oK (rdC t).c.length cK) (rdC t).c∧Rd R (b || wrC t) w w':=by
 have HNE : Hid (w.heap.size+1≠R):=Lib.hid (by have:=lt_of_heap hR; omega)
 have HBx:=Lib.hid (show Below w.heap.size w ((w.alloc (.cells #[c0,c1,c2,c3] 69)).alloc (.cells #[.int .u64 0,.slice none 0 0,.slice none 0 0] 26)) from (alloc_below _ _).trans ((alloc_below _ _).mono (by simp)))
 have HY:=Lib.hid (alloc_at (w:=(w.alloc (.cells #[c0,c1,c2,c3] 69))) (g:=w.heap.size+1) #[.int .u64 0,.slice none 0 0,.slice none 0 0] 26 (by simp))
 have K72:=Lib.hid (fields_any R 3 b t c0 c1 c2 c3 ((w.alloc (.cells #[c0,c1,c2,c3] 69)).alloc (.cells #[.int .u64 0,.slice none 0 0,.slice none 0 0] 26)) (by omega) (hR.later HBx.out) (chg_vin (Chg.of_below (g:=R) (ρ:=none) HBx.out) hv))
 have HVR:=Lib.hid hv
 obtain ⟨W0,hW0⟩ : ∃ W0,W0=((w.alloc (.cells #[c0,c1,c2,c3] 69)).alloc (.cells #[.int .u64 0,.slice none 0 0,.slice none 0 0] 26)):=⟨_,rfl⟩
 rw [← hW0] at HBx HY K72
 obtain ⟨k',n',s',o',len',cap',rfl,rfl,rfl,rfl⟩:=hv.cells
 clear hv hR
 go_enter Tryz.func30,Tryz.ntmps30
 go_wp2_with fail
 rw [← hW0]
 clear hW0
 refine (K72.out).mono ?_
 rintro e w1 ⟨⟨o,cap,g,off,rfl,ho,hl⟩,hrn⟩
 obtain ⟨rfl,hgl,hgR⟩:=ho (by omega)
 have HGA:=Lib.hid (show Chg R none w w1 from chg_then (Chg.of_below HBx.out) hrn.2)
 have HYA:=Lib.hid (show Bk w1 (w.heap.size+1) #[.int .u64 0,.slice none 0 0,.slice none 0 0] 26 from (hrn.2.2.2.2.2 _ (lt_of_heap HY.out) HNE.out (by simp)).trans HY.out)
 obtain ⟨b1,hb1⟩ : ∃ b1,(b || decide (Tr.tk t≠3) || decide ((Tr.tl (ofT 3 t)).length≠3))=b1:=⟨_,rfl⟩
 have HB1:=Lib.hid hb1
 rw [hb1] at hrn
 have HRA:=Lib.hid hrn.1
 clear hb1
 have hfl : (fldT 3 t).length=3:=fldT_len 3 t
 obtain ⟨d0_0,d0_1,d0_2,d0_3,e0_0,e0_1,e0_2,e0_3,hv0⟩:=hl.at 0 (by omega)
 simp only [Nat.zero_mul,Nat.one_mul,Nat.reduceMul,Nat.add_zero,Nat.add_assoc,Nat.reduceAdd] at e0_0 e0_1 e0_2 e0_3
 have hz0 : (fldT 3 t)[0]'(by omega)=fld 3 0 t:=fld_at _
 rw [hz0] at hv0
 obtain ⟨d1_0,d1_1,d1_2,d1_3,e1_0,e1_1,e1_2,e1_3,hv1⟩:=hl.at 1 (by omega)
 simp only [Nat.zero_mul,Nat.one_mul,Nat.reduceMul,Nat.add_zero,Nat.add_assoc,Nat.reduceAdd] at e1_0 e1_1 e1_2 e1_3
 have hz1 : (fldT 3 t)[1]'(by omega)=fld 3 1 t:=fld_at _
 rw [hz1] at hv1
 obtain ⟨d2_0,d2_1,d2_2,d2_3,e2_0,e2_1,e2_2,e2_3,hv2⟩:=hl.at 2 (by omega)
 simp only [Nat.zero_mul,Nat.one_mul,Nat.reduceMul,Nat.add_zero,Nat.add_assoc,Nat.reduceAdd] at e2_0 e2_1 e2_2 e2_3
 have hz2 : (fldT 3 t)[2]'(by omega)=fld 3 2 t:=fld_at _
 rw [hz2] at hv2
 have hgY : g≠w.heap.size+1:=fun h => by
  obtain ⟨x,y,_,_,_,_,hx,hy,_,_⟩:=hv0.cells
  have h1:=e0_0
  have h2:=e0_1
  rw [h,cell_of_row _ _ _ _ _ _ HYA.out,hx] at h1
  rw [h,cell_of_row _ _ _ _ _ _ HYA.out,hy] at h2
  exact noiu26 off x y h1 h2
 clear hl ho hrn hfl hz0 hz1 hz2
 go_upto_region 2 with fail
 have hS1 : ∀ wz,Chg R none w1 wz→wz.cell? ⟨g,off,none⟩=some (d0_0)∧wz.cell? ⟨g,off+1,none⟩=some (d0_1)∧wz.cell? ⟨g,off+2,none⟩=some (d0_2)∧wz.cell? ⟨g,off+3,none⟩=some (d0_3)∧wz.cell? ⟨g,off+4,none⟩=some (d1_0)∧wz.cell? ⟨g,off+5,none⟩=some (d1_1)∧wz.cell? ⟨g,off+6,none⟩=some (d1_2)∧wz.cell? ⟨g,off+7,none⟩=some (d1_3)∧wz.cell? ⟨g,off+8,none⟩=some (d2_0)∧wz.cell? ⟨g,off+9,none⟩=some (d2_1)∧wz.cell? ⟨g,off+10,none⟩=some (d2_2)∧wz.cell? ⟨g,off+11,none⟩=some (d2_3):=fun wz h => by
  have hb:=h.2.2.2.2 g hgl hgR (by simp)
  have hc : ∀ j,wz.cell? ⟨g,j,none⟩=w1.cell? ⟨g,j,none⟩:=fun j => World.cell?_of_block hb
  exact ⟨(hc _).trans e0_0,(hc _).trans e0_1,(hc _).trans e0_2,(hc _).trans e0_3,(hc _).trans e1_0,(hc _).trans e1_1,(hc _).trans e1_2,(hc _).trans e1_3,(hc _).trans e2_0,(hc _).trans e2_1,(hc _).trans e2_2,(hc _).trans e2_3⟩
 have mkS:=Lib.hid hS1
 have mkS2 : Hid (∀ wz,Chg R none w1 wz→∀ vs i,(sets wz (w.heap.size+1) i vs).cell? ⟨g,off,none⟩=some (d0_0)∧(sets wz (w.heap.size+1) i vs).cell? ⟨g,off+1,none⟩=some (d0_1)∧(sets wz (w.heap.size+1) i vs).cell? ⟨g,off+2,none⟩=some (d0_2)∧(sets wz (w.heap.size+1) i vs).cell? ⟨g,off+3,none⟩=some (d0_3)∧(sets wz (w.heap.size+1) i vs).cell? ⟨g,off+4,none⟩=some (d1_0)∧(sets wz (w.heap.size+1) i vs).cell? ⟨g,off+5,none⟩=some (d1_1)∧(sets wz (w.heap.size+1) i vs).cell? ⟨g,off+6,none⟩=some (d1_2)∧(sets wz (w.heap.size+1) i vs).cell? ⟨g,off+7,none⟩=some (d1_3)∧(sets wz (w.heap.size+1) i vs).cell? ⟨g,off+8,none⟩=some (d2_0)∧(sets wz (w.heap.size+1) i vs).cell? ⟨g,off+9,none⟩=some (d2_1)∧(sets wz (w.heap.size+1) i vs).cell? ⟨g,off+10,none⟩=some (d2_2)∧(sets wz (w.heap.size+1) i vs).cell? ⟨g,off+11,none⟩=some (d2_3)):=Lib.hid (fun wz h vs i => by
  have hb:=h.2.2.2.2 g hgl hgR (by simp)
  have hc : ∀ j,(sets wz (w.heap.size+1) i vs).cell? ⟨g,j,none⟩=w1.cell? ⟨g,j,none⟩:=fun j => World.cell?_of_block ((sets_other _ _ hgY vs i wz).trans hb)
  exact ⟨(hc _).trans e0_0,(hc _).trans e0_1,(hc _).trans e0_2,(hc _).trans e0_3,(hc _).trans e1_0,(hc _).trans e1_1,(hc _).trans e1_2,(hc _).trans e1_3,(hc _).trans e2_0,(hc _).trans e2_1,(hc _).trans e2_2,(hc _).trans e2_3⟩)
 clear hS1
 have HG0:=Lib.hid (show Chg R none w w1.drew from chg_then HGA.out ⟨rfl,rfl,rfl,Nat.le_refl _,fun _ _ _ _ => rfl⟩)
 have HR0:=Lib.hid (show Bk w1.drew R #[.bool b1] 90 from HRA.out)
 have HY0:=Lib.hid (show Bk w1.drew (w.heap.size+1) #[.int .u64 0,.slice none 0 0,.slice none 0 0] 26 from HYA.out)
 have HS0 : Hid (Chg R none w1 w1.drew):=Lib.hid ⟨rfl,rfl,rfl,Nat.le_refl _,fun _ _ _ _ => rfl⟩
 have HV0_0:=Lib.hid (chg_vin HS0.out hv0)
 have HV1_0:=Lib.hid (chg_vin HS0.out hv1)
 have HV2_0:=Lib.hid (chg_vin HS0.out hv2)
 clear hv0 hv1 hv2 e0_0 e0_1 e0_2 e0_3 e1_0 e1_1 e1_2 e1_3 e2_0 e2_1 e2_2 e2_3
 refine wp_region_held_drew (S:=fun wz => wz.cell? ⟨g,off,none⟩=some (d0_0)∧wz.cell? ⟨g,off+1,none⟩=some (d0_1)∧wz.cell? ⟨g,off+2,none⟩=some (d0_2)∧wz.cell? ⟨g,off+3,none⟩=some (d0_3)∧wz.cell? ⟨g,off+4,none⟩=some (d1_0)∧wz.cell? ⟨g,off+5,none⟩=some (d1_1)∧wz.cell? ⟨g,off+6,none⟩=some (d1_2)∧wz.cell? ⟨g,off+7,none⟩=some (d1_3)∧wz.cell? ⟨g,off+8,none⟩=some (d2_0)∧wz.cell? ⟨g,off+9,none⟩=some (d2_1)∧wz.cell? ⟨g,off+10,none⟩=some (d2_2)∧wz.cell? ⟨g,off+11,none⟩=some (d2_3)) (by kernel_rfl) (mkS.out _ HS0.out) (fun hj9 => ?_)
 generalize w1.drew=wc0 at *
 refine tkH (i:=0) (oi:=⟨some 9,_,_,_,_,_⟩) (v:=?_) rfl (Or.inl ⟨by rfl,by (intro w hSw; (try dsimp only at hSw); go_simp; try with_reducible rfl)⟩) hj9 ?_
 try simp only [Act.put,pS,p0,p1]
 refine tkH (i:=1) (oi:=⟨some 10,_,_,_,_,_⟩) (v:=?_) rfl (Or.inl ⟨by rfl,by (intro w hSw; (try dsimp only at hSw); go_simp; try with_reducible rfl)⟩) hj9 ?_
 try simp only [Act.put,pS,p0,p1]
 refine tkH (i:=2) (oi:=⟨some 11,_,_,_,_,_⟩) (v:=?_) rfl (Or.inl ⟨by rfl,by (intro w hSw; (try dsimp only at hSw); go_simp; try with_reducible rfl)⟩) hj9 ?_
 try simp only [Act.put,pS,p0,p1]
 refine tkH (i:=3) (oi:=⟨some 12,_,_,_,_,_⟩) (v:=?_) rfl (Or.inl ⟨by rfl,by (intro w hSw; (try dsimp only at hSw); go_simp; try with_reducible rfl)⟩) hj9 ?_
 try simp only [Act.put,pS,p0,p1]
 refine tkH (i:=5) (oi:=⟨some 14,_,_,_,_,_⟩) (v:=?_) rfl (Or.inl ⟨by rfl,by (intro w hSw; (try dsimp only at hSw); go_simp; try with_reducible rfl)⟩) hj9 ?_
 try simp only [Act.put,pS,p0,p1]
 refine tkH (i:=6) (oi:=⟨some 15,_,_,_,_,_⟩) (v:=?_) rfl (Or.inl ⟨by rfl,by (intro w hSw; (try dsimp only at hSw); go_simp; try with_reducible rfl)⟩) hj9 ?_
 try simp only [Act.put,pS,p0,p1]
 refine tkH (i:=7) (oi:=⟨some 16,_,_,_,_,_⟩) (v:=?_) rfl (Or.inl ⟨by rfl,by (intro w hSw; (try dsimp only at hSw); go_simp; try with_reducible rfl)⟩) hj9 ?_
 try simp only [Act.put,pS,p0,p1]
 refine tkH (i:=8) (oi:=⟨some 17,_,_,_,_,_⟩) (v:=?_) rfl (Or.inl ⟨by rfl,by (intro w hSw; (try dsimp only at hSw); go_simp; try with_reducible rfl)⟩) hj9 ?_
 try simp only [Act.put,pS,p0,p1]
 refine tkH (i:=9) (oi:=⟨some 18,_,_,_,_,_⟩) (v:=?_) rfl (Or.inl ⟨by rfl,by (intro w hSw; (try dsimp only at hSw); go_simp; try with_reducible rfl)⟩) hj9 ?_
 try simp only [Act.put,pS,p0,p1]
 refine tkH (i:=10) (oi:=⟨some 19,_,_,_,_,_⟩) (v:=?_) rfl (Or.inl ⟨by rfl,by (intro w hSw; (try dsimp only at hSw); go_simp; try with_reducible rfl)⟩) hj9 ?_
 try simp only [Act.put,pS,p0,p1]
 refine tkH (i:=12) (oi:=⟨some 21,_,_,_,_,_⟩) (v:=?_) rfl (Or.inl ⟨by rfl,by (intro w hSw; (try dsimp only at hSw); go_simp; try with_reducible rfl)⟩) hj9 ?_
 try simp only [Act.put,pS,p0,p1]
 refine tkH (i:=13) (oi:=⟨some 22,_,_,_,_,_⟩) (v:=?_) rfl (Or.inl ⟨by rfl,by (intro w hSw; (try dsimp only at hSw); go_simp; try with_reducible rfl)⟩) hj9 ?_
 try simp only [Act.put,pS,p0,p1]
 refine tkH (i:=14) (oi:=⟨some 23,_,_,_,_,_⟩) (v:=?_) rfl (Or.inl ⟨by rfl,by (intro w hSw; (try dsimp only at hSw); go_simp; try with_reducible rfl)⟩) hj9 ?_
 try simp only [Act.put,pS,p0,p1]
 refine tkH (i:=15) (oi:=⟨some 24,_,_,_,_,_⟩) (v:=?_) rfl (Or.inl ⟨by rfl,by (intro w hSw; (try dsimp only at hSw); go_simp; try with_reducible rfl)⟩) hj9 ?_
 try simp only [Act.put,pS,p0,p1]
 refine tkH (i:=16) (oi:=⟨some 25,_,_,_,_,_⟩) (v:=?_) rfl (Or.inl ⟨by rfl,by (intro w hSw; (try dsimp only at hSw); go_simp; try with_reducible rfl)⟩) hj9 ?_
 try simp only [Act.put,pS,p0,p1]
 refine tkH (i:=17) (oi:=⟨some 26,_,_,_,_,_⟩) (v:=?_) rfl (Or.inl ⟨by rfl,by (intro w hSw; (try dsimp only at hSw); go_simp; try with_reducible rfl)⟩) hj9 ?_
 try simp only [Act.put,pS,p0,p1]
 refine wpAnyH_ready (rs:=[4]) (by kernel_rfl) (by simp) ?_
 refine AllReadyH.cons (o:=⟨some 13,_,_,_,_,_⟩) rfl (fun K hK => ?_) ?_
 ·go_simp
  refine (number_any R _ _ _ _ _ _ _ HR0.out HV0_0.out).mono ?_
  rintro ze wc1 ⟨rfl,hrn⟩
  try go_simp
  have HR1:=Lib.hid hrn.1
  have HG1:=Lib.hid (chg_then HG0.out hrn.2)
  have HY1:=Lib.hid (show Bk wc1 (w.heap.size+1) _ _ from (hrn.2.2.2.2.2 _ (lt_of_heap HY0.out) HNE.out (by simp)).trans HY0.out)
  have HS1:=Lib.hid (chg_then HS0.out hrn.2)
  have HV0_1:=Lib.hid (chg_vin hrn.2 HV0_0.out)
  have HV1_1:=Lib.hid (chg_vin hrn.2 HV1_0.out)
  have HV2_1:=Lib.hid (chg_vin hrn.2 HV2_0.out)
  refine hK.out _ _ (mkS.out _ HS1.out) (fun hj8 => ?_)
  clear hK K hj9
  have hj9:=hj8
  clear hj8
  clear hrn
  try simp only [Act.put,pS,p0,p1]
  refine wpAnyH_ready (rs:=[11]) (by kernel_rfl) (by simp) ?_
  refine AllReadyH.cons (o:=⟨some 20,_,_,_,_,_⟩) rfl (fun K hK => ?_) ?_
  ·go_simp
   refine (rd_liss R _ _ _ _ _ _ _ HR1.out HV1_1.out (fun b' o cap g off wz h1 h2 h3 h4 => rl_lis R b' _ o cap g off h1 wz h2 h3 h4 (fun t b c c0 c1 c2 c3 k1 k2 => rd_ls R b t c0 c1 c2 c3 c k1 k2))).mono ?_
   rintro ze wc2 ⟨oW,cW,rfl,hrow,hrn⟩
   try go_simp
   have HR2:=Lib.hid hrn.1
   have HG2:=Lib.hid (chg_then HG1.out hrn.2)
   have HY2:=Lib.hid (show Bk wc2 (w.heap.size+1) _ _ from (hrn.2.2.2.2.2 _ (lt_of_heap HY1.out) HNE.out (by simp)).trans HY1.out)
   have HS2:=Lib.hid (chg_then HS1.out hrn.2)
   have HV0_2:=Lib.hid (chg_vin hrn.2 HV0_1.out)
   have HV1_2:=Lib.hid (chg_vin hrn.2 HV1_1.out)
   have HV2_2:=Lib.hid (chg_vin hrn.2 HV2_1.out)
   have HW2:=Lib.hid (hrow.mono (B':=w.heap.size) HG1.out.2.2.2.1)
   clear hrow
   refine hK.out _ _ (mkS.out _ HS2.out) (fun hj8 => ?_)
   clear hK K hj9
   have hj9:=hj8
   clear hj8
   clear hrn
   try simp only [Act.put,pS,p0,p1]
   refine wpAnyH_ready (rs:=[18]) (by kernel_rfl) (by simp) ?_
   refine AllReadyH.cons (o:=⟨some 27,_,_,_,_,_⟩) rfl (fun K hK => ?_) ?_
   ·go_simp
    refine (rd_clus R _ _ _ _ _ _ _ HR2.out HV2_2.out (fun b' o cap g off wz h1 h2 h3 h4 => rl_clu R b' _ o cap g off h1 wz h2 h3 h4 (fun t b c c0 c1 c2 c3 k1 k2 => rd_cl R b t c0 c1 c2 c3 c k1 k2))).mono ?_
    rintro ze wc3 ⟨oX,cX,rfl,hrow,hrn⟩
    try go_simp
    have HR3:=Lib.hid hrn.1
    have HG3:=Lib.hid (chg_then HG2.out hrn.2)
    have HY3:=Lib.hid (show Bk wc3 (w.heap.size+1) _ _ from (hrn.2.2.2.2.2 _ (lt_of_heap HY2.out) HNE.out (by simp)).trans HY2.out)
    have HS3:=Lib.hid (chg_then HS2.out hrn.2)
    have HV0_3:=Lib.hid (chg_vin hrn.2 HV0_2.out)
    have HV1_3:=Lib.hid (chg_vin hrn.2 HV1_2.out)
    have HV2_3:=Lib.hid (chg_vin hrn.2 HV2_2.out)
    have HW3:=Lib.hid (HW2.out.chg hrn.2 HR2.out)
    have HX3:=Lib.hid (hrow.mono (B':=w.heap.size) HG2.out.2.2.2.1)
    clear hrow
    refine hK.out _ _ (mkS.out _ HS3.out) (fun hj8 => ?_)
    clear hK K hj9
    have hj9:=hj8
    clear hj8
    clear hrn
    try simp only [Act.put,pS,p0,p1]
    refine tkH (i:=19) (oi:=⟨some 28,_,_,_,_,_⟩) (v:=?_) rfl (Or.inl ⟨by rfl,by (intro w hSw; (try dsimp only at hSw); go_simp; try with_reducible rfl)⟩) hj9 ?_
    try simp only [Act.put,pS,p0,p1]
    refine wpAnyH_ready (rs:=[20]) (by kernel_rfl) (by simp) ?_
    refine AllReadyH.cons (o:=⟨none,_,_,_,_,_⟩) rfl (fun K hK => ?_) ?_
    ·have y0:=(cell_of_row _ _ 0 _ _ _ HY3.out).trans rfl
     have z0:=frozen_of_row _ _ 0 _ _ HY3.out
     have y1:=(cell_of_row _ _ 1 _ _ _ HY3.out).trans rfl
     have z1:=frozen_of_row _ _ 1 _ _ HY3.out
     have y2:=(cell_of_row _ _ 2 _ _ _ HY3.out).trans rfl
     have z2:=frozen_of_row _ _ 2 _ _ HY3.out
     go_simp
     have hch : (((wc3.setCell ⟨w.heap.size+1,0,none⟩ (.int .u64 (numR (fld 3 0 t) : Int))).setCell ⟨w.heap.size+1,1,none⟩ (.slice oW (rows (fld 3 1 t)).length cW)).setCell ⟨w.heap.size+1,2,none⟩ (.slice oX (rows (fld 3 2 t)).length cX))=sets wc3 (w.heap.size+1) 0 [.int .u64 (numR (fld 3 0 t) : Int),.slice oW (rows (fld 3 1 t)).length cW,.slice oX (rows (fld 3 2 t)).length cX]:=rfl
     have HY4 : Hid (Bk (sets wc3 (w.heap.size+1) 0 [.int .u64 (numR (fld 3 0 t) : Int),.slice oW (rows (fld 3 1 t)).length cW,.slice oX (rows (fld 3 2 t)).length cX]) (w.heap.size+1) #[.int .u64 (numR (fld 3 0 t) : Int),.slice oW (rows (fld 3 1 t)).length cW,.slice oX (rows (fld 3 2 t)).length cX] 26):=Lib.hid (sets_bk [.int .u64 (numR (fld 3 0 t) : Int),.slice oW (rows (fld 3 1 t)).length cW,.slice oX (rows (fld 3 2 t)).length cX] [.int .u64 0,.slice none 0 0,.slice none 0 0] [] rfl HY3.out)
     have HG4:=Lib.hid (chg_sets HG3.out (show w.heap.size≤w.heap.size+1 by omega) [.int .u64 (numR (fld 3 0 t) : Int),.slice oW (rows (fld 3 1 t)).length cW,.slice oX (rows (fld 3 2 t)).length cX] 0)
     have HR4:=Lib.hid (show Bk (sets wc3 (w.heap.size+1) 0 [.int .u64 (numR (fld 3 0 t) : Int),.slice oW (rows (fld 3 1 t)).length cW,.slice oX (rows (fld 3 2 t)).length cX]) R _ 90 from (sets_other (w.heap.size+1) R (Ne.symm HNE.out) [.int .u64 (numR (fld 3 0 t) : Int),.slice oW (rows (fld 3 1 t)).length cW,.slice oX (rows (fld 3 2 t)).length cX] 0 wc3).trans HR3.out)
     have HW4:=Lib.hid (HW3.out.sets HY3.out (by decide) (by decide) [.int .u64 (numR (fld 3 0 t) : Int),.slice oW (rows (fld 3 1 t)).length cW,.slice oX (rows (fld 3 2 t)).length cX] 0)
     have HX4:=Lib.hid (HX3.out.sets HY3.out (by decide) (by decide) [.int .u64 (numR (fld 3 0 t) : Int),.slice oW (rows (fld 3 1 t)).length cW,.slice oX (rows (fld 3 2 t)).length cX] 0)
     refine hK.out _ _ (mkS2.out _ HS3.out [.int .u64 (numR (fld 3 0 t) : Int),.slice oW (rows (fld 3 1 t)).length cW,.slice oX (rows (fld 3 2 t)).length cX] 0) (fun hj8 => ?_)
     clear hK K hj9
     have hj9:=hj8
     clear hj8
     clear y0 z0 y1 z1 y2 z2
     try simp only [Act.put,pS,p0,p1]
     rw [hch]
     clear hch
     generalize sets wc3 (w.heap.size+1) 0 [.int .u64 (numR (fld 3 0 t) : Int),.slice oW (rows (fld 3 1 t)).length cW,.slice oX (rows (fld 3 2 t)).length cX]=wc4 at *
     refine wpAnyH_done (by kernel_rfl) ?_ _
     simp only [Exit.then]
     apply_assumption
     have y0:=(cell_of_row _ _ 0 _ _ _ HY4.out).trans rfl
     have y1:=(cell_of_row _ _ 1 _ _ _ HY4.out).trans rfl
     have y2:=(cell_of_row _ _ 2 _ _ _ HY4.out).trans rfl
     try go_wp2
     refine bodyPost_ret (v:=.agg #[.int .u64 (numR (fld 3 0 t) : Int),.slice oW (rows (fld 3 1 t)).length cW,.slice oX (rows (fld 3 2 t)).length cX]) (by simp [results,Tryz.results30,go_sem, *]) rfl ?_
     refine ⟨oW,cW,oX,cX,by unfold rdC; simp only [List.length_map],by unfold rdC; simp only [List.length_map]; exact HW4.out,by unfold rdC; simp only [List.length_map]; exact HX4.out,?_,HG4.out⟩
     have h:=HR4.out
     rw [← HB1.out] at h
     simp only [wrC,wrF,wrN,Bool.or_assoc] at h ⊢
     exact h
    ·exact AllReadyH.nil
   ·exact AllReadyH.nil
  ·exact AllReadyH.nil
 ·exact AllReadyH.nil
end Go.Proofs.YtjfjliobencppaaGreatDoor.Cf

set_option maxRecDepth 100000
set_option maxHeartbeats 4000000
namespace Go.Proofs.YtjfjliobencppaaGreatDoor.Cf
open Go.RowKit
theorem okT_vin : ∀ (t : Tr) {w : World} {P : Nat→Prop} {c0 c1 c2 c3 : Value},VInP w P t c0 c1 c2 c3→okT t:=by
 refine Tr.ind ?_
 intro k n s l ih w P c0 c1 c2 c3 h
 unfold VInP at h
 obtain ⟨_,_,hn,_,hz,o,cap,b,off,_,ho,hl⟩:=h
 unfold okT
 refine ⟨hn,hz.1,hz.2,okL_of fun t ht => ?_⟩
 obtain ⟨i,hi,rfl⟩:=List.getElem_of_mem ht
 obtain ⟨d0,d1,d2,d3,_,_,_,_,hv⟩:=hl.at i hi
 exact ih _ (List.getElem_mem hi) hv
theorem okT_zt : okT Zt:=by unfold Zt okT; exact ⟨by omega,by simp [ByteArray.size],by simp,by unfold okL; trivial⟩
theorem okT_of (k : Int) {t : Tr} (h : okT t) : okT (ofT k t):=by
 unfold ofT
 split
 ·exact h
 ·exact okT_zt
theorem okT_tl {t : Tr} (h : okT t) : (Tr.tl t).length≤1000000∧∀ x ∈ Tr.tl t,okT x:=by
 obtain ⟨k,n,s,l⟩:=t
 unfold okT at h
 exact ⟨h.2.2.1,okL_mem l h.2.2.2⟩
theorem ok_rows {t : Tr} (h : okT t) : (rows t).length≤1000000∧∀ x ∈ rows t,okT x:=okT_tl (okT_of 3 h)
theorem ok_fld (n i : Nat) {t : Tr} (h : okT t) : okT (fld n i t):=by
 unfold fld
 rw [List.getD_eq_getElem?_getD]
 cases he : (fldT n t)[i]? with
 | none => exact okT_zt
 | some x =>
  have hm:=List.mem_of_getElem? he
  show okT x
  unfold fldT at hm
  split at hm
  ·exact (okT_tl (okT_of 3 h)).2 x hm
  ·rw [(List.mem_replicate.1 hm).2]
   exact okT_zt
theorem ok_num' {t : Tr} (h : okT t) : numR t≤18446744073709551615:=by
 unfold numR
 have h2:=okT_of 1 h
 generalize ofT 1 t=u at h2
 obtain ⟨k,n,s,l⟩:=u
 unfold okT at h2
 exact h2.1
theorem ok_txt' {t : Tr} (h : okT t) : (txtR t).size≤1000000000:=by
 unfold txtR
 have h2:=okT_of 2 h
 generalize ofT 2 t=u at h2
 obtain ⟨k,n,s,l⟩:=u
 unfold okT at h2
 exact h2.2.1
theorem ok_pl' (t : Tr) : (plR t).ok:=by
 unfold plR
 split
 ·have h0:=Sp.byt_lt (txtR t) 0
  have h1:=Sp.byt_lt (txtR t) 1
  have h2:=Sp.byt_lt (txtR t) 2
  have h3:=Sp.byt_lt (txtR t) 3
  have h4:=Sp.byt_lt (txtR t) 4
  have h5:=Sp.byt_lt (txtR t) 5
  unfold Pl.ok Sp.portB
  simp only
  omega
 ·unfold Pl.ok
  simp only
  omega
theorem ok_rt {t : Tr} (h : okT t) : (rdR t).ok∧(rdR t).fit:=by
 have h0:=ok_txt' (ok_fld 4 0 h)
 have h1:=ok_txt' (ok_fld 4 1 h)
 have h2:=ok_txt' (ok_fld 4 2 h)
 have h3:=ok_num' (ok_fld 4 3 h)
 unfold Rt.ok Rt.fit rdR maxLen
 simp only
 omega
theorem ok_ep (t : Tr) : (rdE t).ok:=by
 have h:=ok_pl' (fld 2 0 t)
 have h2 : wgtR (fld 2 1 t)≤2147483647:=by
  unfold wgtR
  split <;> omega
 refine ⟨h,?_,?_⟩
 ·show (-9223372036854775808 : Int)≤(wgtR (fld 2 1 t) : Int); omega
 ·show (wgtR (fld 2 1 t) : Int)≤9223372036854775807; omega
theorem ok_lsr {t : Tr} (h : okT t) : ((rdLs t).name.size≤maxLen∧(rdLs t).p.ok∧∀ r ∈ (rdLs t).r,r.ok)∧(rdLs t).fit:=by
 have h0:=ok_txt' (ok_fld 3 0 h)
 have h2:=ok_rows (ok_fld 3 2 h)
 refine ⟨⟨?_,ok_pl' _,fun r hr => ?_⟩,h0,?_,fun r hr => ?_⟩
 ·show (txtR (fld 3 0 t)).size≤maxLen
  unfold maxLen; omega
 ·obtain ⟨x,hx,rfl⟩:=List.mem_map.1 (show r ∈ (rows (fld 3 2 t)).map rdR from hr)
  exact (ok_rt (h2.2 x hx)).1
 ·show ((rows (fld 3 2 t)).map rdR).length≤1000000
  rw [List.length_map]; exact h2.1
 ·obtain ⟨x,hx,rfl⟩:=List.mem_map.1 (show r ∈ (rows (fld 3 2 t)).map rdR from hr)
  exact (ok_rt (h2.2 x hx)).2
theorem ok_clr {t : Tr} (h : okT t) : ((rdCl t).name.size≤maxLen∧∀ r ∈ (rdCl t).e,r.ok)∧(rdCl t).name.size≤1000000000∧(rdCl t).e.length≤1000000:=by
 have h0:=ok_txt' (ok_fld 2 0 h)
 have h2:=ok_rows (ok_fld 2 1 h)
 refine ⟨⟨?_,fun r hr => ?_⟩,h0,?_⟩
 ·show (txtR (fld 2 0 t)).size≤maxLen
  unfold maxLen; omega
 ·obtain ⟨x,hx,rfl⟩:=List.mem_map.1 (show r ∈ (rows (fld 2 1 t)).map rdE from hr)
  exact ok_ep x
 ·show ((rows (fld 2 1 t)).map rdE).length≤1000000
  rw [List.length_map]; exact h2.1
theorem rdC_ok {t : Tr} (h : okT t) : (rdC t).v≤18446744073709551615∧(∀ l ∈ (rdC t).l,l.name.size≤maxLen∧l.p.ok∧∀ r ∈ l.r,r.ok)∧(∀ l ∈ (rdC t).c,l.name.size≤maxLen∧∀ r ∈ l.e,r.ok)∧(rdC t).sized:=by
 have h1:=ok_rows (ok_fld 3 1 h)
 have h2:=ok_rows (ok_fld 3 2 h)
 refine ⟨ok_num' (ok_fld 3 0 h),fun l hl => ?_,fun l hl => ?_,?_,?_,fun l hl => ?_,fun l hl => ?_⟩
 ·obtain ⟨x,hx,rfl⟩:=List.mem_map.1 (show l ∈ (rows (fld 3 1 t)).map rdLs from hl)
  exact (ok_lsr (h1.2 x hx)).1
 ·obtain ⟨x,hx,rfl⟩:=List.mem_map.1 (show l ∈ (rows (fld 3 2 t)).map rdCl from hl)
  exact (ok_clr (h2.2 x hx)).1
 ·show ((rows (fld 3 1 t)).map rdLs).length≤1000000
  rw [List.length_map]; exact h1.1
 ·show ((rows (fld 3 2 t)).map rdCl).length≤1000000
  rw [List.length_map]; exact h2.1
 ·obtain ⟨x,hx,rfl⟩:=List.mem_map.1 (show l ∈ (rows (fld 3 1 t)).map rdLs from hl)
  exact (ok_lsr (h1.2 x hx)).2
 ·obtain ⟨x,hx,rfl⟩:=List.mem_map.1 (show l ∈ (rows (fld 3 2 t)).map rdCl from hl)
  exact (ok_clr (h2.2 x hx)).2
theorem below_chg {n R : Nat} {w W W' : World} (h : Below n w W) (hn : n≤R) (hs : n≤W.heap.size) (hc : Chg R none W W') : Below n w W' :=
 ⟨hc.1.trans h.os,hc.2.1.trans h.tape,hc.2.2.1.trans h.output,Nat.le_trans h.size hc.2.2.2.1,fun k hk => (hc.2.2.2.2 k (by omega) (by omega) (by simp)).trans (h.block k hk)⟩
def psE (s : ByteArray) : Nat:=if getC s≠0 then getC s else if wrC (getT s) then 4 else if (rdC (getT s)).many then 6 else 0
def psC (s : ByteArray) : Co:=if psE s=0 then rdC (getT s) else ⟨0,[],[]⟩
theorem CoIn.zero (w : World) : CoIn w (.int .u64 0) (.slice none 0 0) (.slice none 0 0) ⟨0,[],[]⟩ :=
 ⟨rfl,Nat.zero_le _,⟨none,0,0,0,rfl,fun h => absurd h (by simp),fun i h => absurd h (by simp)⟩,⟨none,0,0,0,rfl,fun h => absurd h (by simp),fun i h => absurd h (by simp)⟩⟩
theorem parse_any (s : ByteArray) (hs : s.size≤1000000000) (w : World) :
  Calls Tryz.prog 12 #[.string s] w fun e w' => (∃ c0 c1 c2,e=.returned (.tuple #[.agg #[c0,c1,c2],.int .i64 (psE s : Int)])∧CoIn w' c0 c1 c2 (psC s))∧Below w.heap.size w w':=by
 have HB0:=Lib.hid (alloc_below w (.cells #[.int .u64 0,.slice none 0 0,.slice none 0 0] 26))
 have HX0:=Lib.hid (alloc_at (w:=w) (g:=w.heap.size) #[.int .u64 0,.slice none 0 0,.slice none 0 0] 26 rfl)
 have K29:=Lib.hid (fun w => cget_any s hs w)
 have HE : Hid (psE s=if getC s≠0 then getC s else if wrC (getT s) then 4 else if (rdC (getT s)).many then 6 else 0):=Lib.hid rfl
 have HC : Hid (psC s=if psE s=0 then rdC (getT s) else ⟨0,[],[]⟩):=Lib.hid rfl
 generalize psC s=C at *
 generalize psE s=E at *
 clear hs
 go_enter Tryz.func12,Tryz.ntmps12
 go_wp2_with fail
 generalize w.alloc (.cells #[.int .u64 0,.slice none 0 0,.slice none 0 0] 26)=w0 at *
 refine (K29.out _).mono ?_
 rintro e w1 ⟨d0,d1,d2,d3,rfl,hv,hb,h0⟩
 unfold cgV
 have HX1:=Lib.hid (HX0.out.later hb)
 have HB1:=Lib.hid (HB0.out.trans (hb.mono HB0.out.size))
 have HOK:=Lib.hid (okT_vin _ hv)
 have HV:=Lib.hid hv
 obtain ⟨k,n,s',o,len,cap,rfl,rfl,rfl,rfl⟩:=hv.cells
 clear hv hb h0
 generalize getT s=t at *
 generalize getC s=g at *
 by_cases hg : g=0
 ·subst hg
  have HW2:=Lib.hid (show Below w1.heap.size w1 ((w1.alloc (.cells #[.int .i64 k,.int .u64 (n : Int),.string s',.slice o len cap] 69)).alloc (.cells #[.bool false] 90)) from (alloc_below _ _).trans ((alloc_below _ _).mono (by simp)))
  have HX2:=Lib.hid (HX1.out.later HW2.out)
  have HB2:=Lib.hid (HB1.out.trans (HW2.out.mono HB1.out.size))
  have HR2:=Lib.hid (alloc_at (w:=w1.alloc (.cells #[.int .i64 k,.int .u64 (n : Int),.string s',.slice o len cap] 69)) (g:=w1.heap.size+1) #[.bool false] 90 (by simp))
  have HV2 : Hid (VInP ((w1.alloc (.cells #[.int .i64 k,.int .u64 (n : Int),.string s',.slice o len cap] 69)).alloc (.cells #[.bool false] 90)) (fun b => b≠w1.heap.size+1) t (.int .i64 k) (.int .u64 (n : Int)) (.string s') (.slice o len cap)):=Lib.hid (VInP.keep HW2.out.size (fun b hb' _ => ⟨HW2.out.block b hb',by omega⟩) _ HV.out)
  have K30:=Lib.hid (rd_co (w1.heap.size+1) false t _ _ _ _ _ HR2.out HV2.out)
  have HZ2 : Hid (w.heap.size≤w1.heap.size):=Lib.hid (by have h1:=HB1.out.size; have h2:=lt_of_heap HX0.out; omega)
  go_wp2_with fail
  generalize ((w1.alloc (.cells #[.int .i64 k,.int .u64 (n : Int),.string s',.slice o len cap] 69)).alloc (.cells #[.bool false] 90))=w2 at *
  refine (K30.out).mono ?_
  rintro e w3 ⟨oV,cV,oK,cK,rfl,hL,hK,hr⟩
  have hwr : (false || wrC t)=wrC t:=rfl
  rw [hwr] at hr
  have HL3:=Lib.hid hL
  have HK3:=Lib.hid hK
  have HR3:=Lib.hid hr.1
  have HX3:=Lib.hid (show Bk w3 w.heap.size #[.int .u64 0,.slice none 0 0,.slice none 0 0] 26 from (hr.2.2.2.2.2 _ (lt_of_heap HX2.out) (by have:=HZ2.out; omega) (by simp)).trans HX2.out)
  have HB3:=Lib.hid (below_chg HB2.out (by have:=HZ2.out; omega) (Nat.le_trans HZ2.out (by have:=HB2.out.size; have h2:=lt_of_heap HR2.out; omega)) hr.2)
  clear hL hK hr hwr K30 HX2 HB2 HR2 HV2 HV HW2 HX1 HB1 HX0 HB0 K29
  obtain ⟨X,hX⟩ : ∃ X,wrC t=X:=⟨_,rfl⟩
  have HWR:=Lib.hid hX
  rw [hX] at HR3
  clear hX
  have HB4:=Lib.hid (HB3.out.trans ((alloc_below w3 (.cells #[.int .u64 ((rdC t).v : Int),.slice oV (rdC t).l.length cV,.slice oK (rdC t).c.length cK] 26)).mono HB3.out.size))
  have hbb:=alloc_below w3 (.cells #[.int .u64 ((rdC t).v : Int),.slice oV (rdC t).l.length cV,.slice oK (rdC t).c.length cK] 26)
  have HX4:=Lib.hid (HX3.out.later hbb)
  have HL4:=Lib.hid (HL3.out.later hbb)
  have HK4:=Lib.hid (HK3.out.later hbb)
  have HR4:=Lib.hid (HR3.out.later hbb)
  have HN4:=Lib.hid (alloc_at (w:=w3) (g:=w3.heap.size) #[.int .u64 ((rdC t).v : Int),.slice oV (rdC t).l.length cV,.slice oK (rdC t).c.length cK] 26 rfl)
  have HOO:=Lib.hid (rdC_ok HOK.out)
  have HM : Hid (∀ wz,Below w3.heap.size w3 wz→LcR wz w2.heap.size (.slice oV (rdC t).l.length cV) (rdC t).l→KcR wz w2.heap.size (.slice oK (rdC t).c.length cK) (rdC t).c→Calls Tryz.prog 22 #[.agg #[.int .u64 ((rdC t).v : Int),.slice oV (rdC t).l.length cV,.slice oK (rdC t).c.length cK]] wz (TrP (rdC t).many wz)):=Lib.hid (fun wz _ h1 h2 => many_any ⟨rfl,HOO.out.1,h1.rows HOO.out.2.1,h2.rows HOO.out.2.2.1⟩ HOO.out.2.2.2.short)
  clear hbb HL3 HK3 HR3 HX3 HB3
  cases X with
  | true =>
   have HEE : Hid (E=4):=Lib.hid (by rw [HE.out,if_neg (by simp),if_pos HWR.out])
   have HCC : Hid (C=⟨0,[],[]⟩):=Lib.hid (by rw [HC.out,if_neg (by rw [HEE.out]; simp)])
   have hEE:=HEE.out
   subst hEE
   go_upto_region 6 with fail
   generalize w3.alloc (.cells #[.int .u64 ((rdC t).v : Int),.slice oV (rdC t).l.length cV,.slice oK (rdC t).c.length cK] 26)=w4 at *
   obtain ⟨r0,r1⟩:=bk1 HR4.out
   have y0:=(cell_of_row _ _ 0 _ _ _ HX4.out).trans rfl
   have y1:=(cell_of_row _ _ 1 _ _ _ HX4.out).trans rfl
   have y2:=(cell_of_row _ _ 2 _ _ _ HX4.out).trans rfl
   have z0:=frozen_of_row _ _ 0 _ _ HX4.out
   have z1:=frozen_of_row _ _ 1 _ _ HX4.out
   have z2:=frozen_of_row _ _ 2 _ _ HX4.out
   go_wp2
   have hch : (((w4.setCell ⟨w.heap.size,0,none⟩ (.int .u64 0)).setCell ⟨w.heap.size,1,none⟩ (.slice none 0 0)).setCell ⟨w.heap.size,2,none⟩ (.slice none 0 0))=sets w4 w.heap.size 0 [.int .u64 0,.slice none 0 0,.slice none 0 0]:=rfl
   rw [hch]
   clear hch
   have HYf : Hid (Bk (sets w4 w.heap.size 0 [.int .u64 0,.slice none 0 0,.slice none 0 0]) w.heap.size #[.int .u64 0,.slice none 0 0,.slice none 0 0] 26):=Lib.hid (sets_bk [.int .u64 0,.slice none 0 0,.slice none 0 0] [.int .u64 0,.slice none 0 0,.slice none 0 0] [] rfl HX4.out)
   have HBf:=Lib.hid (sets_below [.int .u64 0,.slice none 0 0,.slice none 0 0] 0 w4 HB4.out (Nat.le_refl w.heap.size))
   generalize sets w4 w.heap.size 0 [.int .u64 0,.slice none 0 0,.slice none 0 0]=wf at *
   clear y0 y1 y2 z0 z1 z2
   have y0:=(cell_of_row _ _ 0 _ _ _ HYf.out).trans rfl
   have y1:=(cell_of_row _ _ 1 _ _ _ HYf.out).trans rfl
   have y2:=(cell_of_row _ _ 2 _ _ _ HYf.out).trans rfl
   refine bodyPost_ret (v:=.tuple #[.agg #[.int .u64 0,.slice none 0 0,.slice none 0 0],.int .i64 4]) (by simp [results,Tryz.results12,go_sem, *]) rfl ?_
   exact ⟨⟨_,_,_,rfl,by rw [HCC.out]; exact CoIn.zero _⟩,HBf.out⟩
  | false =>
   have HAL:=Lib.hid (alloc_below w3 (.cells #[.int .u64 ((rdC t).v : Int),.slice oV (rdC t).l.length cV,.slice oK (rdC t).c.length cK] 26))
   go_upto_region 6 with fail
   generalize w3.alloc (.cells #[.int .u64 ((rdC t).v : Int),.slice oV (rdC t).l.length cV,.slice oK (rdC t).c.length cK] 26)=w4 at *
   obtain ⟨r0,r1⟩:=bk1 HR4.out
   have HBx4:=Lib.hid (show Below w3.heap.size w3 w4 from HAL.out)
   obtain ⟨n0,n1,n2⟩:=bk3 HN4.out
   go_wp2_with fail
   refine (HM.out _ HBx4.out HL4.out HK4.out).mono ?_
   rintro e w5 ⟨rfl,hb⟩
   have HX5:=Lib.hid (HX4.out.later hb)
   have HB5:=Lib.hid (HB4.out.trans (hb.mono HB4.out.size))
   have HL5:=Lib.hid (HL4.out.later hb)
   have HK5:=Lib.hid (HK4.out.later hb)
   have HN5:=Lib.hid (HN4.out.later hb)
   clear hb r0 r1 n0 n1 n2
   obtain ⟨Y,hY⟩ : ∃ Y,(rdC t).many=Y:=⟨_,rfl⟩
   have HMM:=Lib.hid hY
   rw [hY]
   clear hY
   cases Y with
   | true =>
    have HEE : Hid (E=6):=Lib.hid (by rw [HE.out,if_neg (by simp),if_neg (by rw [HWR.out]; simp),if_pos HMM.out])
    have HCC : Hid (C=⟨0,[],[]⟩):=Lib.hid (by rw [HC.out,if_neg (by rw [HEE.out]; simp)])
    have hEE:=HEE.out
    subst hEE
    have y0:=(cell_of_row _ _ 0 _ _ _ HX5.out).trans rfl
    have y1:=(cell_of_row _ _ 1 _ _ _ HX5.out).trans rfl
    have y2:=(cell_of_row _ _ 2 _ _ _ HX5.out).trans rfl
    have z0:=frozen_of_row _ _ 0 _ _ HX5.out
    have z1:=frozen_of_row _ _ 1 _ _ HX5.out
    have z2:=frozen_of_row _ _ 2 _ _ HX5.out
    go_wp2
    have hch : (((w5.setCell ⟨w.heap.size,0,none⟩ (.int .u64 0)).setCell ⟨w.heap.size,1,none⟩ (.slice none 0 0)).setCell ⟨w.heap.size,2,none⟩ (.slice none 0 0))=sets w5 w.heap.size 0 [.int .u64 0,.slice none 0 0,.slice none 0 0]:=rfl
    rw [hch]
    clear hch
    have HYf : Hid (Bk (sets w5 w.heap.size 0 [.int .u64 0,.slice none 0 0,.slice none 0 0]) w.heap.size #[.int .u64 0,.slice none 0 0,.slice none 0 0] 26):=Lib.hid (sets_bk [.int .u64 0,.slice none 0 0,.slice none 0 0] [.int .u64 0,.slice none 0 0,.slice none 0 0] [] rfl HX5.out)
    have HBf:=Lib.hid (sets_below [.int .u64 0,.slice none 0 0,.slice none 0 0] 0 w5 HB5.out (Nat.le_refl w.heap.size))
    generalize sets w5 w.heap.size 0 [.int .u64 0,.slice none 0 0,.slice none 0 0]=wf at *
    clear y0 y1 y2 z0 z1 z2
    have y0:=(cell_of_row _ _ 0 _ _ _ HYf.out).trans rfl
    have y1:=(cell_of_row _ _ 1 _ _ _ HYf.out).trans rfl
    have y2:=(cell_of_row _ _ 2 _ _ _ HYf.out).trans rfl
    refine bodyPost_ret (v:=.tuple #[.agg #[.int .u64 0,.slice none 0 0,.slice none 0 0],.int .i64 6]) (by simp [results,Tryz.results12,go_sem, *]) rfl ?_
    exact ⟨⟨_,_,_,rfl,by rw [HCC.out]; exact CoIn.zero _⟩,HBf.out⟩
   | false =>
    have HEE : Hid (E=0):=Lib.hid (by rw [HE.out,if_neg (by simp),if_neg (by rw [HWR.out]; simp),if_neg (by rw [HMM.out]; simp)])
    have HCC : Hid (C=rdC t):=Lib.hid (by rw [HC.out,if_pos HEE.out])
    have hEE:=HEE.out
    subst hEE
    obtain ⟨n0,n1,n2⟩:=bk3 HN5.out
    have y0:=(cell_of_row _ _ 0 _ _ _ HX5.out).trans rfl
    have y1:=(cell_of_row _ _ 1 _ _ _ HX5.out).trans rfl
    have y2:=(cell_of_row _ _ 2 _ _ _ HX5.out).trans rfl
    have z0:=frozen_of_row _ _ 0 _ _ HX5.out
    have z1:=frozen_of_row _ _ 1 _ _ HX5.out
    have z2:=frozen_of_row _ _ 2 _ _ HX5.out
    go_wp2
    have hch : (((w5.setCell ⟨w.heap.size,0,none⟩ (.int .u64 ((rdC t).v : Int))).setCell ⟨w.heap.size,1,none⟩ (.slice oV (rdC t).l.length cV)).setCell ⟨w.heap.size,2,none⟩ (.slice oK (rdC t).c.length cK))=sets w5 w.heap.size 0 [.int .u64 ((rdC t).v : Int),.slice oV (rdC t).l.length cV,.slice oK (rdC t).c.length cK]:=rfl
    rw [hch]
    clear hch
    have HYf : Hid (Bk (sets w5 w.heap.size 0 [.int .u64 ((rdC t).v : Int),.slice oV (rdC t).l.length cV,.slice oK (rdC t).c.length cK]) w.heap.size #[.int .u64 ((rdC t).v : Int),.slice oV (rdC t).l.length cV,.slice oK (rdC t).c.length cK] 26):=Lib.hid (sets_bk [.int .u64 ((rdC t).v : Int),.slice oV (rdC t).l.length cV,.slice oK (rdC t).c.length cK] [.int .u64 0,.slice none 0 0,.slice none 0 0] [] rfl HX5.out)
    have HBf:=Lib.hid (sets_below [.int .u64 ((rdC t).v : Int),.slice oV (rdC t).l.length cV,.slice oK (rdC t).c.length cK] 0 w5 HB5.out (Nat.le_refl w.heap.size))
    have HLf:=Lib.hid (HL5.out.sets HX5.out (by decide) (by decide) [.int .u64 ((rdC t).v : Int),.slice oV (rdC t).l.length cV,.slice oK (rdC t).c.length cK] 0)
    have HKf:=Lib.hid (HK5.out.sets HX5.out (by decide) (by decide) [.int .u64 ((rdC t).v : Int),.slice oV (rdC t).l.length cV,.slice oK (rdC t).c.length cK] 0)
    generalize sets w5 w.heap.size 0 [.int .u64 ((rdC t).v : Int),.slice oV (rdC t).l.length cV,.slice oK (rdC t).c.length cK]=wf at *
    clear y0 y1 y2 z0 z1 z2
    have y0:=(cell_of_row _ _ 0 _ _ _ HYf.out).trans rfl
    have y1:=(cell_of_row _ _ 1 _ _ _ HYf.out).trans rfl
    have y2:=(cell_of_row _ _ 2 _ _ _ HYf.out).trans rfl
    refine bodyPost_ret (v:=.tuple #[.agg #[.int .u64 ((rdC t).v : Int),.slice oV (rdC t).l.length cV,.slice oK (rdC t).c.length cK],.int .i64 0]) (by simp [results,Tryz.results12,go_sem, *]) rfl ?_
    exact ⟨⟨_,_,_,rfl,by rw [HCC.out]; exact ⟨rfl,HOO.out.1,HLf.out.rows HOO.out.2.1,HKf.out.rows HOO.out.2.2.1⟩⟩,HBf.out⟩
 ·have HEE : Hid (E=g):=Lib.hid (by rw [HE.out,if_pos hg])
  have HCC : Hid (C=⟨0,[],[]⟩):=Lib.hid (by rw [HC.out,if_neg (by rw [HEE.out]; exact hg)])
  have hEE:=HEE.out
  subst hEE
  have q1 : ((E : Int) != 0)=true:=by rw [bne_iff_ne]; omega
  have q2 : ((E : Int) == 0)=false:=by rw [beq_eq_false_iff_ne]; omega
  have hbb:=alloc_below w1 (.cells #[.int .i64 k,.int .u64 (n : Int),.string s',.slice o len cap] 69)
  have HX2:=Lib.hid (HX1.out.later hbb)
  have HB2:=Lib.hid (HB1.out.trans (hbb.mono HB1.out.size))
  clear hbb hg
  go_upto_region 2 with fail
  generalize w1.alloc (.cells #[.int .i64 k,.int .u64 (n : Int),.string s',.slice o len cap] 69)=w2 at *
  have y0:=(cell_of_row _ _ 0 _ _ _ HX2.out).trans rfl
  have y1:=(cell_of_row _ _ 1 _ _ _ HX2.out).trans rfl
  have y2:=(cell_of_row _ _ 2 _ _ _ HX2.out).trans rfl
  have z0:=frozen_of_row _ _ 0 _ _ HX2.out
  have z1:=frozen_of_row _ _ 1 _ _ HX2.out
  have z2:=frozen_of_row _ _ 2 _ _ HX2.out
  go_wp2
  have hch : (((w2.setCell ⟨w.heap.size,0,none⟩ (.int .u64 0)).setCell ⟨w.heap.size,1,none⟩ (.slice none 0 0)).setCell ⟨w.heap.size,2,none⟩ (.slice none 0 0))=sets w2 w.heap.size 0 [.int .u64 0,.slice none 0 0,.slice none 0 0]:=rfl
  rw [hch]
  clear hch
  have HYf : Hid (Bk (sets w2 w.heap.size 0 [.int .u64 0,.slice none 0 0,.slice none 0 0]) w.heap.size #[.int .u64 0,.slice none 0 0,.slice none 0 0] 26):=Lib.hid (sets_bk [.int .u64 0,.slice none 0 0,.slice none 0 0] [.int .u64 0,.slice none 0 0,.slice none 0 0] [] rfl HX2.out)
  have HBf:=Lib.hid (sets_below [.int .u64 0,.slice none 0 0,.slice none 0 0] 0 w2 HB2.out (Nat.le_refl w.heap.size))
  generalize sets w2 w.heap.size 0 [.int .u64 0,.slice none 0 0,.slice none 0 0]=wf at *
  clear y0 y1 y2 z0 z1 z2
  have y0:=(cell_of_row _ _ 0 _ _ _ HYf.out).trans rfl
  have y1:=(cell_of_row _ _ 1 _ _ _ HYf.out).trans rfl
  have y2:=(cell_of_row _ _ 2 _ _ _ HYf.out).trans rfl
  refine bodyPost_ret (v:=.tuple #[.agg #[.int .u64 0,.slice none 0 0,.slice none 0 0],.int .i64 (E : Int)]) (by simp [results,Tryz.results12,go_sem, *]) rfl ?_
  exact ⟨⟨_,_,_,rfl,by rw [HCC.out]; exact CoIn.zero _⟩,HBf.out⟩
end Go.Proofs.YtjfjliobencppaaGreatDoor.Cf

set_option maxRecDepth 100000
set_option maxHeartbeats 1000000
namespace Go.Proofs.YtjfjliobencppaaGreatDoor.Cf
open Go.RowKit
def VT (w : World) (t : Tr) (c0 c1 c2 c3 : Value) : Prop:=VInP w (fun _ => True) t c0 c1 c2 c3
theorem VT.later {w w' : World} {t : Tr} {c0 c1 c2 c3 : Value} (h : VT w t c0 c1 c2 c3) (hb : Below w.heap.size w w') : VT w' t c0 c1 c2 c3:=VInP.keep hb.size (fun b hb' _ => ⟨hb.block b hb',trivial⟩) _ h
theorem VT.parts {w : World} {t : Tr} {c0 c1 c2 c3 : Value} (h : VT w t c0 c1 c2 c3) : ∃ (o : Option Addr) (cap b off : Nat),c0=.int .i64 (Tr.tk t)∧c1=.int .u64 (Tr.tn t : Int)∧c2=.string (Tr.ts t)∧c3=.slice o (Tr.tl t).length cap∧(Tr.ts t).size≤1000000000∧(Tr.tl t).length≤1000000∧(0 < (Tr.tl t).length→o=some ⟨b,off,none⟩∧b < w.heap.size) ∧
  ∀ i (h : i < (Tr.tl t).length),∃ d0 d1 d2 d3,w.cell? ⟨b,off+i * 4,none⟩=some d0∧w.cell? ⟨b,off+i * 4+1,none⟩=some d1∧w.cell? ⟨b,off+i * 4+2,none⟩=some d2∧w.cell? ⟨b,off+i * 4+3,none⟩=some d3∧VT w (Tr.tl t)[i] d0 d1 d2 d3:=by
 obtain ⟨k,n,s,l⟩:=t
 unfold VT VInP at h
 obtain ⟨h0,h1,hn,h2,hz,o,cap,b,off,h3,ho,hl⟩:=h
 exact ⟨o,cap,b,off,h0,h1,h2,h3,hz.1,hz.2,fun hp => ⟨(ho hp).1,(ho hp).2.1⟩,fun i hi => hl.at i hi⟩
def shp (k n : Int) (t : Tr) : Bool:=decide (Tr.tk t=k) && (decide (n < 0) || decide (((Tr.tl t).length : Int)=n))
theorem shape_any (k n : Int) (t : Tr) (c0 c1 c2 c3 : Value) (w : World) (h : VT w t c0 c1 c2 c3) : Calls Tryz.prog 81 #[.agg #[c0,c1,c2,c3],.int .i64 k,.int .i64 n] w (TrP (shp k n t) w):=by
 obtain ⟨o,cap,b,off,rfl,rfl,rfl,rfl,hz⟩:=h.parts
 clear hz
 have HB:=Lib.hid (alloc_below w (.cells #[.int .i64 (Tr.tk t),.int .u64 (Tr.tn t : Int),.string (Tr.ts t),.slice o (Tr.tl t).length cap] 81))
 unfold shp
 clear h
 generalize (Tr.tl t).length=m at *
 generalize Tr.tk t=q at *
 generalize Tr.tn t=z at *
 generalize Tr.ts t=s at *
 obtain ⟨b1,hb1⟩ : ∃ b1,decide (q=k)=b1:=⟨_,rfl⟩
 obtain ⟨b2,hb2⟩ : ∃ b2,decide (n < 0)=b2:=⟨_,rfl⟩
 obtain ⟨b3,hb3⟩ : ∃ b3,decide ((m : Int)=n)=b3:=⟨_,rfl⟩
 have hb1' : (q == k)=b1:=by rw [← hb1]; rfl
 have hb3' : ((m : Int) == n)=b3:=by rw [← hb3]; rfl
 rw [hb1,hb2,hb3]
 go_enter Tryz.func81,Tryz.ntmps81
 cases b1 with
 | false =>
  go_wp2
  go_ret
  exact ⟨rfl,HB.out⟩
 | true => cases b2 with
  | true =>
   go_wp2
   go_ret
   exact ⟨rfl,HB.out⟩
  | false => cases b3 with
   | true =>
    go_wp2
    go_ret
    exact ⟨rfl,HB.out⟩
   | false =>
    go_wp2
    go_ret
    exact ⟨rfl,HB.out⟩
end Go.Proofs.YtjfjliobencppaaGreatDoor.Cf
