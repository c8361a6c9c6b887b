/- config: the document's Of of a row of three, up to its loops. -/
import Derived.Test.YtjfjliobencppaaGreatDoorR00
import Derived.Test.YtjfjliobencppaaGreatDoorR40
set_option linter.unusedVariables false
set_option linter.unusedSimpArgs false
set_option maxRecDepth 100000
set_option maxHeartbeats 40000000
namespace Go.Proofs.YtjfjliobencppaaGreatDoor.Cf
open Go.RowKit
theorem LlR.mono {w : World} {B B' : Nat} {V : Value} {L : List Ls} (h : LlR w B V L) (hB : B'≤B) : LlR w B' V L:=by
 obtain ⟨PL,h1,h2,h3⟩:=h
 exact ⟨PL,h1,own_mono h2 hB,fun p hp => own_mono (h3 p hp) hB⟩
theorem CcR.mono {w : World} {B B' : Nat} {V : Value} {L : List Cl} (h : CcR w B V L) (hB : B'≤B) : CcR w B' V L:=by
 obtain ⟨PL,h1,h2,h3⟩:=h
 exact ⟨PL,h1,own_mono h2 hB,fun p hp => own_mono (h3 p hp) hB⟩
theorem of_row {t x0 x1 x2 : Tr} {w : World} {b off cap : Nat} {p0 p1 p2 : Option Addr} {q0 q1 q2 : Nat} (hF : wrF 3 t=false) (hl : Tr.tl t=[x0,x1,x2]) (hv : VT w t (.int .i64 (Tr.tk t)) (.int .u64 (Tr.tn t : Int)) (.string (Tr.ts t)) (.slice (some ⟨b,off,none⟩) 3 cap))
  (hc0 : ∀ wz,Below w.heap.size w wz→wz.cell? ⟨b,off,none⟩=some (.int .i64 (Tr.tk x0))∧wz.cell? ⟨b,off+1,none⟩=some (.int .u64 (Tr.tn x0 : Int))∧wz.cell? ⟨b,off+2,none⟩=some (.string (Tr.ts x0))∧wz.cell? ⟨b,off+3,none⟩=some (.slice p0 (Tr.tl x0).length q0)) (hc1 : ∀ wz,Below w.heap.size w wz→wz.cell? ⟨b,off+4,none⟩=some (.int .i64 (Tr.tk x1))∧wz.cell? ⟨b,off+5,none⟩=some (.int .u64 (Tr.tn x1 : Int))∧wz.cell? ⟨b,off+6,none⟩=some (.string (Tr.ts x1))∧wz.cell? ⟨b,off+7,none⟩=some (.slice p1 (Tr.tl x1).length q1)) (hc2 : ∀ wz,Below w.heap.size w wz→wz.cell? ⟨b,off+8,none⟩=some (.int .i64 (Tr.tk x2))∧wz.cell? ⟨b,off+9,none⟩=some (.int .u64 (Tr.tn x2 : Int))∧wz.cell? ⟨b,off+10,none⟩=some (.string (Tr.ts x2))∧wz.cell? ⟨b,off+11,none⟩=some (.slice p2 (Tr.tl x2).length q2)) (h0 : VT w x0 (.int .i64 (Tr.tk x0)) (.int .u64 (Tr.tn x0 : Int)) (.string (Tr.ts x0)) (.slice p0 (Tr.tl x0).length q0)) (h1 : VT w x1 (.int .i64 (Tr.tk x1)) (.int .u64 (Tr.tn x1 : Int)) (.string (Tr.ts x1)) (.slice p1 (Tr.tl x1).length q1)) (h2 : VT w x2 (.int .i64 (Tr.tk x2)) (.int .u64 (Tr.tn x2 : Int)) (.string (Tr.ts x2)) (.slice p2 (Tr.tl x2).length q2)) :
  Calls Tryz.prog 37 #[.agg #[.int .i64 (Tr.tk t),.int .u64 (Tr.tn t : Int),.string (Tr.ts t),.slice (some ⟨b,off,none⟩) 3 cap]] w (OfP t w):=by
 have HWC:=Lib.hid (wrC_at hF hl).1
 have HRC:=Lib.hid (wrC_at hF hl).2
 have HC0:=Lib.hid hc0
 have HC1:=Lib.hid hc1
 have HC2:=Lib.hid hc2
 have HV1:=Lib.hid h1
 have HV2:=Lib.hid h2
 have KA : Hid (∀ wz,Below w.heap.size w wz→Calls Tryz.prog 81 #[.agg #[.int .i64 (Tr.tk t),.int .u64 (Tr.tn t : Int),.string (Tr.ts t),.slice (some ⟨b,off,none⟩) 3 cap],.int .i64 3,.int .i64 3] wz (TrP true wz)):=Lib.hid (fun wz hz => by
  have k:=shape_any 3 3 t _ _ _ _ wz (hv.later hz)
  rw [show shp 3 3 t=!wrF 3 t from shp_row (n:=3),hF] at k
  exact k)
 have KB:=Lib.hid (fun wz hz => shape_any 1 (-1) x0 _ _ _ _ wz (h0.later hz))
 have KC:=Lib.hid (fun wz hz => shape_any 3 (-1) x1 _ _ _ _ wz (h1.later hz))
 have KD:=Lib.hid (fun wz hz => shape_any 3 (-1) x2 _ _ _ _ wz (h2.later hz))
 clear hF hl hv hc0 hc1 hc2 h0 h1 h2
 have HZ0:=Lib.hid (show Oz w (.int .i64 (Tr.tk t)) (.int .u64 (Tr.tn t : Int)) (.string (Tr.ts t)) (.slice (some ⟨b,off,none⟩) 3 cap) (((w.alloc (.cells #[.int .i64 (Tr.tk t),.int .u64 (Tr.tn t : Int),.string (Tr.ts t),.slice (some ⟨b,off,none⟩) 3 cap] 81)).alloc (.cells #[.int .u64 0,.slice none 0 0,.slice none 0 0] 37)).alloc (.cells #[.int .u64 0,.slice none 0 0,.slice none 0 0] 37)) from ⟨((alloc_at (w:=w) (g:=w.heap.size) _ _ rfl).later (alloc_below _ _)).later (alloc_below _ _),(alloc_at (w:=(w.alloc (.cells #[.int .i64 (Tr.tk t),.int .u64 (Tr.tn t : Int),.string (Tr.ts t),.slice (some ⟨b,off,none⟩) 3 cap] 81))) (g:=w.heap.size+1) _ _ (by simp)).later (alloc_below _ _),(alloc_below _ _).trans (((alloc_below _ _).mono (by simp)).trans ((alloc_below _ _).mono (by simp <;> omega)))⟩)
 have HO0:=Lib.hid (alloc_at (w:=((w.alloc (.cells #[.int .i64 (Tr.tk t),.int .u64 (Tr.tn t : Int),.string (Tr.ts t),.slice (some ⟨b,off,none⟩) 3 cap] 81)).alloc (.cells #[.int .u64 0,.slice none 0 0,.slice none 0 0] 37))) (g:=w.heap.size+1+1) #[.int .u64 0,.slice none 0 0,.slice none 0 0] 37 (by simp))
 obtain ⟨w0,hw0⟩ : ∃ w0,w0=(((w.alloc (.cells #[.int .i64 (Tr.tk t),.int .u64 (Tr.tn t : Int),.string (Tr.ts t),.slice (some ⟨b,off,none⟩) 3 cap] 81)).alloc (.cells #[.int .u64 0,.slice none 0 0,.slice none 0 0] 37)).alloc (.cells #[.int .u64 0,.slice none 0 0,.slice none 0 0] 37)):=⟨_,rfl⟩
 rw [← hw0] at HZ0 HO0
 go_enter Tryz.func37,Tryz.ntmps37
 go_upto_region 2 with fail
 rw [← hw0]
 clear hw0
 obtain ⟨⟨f0,f1,f2,f3⟩,_⟩:=bk4 HZ0.out.pb
 obtain ⟨a0,a1,a2,a3⟩:=HC0.out _ HZ0.out.b
 obtain ⟨a4,a5,a6,a7⟩:=HC1.out _ HZ0.out.b
 obtain ⟨a8,a9,a10,a11⟩:=HC2.out _ HZ0.out.b
 go_wp2_with fail
 refine (KA.out _ HZ0.out.b).mono ?_
 rintro e w1 ⟨rfl,hb⟩
 have HZ1:=Lib.hid (HZ0.out.later hb)
 have HO1:=Lib.hid (HO0.out.later hb)
 clear hb f0 f1 f2 f3 a0 a1 a2 a3 a4 a5 a6 a7 a8 a9 a10 a11
 obtain ⟨⟨f0,f1,f2,f3⟩,_⟩:=bk4 HZ1.out.pb
 obtain ⟨a0,a1,a2,a3⟩:=HC0.out _ HZ1.out.b
 obtain ⟨a4,a5,a6,a7⟩:=HC1.out _ HZ1.out.b
 obtain ⟨a8,a9,a10,a11⟩:=HC2.out _ HZ1.out.b
 cases hB : wrN x0 with
 | true =>
  have HW : Hid (wrC t=true):=Lib.hid (by rw [HWC.out,hB]; rfl)
  have KB2 : Hid (∀ wz,Below w.heap.size w wz→Calls Tryz.prog 81 #[.agg #[.int .i64 (Tr.tk x0),.int .u64 (Tr.tn x0 : Int),.string (Tr.ts x0),.slice p0 (Tr.tl x0).length q0],.int .i64 1,.int .i64 (-1)] wz (TrP false wz)):=Lib.hid (fun wz h => by
   have k:=KB.out wz h
   rw [shp_num,hB] at k
   exact k)
  go_wp2_with fail
  refine (KB2.out _ HZ1.out.b).mono ?_
  rintro e w2 ⟨rfl,hb⟩
  have HZ2:=Lib.hid (HZ1.out.later hb)
  have HO2:=Lib.hid (HO1.out.later hb)
  clear hb f0 f1 f2 f3 a0 a1 a2 a3 a4 a5 a6 a7 a8 a9 a10 a11
  obtain ⟨⟨f0,f1,f2,f3⟩,_⟩:=bk4 HZ2.out.pb
  obtain ⟨a0,a1,a2,a3⟩:=HC0.out _ HZ2.out.b
  obtain ⟨a4,a5,a6,a7⟩:=HC1.out _ HZ2.out.b
  obtain ⟨a8,a9,a10,a11⟩:=HC2.out _ HZ2.out.b
  obtain ⟨k0,k1,k2⟩:=bk3 HO2.out
  have y0:=(cell_of_row _ _ 0 _ _ _ HZ2.out.rb).trans rfl
  have y1:=(cell_of_row _ _ 1 _ _ _ HZ2.out.rb).trans rfl
  have y2:=(cell_of_row _ _ 2 _ _ _ HZ2.out.rb).trans rfl
  have z0:=frozen_of_row _ _ 0 _ _ HZ2.out.rb
  have z1:=frozen_of_row _ _ 1 _ _ HZ2.out.rb
  have z2:=frozen_of_row _ _ 2 _ _ HZ2.out.rb
  go_wp2
  have hch : (((w2.setCell ⟨w.heap.size+1,0,none⟩ (.int .u64 0)).setCell ⟨w.heap.size+1,1,none⟩ (.slice none 0 0)).setCell ⟨w.heap.size+1,2,none⟩ (.slice none 0 0))=sets w2 (w.heap.size+1) 0 [.int .u64 0,.slice none 0 0,.slice none 0 0]:=rfl
  rw [hch]
  clear hch
  have HYf : Hid (Bk (sets w2 (w.heap.size+1) 0 [.int .u64 0,.slice none 0 0,.slice none 0 0]) (w.heap.size+1) #[.int .u64 0,.slice none 0 0,.slice none 0 0] 37):=Lib.hid (sets_bk [.int .u64 0,.slice none 0 0,.slice none 0 0] [.int .u64 0,.slice none 0 0,.slice none 0 0] [] rfl HZ2.out.rb)
  have HBf:=Lib.hid (sets_below [.int .u64 0,.slice none 0 0,.slice none 0 0] 0 w2 HZ2.out.b (show w.heap.size≤w.heap.size+1 by omega))
  generalize sets w2 (w.heap.size+1) 0 [.int .u64 0,.slice none 0 0,.slice none 0 0]=wf at *
  clear k0 k1 k2 y0 y1 y2 z0 z1 z2
  have y0:=(cell_of_row _ _ 0 _ _ _ HYf.out).trans rfl
  have y1:=(cell_of_row _ _ 1 _ _ _ HYf.out).trans rfl
  have y2:=(cell_of_row _ _ 2 _ _ _ HYf.out).trans rfl
  refine bodyPost_ret (v:=.tuple #[.agg #[.int .u64 0,.slice none 0 0,.slice none 0 0],.bool false]) (by simp [results,Tryz.results37,go_sem, *]) rfl ?_
  exact of_bad HW.out HBf.out
 | false =>
  have KB2 : Hid (∀ wz,Below w.heap.size w wz→Calls Tryz.prog 81 #[.agg #[.int .i64 (Tr.tk x0),.int .u64 (Tr.tn x0 : Int),.string (Tr.ts x0),.slice p0 (Tr.tl x0).length q0],.int .i64 1,.int .i64 (-1)] wz (TrP true wz)):=Lib.hid (fun wz h => by
   have k:=KB.out wz h
   rw [shp_num,hB] at k
   exact k)
  go_wp2_with fail
  refine (KB2.out _ HZ1.out.b).mono ?_
  rintro e w2 ⟨rfl,hb⟩
  have HZ2:=Lib.hid (HZ1.out.later hb)
  have HO2:=Lib.hid (HO1.out.later hb)
  clear hb f0 f1 f2 f3 a0 a1 a2 a3 a4 a5 a6 a7 a8 a9 a10 a11
  obtain ⟨⟨f0,f1,f2,f3⟩,_⟩:=bk4 HZ2.out.pb
  obtain ⟨a0,a1,a2,a3⟩:=HC0.out _ HZ2.out.b
  obtain ⟨a4,a5,a6,a7⟩:=HC1.out _ HZ2.out.b
  obtain ⟨a8,a9,a10,a11⟩:=HC2.out _ HZ2.out.b
  by_cases hC : Tr.tk x1=3
  ·have HKC:=Lib.hid hC
   have KC2 : Hid (∀ wz,Below w.heap.size w wz→Calls Tryz.prog 81 #[.agg #[.int .i64 (Tr.tk x1),.int .u64 (Tr.tn x1 : Int),.string (Tr.ts x1),.slice p1 (Tr.tl x1).length q1],.int .i64 3,.int .i64 (-1)] wz (TrP true wz)):=Lib.hid (fun wz h => by
    have k:=KC.out wz h
    rw [shp_any,decide_eq_true hC] at k
    exact k)
   clear hC
   go_wp2_with fail
   refine (KC2.out _ HZ2.out.b).mono ?_
   rintro e w3 ⟨rfl,hb⟩
   have HZ3:=Lib.hid (HZ2.out.later hb)
   have HO3:=Lib.hid (HO2.out.later hb)
   clear hb f0 f1 f2 f3 a0 a1 a2 a3 a4 a5 a6 a7 a8 a9 a10 a11
   obtain ⟨⟨f0,f1,f2,f3⟩,_⟩:=bk4 HZ3.out.pb
   obtain ⟨a0,a1,a2,a3⟩:=HC0.out _ HZ3.out.b
   obtain ⟨a4,a5,a6,a7⟩:=HC1.out _ HZ3.out.b
   obtain ⟨a8,a9,a10,a11⟩:=HC2.out _ HZ3.out.b
   by_cases hD : Tr.tk x2=3
   ·have HKD:=Lib.hid hD
    have KD2 : Hid (∀ wz,Below w.heap.size w wz→Calls Tryz.prog 81 #[.agg #[.int .i64 (Tr.tk x2),.int .u64 (Tr.tn x2 : Int),.string (Tr.ts x2),.slice p2 (Tr.tl x2).length q2],.int .i64 3,.int .i64 (-1)] wz (TrP true wz)):=Lib.hid (fun wz h => by
     have k:=KD.out wz h
     rw [shp_any,decide_eq_true hD] at k
     exact k)
    clear hD
    go_wp2_with fail
    refine (KD2.out _ HZ3.out.b).mono ?_
    rintro e w4 ⟨rfl,hb⟩
    have HZ4:=Lib.hid (HZ3.out.later hb)
    have HO4:=Lib.hid (HO3.out.later hb)
    clear hb f0 f1 f2 f3 a0 a1 a2 a3 a4 a5 a6 a7 a8 a9 a10 a11
    obtain ⟨⟨f0,f1,f2,f3⟩,_⟩:=bk4 HZ4.out.pb
    obtain ⟨a0,a1,a2,a3⟩:=HC0.out _ HZ4.out.b
    obtain ⟨a4,a5,a6,a7⟩:=HC1.out _ HZ4.out.b
    obtain ⟨a8,a9,a10,a11⟩:=HC2.out _ HZ4.out.b
    obtain ⟨po1,qo1,b1,g1,_,_,_,hf1,hn1,ho1,hE1⟩:=HV1.out.child
    obtain ⟨rfl,rfl⟩ : p1=po1∧q1=qo1:=by simpa using hf1
    have HE1:=Lib.hid hE1
    have HQ1:=Lib.hid ho1
    have HN1:=Lib.hid hn1
    clear hE1 ho1 hn1 hf1
    obtain ⟨po2,qo2,b2,g2,_,_,_,hf2,hn2,ho2,hE2⟩:=HV2.out.child
    obtain ⟨rfl,rfl⟩ : p2=po2∧q2=qo2:=by simpa using hf2
    have HE2:=Lib.hid hE2
    have HQ2:=Lib.hid ho2
    have HN2:=Lib.hid hn2
    clear hE2 ho2 hn2 hf2
    have HBADL : Hid (∀ x ∈ Tr.tl x1,wrLs x=true→wrC t=true):=Lib.hid (fun x hx h => by rw [HWC.out,wrL_eq HKC.out,List.any_eq_true.2 ⟨x,hx,h⟩]; simp)
    have HBADC : Hid (∀ x ∈ Tr.tl x2,wrCl x=true→wrC t=true):=Lib.hid (fun x hx h => by rw [HWC.out,wrL_eq (wr:=wrCl) HKD.out,List.any_eq_true.2 ⟨x,hx,h⟩]; simp)
    obtain ⟨k0,k1,k2⟩:=bk3 HO4.out
    have kz:=frozen_of_row _ _ 0 _ _ HO4.out
    go_upto_region 5 with fail
    have HO5 : Hid (Bk (w4.setCell ⟨w.heap.size+1+1,0,none⟩ (.int .u64 (Tr.tn x0 : Int))) (w.heap.size+1+1) #[.int .u64 (Tr.tn x0 : Int),.slice none 0 0,.slice none 0 0] 37):=Lib.hid (HO4.out.set (i:=0) (.int .u64 (Tr.tn x0 : Int)))
    have HZ5:=Lib.hid (HZ4.out.set (g:=w.heap.size+1+1) (by omega) 0 (.int .u64 (Tr.tn x0 : Int)))
    clear k0 k1 k2 kz f0 f1 f2 f3 a0 a1 a2 a3 a4 a5 a6 a7 a8 a9 a10 a11
    generalize w4.setCell ⟨w.heap.size+1+1,0,none⟩ (.int .u64 (Tr.tn x0 : Int))=w5 at *
    obtain ⟨⟨f0,f1,f2,f3⟩,_⟩:=bk4 HZ5.out.pb
    obtain ⟨a0,a1,a2,a3⟩:=HC0.out _ HZ5.out.b
    obtain ⟨a4,a5,a6,a7⟩:=HC1.out _ HZ5.out.b
    obtain ⟨a8,a9,a10,a11⟩:=HC2.out _ HZ5.out.b
    skip
    go_wp2
    go_loopw [59] (fun y wz => ∃ (i : Nat) (V : Value),y=.int .i64 i∧i≤(Tr.tl x1).length∧Hid (Bk wz (w.heap.size+1+1) #[.int .u64 (Tr.tn x0 : Int),V,.slice none 0 0] 37)∧Hid (LlR wz (w.heap.size+3) V (((Tr.tl x1).take i).map rdLs))∧Hid (((Tr.tl x1).take i).any wrLs=false)∧Hid (Oz w (.int .i64 (Tr.tk t)) (.int .u64 (Tr.tn t : Int)) (.string (Tr.ts t)) (.slice (some ⟨b,off,none⟩) 3 cap) wz)) (fun y _ => (Tr.tl x1).length - (intOf y).toNat)
    case atStart => exact ⟨0,_,rfl,Nat.zero_le _,HO5,Lib.hid (by rw [List.take_zero]; exact LlR.nil _ _),Lib.hid (by rw [List.take_zero]; rfl),HZ5⟩
    case round =>
     rename World => w10
     clear f0 f1 f2 f3 a0 a1 a2 a3 a4 a5 a6 a7 a8 a9 a10 a11
     obtain ⟨i,V,rfl,hi,HO10,HL10,HN10,HZ10⟩:=hrel
     by_cases hlt : i < (Tr.tl x1).length
     ·obtain ⟨oV,nV,cV,hfv⟩:=HL10.out.form
      subst hfv
      obtain ⟨px,qx,hcx,hvx⟩:=HE1.out i hlt
      have ho:=HQ1.out (by omega)
      subst ho
      have HTK : Hid ((Tr.tl x1).take i++[(Tr.tl x1)[i]'hlt]=(Tr.tl x1).take (i+1)):=Lib.hid (by rw [List.take_append_getElem])
      have HMX : Hid ((Tr.tl x1)[i]'hlt ∈ Tr.tl x1):=Lib.hid (List.getElem_mem hlt)
      have HLI:=Lib.hid (show i≤1000000 by have:=HN1.out; omega)
      have q1 : (i : Int) < ((Tr.tl x1).length : Int):=by omega
      have q3 : ((Tr.tl x1).length : Int)≤1000000:=by have:=HN1.out; omega
      generalize (Tr.tl x1)[i]'hlt=x at *
      have HLT:=Lib.hid hlt
      have HBX : Hid (wrLs x=true→wrC t=true):=Lib.hid (fun h => HBADL.out x HMX.out h)
      obtain ⟨m,hm⟩ : ∃ m,(Tr.tl x).length=m:=⟨_,rfl⟩
      rw [hm] at hcx hvx
      have HM:=Lib.hid hm
      have HVX:=Lib.hid hvx
      have HB10:=Lib.hid (Below.refl w10.heap.size w10)
      have HZB : Hid (∀ wz,Below w10.heap.size w10 wz→Below w.heap.size w wz):=Lib.hid (fun wz h => HZ10.out.b.trans (h.mono HZ10.out.b.size))
      have HGO:=Lib.hid (lt_of_heap HO10.out)
      obtain ⟨e0,e1,e2,e3⟩:=hcx _ HZ10.out.b
      clear hcx hvx hm hlt
      go_upto_region 8 with fail
      have hb:=alloc_below w10 (.cells #[.int .i64 (Tr.tk x),.int .u64 (Tr.tn x : Int),.string (Tr.ts x),.slice px m qx] 81)
      have HB11:=Lib.hid (HB10.out.trans (hb.mono HB10.out.size))
      have HX11:=Lib.hid (alloc_at (w:=w10) (g:=w10.heap.size) #[.int .i64 (Tr.tk x),.int .u64 (Tr.tn x : Int),.string (Tr.ts x),.slice px m qx] 81 rfl)
      clear hb e0 e1 e2 e3
      generalize w10.alloc (.cells #[.int .i64 (Tr.tk x),.int .u64 (Tr.tn x : Int),.string (Tr.ts x),.slice px m qx] 81)=w11 at *
      obtain ⟨⟨f0,f1,f2,f3⟩,_⟩:=bk4 HX11.out
      have HGX:=Lib.hid (show w10.heap.size < w11.heap.size from lt_of_heap HX11.out)
      cases hFx : wrF 3 x with
      | true =>
       have HW : Hid (wrC t=true):=Lib.hid (HBX.out (by unfold wrLs; rw [hFx]; rfl))
       have KX : Hid (∀ wz,Below w.heap.size w wz→Calls Tryz.prog 81 #[.agg #[.int .i64 (Tr.tk x),.int .u64 (Tr.tn x : Int),.string (Tr.ts x),.slice px m qx],.int .i64 3,.int .i64 3] wz (TrP false wz)):=Lib.hid (fun wz h => by
        have k:=shape_any 3 3 x _ _ _ _ wz (HVX.out.later h)
        rw [show shp 3 3 x=!wrF 3 x from shp_row (n:=3),hFx] at k
        exact k)
       go_wp2_with fail
       refine (KX.out _ (HZB.out _ HB11.out)).mono ?_
       rintro e w12 ⟨rfl,hb⟩
       have HB12:=Lib.hid (HB11.out.trans (hb.mono HB11.out.size))
       have HX12:=Lib.hid (Bk.later HX11.out hb)
       clear hb f0 f1 f2 f3
       have HOe:=Lib.hid (Bk.later HO10.out HB12.out)
       have HZe:=Lib.hid (HZ10.out.later HB12.out)
       obtain ⟨k0,k1,k2⟩:=bk3 HOe.out
       have rr0:=(cell_of_row _ _ 0 _ _ _ HZe.out.rb).trans rfl
       have rr1:=(cell_of_row _ _ 1 _ _ _ HZe.out.rb).trans rfl
       have rr2:=(cell_of_row _ _ 2 _ _ _ HZe.out.rb).trans rfl
       have ss0:=frozen_of_row _ _ 0 _ _ HZe.out.rb
       have ss1:=frozen_of_row _ _ 1 _ _ HZe.out.rb
       have ss2:=frozen_of_row _ _ 2 _ _ HZe.out.rb
       go_wp2
       have hch : (((w12.setCell ⟨w.heap.size+1,0,none⟩ (.int .u64 (Tr.tn x0 : Int))).setCell ⟨w.heap.size+1,1,none⟩ (.slice oV nV cV)).setCell ⟨w.heap.size+1,2,none⟩ (.slice none 0 0))=sets w12 (w.heap.size+1) 0 [.int .u64 (Tr.tn x0 : Int),.slice oV nV cV,.slice none 0 0]:=rfl
       rw [hch]
       clear hch
       have HYf : Hid (Bk (sets w12 (w.heap.size+1) 0 [.int .u64 (Tr.tn x0 : Int),.slice oV nV cV,.slice none 0 0]) (w.heap.size+1) #[.int .u64 (Tr.tn x0 : Int),.slice oV nV cV,.slice none 0 0] 37):=Lib.hid (sets_bk [.int .u64 (Tr.tn x0 : Int),.slice oV nV cV,.slice none 0 0] [.int .u64 0,.slice none 0 0,.slice none 0 0] [] rfl HZe.out.rb)
       have HBf:=Lib.hid (sets_below [.int .u64 (Tr.tn x0 : Int),.slice oV nV cV,.slice none 0 0] 0 w12 HZe.out.b (show w.heap.size≤w.heap.size+1 by omega))
       generalize sets w12 (w.heap.size+1) 0 [.int .u64 (Tr.tn x0 : Int),.slice oV nV cV,.slice none 0 0]=wf at *
       clear k0 k1 k2 rr0 rr1 rr2 ss0 ss1 ss2
       have rr0:=(cell_of_row _ _ 0 _ _ _ HYf.out).trans rfl
       have rr1:=(cell_of_row _ _ 1 _ _ _ HYf.out).trans rfl
       have rr2:=(cell_of_row _ _ 2 _ _ _ HYf.out).trans rfl
       refine bodyPost_ret (v:=.tuple #[.agg #[.int .u64 (Tr.tn x0 : Int),.slice oV nV cV,.slice none 0 0],.bool false]) (by simp [results,Tryz.results37,go_sem, *]) rfl ?_
       exact of_bad HW.out HBf.out
      | false =>
       obtain ⟨hk3,hl3⟩:=wrF_row hFx
       obtain ⟨y0,y1,y2,hly⟩:=three_of hl3
       obtain rfl : m=3:=HM.out.symm.trans hl3
       have HWL:=Lib.hid (wrLs_at hFx hly)
       have KX : Hid (∀ wz,Below w.heap.size w wz→Calls Tryz.prog 81 #[.agg #[.int .i64 (Tr.tk x),.int .u64 (Tr.tn x : Int),.string (Tr.ts x),.slice px 3 qx],.int .i64 3,.int .i64 3] wz (TrP true wz)):=Lib.hid (fun wz h => by
        have k:=shape_any 3 3 x _ _ _ _ wz (HVX.out.later h)
        rw [show shp 3 3 x=!wrF 3 x from shp_row (n:=3),hFx] at k
        exact k)
       obtain ⟨pz_,qz_,bby,ggy,_,_,_,hfx,_,hox,hE_x⟩:=VT.kids HVX.out hly
       obtain ⟨rfl,rfl⟩ : px=pz_∧qx=qz_:=by simpa using hfx
       have ho:=hox (by simp)
       subst ho
       obtain ⟨py0,qy0,hc,hv⟩:=hE_x 0 (by simp)
       have HCy0 : Hid (∀ wz,Below w.heap.size w wz→wz.cell? ⟨bby,ggy,none⟩=some (.int .i64 (Tr.tk y0))∧wz.cell? ⟨bby,ggy+1,none⟩=some (.int .u64 (Tr.tn y0 : Int))∧wz.cell? ⟨bby,ggy+2,none⟩=some (.string (Tr.ts y0))∧wz.cell? ⟨bby,ggy+3,none⟩=some (.slice py0 (Tr.tl y0).length qy0)):=Lib.hid hc
       have HVy0 : Hid (VT w y0 (.int .i64 (Tr.tk y0)) (.int .u64 (Tr.tn y0 : Int)) (.string (Tr.ts y0)) (.slice py0 (Tr.tl y0).length qy0)):=Lib.hid hv
       clear hc hv
       obtain ⟨py1,qy1,hc,hv⟩:=hE_x 1 (by simp)
       have HCy1 : Hid (∀ wz,Below w.heap.size w wz→wz.cell? ⟨bby,ggy+4,none⟩=some (.int .i64 (Tr.tk y1))∧wz.cell? ⟨bby,ggy+5,none⟩=some (.int .u64 (Tr.tn y1 : Int))∧wz.cell? ⟨bby,ggy+6,none⟩=some (.string (Tr.ts y1))∧wz.cell? ⟨bby,ggy+7,none⟩=some (.slice py1 (Tr.tl y1).length qy1)):=Lib.hid hc
       have HVy1 : Hid (VT w y1 (.int .i64 (Tr.tk y1)) (.int .u64 (Tr.tn y1 : Int)) (.string (Tr.ts y1)) (.slice py1 (Tr.tl y1).length qy1)):=Lib.hid hv
       clear hc hv
       obtain ⟨py2,qy2,hc,hv⟩:=hE_x 2 (by simp)
       have HCy2 : Hid (∀ wz,Below w.heap.size w wz→wz.cell? ⟨bby,ggy+8,none⟩=some (.int .i64 (Tr.tk y2))∧wz.cell? ⟨bby,ggy+9,none⟩=some (.int .u64 (Tr.tn y2 : Int))∧wz.cell? ⟨bby,ggy+10,none⟩=some (.string (Tr.ts y2))∧wz.cell? ⟨bby,ggy+11,none⟩=some (.slice py2 (Tr.tl y2).length qy2)):=Lib.hid hc
       have HVy2 : Hid (VT w y2 (.int .i64 (Tr.tk y2)) (.int .u64 (Tr.tn y2 : Int)) (.string (Tr.ts y2)) (.slice py2 (Tr.tl y2).length qy2)):=Lib.hid hv
       clear hc hv
       clear hE_x hox hfx
       clear hk3 hl3 hly hFx
       go_wp2_with fail
       refine (KX.out _ (HZB.out _ HB11.out)).mono ?_
       rintro e w12 ⟨rfl,hb⟩
       have HB12:=Lib.hid (HB11.out.trans (hb.mono HB11.out.size))
       have HX12:=Lib.hid (Bk.later HX11.out hb)
       clear hb f0 f1 f2 f3 KX
       obtain ⟨⟨f0,f1,f2,f3⟩,_⟩:=bk4 HX12.out
       obtain ⟨a0,a1,a2,a3⟩:=HCy0.out _ (HZB.out _ HB12.out)
       obtain ⟨a4,a5,a6,a7⟩:=HCy1.out _ (HZB.out _ HB12.out)
       obtain ⟨a8,a9,a10,a11⟩:=HCy2.out _ (HZB.out _ HB12.out)
       cases hS : wrS y0 with
       | true =>
        have HW : Hid (wrC t=true):=Lib.hid (HBX.out (by rw [HWL.out.1,hS]; rfl))
        have KY : Hid (∀ wz,Below w.heap.size w wz→Calls Tryz.prog 81 #[.agg #[.int .i64 (Tr.tk y0),.int .u64 (Tr.tn y0 : Int),.string (Tr.ts y0),.slice py0 (Tr.tl y0).length qy0],.int .i64 2,.int .i64 (-1)] wz (TrP false wz)):=Lib.hid (fun wz h => by
         have k:=shape_any 2 (-1) y0 _ _ _ _ wz (HVy0.out.later h)
         rw [shp_str,hS] at k
         exact k)
        go_wp2_with fail
        refine (KY.out _ (HZB.out _ HB12.out)).mono ?_
        rintro e w13 ⟨rfl,hb⟩
        have HB13:=Lib.hid (HB12.out.trans (hb.mono HB12.out.size))
        have HX13:=Lib.hid (Bk.later HX12.out hb)
        clear hb f0 f1 f2 f3 a0 a1 a2 a3 a4 a5 a6 a7 a8 a9 a10 a11
        have HOe:=Lib.hid (Bk.later HO10.out HB13.out)
        have HZe:=Lib.hid (HZ10.out.later HB13.out)
        obtain ⟨k0,k1,k2⟩:=bk3 HOe.out
        have rr0:=(cell_of_row _ _ 0 _ _ _ HZe.out.rb).trans rfl
        have rr1:=(cell_of_row _ _ 1 _ _ _ HZe.out.rb).trans rfl
        have rr2:=(cell_of_row _ _ 2 _ _ _ HZe.out.rb).trans rfl
        have ss0:=frozen_of_row _ _ 0 _ _ HZe.out.rb
        have ss1:=frozen_of_row _ _ 1 _ _ HZe.out.rb
        have ss2:=frozen_of_row _ _ 2 _ _ HZe.out.rb
        go_wp2
        have hch : (((w13.setCell ⟨w.heap.size+1,0,none⟩ (.int .u64 (Tr.tn x0 : Int))).setCell ⟨w.heap.size+1,1,none⟩ (.slice oV nV cV)).setCell ⟨w.heap.size+1,2,none⟩ (.slice none 0 0))=sets w13 (w.heap.size+1) 0 [.int .u64 (Tr.tn x0 : Int),.slice oV nV cV,.slice none 0 0]:=rfl
        rw [hch]
        clear hch
        have HYf : Hid (Bk (sets w13 (w.heap.size+1) 0 [.int .u64 (Tr.tn x0 : Int),.slice oV nV cV,.slice none 0 0]) (w.heap.size+1) #[.int .u64 (Tr.tn x0 : Int),.slice oV nV cV,.slice none 0 0] 37):=Lib.hid (sets_bk [.int .u64 (Tr.tn x0 : Int),.slice oV nV cV,.slice none 0 0] [.int .u64 0,.slice none 0 0,.slice none 0 0] [] rfl HZe.out.rb)
        have HBf:=Lib.hid (sets_below [.int .u64 (Tr.tn x0 : Int),.slice oV nV cV,.slice none 0 0] 0 w13 HZe.out.b (show w.heap.size≤w.heap.size+1 by omega))
        generalize sets w13 (w.heap.size+1) 0 [.int .u64 (Tr.tn x0 : Int),.slice oV nV cV,.slice none 0 0]=wf at *
        clear k0 k1 k2 rr0 rr1 rr2 ss0 ss1 ss2
        have rr0:=(cell_of_row _ _ 0 _ _ _ HYf.out).trans rfl
        have rr1:=(cell_of_row _ _ 1 _ _ _ HYf.out).trans rfl
        have rr2:=(cell_of_row _ _ 2 _ _ _ HYf.out).trans rfl
        refine bodyPost_ret (v:=.tuple #[.agg #[.int .u64 (Tr.tn x0 : Int),.slice oV nV cV,.slice none 0 0],.bool false]) (by simp [results,Tryz.results37,go_sem, *]) rfl ?_
        exact of_bad HW.out HBf.out
       | false =>
        have KY : Hid (∀ wz,Below w.heap.size w wz→Calls Tryz.prog 81 #[.agg #[.int .i64 (Tr.tk y0),.int .u64 (Tr.tn y0 : Int),.string (Tr.ts y0),.slice py0 (Tr.tl y0).length qy0],.int .i64 2,.int .i64 (-1)] wz (TrP true wz)):=Lib.hid (fun wz h => by
         have k:=shape_any 2 (-1) y0 _ _ _ _ wz (HVy0.out.later h)
         rw [shp_str,hS] at k
         exact k)
        have HSy0:=Lib.hid hS
        clear hS
        go_wp2_with fail
        refine (KY.out _ (HZB.out _ HB12.out)).mono ?_
        rintro e w13 ⟨rfl,hb⟩
        have HB13:=Lib.hid (HB12.out.trans (hb.mono HB12.out.size))
        have HX13:=Lib.hid (Bk.later HX12.out hb)
        clear hb f0 f1 f2 f3 a0 a1 a2 a3 a4 a5 a6 a7 a8 a9 a10 a11 KY
        obtain ⟨⟨f0,f1,f2,f3⟩,_⟩:=bk4 HX13.out
        obtain ⟨a0,a1,a2,a3⟩:=HCy0.out _ (HZB.out _ HB13.out)
        obtain ⟨a4,a5,a6,a7⟩:=HCy1.out _ (HZB.out _ HB13.out)
        obtain ⟨a8,a9,a10,a11⟩:=HCy2.out _ (HZB.out _ HB13.out)
        by_cases hS : Tr.tk y2=3
        ·have KY : Hid (∀ wz,Below w.heap.size w wz→Calls Tryz.prog 81 #[.agg #[.int .i64 (Tr.tk y2),.int .u64 (Tr.tn y2 : Int),.string (Tr.ts y2),.slice py2 (Tr.tl y2).length qy2],.int .i64 3,.int .i64 (-1)] wz (TrP true wz)):=Lib.hid (fun wz h => by
          have k:=shape_any 3 (-1) y2 _ _ _ _ wz (HVy2.out.later h)
          rw [shp_any,decide_eq_true hS] at k
          exact k)
         have HKy2:=Lib.hid hS
         clear hS
         go_wp2_with fail
         refine (KY.out _ (HZB.out _ HB13.out)).mono ?_
         rintro e w14 ⟨rfl,hb⟩
         have HB14:=Lib.hid (HB13.out.trans (hb.mono HB13.out.size))
         have HX14:=Lib.hid (Bk.later HX13.out hb)
         clear hb f0 f1 f2 f3 a0 a1 a2 a3 a4 a5 a6 a7 a8 a9 a10 a11 KY
         obtain ⟨⟨f0,f1,f2,f3⟩,_⟩:=bk4 HX14.out
         obtain ⟨a0,a1,a2,a3⟩:=HCy0.out _ (HZB.out _ HB14.out)
         obtain ⟨a4,a5,a6,a7⟩:=HCy1.out _ (HZB.out _ HB14.out)
         obtain ⟨a8,a9,a10,a11⟩:=HCy2.out _ (HZB.out _ HB14.out)
         have KP : Hid (∀ wz,Below w.heap.size w wz→Calls Tryz.prog 82 #[.agg #[.int .i64 (Tr.tk y1),.int .u64 (Tr.tn y1 : Int),.string (Tr.ts y1),.slice py1 (Tr.tl y1).length qy1]] wz fun e w' => e=.returned (plA y1)∧Below wz.heap.size wz w'):=Lib.hid (fun wz h => rplace_of y1 _ _ _ _ wz (HVy1.out.later h))
         go_wp2_with fail
         refine (KP.out _ (HZB.out _ HB14.out)).mono ?_
         rintro e w15 ⟨rfl,hb⟩
         have HB15:=Lib.hid (HB14.out.trans (hb.mono HB14.out.size))
         have HX15:=Lib.hid (Bk.later HX14.out hb)
         clear hb KP f0 f1 f2 f3 a0 a1 a2 a3 a4 a5 a6 a7 a8 a9 a10 a11
         unfold plA
         generalize plR y1=P at *
         cases hPb : wrP y1 with
         | true =>
          have HW : Hid (wrC t=true):=Lib.hid (HBX.out (by rw [HWL.out.1,hPb]; simp))
          go_upto_region 11 with fail
          have hb:=alloc_below w15 (.cells #[.int .u8 (P.a : Int),.int .u8 (P.b : Int),.int .u8 (P.c : Int),.int .u8 (P.d : Int),.int .u16 (P.port : Int)] 75)
          have HB16:=Lib.hid (HB15.out.trans (hb.mono HB15.out.size))
          have HP16:=Lib.hid (alloc_at (w:=w15) (g:=w15.heap.size) #[.int .u8 (P.a : Int),.int .u8 (P.b : Int),.int .u8 (P.c : Int),.int .u8 (P.d : Int),.int .u16 (P.port : Int)] 75 rfl)
          clear hb hPb
          generalize w15.alloc (.cells #[.int .u8 (P.a : Int),.int .u8 (P.b : Int),.int .u8 (P.c : Int),.int .u8 (P.d : Int),.int .u16 (P.port : Int)] 75)=w16 at *
          generalize w15.heap.size=g7 at *
          have HOe:=Lib.hid (Bk.later HO10.out HB16.out)
          have HZe:=Lib.hid (HZ10.out.later HB16.out)
          obtain ⟨k0,k1,k2⟩:=bk3 HOe.out
          have rr0:=(cell_of_row _ _ 0 _ _ _ HZe.out.rb).trans rfl
          have rr1:=(cell_of_row _ _ 1 _ _ _ HZe.out.rb).trans rfl
          have rr2:=(cell_of_row _ _ 2 _ _ _ HZe.out.rb).trans rfl
          have ss0:=frozen_of_row _ _ 0 _ _ HZe.out.rb
          have ss1:=frozen_of_row _ _ 1 _ _ HZe.out.rb
          have ss2:=frozen_of_row _ _ 2 _ _ HZe.out.rb
          go_wp2
          have hch : (((w16.setCell ⟨w.heap.size+1,0,none⟩ (.int .u64 (Tr.tn x0 : Int))).setCell ⟨w.heap.size+1,1,none⟩ (.slice oV nV cV)).setCell ⟨w.heap.size+1,2,none⟩ (.slice none 0 0))=sets w16 (w.heap.size+1) 0 [.int .u64 (Tr.tn x0 : Int),.slice oV nV cV,.slice none 0 0]:=rfl
          rw [hch]
          clear hch
          have HYf : Hid (Bk (sets w16 (w.heap.size+1) 0 [.int .u64 (Tr.tn x0 : Int),.slice oV nV cV,.slice none 0 0]) (w.heap.size+1) #[.int .u64 (Tr.tn x0 : Int),.slice oV nV cV,.slice none 0 0] 37):=Lib.hid (sets_bk [.int .u64 (Tr.tn x0 : Int),.slice oV nV cV,.slice none 0 0] [.int .u64 0,.slice none 0 0,.slice none 0 0] [] rfl HZe.out.rb)
          have HBf:=Lib.hid (sets_below [.int .u64 (Tr.tn x0 : Int),.slice oV nV cV,.slice none 0 0] 0 w16 HZe.out.b (show w.heap.size≤w.heap.size+1 by omega))
          generalize sets w16 (w.heap.size+1) 0 [.int .u64 (Tr.tn x0 : Int),.slice oV nV cV,.slice none 0 0]=wf at *
          clear k0 k1 k2 rr0 rr1 rr2 ss0 ss1 ss2
          have rr0:=(cell_of_row _ _ 0 _ _ _ HYf.out).trans rfl
          have rr1:=(cell_of_row _ _ 1 _ _ _ HYf.out).trans rfl
          have rr2:=(cell_of_row _ _ 2 _ _ _ HYf.out).trans rfl
          refine bodyPost_ret (v:=.tuple #[.agg #[.int .u64 (Tr.tn x0 : Int),.slice oV nV cV,.slice none 0 0],.bool false]) (by simp [results,Tryz.results37,go_sem, *]) rfl ?_
          exact of_bad HW.out HBf.out
         | false =>
          have HGP:=Lib.hid (show w10.heap.size < w15.heap.size from lt_of_heap HX15.out)
          have HSP:=Lib.hid hPb
          clear hPb
          go_upto_region 11 with fail
          have hb:=alloc_below w15 (.cells #[.int .u8 (P.a : Int),.int .u8 (P.b : Int),.int .u8 (P.c : Int),.int .u8 (P.d : Int),.int .u16 (P.port : Int)] 75)
          have HB16:=Lib.hid (HB15.out.trans (hb.mono HB15.out.size))
          have HX16:=Lib.hid (Bk.later HX15.out hb)
          have HP16:=Lib.hid (alloc_at (w:=w15) (g:=w15.heap.size) #[.int .u8 (P.a : Int),.int .u8 (P.b : Int),.int .u8 (P.c : Int),.int .u8 (P.d : Int),.int .u16 (P.port : Int)] 75 rfl)
          clear hb
          generalize w15.alloc (.cells #[.int .u8 (P.a : Int),.int .u8 (P.b : Int),.int .u8 (P.c : Int),.int .u8 (P.d : Int),.int .u16 (P.port : Int)] 75)=w16 at *
          generalize w15.heap.size=g7 at *
          obtain ⟨⟨f0,f1,f2,f3⟩,_⟩:=bk4 HX16.out
          obtain ⟨a0,a1,a2,a3⟩:=HCy0.out _ (HZB.out _ HB16.out)
          obtain ⟨a4,a5,a6,a7⟩:=HCy1.out _ (HZB.out _ HB16.out)
          obtain ⟨a8,a9,a10,a11⟩:=HCy2.out _ (HZB.out _ HB16.out)
          have HG7:=Lib.hid (show w10.heap.size < g7∧g7 < w16.heap.size from ⟨HGP.out,lt_of_heap HP16.out⟩)
          go_upto_region 13 with fail
          have hb:=(Below.refl w16.heap.size w16).drew
          have HB0:=Lib.hid (HB16.out.trans (hb.mono HB16.out.size))
          have HX0:=Lib.hid (Bk.later HX16.out hb)
          have HP0:=Lib.hid (Bk.later HP16.out hb)
          clear hb
          have mkS : Hid (∀ wz,Bk wz w10.heap.size #[.int .i64 (Tr.tk x),.int .u64 (Tr.tn x : Int),.string (Tr.ts x),.slice (some ⟨bby,ggy,none⟩) 3 qx] 81→Bk wz g7 #[.int .u8 (P.a : Int),.int .u8 (P.b : Int),.int .u8 (P.c : Int),.int .u8 (P.d : Int),.int .u16 (P.port : Int)] 75→Below w10.heap.size w10 wz→wz.cell? ⟨w10.heap.size,0,none⟩=some (.int .i64 (Tr.tk x))∧wz.cell? ⟨w10.heap.size,1,none⟩=some (.int .u64 (Tr.tn x : Int))∧wz.cell? ⟨w10.heap.size,2,none⟩=some (.string (Tr.ts x))∧wz.cell? ⟨w10.heap.size,3,none⟩=some (.slice (some ⟨bby,ggy,none⟩) 3 qx)∧(wz.cell? ⟨bby,ggy,none⟩=some (.int .i64 (Tr.tk y0))∧wz.cell? ⟨bby,ggy+1,none⟩=some (.int .u64 (Tr.tn y0 : Int))∧wz.cell? ⟨bby,ggy+2,none⟩=some (.string (Tr.ts y0))∧wz.cell? ⟨bby,ggy+3,none⟩=some (.slice py0 (Tr.tl y0).length qy0))∧wz.cell? ⟨g7,0,none⟩=some (.int .u8 (P.a : Int))∧wz.cell? ⟨g7,1,none⟩=some (.int .u8 (P.b : Int))∧wz.cell? ⟨g7,2,none⟩=some (.int .u8 (P.c : Int))∧wz.cell? ⟨g7,3,none⟩=some (.int .u8 (P.d : Int))∧wz.cell? ⟨g7,4,none⟩=some (.int .u16 (P.port : Int))∧Hid True):=Lib.hid (fun wz s0 s1 s2 => ⟨(cell_of_row _ _ 0 _ _ _ s0).trans rfl,(cell_of_row _ _ 1 _ _ _ s0).trans rfl,(cell_of_row _ _ 2 _ _ _ s0).trans rfl,(cell_of_row _ _ 3 _ _ _ s0).trans rfl,HCy0.out wz (HZB.out wz s2),(cell_of_row _ _ 0 _ _ _ s1).trans rfl,(cell_of_row _ _ 1 _ _ _ s1).trans rfl,(cell_of_row _ _ 2 _ _ _ s1).trans rfl,(cell_of_row _ _ 3 _ _ _ s1).trans rfl,(cell_of_row _ _ 4 _ _ _ s1).trans rfl,Lib.hid True.intro⟩)
          refine wp_region_held_drew (S:=fun wz => wz.cell? ⟨w10.heap.size,0,none⟩=some (.int .i64 (Tr.tk x))∧wz.cell? ⟨w10.heap.size,1,none⟩=some (.int .u64 (Tr.tn x : Int))∧wz.cell? ⟨w10.heap.size,2,none⟩=some (.string (Tr.ts x))∧wz.cell? ⟨w10.heap.size,3,none⟩=some (.slice (some ⟨bby,ggy,none⟩) 3 qx)∧(wz.cell? ⟨bby,ggy,none⟩=some (.int .i64 (Tr.tk y0))∧wz.cell? ⟨bby,ggy+1,none⟩=some (.int .u64 (Tr.tn y0 : Int))∧wz.cell? ⟨bby,ggy+2,none⟩=some (.string (Tr.ts y0))∧wz.cell? ⟨bby,ggy+3,none⟩=some (.slice py0 (Tr.tl y0).length qy0))∧wz.cell? ⟨g7,0,none⟩=some (.int .u8 (P.a : Int))∧wz.cell? ⟨g7,1,none⟩=some (.int .u8 (P.b : Int))∧wz.cell? ⟨g7,2,none⟩=some (.int .u8 (P.c : Int))∧wz.cell? ⟨g7,3,none⟩=some (.int .u8 (P.d : Int))∧wz.cell? ⟨g7,4,none⟩=some (.int .u16 (P.port : Int))∧Hid True) (by kernel_rfl) (mkS.out _ HX0.out HP0.out HB0.out) (fun hj9 => ?_)
          generalize w16.drew=wc0 at *
          refine tkH (i:=0) (oi:=⟨some 94,_,_,_,_,_⟩) (v:=?_) rfl (Or.inl ⟨by rfl,by (intro w hSw; (try dsimp only at hSw); go_simp; try with_reducible rfl)⟩) hj9 ?_
          try simp only [Act.put,pS]
          try dsimp only [p0,p1]
          refine tkH (i:=1) (oi:=⟨some 95,_,_,_,_,_⟩) (v:=?_) rfl (Or.inl ⟨by rfl,by (intro w hSw; (try dsimp only at hSw); go_simp; try with_reducible rfl)⟩) hj9 ?_
          try simp only [Act.put,pS]
          try dsimp only [p0,p1]
          refine tkH (i:=2) (oi:=⟨some 96,_,_,_,_,_⟩) (v:=?_) rfl (Or.inl ⟨by rfl,by (intro w hSw; (try dsimp only at hSw); go_simp; try with_reducible rfl)⟩) hj9 ?_
          try simp only [Act.put,pS]
          try dsimp only [p0,p1]
          refine tkH (i:=3) (oi:=⟨some 97,_,_,_,_,_⟩) (v:=?_) rfl (Or.inl ⟨by rfl,by (intro w hSw; (try dsimp only at hSw); go_simp; try with_reducible rfl)⟩) hj9 ?_
          try simp only [Act.put,pS]
          try dsimp only [p0,p1]
          refine tkH (i:=4) (oi:=⟨some 98,_,_,_,_,_⟩) (v:=?_) rfl (Or.inl ⟨by rfl,by (intro w hSw; (try dsimp only at hSw); go_simp; try with_reducible rfl)⟩) hj9 ?_
          try simp only [Act.put,pS]
          try dsimp only [p0,p1]
          refine tkH (i:=5) (oi:=⟨some 99,_,_,_,_,_⟩) (v:=?_) rfl (Or.inl ⟨by rfl,by (intro w hSw; (try dsimp only at hSw); go_simp; try with_reducible rfl)⟩) hj9 ?_
          try simp only [Act.put,pS]
          try dsimp only [p0,p1]
          refine tkH (i:=6) (oi:=⟨some 100,_,_,_,_,_⟩) (v:=?_) rfl (Or.inl ⟨by rfl,by (intro w hSw; (try dsimp only at hSw); go_simp; try with_reducible rfl)⟩) hj9 ?_
          try simp only [Act.put,pS]
          try dsimp only [p0,p1]
          refine wpAnyH_ready (rs:=[7]) (by kernel_rfl) (by simp) ?_
          refine AllReadyH.cons (o:=⟨some 9,_,_,_,_,_⟩) rfl (fun K hK => ?_) ?_
          ·go_simp
           have hbn:=alloc_below wc0 (.cells #[.string ⟨#[]⟩,.int .u8 0,.int .u8 0,.int .u8 0,.int .u8 0,.int .u16 0,.slice none 0 0] 85)
           have HB1:=Lib.hid (HB0.out.trans (hbn.mono HB0.out.size))
           have HX1:=Lib.hid (Bk.later HX0.out hbn)
           have HP1:=Lib.hid (Bk.later HP0.out hbn)
           have HN1:=Lib.hid (alloc_at (w:=wc0) (g:=wc0.heap.size) #[.string ⟨#[]⟩,.int .u8 0,.int .u8 0,.int .u8 0,.int .u8 0,.int .u16 0,.slice none 0 0] 85 rfl)
           have HG9:=Lib.hid (show w10.heap.size < wc0.heap.size∧g7 < wc0.heap.size from ⟨lt_of_heap HX0.out,lt_of_heap HP0.out⟩)
           refine hK.out _ _ (mkS.out _ HX1.out HP1.out HB1.out) (fun hj8 => ?_)
           clear hK K hj9
           have hj9:=hj8
           clear hj8
           clear hbn
           try simp only [Act.put,pS]
           try dsimp only [p0,p1]
           generalize wc0.alloc (.cells #[.string ⟨#[]⟩,.int .u8 0,.int .u8 0,.int .u8 0,.int .u8 0,.int .u16 0,.slice none 0 0] 85)=wc1 at *
           generalize wc0.heap.size=g9 at *
           refine wpAnyH_ready (rs:=[8]) (by kernel_rfl) (by simp) ?_
           refine AllReadyH.cons (o:=⟨none,_,_,_,_,_⟩) rfl (fun K hK => ?_) ?_
           ·have rr0:=(cell_of_row _ _ 0 _ _ _ HN1.out).trans rfl
            have rr1:=(cell_of_row _ _ 1 _ _ _ HN1.out).trans rfl
            have rr2:=(cell_of_row _ _ 2 _ _ _ HN1.out).trans rfl
            have rr3:=(cell_of_row _ _ 3 _ _ _ HN1.out).trans rfl
            have rr4:=(cell_of_row _ _ 4 _ _ _ HN1.out).trans rfl
            have rr5:=(cell_of_row _ _ 5 _ _ _ HN1.out).trans rfl
            have rr6:=(cell_of_row _ _ 6 _ _ _ HN1.out).trans rfl
            have ss0:=frozen_of_row _ _ 0 _ _ HN1.out
            have ss1:=frozen_of_row _ _ 1 _ _ HN1.out
            have ss2:=frozen_of_row _ _ 2 _ _ HN1.out
            have ss3:=frozen_of_row _ _ 3 _ _ HN1.out
            have ss4:=frozen_of_row _ _ 4 _ _ HN1.out
            have ss5:=frozen_of_row _ _ 5 _ _ HN1.out
            have ss6:=frozen_of_row _ _ 6 _ _ HN1.out
            go_simp
            have hch : (((((((wc1.setCell ⟨g9,0,none⟩ (.string (Tr.ts y0))).setCell ⟨g9,1,none⟩ (.int .u8 (P.a : Int))).setCell ⟨g9,2,none⟩ (.int .u8 (P.b : Int))).setCell ⟨g9,3,none⟩ (.int .u8 (P.c : Int))).setCell ⟨g9,4,none⟩ (.int .u8 (P.d : Int))).setCell ⟨g9,5,none⟩ (.int .u16 (P.port : Int))).setCell ⟨g9,6,none⟩ (.slice none 0 0))=sets wc1 g9 0 [.string (Tr.ts y0),.int .u8 (P.a : Int),.int .u8 (P.b : Int),.int .u8 (P.c : Int),.int .u8 (P.d : Int),.int .u16 (P.port : Int),.slice none 0 0]:=rfl
            rw [hch]
            clear hch
            have HB2:=Lib.hid (sets_below (g:=g9) [.string (Tr.ts y0),.int .u8 (P.a : Int),.int .u8 (P.b : Int),.int .u8 (P.c : Int),.int .u8 (P.d : Int),.int .u16 (P.port : Int),.slice none 0 0] 0 _ HB1.out (by have:=HG9.out; omega))
            have HX2:=Lib.hid (show Bk (sets wc1 g9 0 [.string (Tr.ts y0),.int .u8 (P.a : Int),.int .u8 (P.b : Int),.int .u8 (P.c : Int),.int .u8 (P.d : Int),.int .u16 (P.port : Int),.slice none 0 0]) _ _ _ from (sets_other g9 _ (by have:=HG9.out; omega) [.string (Tr.ts y0),.int .u8 (P.a : Int),.int .u8 (P.b : Int),.int .u8 (P.c : Int),.int .u8 (P.d : Int),.int .u16 (P.port : Int),.slice none 0 0] 0 _).trans HX1.out)
            have HP2:=Lib.hid (show Bk (sets wc1 g9 0 [.string (Tr.ts y0),.int .u8 (P.a : Int),.int .u8 (P.b : Int),.int .u8 (P.c : Int),.int .u8 (P.d : Int),.int .u16 (P.port : Int),.slice none 0 0]) _ _ _ from (sets_other g9 _ (by have:=HG9.out; omega) [.string (Tr.ts y0),.int .u8 (P.a : Int),.int .u8 (P.b : Int),.int .u8 (P.c : Int),.int .u8 (P.d : Int),.int .u16 (P.port : Int),.slice none 0 0] 0 _).trans HP1.out)
            have HN2 : Hid (Bk (sets wc1 g9 0 [.string (Tr.ts y0),.int .u8 (P.a : Int),.int .u8 (P.b : Int),.int .u8 (P.c : Int),.int .u8 (P.d : Int),.int .u16 (P.port : Int),.slice none 0 0]) g9 #[.string (Tr.ts y0),.int .u8 (P.a : Int),.int .u8 (P.b : Int),.int .u8 (P.c : Int),.int .u8 (P.d : Int),.int .u16 (P.port : Int),.slice none 0 0] 85):=Lib.hid (sets_bk [.string (Tr.ts y0),.int .u8 (P.a : Int),.int .u8 (P.b : Int),.int .u8 (P.c : Int),.int .u8 (P.d : Int),.int .u16 (P.port : Int),.slice none 0 0] [.string ⟨#[]⟩,.int .u8 0,.int .u8 0,.int .u8 0,.int .u8 0,.int .u16 0,.slice none 0 0] [] rfl HN1.out)
            refine hK.out _ _ (mkS.out _ HX2.out HP2.out HB2.out) (fun hj8 => ?_)
            clear hK K hj9
            have hj9:=hj8
            clear hj8
            clear rr0 ss0 rr1 ss1 rr2 ss2 rr3 ss3 rr4 ss4 rr5 ss5 rr6 ss6
            try simp only [Act.put,pS]
            try dsimp only [p0,p1]
            generalize sets wc1 g9 0 [.string (Tr.ts y0),.int .u8 (P.a : Int),.int .u8 (P.b : Int),.int .u8 (P.c : Int),.int .u8 (P.d : Int),.int .u16 (P.port : Int),.slice none 0 0]=wc2 at *
            refine wpAnyH_done (by kernel_rfl) ?_ _
            simp only [Exit.inBlock,Exit.then]
            apply_assumption
            have HB20:=HB2
            have HX20:=HX2
            have HN20:=HN2
            generalize wc2=w20 at *
            obtain ⟨⟨f0,f1,f2,f3⟩,_⟩:=bk4 HX20.out
            obtain ⟨a0,a1,a2,a3⟩:=HCy0.out _ (HZB.out _ HB20.out)
            obtain ⟨a4,a5,a6,a7⟩:=HCy1.out _ (HZB.out _ HB20.out)
            obtain ⟨a8,a9,a10,a11⟩:=HCy2.out _ (HZB.out _ HB20.out)
            obtain ⟨po5,qo5,b5,g5,_,_,_,hf5,hn5,ho5,hE5⟩:=HVy2.out.child
            obtain ⟨rfl,rfl⟩ : py2=po5∧qy2=qo5:=by simpa using hf5
            have HE5:=Lib.hid hE5
            have HQ5:=Lib.hid ho5
            have HN5:=Lib.hid hn5
            clear hE5 ho5 hn5 hf5
            have HBADR : Hid (∀ y ∈ Tr.tl y2,wrR y=true→wrC t=true):=Lib.hid (fun y hy h => HBX.out (by rw [HWL.out.1,wrL_eq HKy2.out,List.any_eq_true.2 ⟨y,hy,h⟩]; simp))
            go_wp2
            go_loopw [107] (fun y wz => ∃ (j : Nat) (v : Value),y=.int .i64 j∧j≤(Tr.tl y2).length∧Hid (Bk wz g9 #[.string (Tr.ts y0),.int .u8 (P.a : Int),.int .u8 (P.b : Int),.int .u8 (P.c : Int),.int .u8 (P.d : Int),.int .u16 (P.port : Int),v] 85)∧Hid (wz.ownsRow (g9+1) 86 4 v j ((((Tr.tl y2).take j).map rdR).flatMap Rt.cs))∧Hid (((Tr.tl y2).take j).any wrR=false)∧Hid (Below w10.heap.size w10 wz)) (fun y _ => (Tr.tl y2).length - (intOf y).toNat)
            case atStart => exact ⟨0,_,rfl,Nat.zero_le _,HN20,Lib.hid (by rw [List.take_zero]; exact World.ownsRow_nil _ _ _ _),Lib.hid (by rw [List.take_zero]; rfl),HB20⟩
            case round =>
             rename World => w30
             clear f0 f1 f2 f3 a0 a1 a2 a3 a4 a5 a6 a7 a8 a9 a10 a11
             obtain ⟨j,v,rfl,hj,HN30,HV30,HA30,HB30⟩:=hrel
             by_cases hlj : j < (Tr.tl y2).length
             ·obtain ⟨py,qy,hcy,hvy⟩:=HE5.out j hlj
              have ho:=HQ5.out (by omega)
              subst ho
              have HTJ : Hid ((Tr.tl y2).take j++[(Tr.tl y2)[j]'hlj]=(Tr.tl y2).take (j+1)):=Lib.hid (by rw [List.take_append_getElem])
              have HMY : Hid ((Tr.tl y2)[j]'hlj ∈ Tr.tl y2):=Lib.hid (List.getElem_mem hlj)
              have HNJ:=Lib.hid (show j≤1000000 by have:=HN5.out; omega)
              have q2 : (j : Int) < ((Tr.tl y2).length : Int):=by omega
              have q4 : ((Tr.tl y2).length : Int)≤1000000:=by have:=HN5.out; omega
              generalize (Tr.tl y2)[j]'hlj=y at *
              have HLJ:=Lib.hid hlj
              have HBY : Hid (wrR y=true→wrC t=true):=Lib.hid (fun h => HBADR.out y HMY.out h)
              obtain ⟨m,hm⟩ : ∃ m,(Tr.tl y).length=m:=⟨_,rfl⟩
              rw [hm] at hcy hvy
              have HM4:=Lib.hid hm
              have HVY:=Lib.hid hvy
              obtain ⟨e0,e1,e2,e3⟩:=hcy _ (HZB.out _ HB30.out)
              clear hcy hvy hm hlj
              go_upto_region 17 with fail
              have HG11:=Lib.hid (show g9 < w30.heap.size from lt_of_heap HN30.out)
              have hb:=alloc_below w30 (.cells #[.int .i64 (Tr.tk y),.int .u64 (Tr.tn y : Int),.string (Tr.ts y),.slice py m qy] 81)
              have HB31:=Lib.hid (HB30.out.trans (hb.mono HB30.out.size))
              have HN31:=Lib.hid (Bk.later HN30.out hb)
              have HV31:=Lib.hid (own_later HV30.out hb)
              have HY31:=Lib.hid (alloc_at (w:=w30) (g:=w30.heap.size) #[.int .i64 (Tr.tk y),.int .u64 (Tr.tn y : Int),.string (Tr.ts y),.slice py m qy] 81 rfl)
              clear hb e0 e1 e2 e3
              generalize w30.alloc (.cells #[.int .i64 (Tr.tk y),.int .u64 (Tr.tn y : Int),.string (Tr.ts y),.slice py m qy] 81)=w31 at *
              generalize w30.heap.size=g11 at *
              obtain ⟨⟨f0,f1,f2,f3⟩,_⟩:=bk4 HY31.out
              cases hFy : wrF 4 y with
              | true =>
               have HW : Hid (wrC t=true):=Lib.hid (HBY.out (by unfold wrR; rw [hFy]; rfl))
               have KX : Hid (∀ wz,Below w.heap.size w wz→Calls Tryz.prog 81 #[.agg #[.int .i64 (Tr.tk y),.int .u64 (Tr.tn y : Int),.string (Tr.ts y),.slice py m qy],.int .i64 3,.int .i64 4] wz (TrP false wz)):=Lib.hid (fun wz h => by
                have k:=shape_any 3 4 y _ _ _ _ wz (HVY.out.later h)
                rw [show shp 3 4 y=!wrF 4 y from shp_row (n:=4),hFy] at k
                exact k)
               go_wp2_with fail
               refine (KX.out _ (HZB.out _ HB31.out)).mono ?_
               rintro e w32 ⟨rfl,hb⟩
               have HB32:=Lib.hid (HB31.out.trans (hb.mono HB31.out.size))
               have HN32:=Lib.hid (Bk.later HN31.out hb)
               have HV32:=Lib.hid (own_later HV31.out hb)
               have HY32:=Lib.hid (Bk.later HY31.out hb)
               clear hb f0 f1 f2 f3
               have HOe:=Lib.hid (Bk.later HO10.out HB32.out)
               have HZe:=Lib.hid (HZ10.out.later HB32.out)
               obtain ⟨k0,k1,k2⟩:=bk3 HOe.out
               have rr0:=(cell_of_row _ _ 0 _ _ _ HZe.out.rb).trans rfl
               have rr1:=(cell_of_row _ _ 1 _ _ _ HZe.out.rb).trans rfl
               have rr2:=(cell_of_row _ _ 2 _ _ _ HZe.out.rb).trans rfl
               have ss0:=frozen_of_row _ _ 0 _ _ HZe.out.rb
               have ss1:=frozen_of_row _ _ 1 _ _ HZe.out.rb
               have ss2:=frozen_of_row _ _ 2 _ _ HZe.out.rb
               go_wp2
               have hch : (((w32.setCell ⟨w.heap.size+1,0,none⟩ (.int .u64 (Tr.tn x0 : Int))).setCell ⟨w.heap.size+1,1,none⟩ (.slice oV nV cV)).setCell ⟨w.heap.size+1,2,none⟩ (.slice none 0 0))=sets w32 (w.heap.size+1) 0 [.int .u64 (Tr.tn x0 : Int),.slice oV nV cV,.slice none 0 0]:=rfl
               rw [hch]
               clear hch
               have HYf : Hid (Bk (sets w32 (w.heap.size+1) 0 [.int .u64 (Tr.tn x0 : Int),.slice oV nV cV,.slice none 0 0]) (w.heap.size+1) #[.int .u64 (Tr.tn x0 : Int),.slice oV nV cV,.slice none 0 0] 37):=Lib.hid (sets_bk [.int .u64 (Tr.tn x0 : Int),.slice oV nV cV,.slice none 0 0] [.int .u64 0,.slice none 0 0,.slice none 0 0] [] rfl HZe.out.rb)
               have HBf:=Lib.hid (sets_below [.int .u64 (Tr.tn x0 : Int),.slice oV nV cV,.slice none 0 0] 0 w32 HZe.out.b (show w.heap.size≤w.heap.size+1 by omega))
               generalize sets w32 (w.heap.size+1) 0 [.int .u64 (Tr.tn x0 : Int),.slice oV nV cV,.slice none 0 0]=wf at *
               clear k0 k1 k2 rr0 rr1 rr2 ss0 ss1 ss2
               have rr0:=(cell_of_row _ _ 0 _ _ _ HYf.out).trans rfl
               have rr1:=(cell_of_row _ _ 1 _ _ _ HYf.out).trans rfl
               have rr2:=(cell_of_row _ _ 2 _ _ _ HYf.out).trans rfl
               refine bodyPost_ret (v:=.tuple #[.agg #[.int .u64 (Tr.tn x0 : Int),.slice oV nV cV,.slice none 0 0],.bool false]) (by simp [results,Tryz.results37,go_sem, *]) rfl ?_
               exact of_bad HW.out HBf.out
              | false =>
               obtain ⟨hk3,hl3⟩:=wrF_row hFy
               obtain ⟨z0,z1,z2,z3,hlz⟩:=four_of hl3
               obtain rfl : m=4:=HM4.out.symm.trans hl3
               have HWR:=Lib.hid (wrR_at hFy hlz)
               have KX : Hid (∀ wz,Below w.heap.size w wz→Calls Tryz.prog 81 #[.agg #[.int .i64 (Tr.tk y),.int .u64 (Tr.tn y : Int),.string (Tr.ts y),.slice py 4 qy],.int .i64 3,.int .i64 4] wz (TrP true wz)):=Lib.hid (fun wz h => by
                have k:=shape_any 3 4 y _ _ _ _ wz (HVY.out.later h)
                rw [show shp 3 4 y=!wrF 4 y from shp_row (n:=4),hFy] at k
                exact k)
               obtain ⟨pz_,qz_,bbz,ggz,_,_,_,hfx,_,hox,hE_x⟩:=VT.kids HVY.out hlz
               obtain ⟨rfl,rfl⟩ : py=pz_∧qy=qz_:=by simpa using hfx
               have ho:=hox (by simp)
               subst ho
               obtain ⟨pz0,qz0,hc,hv⟩:=hE_x 0 (by simp)
               have HCz0 : Hid (∀ wz,Below w.heap.size w wz→wz.cell? ⟨bbz,ggz,none⟩=some (.int .i64 (Tr.tk z0))∧wz.cell? ⟨bbz,ggz+1,none⟩=some (.int .u64 (Tr.tn z0 : Int))∧wz.cell? ⟨bbz,ggz+2,none⟩=some (.string (Tr.ts z0))∧wz.cell? ⟨bbz,ggz+3,none⟩=some (.slice pz0 (Tr.tl z0).length qz0)):=Lib.hid hc
               have HVz0 : Hid (VT w z0 (.int .i64 (Tr.tk z0)) (.int .u64 (Tr.tn z0 : Int)) (.string (Tr.ts z0)) (.slice pz0 (Tr.tl z0).length qz0)):=Lib.hid hv
               clear hc hv
               obtain ⟨pz1,qz1,hc,hv⟩:=hE_x 1 (by simp)
               have HCz1 : Hid (∀ wz,Below w.heap.size w wz→wz.cell? ⟨bbz,ggz+4,none⟩=some (.int .i64 (Tr.tk z1))∧wz.cell? ⟨bbz,ggz+5,none⟩=some (.int .u64 (Tr.tn z1 : Int))∧wz.cell? ⟨bbz,ggz+6,none⟩=some (.string (Tr.ts z1))∧wz.cell? ⟨bbz,ggz+7,none⟩=some (.slice pz1 (Tr.tl z1).length qz1)):=Lib.hid hc
               have HVz1 : Hid (VT w z1 (.int .i64 (Tr.tk z1)) (.int .u64 (Tr.tn z1 : Int)) (.string (Tr.ts z1)) (.slice pz1 (Tr.tl z1).length qz1)):=Lib.hid hv
               clear hc hv
               obtain ⟨pz2,qz2,hc,hv⟩:=hE_x 2 (by simp)
               have HCz2 : Hid (∀ wz,Below w.heap.size w wz→wz.cell? ⟨bbz,ggz+8,none⟩=some (.int .i64 (Tr.tk z2))∧wz.cell? ⟨bbz,ggz+9,none⟩=some (.int .u64 (Tr.tn z2 : Int))∧wz.cell? ⟨bbz,ggz+10,none⟩=some (.string (Tr.ts z2))∧wz.cell? ⟨bbz,ggz+11,none⟩=some (.slice pz2 (Tr.tl z2).length qz2)):=Lib.hid hc
               have HVz2 : Hid (VT w z2 (.int .i64 (Tr.tk z2)) (.int .u64 (Tr.tn z2 : Int)) (.string (Tr.ts z2)) (.slice pz2 (Tr.tl z2).length qz2)):=Lib.hid hv
               clear hc hv
               obtain ⟨pz3,qz3,hc,hv⟩:=hE_x 3 (by simp)
               have HCz3 : Hid (∀ wz,Below w.heap.size w wz→wz.cell? ⟨bbz,ggz+12,none⟩=some (.int .i64 (Tr.tk z3))∧wz.cell? ⟨bbz,ggz+13,none⟩=some (.int .u64 (Tr.tn z3 : Int))∧wz.cell? ⟨bbz,ggz+14,none⟩=some (.string (Tr.ts z3))∧wz.cell? ⟨bbz,ggz+15,none⟩=some (.slice pz3 (Tr.tl z3).length qz3)):=Lib.hid hc
               have HVz3 : Hid (VT w z3 (.int .i64 (Tr.tk z3)) (.int .u64 (Tr.tn z3 : Int)) (.string (Tr.ts z3)) (.slice pz3 (Tr.tl z3).length qz3)):=Lib.hid hv
               clear hc hv
               clear hE_x hox hfx
               clear hk3 hl3 hlz hFy
               go_wp2_with fail
               refine (KX.out _ (HZB.out _ HB31.out)).mono ?_
               rintro e w32 ⟨rfl,hb⟩
               have HB32:=Lib.hid (HB31.out.trans (hb.mono HB31.out.size))
               have HN32:=Lib.hid (Bk.later HN31.out hb)
               have HV32:=Lib.hid (own_later HV31.out hb)
               have HY32:=Lib.hid (Bk.later HY31.out hb)
               clear hb f0 f1 f2 f3 KX
               obtain ⟨⟨f0,f1,f2,f3⟩,_⟩:=bk4 HY32.out
               obtain ⟨a0,a1,a2,a3⟩:=HCz0.out _ (HZB.out _ HB32.out)
               obtain ⟨a4,a5,a6,a7⟩:=HCz1.out _ (HZB.out _ HB32.out)
               obtain ⟨a8,a9,a10,a11⟩:=HCz2.out _ (HZB.out _ HB32.out)
               obtain ⟨a12,a13,a14,a15⟩:=HCz3.out _ (HZB.out _ HB32.out)
               cases hS : wrS z0 with
               | true =>
                have HW : Hid (wrC t=true):=Lib.hid (HBY.out (by rw [HWR.out.1,hS]; simp))
                have KY : Hid (∀ wz,Below w.heap.size w wz→Calls Tryz.prog 81 #[.agg #[.int .i64 (Tr.tk z0),.int .u64 (Tr.tn z0 : Int),.string (Tr.ts z0),.slice pz0 (Tr.tl z0).length qz0],.int .i64 2,.int .i64 (-1)] wz (TrP false wz)):=Lib.hid (fun wz h => by
                 have k:=shape_any 2 (-1) z0 _ _ _ _ wz (HVz0.out.later h)
                 rw [shp_str,hS] at k
                 exact k)
                go_wp2_with fail
                refine (KY.out _ (HZB.out _ HB32.out)).mono ?_
                rintro e w33 ⟨rfl,hb⟩
                have HB33:=Lib.hid (HB32.out.trans (hb.mono HB32.out.size))
                have HN33:=Lib.hid (Bk.later HN32.out hb)
                have HV33:=Lib.hid (own_later HV32.out hb)
                have HY33:=Lib.hid (Bk.later HY32.out hb)
                clear hb f0 f1 f2 f3 a0 a1 a2 a3 a4 a5 a6 a7 a8 a9 a10 a11 a12 a13 a14 a15
                have HOe:=Lib.hid (Bk.later HO10.out HB33.out)
                have HZe:=Lib.hid (HZ10.out.later HB33.out)
                obtain ⟨k0,k1,k2⟩:=bk3 HOe.out
                have rr0:=(cell_of_row _ _ 0 _ _ _ HZe.out.rb).trans rfl
                have rr1:=(cell_of_row _ _ 1 _ _ _ HZe.out.rb).trans rfl
                have rr2:=(cell_of_row _ _ 2 _ _ _ HZe.out.rb).trans rfl
                have ss0:=frozen_of_row _ _ 0 _ _ HZe.out.rb
                have ss1:=frozen_of_row _ _ 1 _ _ HZe.out.rb
                have ss2:=frozen_of_row _ _ 2 _ _ HZe.out.rb
                go_wp2
                have hch : (((w33.setCell ⟨w.heap.size+1,0,none⟩ (.int .u64 (Tr.tn x0 : Int))).setCell ⟨w.heap.size+1,1,none⟩ (.slice oV nV cV)).setCell ⟨w.heap.size+1,2,none⟩ (.slice none 0 0))=sets w33 (w.heap.size+1) 0 [.int .u64 (Tr.tn x0 : Int),.slice oV nV cV,.slice none 0 0]:=rfl
                rw [hch]
                clear hch
                have HYf : Hid (Bk (sets w33 (w.heap.size+1) 0 [.int .u64 (Tr.tn x0 : Int),.slice oV nV cV,.slice none 0 0]) (w.heap.size+1) #[.int .u64 (Tr.tn x0 : Int),.slice oV nV cV,.slice none 0 0] 37):=Lib.hid (sets_bk [.int .u64 (Tr.tn x0 : Int),.slice oV nV cV,.slice none 0 0] [.int .u64 0,.slice none 0 0,.slice none 0 0] [] rfl HZe.out.rb)
                have HBf:=Lib.hid (sets_below [.int .u64 (Tr.tn x0 : Int),.slice oV nV cV,.slice none 0 0] 0 w33 HZe.out.b (show w.heap.size≤w.heap.size+1 by omega))
                generalize sets w33 (w.heap.size+1) 0 [.int .u64 (Tr.tn x0 : Int),.slice oV nV cV,.slice none 0 0]=wf at *
                clear k0 k1 k2 rr0 rr1 rr2 ss0 ss1 ss2
                have rr0:=(cell_of_row _ _ 0 _ _ _ HYf.out).trans rfl
                have rr1:=(cell_of_row _ _ 1 _ _ _ HYf.out).trans rfl
                have rr2:=(cell_of_row _ _ 2 _ _ _ HYf.out).trans rfl
                refine bodyPost_ret (v:=.tuple #[.agg #[.int .u64 (Tr.tn x0 : Int),.slice oV nV cV,.slice none 0 0],.bool false]) (by simp [results,Tryz.results37,go_sem, *]) rfl ?_
                exact of_bad HW.out HBf.out
               | false =>
                have KY : Hid (∀ wz,Below w.heap.size w wz→Calls Tryz.prog 81 #[.agg #[.int .i64 (Tr.tk z0),.int .u64 (Tr.tn z0 : Int),.string (Tr.ts z0),.slice pz0 (Tr.tl z0).length qz0],.int .i64 2,.int .i64 (-1)] wz (TrP true wz)):=Lib.hid (fun wz h => by
                 have k:=shape_any 2 (-1) z0 _ _ _ _ wz (HVz0.out.later h)
                 rw [shp_str,hS] at k
                 exact k)
                have HSz0:=Lib.hid hS
                clear hS
                go_wp2_with fail
                refine (KY.out _ (HZB.out _ HB32.out)).mono ?_
                rintro e w33 ⟨rfl,hb⟩
                have HB33:=Lib.hid (HB32.out.trans (hb.mono HB32.out.size))
                have HN33:=Lib.hid (Bk.later HN32.out hb)
                have HV33:=Lib.hid (own_later HV32.out hb)
                have HY33:=Lib.hid (Bk.later HY32.out hb)
                clear hb f0 f1 f2 f3 a0 a1 a2 a3 a4 a5 a6 a7 a8 a9 a10 a11 a12 a13 a14 a15 KY
                obtain ⟨⟨f0,f1,f2,f3⟩,_⟩:=bk4 HY33.out
                obtain ⟨a0,a1,a2,a3⟩:=HCz0.out _ (HZB.out _ HB33.out)
                obtain ⟨a4,a5,a6,a7⟩:=HCz1.out _ (HZB.out _ HB33.out)
                obtain ⟨a8,a9,a10,a11⟩:=HCz2.out _ (HZB.out _ HB33.out)
                obtain ⟨a12,a13,a14,a15⟩:=HCz3.out _ (HZB.out _ HB33.out)
                cases hS : wrS z1 with
                | true =>
                 have HW : Hid (wrC t=true):=Lib.hid (HBY.out (by rw [HWR.out.1,hS]; simp))
                 have KY : Hid (∀ wz,Below w.heap.size w wz→Calls Tryz.prog 81 #[.agg #[.int .i64 (Tr.tk z1),.int .u64 (Tr.tn z1 : Int),.string (Tr.ts z1),.slice pz1 (Tr.tl z1).length qz1],.int .i64 2,.int .i64 (-1)] wz (TrP false wz)):=Lib.hid (fun wz h => by
                  have k:=shape_any 2 (-1) z1 _ _ _ _ wz (HVz1.out.later h)
                  rw [shp_str,hS] at k
                  exact k)
                 go_wp2_with fail
                 refine (KY.out _ (HZB.out _ HB33.out)).mono ?_
                 rintro e w34 ⟨rfl,hb⟩
                 have HB34:=Lib.hid (HB33.out.trans (hb.mono HB33.out.size))
                 have HN34:=Lib.hid (Bk.later HN33.out hb)
                 have HV34:=Lib.hid (own_later HV33.out hb)
                 have HY34:=Lib.hid (Bk.later HY33.out hb)
                 clear hb f0 f1 f2 f3 a0 a1 a2 a3 a4 a5 a6 a7 a8 a9 a10 a11 a12 a13 a14 a15
                 have HOe:=Lib.hid (Bk.later HO10.out HB34.out)
                 have HZe:=Lib.hid (HZ10.out.later HB34.out)
                 obtain ⟨k0,k1,k2⟩:=bk3 HOe.out
                 have rr0:=(cell_of_row _ _ 0 _ _ _ HZe.out.rb).trans rfl
                 have rr1:=(cell_of_row _ _ 1 _ _ _ HZe.out.rb).trans rfl
                 have rr2:=(cell_of_row _ _ 2 _ _ _ HZe.out.rb).trans rfl
                 have ss0:=frozen_of_row _ _ 0 _ _ HZe.out.rb
                 have ss1:=frozen_of_row _ _ 1 _ _ HZe.out.rb
                 have ss2:=frozen_of_row _ _ 2 _ _ HZe.out.rb
                 go_wp2
                 have hch : (((w34.setCell ⟨w.heap.size+1,0,none⟩ (.int .u64 (Tr.tn x0 : Int))).setCell ⟨w.heap.size+1,1,none⟩ (.slice oV nV cV)).setCell ⟨w.heap.size+1,2,none⟩ (.slice none 0 0))=sets w34 (w.heap.size+1) 0 [.int .u64 (Tr.tn x0 : Int),.slice oV nV cV,.slice none 0 0]:=rfl
                 rw [hch]
                 clear hch
                 have HYf : Hid (Bk (sets w34 (w.heap.size+1) 0 [.int .u64 (Tr.tn x0 : Int),.slice oV nV cV,.slice none 0 0]) (w.heap.size+1) #[.int .u64 (Tr.tn x0 : Int),.slice oV nV cV,.slice none 0 0] 37):=Lib.hid (sets_bk [.int .u64 (Tr.tn x0 : Int),.slice oV nV cV,.slice none 0 0] [.int .u64 0,.slice none 0 0,.slice none 0 0] [] rfl HZe.out.rb)
                 have HBf:=Lib.hid (sets_below [.int .u64 (Tr.tn x0 : Int),.slice oV nV cV,.slice none 0 0] 0 w34 HZe.out.b (show w.heap.size≤w.heap.size+1 by omega))
                 generalize sets w34 (w.heap.size+1) 0 [.int .u64 (Tr.tn x0 : Int),.slice oV nV cV,.slice none 0 0]=wf at *
                 clear k0 k1 k2 rr0 rr1 rr2 ss0 ss1 ss2
                 have rr0:=(cell_of_row _ _ 0 _ _ _ HYf.out).trans rfl
                 have rr1:=(cell_of_row _ _ 1 _ _ _ HYf.out).trans rfl
                 have rr2:=(cell_of_row _ _ 2 _ _ _ HYf.out).trans rfl
                 refine bodyPost_ret (v:=.tuple #[.agg #[.int .u64 (Tr.tn x0 : Int),.slice oV nV cV,.slice none 0 0],.bool false]) (by simp [results,Tryz.results37,go_sem, *]) rfl ?_
                 exact of_bad HW.out HBf.out
                | false =>
                 have KY : Hid (∀ wz,Below w.heap.size w wz→Calls Tryz.prog 81 #[.agg #[.int .i64 (Tr.tk z1),.int .u64 (Tr.tn z1 : Int),.string (Tr.ts z1),.slice pz1 (Tr.tl z1).length qz1],.int .i64 2,.int .i64 (-1)] wz (TrP true wz)):=Lib.hid (fun wz h => by
                  have k:=shape_any 2 (-1) z1 _ _ _ _ wz (HVz1.out.later h)
                  rw [shp_str,hS] at k
                  exact k)
                 have HSz1:=Lib.hid hS
                 clear hS
                 go_wp2_with fail
                 refine (KY.out _ (HZB.out _ HB33.out)).mono ?_
                 rintro e w34 ⟨rfl,hb⟩
                 have HB34:=Lib.hid (HB33.out.trans (hb.mono HB33.out.size))
                 have HN34:=Lib.hid (Bk.later HN33.out hb)
                 have HV34:=Lib.hid (own_later HV33.out hb)
                 have HY34:=Lib.hid (Bk.later HY33.out hb)
                 clear hb f0 f1 f2 f3 a0 a1 a2 a3 a4 a5 a6 a7 a8 a9 a10 a11 a12 a13 a14 a15 KY
                 obtain ⟨⟨f0,f1,f2,f3⟩,_⟩:=bk4 HY34.out
                 obtain ⟨a0,a1,a2,a3⟩:=HCz0.out _ (HZB.out _ HB34.out)
                 obtain ⟨a4,a5,a6,a7⟩:=HCz1.out _ (HZB.out _ HB34.out)
                 obtain ⟨a8,a9,a10,a11⟩:=HCz2.out _ (HZB.out _ HB34.out)
                 obtain ⟨a12,a13,a14,a15⟩:=HCz3.out _ (HZB.out _ HB34.out)
                 cases hS : wrS z2 with
                 | true =>
                  have HW : Hid (wrC t=true):=Lib.hid (HBY.out (by rw [HWR.out.1,hS]; simp))
                  have KY : Hid (∀ wz,Below w.heap.size w wz→Calls Tryz.prog 81 #[.agg #[.int .i64 (Tr.tk z2),.int .u64 (Tr.tn z2 : Int),.string (Tr.ts z2),.slice pz2 (Tr.tl z2).length qz2],.int .i64 2,.int .i64 (-1)] wz (TrP false wz)):=Lib.hid (fun wz h => by
                   have k:=shape_any 2 (-1) z2 _ _ _ _ wz (HVz2.out.later h)
                   rw [shp_str,hS] at k
                   exact k)
                  go_wp2_with fail
                  refine (KY.out _ (HZB.out _ HB34.out)).mono ?_
                  rintro e w35 ⟨rfl,hb⟩
                  have HB35:=Lib.hid (HB34.out.trans (hb.mono HB34.out.size))
                  have HN35:=Lib.hid (Bk.later HN34.out hb)
                  have HV35:=Lib.hid (own_later HV34.out hb)
                  have HY35:=Lib.hid (Bk.later HY34.out hb)
                  clear hb f0 f1 f2 f3 a0 a1 a2 a3 a4 a5 a6 a7 a8 a9 a10 a11 a12 a13 a14 a15
                  have HOe:=Lib.hid (Bk.later HO10.out HB35.out)
                  have HZe:=Lib.hid (HZ10.out.later HB35.out)
                  obtain ⟨k0,k1,k2⟩:=bk3 HOe.out
                  have rr0:=(cell_of_row _ _ 0 _ _ _ HZe.out.rb).trans rfl
                  have rr1:=(cell_of_row _ _ 1 _ _ _ HZe.out.rb).trans rfl
                  have rr2:=(cell_of_row _ _ 2 _ _ _ HZe.out.rb).trans rfl
                  have ss0:=frozen_of_row _ _ 0 _ _ HZe.out.rb
                  have ss1:=frozen_of_row _ _ 1 _ _ HZe.out.rb
                  have ss2:=frozen_of_row _ _ 2 _ _ HZe.out.rb
                  go_wp2
                  have hch : (((w35.setCell ⟨w.heap.size+1,0,none⟩ (.int .u64 (Tr.tn x0 : Int))).setCell ⟨w.heap.size+1,1,none⟩ (.slice oV nV cV)).setCell ⟨w.heap.size+1,2,none⟩ (.slice none 0 0))=sets w35 (w.heap.size+1) 0 [.int .u64 (Tr.tn x0 : Int),.slice oV nV cV,.slice none 0 0]:=rfl
                  rw [hch]
                  clear hch
                  have HYf : Hid (Bk (sets w35 (w.heap.size+1) 0 [.int .u64 (Tr.tn x0 : Int),.slice oV nV cV,.slice none 0 0]) (w.heap.size+1) #[.int .u64 (Tr.tn x0 : Int),.slice oV nV cV,.slice none 0 0] 37):=Lib.hid (sets_bk [.int .u64 (Tr.tn x0 : Int),.slice oV nV cV,.slice none 0 0] [.int .u64 0,.slice none 0 0,.slice none 0 0] [] rfl HZe.out.rb)
                  have HBf:=Lib.hid (sets_below [.int .u64 (Tr.tn x0 : Int),.slice oV nV cV,.slice none 0 0] 0 w35 HZe.out.b (show w.heap.size≤w.heap.size+1 by omega))
                  generalize sets w35 (w.heap.size+1) 0 [.int .u64 (Tr.tn x0 : Int),.slice oV nV cV,.slice none 0 0]=wf at *
                  clear k0 k1 k2 rr0 rr1 rr2 ss0 ss1 ss2
                  have rr0:=(cell_of_row _ _ 0 _ _ _ HYf.out).trans rfl
                  have rr1:=(cell_of_row _ _ 1 _ _ _ HYf.out).trans rfl
                  have rr2:=(cell_of_row _ _ 2 _ _ _ HYf.out).trans rfl
                  refine bodyPost_ret (v:=.tuple #[.agg #[.int .u64 (Tr.tn x0 : Int),.slice oV nV cV,.slice none 0 0],.bool false]) (by simp [results,Tryz.results37,go_sem, *]) rfl ?_
                  exact of_bad HW.out HBf.out
                 | false =>
                  have KY : Hid (∀ wz,Below w.heap.size w wz→Calls Tryz.prog 81 #[.agg #[.int .i64 (Tr.tk z2),.int .u64 (Tr.tn z2 : Int),.string (Tr.ts z2),.slice pz2 (Tr.tl z2).length qz2],.int .i64 2,.int .i64 (-1)] wz (TrP true wz)):=Lib.hid (fun wz h => by
                   have k:=shape_any 2 (-1) z2 _ _ _ _ wz (HVz2.out.later h)
                   rw [shp_str,hS] at k
                   exact k)
                  have HSz2:=Lib.hid hS
                  clear hS
                  go_wp2_with fail
                  refine (KY.out _ (HZB.out _ HB34.out)).mono ?_
                  rintro e w35 ⟨rfl,hb⟩
                  have HB35:=Lib.hid (HB34.out.trans (hb.mono HB34.out.size))
                  have HN35:=Lib.hid (Bk.later HN34.out hb)
                  have HV35:=Lib.hid (own_later HV34.out hb)
                  have HY35:=Lib.hid (Bk.later HY34.out hb)
                  clear hb f0 f1 f2 f3 a0 a1 a2 a3 a4 a5 a6 a7 a8 a9 a10 a11 a12 a13 a14 a15 KY
                  obtain ⟨⟨f0,f1,f2,f3⟩,_⟩:=bk4 HY35.out
                  obtain ⟨a0,a1,a2,a3⟩:=HCz0.out _ (HZB.out _ HB35.out)
                  obtain ⟨a4,a5,a6,a7⟩:=HCz1.out _ (HZB.out _ HB35.out)
                  obtain ⟨a8,a9,a10,a11⟩:=HCz2.out _ (HZB.out _ HB35.out)
                  obtain ⟨a12,a13,a14,a15⟩:=HCz3.out _ (HZB.out _ HB35.out)
                  cases hS : wrN z3 with
                  | true =>
                   have HW : Hid (wrC t=true):=Lib.hid (HBY.out (by rw [HWR.out.1,hS]; simp))
                   have KY : Hid (∀ wz,Below w.heap.size w wz→Calls Tryz.prog 81 #[.agg #[.int .i64 (Tr.tk z3),.int .u64 (Tr.tn z3 : Int),.string (Tr.ts z3),.slice pz3 (Tr.tl z3).length qz3],.int .i64 1,.int .i64 (-1)] wz (TrP false wz)):=Lib.hid (fun wz h => by
                    have k:=shape_any 1 (-1) z3 _ _ _ _ wz (HVz3.out.later h)
                    rw [shp_num,hS] at k
                    exact k)
                   go_wp2_with fail
                   refine (KY.out _ (HZB.out _ HB35.out)).mono ?_
                   rintro e w36 ⟨rfl,hb⟩
                   have HB36:=Lib.hid (HB35.out.trans (hb.mono HB35.out.size))
                   have HN36:=Lib.hid (Bk.later HN35.out hb)
                   have HV36:=Lib.hid (own_later HV35.out hb)
                   have HY36:=Lib.hid (Bk.later HY35.out hb)
                   clear hb f0 f1 f2 f3 a0 a1 a2 a3 a4 a5 a6 a7 a8 a9 a10 a11 a12 a13 a14 a15
                   have HOe:=Lib.hid (Bk.later HO10.out HB36.out)
                   have HZe:=Lib.hid (HZ10.out.later HB36.out)
                   obtain ⟨k0,k1,k2⟩:=bk3 HOe.out
                   have rr0:=(cell_of_row _ _ 0 _ _ _ HZe.out.rb).trans rfl
                   have rr1:=(cell_of_row _ _ 1 _ _ _ HZe.out.rb).trans rfl
                   have rr2:=(cell_of_row _ _ 2 _ _ _ HZe.out.rb).trans rfl
                   have ss0:=frozen_of_row _ _ 0 _ _ HZe.out.rb
                   have ss1:=frozen_of_row _ _ 1 _ _ HZe.out.rb
                   have ss2:=frozen_of_row _ _ 2 _ _ HZe.out.rb
                   go_wp2
                   have hch : (((w36.setCell ⟨w.heap.size+1,0,none⟩ (.int .u64 (Tr.tn x0 : Int))).setCell ⟨w.heap.size+1,1,none⟩ (.slice oV nV cV)).setCell ⟨w.heap.size+1,2,none⟩ (.slice none 0 0))=sets w36 (w.heap.size+1) 0 [.int .u64 (Tr.tn x0 : Int),.slice oV nV cV,.slice none 0 0]:=rfl
                   rw [hch]
                   clear hch
                   have HYf : Hid (Bk (sets w36 (w.heap.size+1) 0 [.int .u64 (Tr.tn x0 : Int),.slice oV nV cV,.slice none 0 0]) (w.heap.size+1) #[.int .u64 (Tr.tn x0 : Int),.slice oV nV cV,.slice none 0 0] 37):=Lib.hid (sets_bk [.int .u64 (Tr.tn x0 : Int),.slice oV nV cV,.slice none 0 0] [.int .u64 0,.slice none 0 0,.slice none 0 0] [] rfl HZe.out.rb)
                   have HBf:=Lib.hid (sets_below [.int .u64 (Tr.tn x0 : Int),.slice oV nV cV,.slice none 0 0] 0 w36 HZe.out.b (show w.heap.size≤w.heap.size+1 by omega))
                   generalize sets w36 (w.heap.size+1) 0 [.int .u64 (Tr.tn x0 : Int),.slice oV nV cV,.slice none 0 0]=wf at *
                   clear k0 k1 k2 rr0 rr1 rr2 ss0 ss1 ss2
                   have rr0:=(cell_of_row _ _ 0 _ _ _ HYf.out).trans rfl
                   have rr1:=(cell_of_row _ _ 1 _ _ _ HYf.out).trans rfl
                   have rr2:=(cell_of_row _ _ 2 _ _ _ HYf.out).trans rfl
                   refine bodyPost_ret (v:=.tuple #[.agg #[.int .u64 (Tr.tn x0 : Int),.slice oV nV cV,.slice none 0 0],.bool false]) (by simp [results,Tryz.results37,go_sem, *]) rfl ?_
                   exact of_bad HW.out HBf.out
                  | false =>
                   have KY : Hid (∀ wz,Below w.heap.size w wz→Calls Tryz.prog 81 #[.agg #[.int .i64 (Tr.tk z3),.int .u64 (Tr.tn z3 : Int),.string (Tr.ts z3),.slice pz3 (Tr.tl z3).length qz3],.int .i64 1,.int .i64 (-1)] wz (TrP true wz)):=Lib.hid (fun wz h => by
                    have k:=shape_any 1 (-1) z3 _ _ _ _ wz (HVz3.out.later h)
                    rw [shp_num,hS] at k
                    exact k)
                   have HSz3:=Lib.hid hS
                   clear hS
                   go_wp2_with fail
                   refine (KY.out _ (HZB.out _ HB35.out)).mono ?_
                   rintro e w36 ⟨rfl,hb⟩
                   have HB36:=Lib.hid (HB35.out.trans (hb.mono HB35.out.size))
                   have HN36:=Lib.hid (Bk.later HN35.out hb)
                   have HV36:=Lib.hid (own_later HV35.out hb)
                   have HY36:=Lib.hid (Bk.later HY35.out hb)
                   clear hb f0 f1 f2 f3 a0 a1 a2 a3 a4 a5 a6 a7 a8 a9 a10 a11 a12 a13 a14 a15 KY
                   obtain ⟨⟨f0,f1,f2,f3⟩,_⟩:=bk4 HY36.out
                   obtain ⟨a0,a1,a2,a3⟩:=HCz0.out _ (HZB.out _ HB36.out)
                   obtain ⟨a4,a5,a6,a7⟩:=HCz1.out _ (HZB.out _ HB36.out)
                   obtain ⟨a8,a9,a10,a11⟩:=HCz2.out _ (HZB.out _ HB36.out)
                   obtain ⟨a12,a13,a14,a15⟩:=HCz3.out _ (HZB.out _ HB36.out)
                   go_upto_region 19 with fail
                   have hb:=(Below.refl w36.heap.size w36).drew
                   have HB0:=Lib.hid (HB36.out.trans (hb.mono HB36.out.size))
                   have HN0:=Lib.hid (Bk.later HN36.out hb)
                   have HV0:=Lib.hid (own_later HV36.out hb)
                   have HY0:=Lib.hid (Bk.later HY36.out hb)
                   clear hb
                   have mkS : Hid (∀ wz,Bk wz g11 #[.int .i64 (Tr.tk y),.int .u64 (Tr.tn y : Int),.string (Tr.ts y),.slice (some ⟨bbz,ggz,none⟩) 4 qy] 81→Below w10.heap.size w10 wz→wz.cell? ⟨g11,0,none⟩=some (.int .i64 (Tr.tk y))∧wz.cell? ⟨g11,1,none⟩=some (.int .u64 (Tr.tn y : Int))∧wz.cell? ⟨g11,2,none⟩=some (.string (Tr.ts y))∧wz.cell? ⟨g11,3,none⟩=some (.slice (some ⟨bbz,ggz,none⟩) 4 qy)∧(wz.cell? ⟨bbz,ggz,none⟩=some (.int .i64 (Tr.tk z0))∧wz.cell? ⟨bbz,ggz+1,none⟩=some (.int .u64 (Tr.tn z0 : Int))∧wz.cell? ⟨bbz,ggz+2,none⟩=some (.string (Tr.ts z0))∧wz.cell? ⟨bbz,ggz+3,none⟩=some (.slice pz0 (Tr.tl z0).length qz0))∧(wz.cell? ⟨bbz,ggz+4,none⟩=some (.int .i64 (Tr.tk z1))∧wz.cell? ⟨bbz,ggz+5,none⟩=some (.int .u64 (Tr.tn z1 : Int))∧wz.cell? ⟨bbz,ggz+6,none⟩=some (.string (Tr.ts z1))∧wz.cell? ⟨bbz,ggz+7,none⟩=some (.slice pz1 (Tr.tl z1).length qz1))∧(wz.cell? ⟨bbz,ggz+8,none⟩=some (.int .i64 (Tr.tk z2))∧wz.cell? ⟨bbz,ggz+9,none⟩=some (.int .u64 (Tr.tn z2 : Int))∧wz.cell? ⟨bbz,ggz+10,none⟩=some (.string (Tr.ts z2))∧wz.cell? ⟨bbz,ggz+11,none⟩=some (.slice pz2 (Tr.tl z2).length qz2))∧(wz.cell? ⟨bbz,ggz+12,none⟩=some (.int .i64 (Tr.tk z3))∧wz.cell? ⟨bbz,ggz+13,none⟩=some (.int .u64 (Tr.tn z3 : Int))∧wz.cell? ⟨bbz,ggz+14,none⟩=some (.string (Tr.ts z3))∧wz.cell? ⟨bbz,ggz+15,none⟩=some (.slice pz3 (Tr.tl z3).length qz3))∧Hid True):=Lib.hid (fun wz s0 s1 => ⟨(cell_of_row _ _ 0 _ _ _ s0).trans rfl,(cell_of_row _ _ 1 _ _ _ s0).trans rfl,(cell_of_row _ _ 2 _ _ _ s0).trans rfl,(cell_of_row _ _ 3 _ _ _ s0).trans rfl,HCz0.out wz (HZB.out wz s1),HCz1.out wz (HZB.out wz s1),HCz2.out wz (HZB.out wz s1),HCz3.out wz (HZB.out wz s1),Lib.hid True.intro⟩)
                   refine wp_region_held_drew (S:=fun wz => wz.cell? ⟨g11,0,none⟩=some (.int .i64 (Tr.tk y))∧wz.cell? ⟨g11,1,none⟩=some (.int .u64 (Tr.tn y : Int))∧wz.cell? ⟨g11,2,none⟩=some (.string (Tr.ts y))∧wz.cell? ⟨g11,3,none⟩=some (.slice (some ⟨bbz,ggz,none⟩) 4 qy)∧(wz.cell? ⟨bbz,ggz,none⟩=some (.int .i64 (Tr.tk z0))∧wz.cell? ⟨bbz,ggz+1,none⟩=some (.int .u64 (Tr.tn z0 : Int))∧wz.cell? ⟨bbz,ggz+2,none⟩=some (.string (Tr.ts z0))∧wz.cell? ⟨bbz,ggz+3,none⟩=some (.slice pz0 (Tr.tl z0).length qz0))∧(wz.cell? ⟨bbz,ggz+4,none⟩=some (.int .i64 (Tr.tk z1))∧wz.cell? ⟨bbz,ggz+5,none⟩=some (.int .u64 (Tr.tn z1 : Int))∧wz.cell? ⟨bbz,ggz+6,none⟩=some (.string (Tr.ts z1))∧wz.cell? ⟨bbz,ggz+7,none⟩=some (.slice pz1 (Tr.tl z1).length qz1))∧(wz.cell? ⟨bbz,ggz+8,none⟩=some (.int .i64 (Tr.tk z2))∧wz.cell? ⟨bbz,ggz+9,none⟩=some (.int .u64 (Tr.tn z2 : Int))∧wz.cell? ⟨bbz,ggz+10,none⟩=some (.string (Tr.ts z2))∧wz.cell? ⟨bbz,ggz+11,none⟩=some (.slice pz2 (Tr.tl z2).length qz2))∧(wz.cell? ⟨bbz,ggz+12,none⟩=some (.int .i64 (Tr.tk z3))∧wz.cell? ⟨bbz,ggz+13,none⟩=some (.int .u64 (Tr.tn z3 : Int))∧wz.cell? ⟨bbz,ggz+14,none⟩=some (.string (Tr.ts z3))∧wz.cell? ⟨bbz,ggz+15,none⟩=some (.slice pz3 (Tr.tl z3).length qz3))∧Hid True) (by kernel_rfl) (mkS.out _ HY0.out HB0.out) (fun hj9 => ?_)
                   generalize w36.drew=wc0 at *
                   refine tkH (i:=0) (oi:=⟨some 147,_,_,_,_,_⟩) (v:=?_) rfl (Or.inl ⟨by rfl,by (intro w hSw; (try dsimp only at hSw); go_simp; try with_reducible rfl)⟩) hj9 ?_
                   try simp only [Act.put,pS]
                   try dsimp only [p0,p1]
                   refine tkH (i:=2) (oi:=⟨some 149,_,_,_,_,_⟩) (v:=?_) rfl (Or.inl ⟨by rfl,by (intro w hSw; (try dsimp only at hSw); go_simp; try with_reducible rfl)⟩) hj9 ?_
                   try simp only [Act.put,pS]
                   try dsimp only [p0,p1]
                   refine tkH (i:=3) (oi:=⟨some 150,_,_,_,_,_⟩) (v:=?_) rfl (Or.inl ⟨by rfl,by (intro w hSw; (try dsimp only at hSw); go_simp; try with_reducible rfl)⟩) hj9 ?_
                   try simp only [Act.put,pS]
                   try dsimp only [p0,p1]
                   refine tkH (i:=4) (oi:=⟨some 151,_,_,_,_,_⟩) (v:=?_) rfl (Or.inl ⟨by rfl,by (intro w hSw; (try dsimp only at hSw); go_simp; try with_reducible rfl)⟩) hj9 ?_
                   try simp only [Act.put,pS]
                   try dsimp only [p0,p1]
                   refine tkH (i:=5) (oi:=⟨some 152,_,_,_,_,_⟩) (v:=?_) rfl (Or.inl ⟨by rfl,by (intro w hSw; (try dsimp only at hSw); go_simp; try with_reducible rfl)⟩) hj9 ?_
                   try simp only [Act.put,pS]
                   try dsimp only [p0,p1]
                   refine tkH (i:=6) (oi:=⟨some 153,_,_,_,_,_⟩) (v:=?_) rfl (Or.inl ⟨by rfl,by (intro w hSw; (try dsimp only at hSw); go_simp; try with_reducible rfl)⟩) hj9 ?_
                   try simp only [Act.put,pS]
                   try dsimp only [p0,p1]
                   refine tkH (i:=7) (oi:=⟨some 154,_,_,_,_,_⟩) (v:=?_) rfl (Or.inl ⟨by rfl,by (intro w hSw; (try dsimp only at hSw); go_simp; try with_reducible rfl)⟩) hj9 ?_
                   try simp only [Act.put,pS]
                   try dsimp only [p0,p1]
                   refine tkH (i:=8) (oi:=⟨some 155,_,_,_,_,_⟩) (v:=?_) rfl (Or.inl ⟨by rfl,by (intro w hSw; (try dsimp only at hSw); go_simp; try with_reducible rfl)⟩) hj9 ?_
                   try simp only [Act.put,pS]
                   try dsimp only [p0,p1]
                   refine tkH (i:=9) (oi:=⟨some 156,_,_,_,_,_⟩) (v:=?_) rfl (Or.inl ⟨by rfl,by (intro w hSw; (try dsimp only at hSw); go_simp; try with_reducible rfl)⟩) hj9 ?_
                   try simp only [Act.put,pS]
                   try dsimp only [p0,p1]
                   refine tkH (i:=10) (oi:=⟨some 157,_,_,_,_,_⟩) (v:=?_) rfl (Or.inl ⟨by rfl,by (intro w hSw; (try dsimp only at hSw); go_simp; try with_reducible rfl)⟩) hj9 ?_
                   try simp only [Act.put,pS]
                   try dsimp only [p0,p1]
                   refine tkH (i:=11) (oi:=⟨some 158,_,_,_,_,_⟩) (v:=?_) rfl (Or.inl ⟨by rfl,by (intro w hSw; (try dsimp only at hSw); go_simp; try with_reducible rfl)⟩) hj9 ?_
                   try simp only [Act.put,pS]
                   try dsimp only [p0,p1]
                   refine tkH (i:=12) (oi:=⟨some 159,_,_,_,_,_⟩) (v:=?_) rfl (Or.inl ⟨by rfl,by (intro w hSw; (try dsimp only at hSw); go_simp; try with_reducible rfl)⟩) hj9 ?_
                   try simp only [Act.put,pS]
                   try dsimp only [p0,p1]
                   refine tkH (i:=13) (oi:=⟨some 160,_,_,_,_,_⟩) (v:=?_) rfl (Or.inl ⟨by rfl,by (intro w hSw; (try dsimp only at hSw); go_simp; try with_reducible rfl)⟩) hj9 ?_
                   try simp only [Act.put,pS]
                   try dsimp only [p0,p1]
                   refine tkH (i:=14) (oi:=⟨some 161,_,_,_,_,_⟩) (v:=?_) rfl (Or.inl ⟨by rfl,by (intro w hSw; (try dsimp only at hSw); go_simp; try with_reducible rfl)⟩) hj9 ?_
                   try simp only [Act.put,pS]
                   try dsimp only [p0,p1]
                   refine tkH (i:=15) (oi:=⟨some 162,_,_,_,_,_⟩) (v:=?_) rfl (Or.inl ⟨by rfl,by (intro w hSw; (try dsimp only at hSw); go_simp; try with_reducible rfl)⟩) hj9 ?_
                   try simp only [Act.put,pS]
                   try dsimp only [p0,p1]
                   refine tkH (i:=16) (oi:=⟨some 163,_,_,_,_,_⟩) (v:=?_) rfl (Or.inl ⟨by rfl,by (intro w hSw; (try dsimp only at hSw); go_simp; try with_reducible rfl)⟩) hj9 ?_
                   try simp only [Act.put,pS]
                   try dsimp only [p0,p1]
                   refine tkH (i:=17) (oi:=⟨some 164,_,_,_,_,_⟩) (v:=?_) rfl (Or.inl ⟨by rfl,by (intro w hSw; (try dsimp only at hSw); go_simp; try with_reducible rfl)⟩) hj9 ?_
                   try simp only [Act.put,pS]
                   try dsimp only [p0,p1]
                   refine tkH (i:=18) (oi:=⟨some 165,_,_,_,_,_⟩) (v:=?_) rfl (Or.inl ⟨by rfl,by (intro w hSw; (try dsimp only at hSw); go_simp; try with_reducible rfl)⟩) hj9 ?_
                   try simp only [Act.put,pS]
                   try dsimp only [p0,p1]
                   refine tkH (i:=19) (oi:=⟨some 166,_,_,_,_,_⟩) (v:=?_) rfl (Or.inl ⟨by rfl,by (intro w hSw; (try dsimp only at hSw); go_simp; try with_reducible rfl)⟩) hj9 ?_
                   try simp only [Act.put,pS]
                   try dsimp only [p0,p1]
                   refine tkH (i:=20) (oi:=⟨some 167,_,_,_,_,_⟩) (v:=?_) rfl (Or.inl ⟨by rfl,by (intro w hSw; (try dsimp only at hSw); go_simp; try with_reducible rfl)⟩) hj9 ?_
                   try simp only [Act.put,pS]
                   try dsimp only [p0,p1]
                   refine tkH (i:=21) (oi:=⟨some 168,_,_,_,_,_⟩) (v:=?_) rfl (Or.inl ⟨by rfl,by (intro w hSw; (try dsimp only at hSw); go_simp; try with_reducible rfl)⟩) hj9 ?_
                   try simp only [Act.put,pS]
                   try dsimp only [p0,p1]
                   refine tkH (i:=22) (oi:=⟨some 169,_,_,_,_,_⟩) (v:=?_) rfl (Or.inl ⟨by rfl,by (intro w hSw; (try dsimp only at hSw); go_simp; try with_reducible rfl)⟩) hj9 ?_
                   try simp only [Act.put,pS]
                   try dsimp only [p0,p1]
                   refine wpAnyH_ready (rs:=[1,23]) (by kernel_rfl) (by simp) ?_
                   refine AllReadyH.cons (o:=⟨some 148,_,_,_,_,_⟩) rfl (fun K hK => ?_) ?_
                   ·have rr0:=(cell_of_row _ _ 6 _ _ _ HN0.out).trans rfl
                    go_simp
                    refine hK.out _ _ (mkS.out _ HY0.out HB0.out) (fun hj8 => ?_)
                    clear hK K hj9
                    have hj9:=hj8
                    clear hj8
                    clear rr0
                    try simp only [Act.put,pS]
                    try dsimp only [p0,p1]
                    refine wpAnyH_ready (rs:=[23]) (by kernel_rfl) (by simp) ?_
                    refine AllReadyH.cons (o:=⟨some 170,_,_,_,_,_⟩) rfl (fun K hK => ?_) ?_
                    ·go_simp
                     have hbn:=alloc_below wc0 (.cells #[.string (Tr.ts z0),.string (Tr.ts z1),.string (Tr.ts z2),.int .u64 (Tr.tn z3 : Int)] 86)
                     have HB1:=Lib.hid (HB0.out.trans (hbn.mono HB0.out.size))
                     have HN1:=Lib.hid (Bk.later HN0.out hbn)
                     have HV1:=Lib.hid (own_later HV0.out hbn)
                     have HY1:=Lib.hid (Bk.later HY0.out hbn)
                     have HU1:=Lib.hid (alloc_at (w:=wc0) (g:=wc0.heap.size) #[.string (Tr.ts z0),.string (Tr.ts z1),.string (Tr.ts z2),.int .u64 (Tr.tn z3 : Int)] 86 rfl)
                     have HG12:=Lib.hid (show g9 < wc0.heap.size from lt_of_heap HN0.out)
                     refine hK.out _ _ (mkS.out _ HY1.out HB1.out) (fun hj8 => ?_)
                     clear hK K hj9
                     have hj9:=hj8
                     clear hj8
                     clear hbn
                     try simp only [Act.put,pS]
                     try dsimp only [p0,p1]
                     generalize wc0.alloc (.cells #[.string (Tr.ts z0),.string (Tr.ts z1),.string (Tr.ts z2),.int .u64 (Tr.tn z3 : Int)] 86)=wc1 at *
                     generalize wc0.heap.size=g12 at *
                     refine wpAnyH_ready (rs:=[24]) (by kernel_rfl) (by simp) ?_
                     refine AllReadyH.cons (o:=⟨some 171,_,_,_,_,_⟩) rfl (fun K hK => ?_) ?_
                     ·obtain ⟨o6,c6,wc2,hrn,hv6,hg6,hb6⟩:=run_one wc1 (st:=83) (e:=86) (k:=4) (ty:=83) (by kernel_rfl) (by kernel_rfl) (by decide) (g9+1) (v) j ((((Tr.tl y2).take j).map rdR).flatMap Rt.cs) [.string (Tr.ts z0),.string (Tr.ts z1),.string (Tr.ts z2),.int .u64 (Tr.tn z3 : Int)] g12 HV1.out HU1.out rfl (by intro u hu; simp only [List.mem_cons,List.not_mem_nil,or_false] at hu; rcases hu with rfl | rfl | rfl | rfl <;> rfl) (by have:=lt_of_heap HN1.out; omega) HNJ.out
                      refine wp_append_at (.tmp 148) (.tmp 170) rfl rfl rfl hrn ?_
                      clear hrn
                      have HB2:=Lib.hid (HB1.out.trans (hb6.mono (by have:=HG9.out; omega)))
                      have HN2:=Lib.hid (HN1.out.grown HV1.out hg6 (by decide))
                      have HV2:=Lib.hid hv6
                      have HY2:=Lib.hid (HY1.out.grown HV1.out hg6 (by decide))
                      refine hK.out _ _ (mkS.out _ HY2.out HB2.out) (fun hj8 => ?_)
                      clear hK K hj9
                      have hj9:=hj8
                      clear hj8
                      clear hv6 hg6 hb6
                      try simp only [Act.put,pS]
                      try dsimp only [p0,p1]
                      refine tkH (i:=25) (oi:=⟨some 172,_,_,_,_,_⟩) (v:=?_) rfl (Or.inl ⟨by rfl,by (intro w hSw; (try dsimp only at hSw); go_simp; try with_reducible rfl)⟩) hj9 ?_
                      try simp only [Act.put,pS]
                      try dsimp only [p0,p1]
                      refine wpAnyH_ready (rs:=[26]) (by kernel_rfl) (by simp) ?_
                      refine AllReadyH.cons (o:=⟨none,_,_,_,_,_⟩) rfl (fun K hK => ?_) ?_
                      ·have rr0:=(cell_of_row _ _ 6 _ _ _ HN2.out).trans rfl
                       have ss0:=frozen_of_row _ _ 6 _ _ HN2.out
                       go_simp
                       have HB3:=Lib.hid (HB2.out.setCell (p:=⟨g9,6,none⟩) (by have:=HG9.out; show w10.heap.size≤g9; omega) (.slice o6 (j+1) c6))
                       have HN3:=Lib.hid (HN2.out.set (i:=6) (.slice o6 (j+1) c6))
                       have HV3:=Lib.hid (own_set HV2.out HN2.out (by decide) 6 (.slice o6 (j+1) c6))
                       have HY3:=Lib.hid (HY2.out.away (q:=g9) (by have:=HG11.out; omega) 6 (.slice o6 (j+1) c6))
                       refine hK.out _ _ (mkS.out _ HY3.out HB3.out) (fun hj8 => ?_)
                       clear hK K hj9
                       have hj9:=hj8
                       clear hj8
                       clear rr0 ss0
                       try simp only [Act.put,pS]
                       try dsimp only [p0,p1]
                       generalize (wc2.setCell ⟨g9,6,none⟩ (.slice o6 (j+1) c6))=wc3 at *
                       refine wpAnyH_done (by kernel_rfl) ?_ _
                       simp only [Exit.inBlock,Exit.then]
                       apply_assumption
                       have HRz : Hid (rdR y=⟨Tr.ts z0,Tr.ts z1,Tr.ts z2,Tr.tn z3⟩∧wrR y=false):=Lib.hid ⟨by rw [HWR.out.2,txtR_eq (by have h:=HSz0.out; unfold wrS at h; simpa using h),txtR_eq (by have h:=HSz1.out; unfold wrS at h; simpa using h),txtR_eq (by have h:=HSz2.out; unfold wrS at h; simpa using h),numR_eq (by have h:=HSz3.out; unfold wrN at h; simpa using h)],by rw [HWR.out.1,HSz0.out,HSz1.out,HSz2.out,HSz3.out]; rfl⟩
                       have hlj:=HLJ.out
                       try go_wp2
                       exact ⟨⟨j+1,_,by go_num,by omega,HN3,Lib.hid (by rw [← HTJ.out,List.map_append,List.flatMap_append]; have h:=HV3.out; rw [show ([y].map rdR).flatMap Rt.cs=[.string (Tr.ts z0),.string (Tr.ts z1),.string (Tr.ts z2),.int .u64 (Tr.tn z3 : Int)] by simp only [List.map_cons,List.map_nil,HRz.out.1]; rfl]; exact h),Lib.hid (by rw [← HTJ.out,List.any_append,HA30.out]; simp [HRz.out.2]),HB3⟩,by simp [intOf]; omega⟩
                      ·exact AllReadyH.nil
                     ·exact AllReadyH.nil
                    ·exact AllReadyH.nil
                   ·refine AllReadyH.cons (o:=⟨some 170,_,_,_,_,_⟩) rfl (fun K hK => ?_) ?_
                    ·go_simp
                     have hbn:=alloc_below wc0 (.cells #[.string (Tr.ts z0),.string (Tr.ts z1),.string (Tr.ts z2),.int .u64 (Tr.tn z3 : Int)] 86)
                     have HB1:=Lib.hid (HB0.out.trans (hbn.mono HB0.out.size))
                     have HN1:=Lib.hid (Bk.later HN0.out hbn)
                     have HV1:=Lib.hid (own_later HV0.out hbn)
                     have HY1:=Lib.hid (Bk.later HY0.out hbn)
                     have HU1:=Lib.hid (alloc_at (w:=wc0) (g:=wc0.heap.size) #[.string (Tr.ts z0),.string (Tr.ts z1),.string (Tr.ts z2),.int .u64 (Tr.tn z3 : Int)] 86 rfl)
                     have HG12:=Lib.hid (show g9 < wc0.heap.size from lt_of_heap HN0.out)
                     refine hK.out _ _ (mkS.out _ HY1.out HB1.out) (fun hj8 => ?_)
                     clear hK K hj9
                     have hj9:=hj8
                     clear hj8
                     clear hbn
                     try simp only [Act.put,pS]
                     try dsimp only [p0,p1]
                     generalize wc0.alloc (.cells #[.string (Tr.ts z0),.string (Tr.ts z1),.string (Tr.ts z2),.int .u64 (Tr.tn z3 : Int)] 86)=wc1 at *
                     generalize wc0.heap.size=g12 at *
                     refine wpAnyH_ready (rs:=[1]) (by kernel_rfl) (by simp) ?_
                     refine AllReadyH.cons (o:=⟨some 148,_,_,_,_,_⟩) rfl (fun K hK => ?_) ?_
                     ·have rr0:=(cell_of_row _ _ 6 _ _ _ HN1.out).trans rfl
                      go_simp
                      refine hK.out _ _ (mkS.out _ HY1.out HB1.out) (fun hj8 => ?_)
                      clear hK K hj9
                      have hj9:=hj8
                      clear hj8
                      clear rr0
                      try simp only [Act.put,pS]
                      try dsimp only [p0,p1]
                      refine wpAnyH_ready (rs:=[24]) (by kernel_rfl) (by simp) ?_
                      refine AllReadyH.cons (o:=⟨some 171,_,_,_,_,_⟩) rfl (fun K hK => ?_) ?_
                      ·obtain ⟨o6,c6,wc2,hrn,hv6,hg6,hb6⟩:=run_one wc1 (st:=83) (e:=86) (k:=4) (ty:=83) (by kernel_rfl) (by kernel_rfl) (by decide) (g9+1) (v) j ((((Tr.tl y2).take j).map rdR).flatMap Rt.cs) [.string (Tr.ts z0),.string (Tr.ts z1),.string (Tr.ts z2),.int .u64 (Tr.tn z3 : Int)] g12 HV1.out HU1.out rfl (by intro u hu; simp only [List.mem_cons,List.not_mem_nil,or_false] at hu; rcases hu with rfl | rfl | rfl | rfl <;> rfl) (by have:=lt_of_heap HN1.out; omega) HNJ.out
                       refine wp_append_at (.tmp 148) (.tmp 170) rfl rfl rfl hrn ?_
                       clear hrn
                       have HB2:=Lib.hid (HB1.out.trans (hb6.mono (by have:=HG9.out; omega)))
                       have HN2:=Lib.hid (HN1.out.grown HV1.out hg6 (by decide))
                       have HV2:=Lib.hid hv6
                       have HY2:=Lib.hid (HY1.out.grown HV1.out hg6 (by decide))
                       refine hK.out _ _ (mkS.out _ HY2.out HB2.out) (fun hj8 => ?_)
                       clear hK K hj9
                       have hj9:=hj8
                       clear hj8
                       clear hv6 hg6 hb6
                       try simp only [Act.put,pS]
                       try dsimp only [p0,p1]
                       refine tkH (i:=25) (oi:=⟨some 172,_,_,_,_,_⟩) (v:=?_) rfl (Or.inl ⟨by rfl,by (intro w hSw; (try dsimp only at hSw); go_simp; try with_reducible rfl)⟩) hj9 ?_
                       try simp only [Act.put,pS]
                       try dsimp only [p0,p1]
                       refine wpAnyH_ready (rs:=[26]) (by kernel_rfl) (by simp) ?_
                       refine AllReadyH.cons (o:=⟨none,_,_,_,_,_⟩) rfl (fun K hK => ?_) ?_
                       ·have rr0:=(cell_of_row _ _ 6 _ _ _ HN2.out).trans rfl
                        have ss0:=frozen_of_row _ _ 6 _ _ HN2.out
                        go_simp
                        have HB3:=Lib.hid (HB2.out.setCell (p:=⟨g9,6,none⟩) (by have:=HG9.out; show w10.heap.size≤g9; omega) (.slice o6 (j+1) c6))
                        have HN3:=Lib.hid (HN2.out.set (i:=6) (.slice o6 (j+1) c6))
                        have HV3:=Lib.hid (own_set HV2.out HN2.out (by decide) 6 (.slice o6 (j+1) c6))
                        have HY3:=Lib.hid (HY2.out.away (q:=g9) (by have:=HG11.out; omega) 6 (.slice o6 (j+1) c6))
                        refine hK.out _ _ (mkS.out _ HY3.out HB3.out) (fun hj8 => ?_)
                        clear hK K hj9
                        have hj9:=hj8
                        clear hj8
                        clear rr0 ss0
                        try simp only [Act.put,pS]
                        try dsimp only [p0,p1]
                        generalize (wc2.setCell ⟨g9,6,none⟩ (.slice o6 (j+1) c6))=wc3 at *
                        refine wpAnyH_done (by kernel_rfl) ?_ _
                        simp only [Exit.inBlock,Exit.then]
                        apply_assumption
                        have HRz : Hid (rdR y=⟨Tr.ts z0,Tr.ts z1,Tr.ts z2,Tr.tn z3⟩∧wrR y=false):=Lib.hid ⟨by rw [HWR.out.2,txtR_eq (by have h:=HSz0.out; unfold wrS at h; simpa using h),txtR_eq (by have h:=HSz1.out; unfold wrS at h; simpa using h),txtR_eq (by have h:=HSz2.out; unfold wrS at h; simpa using h),numR_eq (by have h:=HSz3.out; unfold wrN at h; simpa using h)],by rw [HWR.out.1,HSz0.out,HSz1.out,HSz2.out,HSz3.out]; rfl⟩
                        have hlj:=HLJ.out
                        try go_wp2
                        exact ⟨⟨j+1,_,by go_num,by omega,HN3,Lib.hid (by rw [← HTJ.out,List.map_append,List.flatMap_append]; have h:=HV3.out; rw [show ([y].map rdR).flatMap Rt.cs=[.string (Tr.ts z0),.string (Tr.ts z1),.string (Tr.ts z2),.int .u64 (Tr.tn z3 : Int)] by simp only [List.map_cons,List.map_nil,HRz.out.1]; rfl]; exact h),Lib.hid (by rw [← HTJ.out,List.any_append,HA30.out]; simp [HRz.out.2]),HB3⟩,by simp [intOf]; omega⟩
                       ·exact AllReadyH.nil
                      ·exact AllReadyH.nil
                     ·exact AllReadyH.nil
                    ·exact AllReadyH.nil
             ·obtain rfl : j=(Tr.tl y2).length:=by omega
              have HLX : Hid (rdLs x=⟨Tr.ts y0,P,(Tr.tl y2).map rdR⟩∧wrLs x=false):=Lib.hid ⟨by rw [HWL.out.2,rows_eq HKy2.out,txtR_eq (by have h:=HSy0.out; unfold wrS at h; simpa using h)],by rw [HWL.out.1,HSy0.out,HSP.out,wrL_eq HKy2.out]; have h:=HA30.out; rw [List.take_length] at h; rw [h]; rfl⟩
              have HVe:=Lib.hid (show w30.ownsRow (g9+1) 86 4 v ((Tr.tl y2).map rdR).length (((Tr.tl y2).map rdR).flatMap Rt.cs) by have h:=HV30.out; rw [List.take_length] at h; rwa [List.length_map])
              obtain ⟨ov,cv2,hfv⟩:=own_form HVe.out
              subst hfv
              rw [List.length_map] at HN30
              have HO30:=Lib.hid (Bk.later HO10.out HB30.out)
              have HZ30:=Lib.hid (HZ10.out.later HB30.out)
              obtain ⟨PL,hPL,hown,hin⟩:=HL10.out.later HB30.out
              have HPL:=Lib.hid hPL
              have HIN2:=Lib.hid hin
              have HWb:=Lib.hid (alloc_below w30 (.cells #[.string (Tr.ts y0),.int .u8 (P.a : Int),.int .u8 (P.b : Int),.int .u8 (P.c : Int),.int .u8 (P.d : Int),.int .u16 (P.port : Int),.slice ov (Tr.tl y2).length cv2] 85))
              have HW1:=Lib.hid (own_later hown HWb.out)
              have HN1':=Lib.hid (alloc_at (w:=w30) (g:=w30.heap.size) #[.string (Tr.ts y0),.int .u8 (P.a : Int),.int .u8 (P.b : Int),.int .u8 (P.c : Int),.int .u8 (P.d : Int),.int .u16 (P.port : Int),.slice ov (Tr.tl y2).length cv2] 85 rfl)
              have HNP:=Lib.hid (show PL.length≤1000000 by have h1 : PL.length=i:=(by rw [← List.length_map (f:=Prod.fst),hPL,List.length_map,List.length_take]; have:=HLT.out; omega); have:=HLI.out; omega)
              have HGE:=Lib.hid (show w.heap.size+3≤(w30.alloc (.cells #[.string (Tr.ts y0),.int .u8 (P.a : Int),.int .u8 (P.b : Int),.int .u8 (P.c : Int),.int .u8 (P.d : Int),.int .u16 (P.port : Int),.slice ov (Tr.tl y2).length cv2] 85)).heap.size by have h1:=HGO.out; have h2:=HB30.out.size; simp; omega)
              have HG9b:=Lib.hid (show w.heap.size+3≤g9+1 by have h1:=HGO.out; have h2:=HG9.out; omega)
              have HONE:=Lib.hid (show ∀ u ∈ ([.string (Tr.ts y0),.int .u8 (P.a : Int),.int .u8 (P.b : Int),.int .u8 (P.c : Int),.int .u8 (P.d : Int),.int .u16 (P.port : Int),.slice ov (Tr.tl y2).length cv2] : List Value),u.oneCell'=true by intro u hu; simp only [List.mem_cons,List.not_mem_nil,or_false] at hu; rcases hu with rfl | rfl | rfl | rfl | rfl | rfl | rfl <;> rfl)
              obtain ⟨t0,t1⟩:=bk3f1 HO30.out
              obtain ⟨s0,s1,s2,s3,s4,s5,s6⟩:=bk7 HN30.out
              clear hPL hown hin
              have hq3 : ¬ (((Tr.tl y2).length : Int) < ((Tr.tl y2).length : Int)):=by omega
              go_wp2_with (first
               | (at_builtin; go_must (refine wpList_append_one (w30.alloc (.cells #[.string (Tr.ts y0),.int .u8 (P.a : Int),.int .u8 (P.b : Int),.int .u8 (P.c : Int),.int .u8 (P.d : Int),.int .u16 (P.port : Int),.slice ov (Tr.tl y2).length cv2] 85)) rfl (.tmp 175) (.tmp 177) (e:=85) (k:=7) Tryz.underlying34 (by kernel_rfl) (by decide) rfl (w.heap.size+3) (.slice oV nV cV) PL.length (PL.flatMap llcs) [.string (Tr.ts y0),.int .u8 (P.a : Int),.int .u8 (P.b : Int),.int .u8 (P.c : Int),.int .u8 (P.d : Int),.int .u16 (P.port : Int),.slice ov (Tr.tl y2).length cv2] w30.heap.size rfl HW1.out rfl HN1'.out rfl HONE.out HGE.out HNP.out ?_); intro v6 w6 hv6 hg6 hb6 hn6; obtain ⟨o6,c6,hf6⟩:=own_form hv6; subst hf6; have HV6:=Lib.hid hv6; have HO6:=Lib.hid ((HO30.out.later HWb.out).grown HW1.out hg6 (by decide)); have HZ6:=Lib.hid ((HZ30.out.later HWb.out).grown HW1.out hg6 (by decide) (by decide) (hb6.mono (by omega))); have HVv:=Lib.hid (own_mono (B':=w.heap.size+3) (own_grown (own_later HVe.out HWb.out) HW1.out hg6 (by decide)) HG9b.out); have HI6:=Lib.hid (fun p hp => own_grown (own_later (HIN2.out p hp) HWb.out) HW1.out hg6 (by decide)); obtain ⟨y0',y1'⟩:=bk3f1 HO6.out; clear hv6 hg6 hb6 hn6))
              have hlt:=HLT.out
              go_roundw
              case rel =>
               refine ⟨i+1,_,by go_num,by omega,Lib.hid (HO6.out.set (i:=1) (.slice o6 (PL.length+1) c6)),Lib.hid ?_,Lib.hid (by rw [← HTK.out,List.any_append,HN10.out]; simp [HLX.out.2]),Lib.hid (HZ6.out.set (g:=w.heap.size+1+1) (by omega) 1 (.slice o6 (PL.length+1) c6))⟩
               rw [← HTK.out,List.map_append,← HPL.out]
               refine LlR.set (q:=w.heap.size+1+1) (t':=37) ?_ HO6.out (by decide) (by decide) 1 _
               refine ⟨PL++[(rdLs x,.slice ov ((Tr.tl y2).map rdR).length cv2)],by simp,?_,fun p hp => ?_⟩
               ·rw [List.length_append,List.flatMap_append]
                have h:=HV6.out
                rw [show [(rdLs x,Value.slice ov ((Tr.tl y2).map rdR).length cv2)].flatMap llcs=[.string (Tr.ts y0),.int .u8 (P.a : Int),.int .u8 (P.b : Int),.int .u8 (P.c : Int),.int .u8 (P.d : Int),.int .u16 (P.port : Int),.slice ov (Tr.tl y2).length cv2] by rw [HLX.out.1,List.length_map]; rfl]
                exact h
               ·rcases List.mem_append.1 hp with hp | hp
                ·exact HI6.out p hp
                ·obtain rfl:=List.mem_singleton.1 hp
                 rw [HLX.out.1]
                 exact HVv.out
              case measure => simp [intOf]; omega
           ·exact AllReadyH.nil
          ·exact AllReadyH.nil
        ·have HW : Hid (wrC t=true):=Lib.hid (HBX.out (by rw [HWL.out.1,wrL_bad hS,Bool.or_true]))
         have KY : Hid (∀ wz,Below w.heap.size w wz→Calls Tryz.prog 81 #[.agg #[.int .i64 (Tr.tk y2),.int .u64 (Tr.tn y2 : Int),.string (Tr.ts y2),.slice py2 (Tr.tl y2).length qy2],.int .i64 3,.int .i64 (-1)] wz (TrP false wz)):=Lib.hid (fun wz h => by
          have k:=shape_any 3 (-1) y2 _ _ _ _ wz (HVy2.out.later h)
          rw [shp_any,decide_eq_false hS] at k
          exact k)
         clear hS
         go_wp2_with fail
         refine (KY.out _ (HZB.out _ HB13.out)).mono ?_
         rintro e w14 ⟨rfl,hb⟩
         have HB14:=Lib.hid (HB13.out.trans (hb.mono HB13.out.size))
         have HX14:=Lib.hid (Bk.later HX13.out hb)
         clear hb f0 f1 f2 f3 a0 a1 a2 a3 a4 a5 a6 a7 a8 a9 a10 a11
         have HOe:=Lib.hid (Bk.later HO10.out HB14.out)
         have HZe:=Lib.hid (HZ10.out.later HB14.out)
         obtain ⟨k0,k1,k2⟩:=bk3 HOe.out
         have rr0:=(cell_of_row _ _ 0 _ _ _ HZe.out.rb).trans rfl
         have rr1:=(cell_of_row _ _ 1 _ _ _ HZe.out.rb).trans rfl
         have rr2:=(cell_of_row _ _ 2 _ _ _ HZe.out.rb).trans rfl
         have ss0:=frozen_of_row _ _ 0 _ _ HZe.out.rb
         have ss1:=frozen_of_row _ _ 1 _ _ HZe.out.rb
         have ss2:=frozen_of_row _ _ 2 _ _ HZe.out.rb
         go_wp2
         have hch : (((w14.setCell ⟨w.heap.size+1,0,none⟩ (.int .u64 (Tr.tn x0 : Int))).setCell ⟨w.heap.size+1,1,none⟩ (.slice oV nV cV)).setCell ⟨w.heap.size+1,2,none⟩ (.slice none 0 0))=sets w14 (w.heap.size+1) 0 [.int .u64 (Tr.tn x0 : Int),.slice oV nV cV,.slice none 0 0]:=rfl
         rw [hch]
         clear hch
         have HYf : Hid (Bk (sets w14 (w.heap.size+1) 0 [.int .u64 (Tr.tn x0 : Int),.slice oV nV cV,.slice none 0 0]) (w.heap.size+1) #[.int .u64 (Tr.tn x0 : Int),.slice oV nV cV,.slice none 0 0] 37):=Lib.hid (sets_bk [.int .u64 (Tr.tn x0 : Int),.slice oV nV cV,.slice none 0 0] [.int .u64 0,.slice none 0 0,.slice none 0 0] [] rfl HZe.out.rb)
         have HBf:=Lib.hid (sets_below [.int .u64 (Tr.tn x0 : Int),.slice oV nV cV,.slice none 0 0] 0 w14 HZe.out.b (show w.heap.size≤w.heap.size+1 by omega))
         generalize sets w14 (w.heap.size+1) 0 [.int .u64 (Tr.tn x0 : Int),.slice oV nV cV,.slice none 0 0]=wf at *
         clear k0 k1 k2 rr0 rr1 rr2 ss0 ss1 ss2
         have rr0:=(cell_of_row _ _ 0 _ _ _ HYf.out).trans rfl
         have rr1:=(cell_of_row _ _ 1 _ _ _ HYf.out).trans rfl
         have rr2:=(cell_of_row _ _ 2 _ _ _ HYf.out).trans rfl
         refine bodyPost_ret (v:=.tuple #[.agg #[.int .u64 (Tr.tn x0 : Int),.slice oV nV cV,.slice none 0 0],.bool false]) (by simp [results,Tryz.results37,go_sem, *]) rfl ?_
         exact of_bad HW.out HBf.out
     ·obtain rfl : i=(Tr.tl x1).length:=by omega
      have HLa:=Lib.hid (show LlR w10 (w.heap.size+3) V ((Tr.tl x1).map rdLs) by have h:=HL10.out; rwa [List.take_length] at h)
      have HNa:=Lib.hid (show (Tr.tl x1).any wrLs=false by have h:=HN10.out; rwa [List.take_length] at h)
      obtain ⟨oV,nV,cV,hfv⟩:=HLa.out.form
      subst hfv
      have HOa:=HO10
      have HZa:=HZ10
      clear HL10 HN10 HO10 HZ10
      have hq9 : ¬ (((Tr.tl x1).length : Int) < ((Tr.tl x1).length : Int)):=by omega
      obtain ⟨⟨f0,f1,f2,f3⟩,_⟩:=bk4 HZa.out.pb
      obtain ⟨a0,a1,a2,a3⟩:=HC0.out _ HZa.out.b
      obtain ⟨a4,a5,a6,a7⟩:=HC1.out _ HZa.out.b
      obtain ⟨a8,a9,a10,a11⟩:=HC2.out _ HZa.out.b
      go_wp2
      go_loopw [187] (fun y wz => ∃ (i : Nat) (K : Value),y=.int .i64 i∧i≤(Tr.tl x2).length∧Hid (Bk wz (w.heap.size+1+1) #[.int .u64 (Tr.tn x0 : Int),.slice oV nV cV,K] 37)∧Hid (CcR wz (w.heap.size+3) K (((Tr.tl x2).take i).map rdCl))∧Hid (((Tr.tl x2).take i).any wrCl=false)∧Hid (LlR wz (w.heap.size+3) (.slice oV nV cV) ((Tr.tl x1).map rdLs))∧Hid (Oz w (.int .i64 (Tr.tk t)) (.int .u64 (Tr.tn t : Int)) (.string (Tr.ts t)) (.slice (some ⟨b,off,none⟩) 3 cap) wz)) (fun y _ => (Tr.tl x2).length - (intOf y).toNat)
      case atStart => exact ⟨0,_,rfl,Nat.zero_le _,HOa,Lib.hid (by rw [List.take_zero]; exact CcR.nil _ _),Lib.hid (by rw [List.take_zero]; rfl),HLa,HZa⟩
      case round =>
       clear HOa HLa HZa
       rename World => w10
       clear f0 f1 f2 f3 a0 a1 a2 a3 a4 a5 a6 a7 a8 a9 a10 a11
       obtain ⟨i,K,rfl,hi,HO10,HC10,HN10,HL10,HZ10⟩:=hrel
       by_cases hlt : i < (Tr.tl x2).length
       ·obtain ⟨oK,nK,cK,hfv⟩:=HC10.out.form
        subst hfv
        obtain ⟨px,qx,hcx,hvx⟩:=HE2.out i hlt
        have ho:=HQ2.out (by omega)
        subst ho
        have HTK : Hid ((Tr.tl x2).take i++[(Tr.tl x2)[i]'hlt]=(Tr.tl x2).take (i+1)):=Lib.hid (by rw [List.take_append_getElem])
        have HMX : Hid ((Tr.tl x2)[i]'hlt ∈ Tr.tl x2):=Lib.hid (List.getElem_mem hlt)
        have HLI:=Lib.hid (show i≤1000000 by have:=HN2.out; omega)
        have q1 : (i : Int) < ((Tr.tl x2).length : Int):=by omega
        have q3 : ((Tr.tl x2).length : Int)≤1000000:=by have:=HN2.out; omega
        generalize (Tr.tl x2)[i]'hlt=x at *
        have HLT:=Lib.hid hlt
        have HBX : Hid (wrCl x=true→wrC t=true):=Lib.hid (fun h => HBADC.out x HMX.out h)
        obtain ⟨m,hm⟩ : ∃ m,(Tr.tl x).length=m:=⟨_,rfl⟩
        rw [hm] at hcx hvx
        have HM:=Lib.hid hm
        have HVX:=Lib.hid hvx
        have HB10:=Lib.hid (Below.refl w10.heap.size w10)
        have HZB : Hid (∀ wz,Below w10.heap.size w10 wz→Below w.heap.size w wz):=Lib.hid (fun wz h => HZ10.out.b.trans (h.mono HZ10.out.b.size))
        have HGO:=Lib.hid (lt_of_heap HO10.out)
        obtain ⟨e0,e1,e2,e3⟩:=hcx _ HZ10.out.b
        clear hcx hvx hm hlt
        go_upto_region 26 with fail
        have hb:=alloc_below w10 (.cells #[.int .i64 (Tr.tk x),.int .u64 (Tr.tn x : Int),.string (Tr.ts x),.slice px m qx] 81)
        have HB11:=Lib.hid (HB10.out.trans (hb.mono HB10.out.size))
        have HX11:=Lib.hid (alloc_at (w:=w10) (g:=w10.heap.size) #[.int .i64 (Tr.tk x),.int .u64 (Tr.tn x : Int),.string (Tr.ts x),.slice px m qx] 81 rfl)
        clear hb e0 e1 e2 e3
        generalize w10.alloc (.cells #[.int .i64 (Tr.tk x),.int .u64 (Tr.tn x : Int),.string (Tr.ts x),.slice px m qx] 81)=w11 at *
        obtain ⟨⟨f0,f1,f2,f3⟩,_⟩:=bk4 HX11.out
        have HGX:=Lib.hid (show w10.heap.size < w11.heap.size from lt_of_heap HX11.out)
        cases hFx : wrF 2 x with
        | true =>
         have HW : Hid (wrC t=true):=Lib.hid (HBX.out (by unfold wrCl; rw [hFx]; rfl))
         have KX : Hid (∀ wz,Below w.heap.size w wz→Calls Tryz.prog 81 #[.agg #[.int .i64 (Tr.tk x),.int .u64 (Tr.tn x : Int),.string (Tr.ts x),.slice px m qx],.int .i64 3,.int .i64 2] wz (TrP false wz)):=Lib.hid (fun wz h => by
          have k:=shape_any 3 2 x _ _ _ _ wz (HVX.out.later h)
          rw [show shp 3 2 x=!wrF 2 x from shp_row (n:=2),hFx] at k
          exact k)
         go_wp2_with fail
         refine (KX.out _ (HZB.out _ HB11.out)).mono ?_
         rintro e w12 ⟨rfl,hb⟩
         have HB12:=Lib.hid (HB11.out.trans (hb.mono HB11.out.size))
         have HX12:=Lib.hid (Bk.later HX11.out hb)
         clear hb f0 f1 f2 f3
         have HOe:=Lib.hid (Bk.later HO10.out HB12.out)
         have HZe:=Lib.hid (HZ10.out.later HB12.out)
         obtain ⟨k0,k1,k2⟩:=bk3 HOe.out
         have rr0:=(cell_of_row _ _ 0 _ _ _ HZe.out.rb).trans rfl
         have rr1:=(cell_of_row _ _ 1 _ _ _ HZe.out.rb).trans rfl
         have rr2:=(cell_of_row _ _ 2 _ _ _ HZe.out.rb).trans rfl
         have ss0:=frozen_of_row _ _ 0 _ _ HZe.out.rb
         have ss1:=frozen_of_row _ _ 1 _ _ HZe.out.rb
         have ss2:=frozen_of_row _ _ 2 _ _ HZe.out.rb
         go_wp2
         have hch : (((w12.setCell ⟨w.heap.size+1,0,none⟩ (.int .u64 (Tr.tn x0 : Int))).setCell ⟨w.heap.size+1,1,none⟩ (.slice oV nV cV)).setCell ⟨w.heap.size+1,2,none⟩ (.slice oK nK cK))=sets w12 (w.heap.size+1) 0 [.int .u64 (Tr.tn x0 : Int),.slice oV nV cV,.slice oK nK cK]:=rfl
         rw [hch]
         clear hch
         have HYf : Hid (Bk (sets w12 (w.heap.size+1) 0 [.int .u64 (Tr.tn x0 : Int),.slice oV nV cV,.slice oK nK cK]) (w.heap.size+1) #[.int .u64 (Tr.tn x0 : Int),.slice oV nV cV,.slice oK nK cK] 37):=Lib.hid (sets_bk [.int .u64 (Tr.tn x0 : Int),.slice oV nV cV,.slice oK nK cK] [.int .u64 0,.slice none 0 0,.slice none 0 0] [] rfl HZe.out.rb)
         have HBf:=Lib.hid (sets_below [.int .u64 (Tr.tn x0 : Int),.slice oV nV cV,.slice oK nK cK] 0 w12 HZe.out.b (show w.heap.size≤w.heap.size+1 by omega))
         generalize sets w12 (w.heap.size+1) 0 [.int .u64 (Tr.tn x0 : Int),.slice oV nV cV,.slice oK nK cK]=wf at *
         clear k0 k1 k2 rr0 rr1 rr2 ss0 ss1 ss2
         have rr0:=(cell_of_row _ _ 0 _ _ _ HYf.out).trans rfl
         have rr1:=(cell_of_row _ _ 1 _ _ _ HYf.out).trans rfl
         have rr2:=(cell_of_row _ _ 2 _ _ _ HYf.out).trans rfl
         refine bodyPost_ret (v:=.tuple #[.agg #[.int .u64 (Tr.tn x0 : Int),.slice oV nV cV,.slice oK nK cK],.bool false]) (by simp [results,Tryz.results37,go_sem, *]) rfl ?_
         exact of_bad HW.out HBf.out
        | false =>
         obtain ⟨hk3,hl3⟩:=wrF_row hFx
         obtain ⟨y0,y1,hly⟩:=two_of hl3
         obtain rfl : m=2:=HM.out.symm.trans hl3
         have HWL:=Lib.hid (wrCl_at hFx hly)
         have KX : Hid (∀ wz,Below w.heap.size w wz→Calls Tryz.prog 81 #[.agg #[.int .i64 (Tr.tk x),.int .u64 (Tr.tn x : Int),.string (Tr.ts x),.slice px 2 qx],.int .i64 3,.int .i64 2] wz (TrP true wz)):=Lib.hid (fun wz h => by
          have k:=shape_any 3 2 x _ _ _ _ wz (HVX.out.later h)
          rw [show shp 3 2 x=!wrF 2 x from shp_row (n:=2),hFx] at k
          exact k)
         obtain ⟨pz_,qz_,bby,ggy,_,_,_,hfx,_,hox,hE_x⟩:=VT.kids HVX.out hly
         obtain ⟨rfl,rfl⟩ : px=pz_∧qx=qz_:=by simpa using hfx
         have ho:=hox (by simp)
         subst ho
         obtain ⟨py0,qy0,hc,hv⟩:=hE_x 0 (by simp)
         have HCy0 : Hid (∀ wz,Below w.heap.size w wz→wz.cell? ⟨bby,ggy,none⟩=some (.int .i64 (Tr.tk y0))∧wz.cell? ⟨bby,ggy+1,none⟩=some (.int .u64 (Tr.tn y0 : Int))∧wz.cell? ⟨bby,ggy+2,none⟩=some (.string (Tr.ts y0))∧wz.cell? ⟨bby,ggy+3,none⟩=some (.slice py0 (Tr.tl y0).length qy0)):=Lib.hid hc
         have HVy0 : Hid (VT w y0 (.int .i64 (Tr.tk y0)) (.int .u64 (Tr.tn y0 : Int)) (.string (Tr.ts y0)) (.slice py0 (Tr.tl y0).length qy0)):=Lib.hid hv
         clear hc hv
         obtain ⟨py1,qy1,hc,hv⟩:=hE_x 1 (by simp)
         have HCy1 : Hid (∀ wz,Below w.heap.size w wz→wz.cell? ⟨bby,ggy+4,none⟩=some (.int .i64 (Tr.tk y1))∧wz.cell? ⟨bby,ggy+5,none⟩=some (.int .u64 (Tr.tn y1 : Int))∧wz.cell? ⟨bby,ggy+6,none⟩=some (.string (Tr.ts y1))∧wz.cell? ⟨bby,ggy+7,none⟩=some (.slice py1 (Tr.tl y1).length qy1)):=Lib.hid hc
         have HVy1 : Hid (VT w y1 (.int .i64 (Tr.tk y1)) (.int .u64 (Tr.tn y1 : Int)) (.string (Tr.ts y1)) (.slice py1 (Tr.tl y1).length qy1)):=Lib.hid hv
         clear hc hv
         clear hE_x hox hfx
         clear hk3 hl3 hly hFx
         go_wp2_with fail
         refine (KX.out _ (HZB.out _ HB11.out)).mono ?_
         rintro e w12 ⟨rfl,hb⟩
         have HB12:=Lib.hid (HB11.out.trans (hb.mono HB11.out.size))
         have HX12:=Lib.hid (Bk.later HX11.out hb)
         clear hb f0 f1 f2 f3 KX
         obtain ⟨⟨f0,f1,f2,f3⟩,_⟩:=bk4 HX12.out
         obtain ⟨a0,a1,a2,a3⟩:=HCy0.out _ (HZB.out _ HB12.out)
         obtain ⟨a4,a5,a6,a7⟩:=HCy1.out _ (HZB.out _ HB12.out)
         cases hS : wrS y0 with
         | true =>
          have HW : Hid (wrC t=true):=Lib.hid (HBX.out (by rw [HWL.out.1,hS]; rfl))
          have KY : Hid (∀ wz,Below w.heap.size w wz→Calls Tryz.prog 81 #[.agg #[.int .i64 (Tr.tk y0),.int .u64 (Tr.tn y0 : Int),.string (Tr.ts y0),.slice py0 (Tr.tl y0).length qy0],.int .i64 2,.int .i64 (-1)] wz (TrP false wz)):=Lib.hid (fun wz h => by
           have k:=shape_any 2 (-1) y0 _ _ _ _ wz (HVy0.out.later h)
           rw [shp_str,hS] at k
           exact k)
          go_wp2_with fail
          refine (KY.out _ (HZB.out _ HB12.out)).mono ?_
          rintro e w13 ⟨rfl,hb⟩
          have HB13:=Lib.hid (HB12.out.trans (hb.mono HB12.out.size))
          have HX13:=Lib.hid (Bk.later HX12.out hb)
          clear hb f0 f1 f2 f3 a0 a1 a2 a3 a4 a5 a6 a7
          have HOe:=Lib.hid (Bk.later HO10.out HB13.out)
          have HZe:=Lib.hid (HZ10.out.later HB13.out)
          obtain ⟨k0,k1,k2⟩:=bk3 HOe.out
          have rr0:=(cell_of_row _ _ 0 _ _ _ HZe.out.rb).trans rfl
          have rr1:=(cell_of_row _ _ 1 _ _ _ HZe.out.rb).trans rfl
          have rr2:=(cell_of_row _ _ 2 _ _ _ HZe.out.rb).trans rfl
          have ss0:=frozen_of_row _ _ 0 _ _ HZe.out.rb
          have ss1:=frozen_of_row _ _ 1 _ _ HZe.out.rb
          have ss2:=frozen_of_row _ _ 2 _ _ HZe.out.rb
          go_wp2
          have hch : (((w13.setCell ⟨w.heap.size+1,0,none⟩ (.int .u64 (Tr.tn x0 : Int))).setCell ⟨w.heap.size+1,1,none⟩ (.slice oV nV cV)).setCell ⟨w.heap.size+1,2,none⟩ (.slice oK nK cK))=sets w13 (w.heap.size+1) 0 [.int .u64 (Tr.tn x0 : Int),.slice oV nV cV,.slice oK nK cK]:=rfl
          rw [hch]
          clear hch
          have HYf : Hid (Bk (sets w13 (w.heap.size+1) 0 [.int .u64 (Tr.tn x0 : Int),.slice oV nV cV,.slice oK nK cK]) (w.heap.size+1) #[.int .u64 (Tr.tn x0 : Int),.slice oV nV cV,.slice oK nK cK] 37):=Lib.hid (sets_bk [.int .u64 (Tr.tn x0 : Int),.slice oV nV cV,.slice oK nK cK] [.int .u64 0,.slice none 0 0,.slice none 0 0] [] rfl HZe.out.rb)
          have HBf:=Lib.hid (sets_below [.int .u64 (Tr.tn x0 : Int),.slice oV nV cV,.slice oK nK cK] 0 w13 HZe.out.b (show w.heap.size≤w.heap.size+1 by omega))
          generalize sets w13 (w.heap.size+1) 0 [.int .u64 (Tr.tn x0 : Int),.slice oV nV cV,.slice oK nK cK]=wf at *
          clear k0 k1 k2 rr0 rr1 rr2 ss0 ss1 ss2
          have rr0:=(cell_of_row _ _ 0 _ _ _ HYf.out).trans rfl
          have rr1:=(cell_of_row _ _ 1 _ _ _ HYf.out).trans rfl
          have rr2:=(cell_of_row _ _ 2 _ _ _ HYf.out).trans rfl
          refine bodyPost_ret (v:=.tuple #[.agg #[.int .u64 (Tr.tn x0 : Int),.slice oV nV cV,.slice oK nK cK],.bool false]) (by simp [results,Tryz.results37,go_sem, *]) rfl ?_
          exact of_bad HW.out HBf.out
         | false =>
          have KY : Hid (∀ wz,Below w.heap.size w wz→Calls Tryz.prog 81 #[.agg #[.int .i64 (Tr.tk y0),.int .u64 (Tr.tn y0 : Int),.string (Tr.ts y0),.slice py0 (Tr.tl y0).length qy0],.int .i64 2,.int .i64 (-1)] wz (TrP true wz)):=Lib.hid (fun wz h => by
           have k:=shape_any 2 (-1) y0 _ _ _ _ wz (HVy0.out.later h)
           rw [shp_str,hS] at k
           exact k)
          have HSy0:=Lib.hid hS
          clear hS
          go_wp2_with fail
          refine (KY.out _ (HZB.out _ HB12.out)).mono ?_
          rintro e w13 ⟨rfl,hb⟩
          have HB13:=Lib.hid (HB12.out.trans (hb.mono HB12.out.size))
          have HX13:=Lib.hid (Bk.later HX12.out hb)
          clear hb f0 f1 f2 f3 a0 a1 a2 a3 a4 a5 a6 a7 KY
          obtain ⟨⟨f0,f1,f2,f3⟩,_⟩:=bk4 HX13.out
          obtain ⟨a0,a1,a2,a3⟩:=HCy0.out _ (HZB.out _ HB13.out)
          obtain ⟨a4,a5,a6,a7⟩:=HCy1.out _ (HZB.out _ HB13.out)
          by_cases hS : Tr.tk y1=3
          ·have KY : Hid (∀ wz,Below w.heap.size w wz→Calls Tryz.prog 81 #[.agg #[.int .i64 (Tr.tk y1),.int .u64 (Tr.tn y1 : Int),.string (Tr.ts y1),.slice py1 (Tr.tl y1).length qy1],.int .i64 3,.int .i64 (-1)] wz (TrP true wz)):=Lib.hid (fun wz h => by
            have k:=shape_any 3 (-1) y1 _ _ _ _ wz (HVy1.out.later h)
            rw [shp_any,decide_eq_true hS] at k
            exact k)
           have HKy1:=Lib.hid hS
           clear hS
           go_wp2_with fail
           refine (KY.out _ (HZB.out _ HB13.out)).mono ?_
           rintro e w14 ⟨rfl,hb⟩
           have HB14:=Lib.hid (HB13.out.trans (hb.mono HB13.out.size))
           have HX14:=Lib.hid (Bk.later HX13.out hb)
           clear hb f0 f1 f2 f3 a0 a1 a2 a3 a4 a5 a6 a7 KY
           obtain ⟨⟨f0,f1,f2,f3⟩,_⟩:=bk4 HX14.out
           obtain ⟨a0,a1,a2,a3⟩:=HCy0.out _ (HZB.out _ HB14.out)
           obtain ⟨a4,a5,a6,a7⟩:=HCy1.out _ (HZB.out _ HB14.out)
           go_upto_region 29 with fail
           have HGP:=Lib.hid (show w10.heap.size < w14.heap.size from lt_of_heap HX14.out)
           have hb:=alloc_below w14 (.cells #[.string (Tr.ts y0),.slice none 0 0] 74)
           have HB15:=Lib.hid (HB14.out.trans (hb.mono HB14.out.size))
           have HX15:=Lib.hid (Bk.later HX14.out hb)
           have HN15:=Lib.hid (alloc_at (w:=w14) (g:=w14.heap.size) #[.string (Tr.ts y0),.slice none 0 0] 74 rfl)
           clear hb f0 f1 f2 f3 a0 a1 a2 a3 a4 a5 a6 a7
           generalize w14.alloc (.cells #[.string (Tr.ts y0),.slice none 0 0] 74)=w15 at *
           generalize w14.heap.size=g9 at *
           obtain ⟨⟨f0,f1,f2,f3⟩,_⟩:=bk4 HX15.out
           obtain ⟨a0,a1,a2,a3⟩:=HCy0.out _ (HZB.out _ HB15.out)
           obtain ⟨a4,a5,a6,a7⟩:=HCy1.out _ (HZB.out _ HB15.out)
           have HG9:=Lib.hid (show w10.heap.size < g9 from HGP.out)
           obtain ⟨po5,qo5,b5,g5,_,_,_,hf5,hn5,ho5,hE5⟩:=HVy1.out.child
           obtain ⟨rfl,rfl⟩ : py1=po5∧qy1=qo5:=by simpa using hf5
           have HE5:=Lib.hid hE5
           have HQ5:=Lib.hid ho5
           have HN5:=Lib.hid hn5
           clear hE5 ho5 hn5 hf5
           have HBADR : Hid (∀ y ∈ Tr.tl y1,wrE y=true→wrC t=true):=Lib.hid (fun y hy h => HBX.out (by rw [HWL.out.1,wrL_eq HKy1.out,List.any_eq_true.2 ⟨y,hy,h⟩]; simp))
           go_wp2
           go_loopw [223] (fun y wz => ∃ (j : Nat) (v : Value),y=.int .i64 j∧j≤(Tr.tl y1).length∧Hid (Bk wz g9 #[.string (Tr.ts y0),v] 74)∧Hid (wz.ownsRow (g9+1) 77 6 v j ((((Tr.tl y1).take j).map rdE).flatMap Ep.cs))∧Hid (((Tr.tl y1).take j).any wrE=false)∧Hid (Below w10.heap.size w10 wz)) (fun y _ => (Tr.tl y1).length - (intOf y).toNat)
           case atStart => exact ⟨0,_,rfl,Nat.zero_le _,HN15,Lib.hid (by rw [List.take_zero]; exact World.ownsRow_nil _ _ _ _),Lib.hid (by rw [List.take_zero]; rfl),HB15⟩
           case round =>
            rename World => w30
            clear f0 f1 f2 f3 a0 a1 a2 a3 a4 a5 a6 a7
            obtain ⟨j,v,rfl,hj,HN30,HV30,HA30,HB30⟩:=hrel
            by_cases hlj : j < (Tr.tl y1).length
            ·obtain ⟨py,qy,hcy,hvy⟩:=HE5.out j hlj
             have ho:=HQ5.out (by omega)
             subst ho
             have HTJ : Hid ((Tr.tl y1).take j++[(Tr.tl y1)[j]'hlj]=(Tr.tl y1).take (j+1)):=Lib.hid (by rw [List.take_append_getElem])
             have HMY : Hid ((Tr.tl y1)[j]'hlj ∈ Tr.tl y1):=Lib.hid (List.getElem_mem hlj)
             have HNJ:=Lib.hid (show j≤1000000 by have:=HN5.out; omega)
             have q2 : (j : Int) < ((Tr.tl y1).length : Int):=by omega
             have q4 : ((Tr.tl y1).length : Int)≤1000000:=by have:=HN5.out; omega
             generalize (Tr.tl y1)[j]'hlj=y at *
             have HLJ:=Lib.hid hlj
             have HBY : Hid (wrE y=true→wrC t=true):=Lib.hid (fun h => HBADR.out y HMY.out h)
             obtain ⟨m,hm⟩ : ∃ m,(Tr.tl y).length=m:=⟨_,rfl⟩
             rw [hm] at hcy hvy
             have HM4:=Lib.hid hm
             have HVY:=Lib.hid hvy
             obtain ⟨e0,e1,e2,e3⟩:=hcy _ (HZB.out _ HB30.out)
             clear hcy hvy hm hlj
             go_upto_region 32 with fail
             have HG11:=Lib.hid (show g9 < w30.heap.size from lt_of_heap HN30.out)
             have hb:=alloc_below w30 (.cells #[.int .i64 (Tr.tk y),.int .u64 (Tr.tn y : Int),.string (Tr.ts y),.slice py m qy] 81)
             have HB31:=Lib.hid (HB30.out.trans (hb.mono HB30.out.size))
             have HN31:=Lib.hid (Bk.later HN30.out hb)
             have HV31:=Lib.hid (own_later HV30.out hb)
             have HY31:=Lib.hid (alloc_at (w:=w30) (g:=w30.heap.size) #[.int .i64 (Tr.tk y),.int .u64 (Tr.tn y : Int),.string (Tr.ts y),.slice py m qy] 81 rfl)
             clear hb e0 e1 e2 e3
             generalize w30.alloc (.cells #[.int .i64 (Tr.tk y),.int .u64 (Tr.tn y : Int),.string (Tr.ts y),.slice py m qy] 81)=w31 at *
             generalize w30.heap.size=g11 at *
             obtain ⟨⟨f0,f1,f2,f3⟩,_⟩:=bk4 HY31.out
             cases hFy : wrF 2 y with
             | true =>
              have HW : Hid (wrC t=true):=Lib.hid (HBY.out (by unfold wrE; rw [hFy]; rfl))
              have KX : Hid (∀ wz,Below w.heap.size w wz→Calls Tryz.prog 81 #[.agg #[.int .i64 (Tr.tk y),.int .u64 (Tr.tn y : Int),.string (Tr.ts y),.slice py m qy],.int .i64 3,.int .i64 2] wz (TrP false wz)):=Lib.hid (fun wz h => by
               have k:=shape_any 3 2 y _ _ _ _ wz (HVY.out.later h)
               rw [show shp 3 2 y=!wrF 2 y from shp_row (n:=2),hFy] at k
               exact k)
              go_wp2_with fail
              refine (KX.out _ (HZB.out _ HB31.out)).mono ?_
              rintro e w32 ⟨rfl,hb⟩
              have HB32:=Lib.hid (HB31.out.trans (hb.mono HB31.out.size))
              have HN32:=Lib.hid (Bk.later HN31.out hb)
              have HV32:=Lib.hid (own_later HV31.out hb)
              have HY32:=Lib.hid (Bk.later HY31.out hb)
              clear hb f0 f1 f2 f3
              have HOe:=Lib.hid (Bk.later HO10.out HB32.out)
              have HZe:=Lib.hid (HZ10.out.later HB32.out)
              obtain ⟨k0,k1,k2⟩:=bk3 HOe.out
              have rr0:=(cell_of_row _ _ 0 _ _ _ HZe.out.rb).trans rfl
              have rr1:=(cell_of_row _ _ 1 _ _ _ HZe.out.rb).trans rfl
              have rr2:=(cell_of_row _ _ 2 _ _ _ HZe.out.rb).trans rfl
              have ss0:=frozen_of_row _ _ 0 _ _ HZe.out.rb
              have ss1:=frozen_of_row _ _ 1 _ _ HZe.out.rb
              have ss2:=frozen_of_row _ _ 2 _ _ HZe.out.rb
              go_wp2
              have hch : (((w32.setCell ⟨w.heap.size+1,0,none⟩ (.int .u64 (Tr.tn x0 : Int))).setCell ⟨w.heap.size+1,1,none⟩ (.slice oV nV cV)).setCell ⟨w.heap.size+1,2,none⟩ (.slice oK nK cK))=sets w32 (w.heap.size+1) 0 [.int .u64 (Tr.tn x0 : Int),.slice oV nV cV,.slice oK nK cK]:=rfl
              rw [hch]
              clear hch
              have HYf : Hid (Bk (sets w32 (w.heap.size+1) 0 [.int .u64 (Tr.tn x0 : Int),.slice oV nV cV,.slice oK nK cK]) (w.heap.size+1) #[.int .u64 (Tr.tn x0 : Int),.slice oV nV cV,.slice oK nK cK] 37):=Lib.hid (sets_bk [.int .u64 (Tr.tn x0 : Int),.slice oV nV cV,.slice oK nK cK] [.int .u64 0,.slice none 0 0,.slice none 0 0] [] rfl HZe.out.rb)
              have HBf:=Lib.hid (sets_below [.int .u64 (Tr.tn x0 : Int),.slice oV nV cV,.slice oK nK cK] 0 w32 HZe.out.b (show w.heap.size≤w.heap.size+1 by omega))
              generalize sets w32 (w.heap.size+1) 0 [.int .u64 (Tr.tn x0 : Int),.slice oV nV cV,.slice oK nK cK]=wf at *
              clear k0 k1 k2 rr0 rr1 rr2 ss0 ss1 ss2
              have rr0:=(cell_of_row _ _ 0 _ _ _ HYf.out).trans rfl
              have rr1:=(cell_of_row _ _ 1 _ _ _ HYf.out).trans rfl
              have rr2:=(cell_of_row _ _ 2 _ _ _ HYf.out).trans rfl
              refine bodyPost_ret (v:=.tuple #[.agg #[.int .u64 (Tr.tn x0 : Int),.slice oV nV cV,.slice oK nK cK],.bool false]) (by simp [results,Tryz.results37,go_sem, *]) rfl ?_
              exact of_bad HW.out HBf.out
             | false =>
              obtain ⟨hk3,hl3⟩:=wrF_row hFy
              obtain ⟨z0,z1,hlz⟩:=two_of hl3
              obtain rfl : m=2:=HM4.out.symm.trans hl3
              have HWR:=Lib.hid (wrE_at hFy hlz)
              have KX : Hid (∀ wz,Below w.heap.size w wz→Calls Tryz.prog 81 #[.agg #[.int .i64 (Tr.tk y),.int .u64 (Tr.tn y : Int),.string (Tr.ts y),.slice py 2 qy],.int .i64 3,.int .i64 2] wz (TrP true wz)):=Lib.hid (fun wz h => by
               have k:=shape_any 3 2 y _ _ _ _ wz (HVY.out.later h)
               rw [show shp 3 2 y=!wrF 2 y from shp_row (n:=2),hFy] at k
               exact k)
              obtain ⟨pz_,qz_,bbz,ggz,_,_,_,hfx,_,hox,hE_x⟩:=VT.kids HVY.out hlz
              obtain ⟨rfl,rfl⟩ : py=pz_∧qy=qz_:=by simpa using hfx
              have ho:=hox (by simp)
              subst ho
              obtain ⟨pz0,qz0,hc,hv⟩:=hE_x 0 (by simp)
              have HCz0 : Hid (∀ wz,Below w.heap.size w wz→wz.cell? ⟨bbz,ggz,none⟩=some (.int .i64 (Tr.tk z0))∧wz.cell? ⟨bbz,ggz+1,none⟩=some (.int .u64 (Tr.tn z0 : Int))∧wz.cell? ⟨bbz,ggz+2,none⟩=some (.string (Tr.ts z0))∧wz.cell? ⟨bbz,ggz+3,none⟩=some (.slice pz0 (Tr.tl z0).length qz0)):=Lib.hid hc
              have HVz0 : Hid (VT w z0 (.int .i64 (Tr.tk z0)) (.int .u64 (Tr.tn z0 : Int)) (.string (Tr.ts z0)) (.slice pz0 (Tr.tl z0).length qz0)):=Lib.hid hv
              clear hc hv
              obtain ⟨pz1,qz1,hc,hv⟩:=hE_x 1 (by simp)
              have HCz1 : Hid (∀ wz,Below w.heap.size w wz→wz.cell? ⟨bbz,ggz+4,none⟩=some (.int .i64 (Tr.tk z1))∧wz.cell? ⟨bbz,ggz+5,none⟩=some (.int .u64 (Tr.tn z1 : Int))∧wz.cell? ⟨bbz,ggz+6,none⟩=some (.string (Tr.ts z1))∧wz.cell? ⟨bbz,ggz+7,none⟩=some (.slice pz1 (Tr.tl z1).length qz1)):=Lib.hid hc
              have HVz1 : Hid (VT w z1 (.int .i64 (Tr.tk z1)) (.int .u64 (Tr.tn z1 : Int)) (.string (Tr.ts z1)) (.slice pz1 (Tr.tl z1).length qz1)):=Lib.hid hv
              clear hc hv
              clear hE_x hox hfx
              clear hk3 hl3 hlz hFy
              go_wp2_with fail
              refine (KX.out _ (HZB.out _ HB31.out)).mono ?_
              rintro e w32 ⟨rfl,hb⟩
              have HB32:=Lib.hid (HB31.out.trans (hb.mono HB31.out.size))
              have HN32:=Lib.hid (Bk.later HN31.out hb)
              have HV32:=Lib.hid (own_later HV31.out hb)
              have HY32:=Lib.hid (Bk.later HY31.out hb)
              clear hb f0 f1 f2 f3 KX
              obtain ⟨⟨f0,f1,f2,f3⟩,_⟩:=bk4 HY32.out
              obtain ⟨a0,a1,a2,a3⟩:=HCz0.out _ (HZB.out _ HB32.out)
              obtain ⟨a4,a5,a6,a7⟩:=HCz1.out _ (HZB.out _ HB32.out)
              cases hS : wrN z1 with
              | true =>
               have HW : Hid (wrC t=true):=Lib.hid (HBY.out (by rw [HWR.out.1]; unfold wrW; rw [show decide (Tr.tk z1≠1)=wrN z1 from rfl,hS]; simp))
               have KY : Hid (∀ wz,Below w.heap.size w wz→Calls Tryz.prog 81 #[.agg #[.int .i64 (Tr.tk z1),.int .u64 (Tr.tn z1 : Int),.string (Tr.ts z1),.slice pz1 (Tr.tl z1).length qz1],.int .i64 1,.int .i64 (-1)] wz (TrP false wz)):=Lib.hid (fun wz h => by
                have k:=shape_any 1 (-1) z1 _ _ _ _ wz (HVz1.out.later h)
                rw [shp_num,hS] at k
                exact k)
               go_wp2_with fail
               refine (KY.out _ (HZB.out _ HB32.out)).mono ?_
               rintro e w33 ⟨rfl,hb⟩
               have HB33:=Lib.hid (HB32.out.trans (hb.mono HB32.out.size))
               have HN33:=Lib.hid (Bk.later HN32.out hb)
               have HV33:=Lib.hid (own_later HV32.out hb)
               have HY33:=Lib.hid (Bk.later HY32.out hb)
               clear hb f0 f1 f2 f3 a0 a1 a2 a3 a4 a5 a6 a7
               have HOe:=Lib.hid (Bk.later HO10.out HB33.out)
               have HZe:=Lib.hid (HZ10.out.later HB33.out)
               obtain ⟨k0,k1,k2⟩:=bk3 HOe.out
               have rr0:=(cell_of_row _ _ 0 _ _ _ HZe.out.rb).trans rfl
               have rr1:=(cell_of_row _ _ 1 _ _ _ HZe.out.rb).trans rfl
               have rr2:=(cell_of_row _ _ 2 _ _ _ HZe.out.rb).trans rfl
               have ss0:=frozen_of_row _ _ 0 _ _ HZe.out.rb
               have ss1:=frozen_of_row _ _ 1 _ _ HZe.out.rb
               have ss2:=frozen_of_row _ _ 2 _ _ HZe.out.rb
               go_wp2
               have hch : (((w33.setCell ⟨w.heap.size+1,0,none⟩ (.int .u64 (Tr.tn x0 : Int))).setCell ⟨w.heap.size+1,1,none⟩ (.slice oV nV cV)).setCell ⟨w.heap.size+1,2,none⟩ (.slice oK nK cK))=sets w33 (w.heap.size+1) 0 [.int .u64 (Tr.tn x0 : Int),.slice oV nV cV,.slice oK nK cK]:=rfl
               rw [hch]
               clear hch
               have HYf : Hid (Bk (sets w33 (w.heap.size+1) 0 [.int .u64 (Tr.tn x0 : Int),.slice oV nV cV,.slice oK nK cK]) (w.heap.size+1) #[.int .u64 (Tr.tn x0 : Int),.slice oV nV cV,.slice oK nK cK] 37):=Lib.hid (sets_bk [.int .u64 (Tr.tn x0 : Int),.slice oV nV cV,.slice oK nK cK] [.int .u64 0,.slice none 0 0,.slice none 0 0] [] rfl HZe.out.rb)
               have HBf:=Lib.hid (sets_below [.int .u64 (Tr.tn x0 : Int),.slice oV nV cV,.slice oK nK cK] 0 w33 HZe.out.b (show w.heap.size≤w.heap.size+1 by omega))
               generalize sets w33 (w.heap.size+1) 0 [.int .u64 (Tr.tn x0 : Int),.slice oV nV cV,.slice oK nK cK]=wf at *
               clear k0 k1 k2 rr0 rr1 rr2 ss0 ss1 ss2
               have rr0:=(cell_of_row _ _ 0 _ _ _ HYf.out).trans rfl
               have rr1:=(cell_of_row _ _ 1 _ _ _ HYf.out).trans rfl
               have rr2:=(cell_of_row _ _ 2 _ _ _ HYf.out).trans rfl
               refine bodyPost_ret (v:=.tuple #[.agg #[.int .u64 (Tr.tn x0 : Int),.slice oV nV cV,.slice oK nK cK],.bool false]) (by simp [results,Tryz.results37,go_sem, *]) rfl ?_
               exact of_bad HW.out HBf.out
              | false =>
               have KY : Hid (∀ wz,Below w.heap.size w wz→Calls Tryz.prog 81 #[.agg #[.int .i64 (Tr.tk z1),.int .u64 (Tr.tn z1 : Int),.string (Tr.ts z1),.slice pz1 (Tr.tl z1).length qz1],.int .i64 1,.int .i64 (-1)] wz (TrP true wz)):=Lib.hid (fun wz h => by
                have k:=shape_any 1 (-1) z1 _ _ _ _ wz (HVz1.out.later h)
                rw [shp_num,hS] at k
                exact k)
               have HSz1:=Lib.hid hS
               clear hS
               go_wp2_with fail
               refine (KY.out _ (HZB.out _ HB32.out)).mono ?_
               rintro e w33 ⟨rfl,hb⟩
               have HB33:=Lib.hid (HB32.out.trans (hb.mono HB32.out.size))
               have HN33:=Lib.hid (Bk.later HN32.out hb)
               have HV33:=Lib.hid (own_later HV32.out hb)
               have HY33:=Lib.hid (Bk.later HY32.out hb)
               clear hb f0 f1 f2 f3 a0 a1 a2 a3 a4 a5 a6 a7 KY
               obtain ⟨⟨f0,f1,f2,f3⟩,_⟩:=bk4 HY33.out
               obtain ⟨a0,a1,a2,a3⟩:=HCz0.out _ (HZB.out _ HB33.out)
               obtain ⟨a4,a5,a6,a7⟩:=HCz1.out _ (HZB.out _ HB33.out)
               have HNR:=Lib.hid (show numR z1=Tr.tn z1 from numR_eq (by have h:=HSz1.out; unfold wrN at h; simpa using h))
               by_cases hgt : 2147483647 < Tr.tn z1
               ·have HW : Hid (wrC t=true):=Lib.hid (HBY.out (by rw [HWR.out.1]; unfold wrW; rw [HNR.out,decide_eq_true hgt]; simp))
                have g0 : ((Tr.tn z1 : Int) > 2147483647)=True:=by simp; omega
                have g1 : decide ((2147483647 : Int) < (Tr.tn z1 : Int))=true:=by simp; omega
                have g2 : (Tr.tn z1 : Int) > 2147483647:=by omega
                clear hgt g0
                have HOe:=Lib.hid (Bk.later HO10.out HB33.out)
                have HZe:=Lib.hid (HZ10.out.later HB33.out)
                obtain ⟨k0,k1,k2⟩:=bk3 HOe.out
                have rr0:=(cell_of_row _ _ 0 _ _ _ HZe.out.rb).trans rfl
                have rr1:=(cell_of_row _ _ 1 _ _ _ HZe.out.rb).trans rfl
                have rr2:=(cell_of_row _ _ 2 _ _ _ HZe.out.rb).trans rfl
                have ss0:=frozen_of_row _ _ 0 _ _ HZe.out.rb
                have ss1:=frozen_of_row _ _ 1 _ _ HZe.out.rb
                have ss2:=frozen_of_row _ _ 2 _ _ HZe.out.rb
                go_wp2
                have hch : (((w33.setCell ⟨w.heap.size+1,0,none⟩ (.int .u64 (Tr.tn x0 : Int))).setCell ⟨w.heap.size+1,1,none⟩ (.slice oV nV cV)).setCell ⟨w.heap.size+1,2,none⟩ (.slice oK nK cK))=sets w33 (w.heap.size+1) 0 [.int .u64 (Tr.tn x0 : Int),.slice oV nV cV,.slice oK nK cK]:=rfl
                rw [hch]
                clear hch
                have HYf : Hid (Bk (sets w33 (w.heap.size+1) 0 [.int .u64 (Tr.tn x0 : Int),.slice oV nV cV,.slice oK nK cK]) (w.heap.size+1) #[.int .u64 (Tr.tn x0 : Int),.slice oV nV cV,.slice oK nK cK] 37):=Lib.hid (sets_bk [.int .u64 (Tr.tn x0 : Int),.slice oV nV cV,.slice oK nK cK] [.int .u64 0,.slice none 0 0,.slice none 0 0] [] rfl HZe.out.rb)
                have HBf:=Lib.hid (sets_below [.int .u64 (Tr.tn x0 : Int),.slice oV nV cV,.slice oK nK cK] 0 w33 HZe.out.b (show w.heap.size≤w.heap.size+1 by omega))
                generalize sets w33 (w.heap.size+1) 0 [.int .u64 (Tr.tn x0 : Int),.slice oV nV cV,.slice oK nK cK]=wf at *
                clear k0 k1 k2 rr0 rr1 rr2 ss0 ss1 ss2
                have rr0:=(cell_of_row _ _ 0 _ _ _ HYf.out).trans rfl
                have rr1:=(cell_of_row _ _ 1 _ _ _ HYf.out).trans rfl
                have rr2:=(cell_of_row _ _ 2 _ _ _ HYf.out).trans rfl
                refine bodyPost_ret (v:=.tuple #[.agg #[.int .u64 (Tr.tn x0 : Int),.slice oV nV cV,.slice oK nK cK],.bool false]) (by simp [results,Tryz.results37,go_sem, *]) rfl ?_
                exact of_bad HW.out HBf.out
               ·have HLE:=Lib.hid hgt
                have g1 : decide ((2147483647 : Int) < (Tr.tn z1 : Int))=false:=by simp; omega
                have g2 : ¬ ((Tr.tn z1 : Int) > 2147483647):=by omega
                clear hgt
                have KP : Hid (∀ wz,Below w.heap.size w wz→Calls Tryz.prog 82 #[.agg #[.int .i64 (Tr.tk z0),.int .u64 (Tr.tn z0 : Int),.string (Tr.ts z0),.slice pz0 (Tr.tl z0).length qz0]] wz fun e w' => e=.returned (plA z0)∧Below wz.heap.size wz w'):=Lib.hid (fun wz h => rplace_of z0 _ _ _ _ wz (HVz0.out.later h))
                go_wp2_with fail
                refine (KP.out _ (HZB.out _ HB33.out)).mono ?_
                rintro e w34 ⟨rfl,hb⟩
                have HB34:=Lib.hid (HB33.out.trans (hb.mono HB33.out.size))
                have HN34:=Lib.hid (Bk.later HN33.out hb)
                have HV34:=Lib.hid (own_later HV33.out hb)
                have HY34:=Lib.hid (Bk.later HY33.out hb)
                clear hb KP g1 g2 f0 f1 f2 f3 a0 a1 a2 a3 a4 a5 a6 a7
                unfold plA
                generalize plR z0=P at *
                cases hPb : wrP z0 with
                | true =>
                 have HW : Hid (wrC t=true):=Lib.hid (HBY.out (by rw [HWR.out.1,hPb]; simp))
                 go_upto_region 35 with fail
                 have hb:=alloc_below w34 (.cells #[.int .u8 (P.a : Int),.int .u8 (P.b : Int),.int .u8 (P.c : Int),.int .u8 (P.d : Int),.int .u16 (P.port : Int)] 75)
                 have HB35:=Lib.hid (HB34.out.trans (hb.mono HB34.out.size))
                 have HP35:=Lib.hid (alloc_at (w:=w34) (g:=w34.heap.size) #[.int .u8 (P.a : Int),.int .u8 (P.b : Int),.int .u8 (P.c : Int),.int .u8 (P.d : Int),.int .u16 (P.port : Int)] 75 rfl)
                 clear hb hPb
                 generalize w34.alloc (.cells #[.int .u8 (P.a : Int),.int .u8 (P.b : Int),.int .u8 (P.c : Int),.int .u8 (P.d : Int),.int .u16 (P.port : Int)] 75)=w35 at *
                 generalize w34.heap.size=g7 at *
                 have HOe:=Lib.hid (Bk.later HO10.out HB35.out)
                 have HZe:=Lib.hid (HZ10.out.later HB35.out)
                 obtain ⟨k0,k1,k2⟩:=bk3 HOe.out
                 have rr0:=(cell_of_row _ _ 0 _ _ _ HZe.out.rb).trans rfl
                 have rr1:=(cell_of_row _ _ 1 _ _ _ HZe.out.rb).trans rfl
                 have rr2:=(cell_of_row _ _ 2 _ _ _ HZe.out.rb).trans rfl
                 have ss0:=frozen_of_row _ _ 0 _ _ HZe.out.rb
                 have ss1:=frozen_of_row _ _ 1 _ _ HZe.out.rb
                 have ss2:=frozen_of_row _ _ 2 _ _ HZe.out.rb
                 go_wp2
                 have hch : (((w35.setCell ⟨w.heap.size+1,0,none⟩ (.int .u64 (Tr.tn x0 : Int))).setCell ⟨w.heap.size+1,1,none⟩ (.slice oV nV cV)).setCell ⟨w.heap.size+1,2,none⟩ (.slice oK nK cK))=sets w35 (w.heap.size+1) 0 [.int .u64 (Tr.tn x0 : Int),.slice oV nV cV,.slice oK nK cK]:=rfl
                 rw [hch]
                 clear hch
                 have HYf : Hid (Bk (sets w35 (w.heap.size+1) 0 [.int .u64 (Tr.tn x0 : Int),.slice oV nV cV,.slice oK nK cK]) (w.heap.size+1) #[.int .u64 (Tr.tn x0 : Int),.slice oV nV cV,.slice oK nK cK] 37):=Lib.hid (sets_bk [.int .u64 (Tr.tn x0 : Int),.slice oV nV cV,.slice oK nK cK] [.int .u64 0,.slice none 0 0,.slice none 0 0] [] rfl HZe.out.rb)
                 have HBf:=Lib.hid (sets_below [.int .u64 (Tr.tn x0 : Int),.slice oV nV cV,.slice oK nK cK] 0 w35 HZe.out.b (show w.heap.size≤w.heap.size+1 by omega))
                 generalize sets w35 (w.heap.size+1) 0 [.int .u64 (Tr.tn x0 : Int),.slice oV nV cV,.slice oK nK cK]=wf at *
                 clear k0 k1 k2 rr0 rr1 rr2 ss0 ss1 ss2
                 have rr0:=(cell_of_row _ _ 0 _ _ _ HYf.out).trans rfl
                 have rr1:=(cell_of_row _ _ 1 _ _ _ HYf.out).trans rfl
                 have rr2:=(cell_of_row _ _ 2 _ _ _ HYf.out).trans rfl
                 refine bodyPost_ret (v:=.tuple #[.agg #[.int .u64 (Tr.tn x0 : Int),.slice oV nV cV,.slice oK nK cK],.bool false]) (by simp [results,Tryz.results37,go_sem, *]) rfl ?_
                 exact of_bad HW.out HBf.out
                | false =>
                 have HSP:=Lib.hid hPb
                 clear hPb
                 have HG7:=Lib.hid (show g9 < w34.heap.size∧g11 < w34.heap.size from ⟨lt_of_heap HN34.out,lt_of_heap HY34.out⟩)
                 go_upto_region 35 with fail
                 have hb:=alloc_below w34 (.cells #[.int .u8 (P.a : Int),.int .u8 (P.b : Int),.int .u8 (P.c : Int),.int .u8 (P.d : Int),.int .u16 (P.port : Int)] 75)
                 have HB35:=Lib.hid (HB34.out.trans (hb.mono HB34.out.size))
                 have HN35:=Lib.hid (Bk.later HN34.out hb)
                 have HV35:=Lib.hid (own_later HV34.out hb)
                 have HY35:=Lib.hid (Bk.later HY34.out hb)
                 have HP35:=Lib.hid (alloc_at (w:=w34) (g:=w34.heap.size) #[.int .u8 (P.a : Int),.int .u8 (P.b : Int),.int .u8 (P.c : Int),.int .u8 (P.d : Int),.int .u16 (P.port : Int)] 75 rfl)
                 clear hb
                 generalize w34.alloc (.cells #[.int .u8 (P.a : Int),.int .u8 (P.b : Int),.int .u8 (P.c : Int),.int .u8 (P.d : Int),.int .u16 (P.port : Int)] 75)=w35 at *
                 generalize w34.heap.size=g7 at *
                 go_upto_region 37 with fail
                 have hb:=(Below.refl w35.heap.size w35).drew
                 have HB0:=Lib.hid (HB35.out.trans (hb.mono HB35.out.size))
                 have HN0:=Lib.hid (Bk.later HN35.out hb)
                 have HV0:=Lib.hid (own_later HV35.out hb)
                 have HY0:=Lib.hid (Bk.later HY35.out hb)
                 have HP0:=Lib.hid (Bk.later HP35.out hb)
                 clear hb
                 have mkS : Hid (∀ wz,Bk wz g11 #[.int .i64 (Tr.tk y),.int .u64 (Tr.tn y : Int),.string (Tr.ts y),.slice (some ⟨bbz,ggz,none⟩) 2 qy] 81→Bk wz g7 #[.int .u8 (P.a : Int),.int .u8 (P.b : Int),.int .u8 (P.c : Int),.int .u8 (P.d : Int),.int .u16 (P.port : Int)] 75→Below w10.heap.size w10 wz→wz.cell? ⟨g11,0,none⟩=some (.int .i64 (Tr.tk y))∧wz.cell? ⟨g11,1,none⟩=some (.int .u64 (Tr.tn y : Int))∧wz.cell? ⟨g11,2,none⟩=some (.string (Tr.ts y))∧wz.cell? ⟨g11,3,none⟩=some (.slice (some ⟨bbz,ggz,none⟩) 2 qy)∧(wz.cell? ⟨bbz,ggz+4,none⟩=some (.int .i64 (Tr.tk z1))∧wz.cell? ⟨bbz,ggz+5,none⟩=some (.int .u64 (Tr.tn z1 : Int))∧wz.cell? ⟨bbz,ggz+6,none⟩=some (.string (Tr.ts z1))∧wz.cell? ⟨bbz,ggz+7,none⟩=some (.slice pz1 (Tr.tl z1).length qz1))∧wz.cell? ⟨g7,0,none⟩=some (.int .u8 (P.a : Int))∧wz.cell? ⟨g7,1,none⟩=some (.int .u8 (P.b : Int))∧wz.cell? ⟨g7,2,none⟩=some (.int .u8 (P.c : Int))∧wz.cell? ⟨g7,3,none⟩=some (.int .u8 (P.d : Int))∧wz.cell? ⟨g7,4,none⟩=some (.int .u16 (P.port : Int))∧Hid True):=Lib.hid (fun wz s0 s1 s2 => ⟨(cell_of_row _ _ 0 _ _ _ s0).trans rfl,(cell_of_row _ _ 1 _ _ _ s0).trans rfl,(cell_of_row _ _ 2 _ _ _ s0).trans rfl,(cell_of_row _ _ 3 _ _ _ s0).trans rfl,HCz1.out wz (HZB.out wz s2),(cell_of_row _ _ 0 _ _ _ s1).trans rfl,(cell_of_row _ _ 1 _ _ _ s1).trans rfl,(cell_of_row _ _ 2 _ _ _ s1).trans rfl,(cell_of_row _ _ 3 _ _ _ s1).trans rfl,(cell_of_row _ _ 4 _ _ _ s1).trans rfl,Lib.hid True.intro⟩)
                 refine wp_region_held_drew (S:=fun wz => wz.cell? ⟨g11,0,none⟩=some (.int .i64 (Tr.tk y))∧wz.cell? ⟨g11,1,none⟩=some (.int .u64 (Tr.tn y : Int))∧wz.cell? ⟨g11,2,none⟩=some (.string (Tr.ts y))∧wz.cell? ⟨g11,3,none⟩=some (.slice (some ⟨bbz,ggz,none⟩) 2 qy)∧(wz.cell? ⟨bbz,ggz+4,none⟩=some (.int .i64 (Tr.tk z1))∧wz.cell? ⟨bbz,ggz+5,none⟩=some (.int .u64 (Tr.tn z1 : Int))∧wz.cell? ⟨bbz,ggz+6,none⟩=some (.string (Tr.ts z1))∧wz.cell? ⟨bbz,ggz+7,none⟩=some (.slice pz1 (Tr.tl z1).length qz1))∧wz.cell? ⟨g7,0,none⟩=some (.int .u8 (P.a : Int))∧wz.cell? ⟨g7,1,none⟩=some (.int .u8 (P.b : Int))∧wz.cell? ⟨g7,2,none⟩=some (.int .u8 (P.c : Int))∧wz.cell? ⟨g7,3,none⟩=some (.int .u8 (P.d : Int))∧wz.cell? ⟨g7,4,none⟩=some (.int .u16 (P.port : Int))∧Hid True) (by kernel_rfl) (mkS.out _ HY0.out HP0.out HB0.out) (fun hj9 => ?_)
                 generalize w35.drew=wc0 at *
                 refine tkH (i:=0) (oi:=⟨some 258,_,_,_,_,_⟩) (v:=?_) rfl (Or.inl ⟨by rfl,by (intro w hSw; (try dsimp only at hSw); go_simp; try with_reducible rfl)⟩) hj9 ?_
                 try simp only [Act.put,pS]
                 try dsimp only [p0,p1]
                 refine tkH (i:=2) (oi:=⟨some 260,_,_,_,_,_⟩) (v:=?_) rfl (Or.inl ⟨by rfl,by (intro w hSw; (try dsimp only at hSw); go_simp; try with_reducible rfl)⟩) hj9 ?_
                 try simp only [Act.put,pS]
                 try dsimp only [p0,p1]
                 refine tkH (i:=3) (oi:=⟨some 261,_,_,_,_,_⟩) (v:=?_) rfl (Or.inl ⟨by rfl,by (intro w hSw; (try dsimp only at hSw); go_simp; try with_reducible rfl)⟩) hj9 ?_
                 try simp only [Act.put,pS]
                 try dsimp only [p0,p1]
                 refine tkH (i:=4) (oi:=⟨some 262,_,_,_,_,_⟩) (v:=?_) rfl (Or.inl ⟨by rfl,by (intro w hSw; (try dsimp only at hSw); go_simp; try with_reducible rfl)⟩) hj9 ?_
                 try simp only [Act.put,pS]
                 try dsimp only [p0,p1]
                 refine tkH (i:=5) (oi:=⟨some 263,_,_,_,_,_⟩) (v:=?_) rfl (Or.inl ⟨by rfl,by (intro w hSw; (try dsimp only at hSw); go_simp; try with_reducible rfl)⟩) hj9 ?_
                 try simp only [Act.put,pS]
                 try dsimp only [p0,p1]
                 refine tkH (i:=6) (oi:=⟨some 264,_,_,_,_,_⟩) (v:=?_) rfl (Or.inl ⟨by rfl,by (intro w hSw; (try dsimp only at hSw); go_simp; try with_reducible rfl)⟩) hj9 ?_
                 try simp only [Act.put,pS]
                 try dsimp only [p0,p1]
                 refine tkH (i:=7) (oi:=⟨some 265,_,_,_,_,_⟩) (v:=?_) rfl (Or.inl ⟨by rfl,by (intro w hSw; (try dsimp only at hSw); go_simp; try with_reducible rfl)⟩) hj9 ?_
                 try simp only [Act.put,pS]
                 try dsimp only [p0,p1]
                 refine tkH (i:=8) (oi:=⟨some 266,_,_,_,_,_⟩) (v:=?_) rfl (Or.inl ⟨by rfl,by (intro w hSw; (try dsimp only at hSw); go_simp; try with_reducible rfl)⟩) hj9 ?_
                 try simp only [Act.put,pS]
                 try dsimp only [p0,p1]
                 refine tkH (i:=9) (oi:=⟨some 267,_,_,_,_,_⟩) (v:=?_) rfl (Or.inl ⟨by rfl,by (intro w hSw; (try dsimp only at hSw); go_simp; try with_reducible rfl)⟩) hj9 ?_
                 try simp only [Act.put,pS]
                 try dsimp only [p0,p1]
                 refine wpAnyH_ready (rs:=[1,10]) (by kernel_rfl) (by simp) ?_
                 refine AllReadyH.cons (o:=⟨some 259,_,_,_,_,_⟩) rfl (fun K hK => ?_) ?_
                 ·have rr0:=(cell_of_row _ _ 1 _ _ _ HN0.out).trans rfl
                  go_simp
                  refine hK.out _ _ (mkS.out _ HY0.out HP0.out HB0.out) (fun hj8 => ?_)
                  clear hK K hj9
                  have hj9:=hj8
                  clear hj8
                  clear rr0
                  try simp only [Act.put,pS]
                  try dsimp only [p0,p1]
                  refine wpAnyH_ready (rs:=[10]) (by kernel_rfl) (by simp) ?_
                  refine AllReadyH.cons (o:=⟨some 268,_,_,_,_,_⟩) rfl (fun K hK => ?_) ?_
                  ·go_simp
                   have hbn:=alloc_below wc0 (.cells #[.int .u8 (P.a : Int),.int .u8 (P.b : Int),.int .u8 (P.c : Int),.int .u8 (P.d : Int),.int .u16 (P.port : Int),.int .i64 (IntKind.i64.wrap (Tr.tn z1 : Int))] 77)
                   have HB1:=Lib.hid (HB0.out.trans (hbn.mono HB0.out.size))
                   have HN1:=Lib.hid (Bk.later HN0.out hbn)
                   have HV1:=Lib.hid (own_later HV0.out hbn)
                   have HY1:=Lib.hid (Bk.later HY0.out hbn)
                   have HP1:=Lib.hid (Bk.later HP0.out hbn)
                   have HU1:=Lib.hid (alloc_at (w:=wc0) (g:=wc0.heap.size) #[.int .u8 (P.a : Int),.int .u8 (P.b : Int),.int .u8 (P.c : Int),.int .u8 (P.d : Int),.int .u16 (P.port : Int),.int .i64 (IntKind.i64.wrap (Tr.tn z1 : Int))] 77 rfl)
                   have HG12:=Lib.hid (show g9 < wc0.heap.size from lt_of_heap HN0.out)
                   refine hK.out _ _ (mkS.out _ HY1.out HP1.out HB1.out) (fun hj8 => ?_)
                   clear hK K hj9
                   have hj9:=hj8
                   clear hj8
                   clear hbn
                   try simp only [Act.put,pS]
                   try dsimp only [p0,p1]
                   generalize wc0.alloc (.cells #[.int .u8 (P.a : Int),.int .u8 (P.b : Int),.int .u8 (P.c : Int),.int .u8 (P.d : Int),.int .u16 (P.port : Int),.int .i64 (IntKind.i64.wrap (Tr.tn z1 : Int))] 77)=wc1 at *
                   generalize wc0.heap.size=g12 at *
                   refine wpAnyH_ready (rs:=[11]) (by kernel_rfl) (by simp) ?_
                   refine AllReadyH.cons (o:=⟨some 269,_,_,_,_,_⟩) rfl (fun K hK => ?_) ?_
                   ·obtain ⟨o6,c6,wc2,hrn,hv6,hg6,hb6⟩:=run_one wc1 (st:=72) (e:=77) (k:=6) (ty:=72) (by kernel_rfl) (by kernel_rfl) (by decide) (g9+1) (v) j ((((Tr.tl y1).take j).map rdE).flatMap Ep.cs) [.int .u8 (P.a : Int),.int .u8 (P.b : Int),.int .u8 (P.c : Int),.int .u8 (P.d : Int),.int .u16 (P.port : Int),.int .i64 (IntKind.i64.wrap (Tr.tn z1 : Int))] g12 HV1.out HU1.out rfl (by intro u hu; simp only [List.mem_cons,List.not_mem_nil,or_false] at hu; rcases hu with rfl | rfl | rfl | rfl | rfl | rfl <;> rfl) (by have:=lt_of_heap HN1.out; omega) HNJ.out
                    refine wp_append_at (.tmp 259) (.tmp 268) rfl rfl rfl hrn ?_
                    clear hrn
                    have HB2:=Lib.hid (HB1.out.trans (hb6.mono (by have:=HG9.out; omega)))
                    have HN2:=Lib.hid (HN1.out.grown HV1.out hg6 (by decide))
                    have HV2:=Lib.hid hv6
                    have HY2:=Lib.hid (HY1.out.grown HV1.out hg6 (by decide))
                    have HP2:=Lib.hid (HP1.out.grown HV1.out hg6 (by decide))
                    refine hK.out _ _ (mkS.out _ HY2.out HP2.out HB2.out) (fun hj8 => ?_)
                    clear hK K hj9
                    have hj9:=hj8
                    clear hj8
                    clear hv6 hg6 hb6
                    try simp only [Act.put,pS]
                    try dsimp only [p0,p1]
                    refine tkH (i:=12) (oi:=⟨some 270,_,_,_,_,_⟩) (v:=?_) rfl (Or.inl ⟨by rfl,by (intro w hSw; (try dsimp only at hSw); go_simp; try with_reducible rfl)⟩) hj9 ?_
                    try simp only [Act.put,pS]
                    try dsimp only [p0,p1]
                    refine wpAnyH_ready (rs:=[13]) (by kernel_rfl) (by simp) ?_
                    refine AllReadyH.cons (o:=⟨none,_,_,_,_,_⟩) rfl (fun K hK => ?_) ?_
                    ·have rr0:=(cell_of_row _ _ 1 _ _ _ HN2.out).trans rfl
                     have ss0:=frozen_of_row _ _ 1 _ _ HN2.out
                     go_simp
                     have HB3:=Lib.hid (HB2.out.setCell (p:=⟨g9,1,none⟩) (by have:=HG9.out; show w10.heap.size≤g9; omega) (.slice o6 (j+1) c6))
                     have HN3:=Lib.hid (HN2.out.set (i:=1) (.slice o6 (j+1) c6))
                     have HV3:=Lib.hid (own_set HV2.out HN2.out (by decide) 1 (.slice o6 (j+1) c6))
                     have HY3:=Lib.hid (HY2.out.away (q:=g9) (by have:=HG11.out; omega) 1 (.slice o6 (j+1) c6))
                     have HP3:=Lib.hid (HP2.out.away (q:=g9) (by have:=HG7.out.1; omega) 1 (.slice o6 (j+1) c6))
                     refine hK.out _ _ (mkS.out _ HY3.out HP3.out HB3.out) (fun hj8 => ?_)
                     clear hK K hj9
                     have hj9:=hj8
                     clear hj8
                     clear rr0 ss0
                     try simp only [Act.put,pS]
                     try dsimp only [p0,p1]
                     generalize (wc2.setCell ⟨g9,1,none⟩ (.slice o6 (j+1) c6))=wc3 at *
                     refine wpAnyH_done (by kernel_rfl) ?_ _
                     simp only [Exit.inBlock,Exit.then]
                     apply_assumption
                     have HRz : Hid (rdE y=⟨P,IntKind.i64.wrap (Tr.tn z1 : Int)⟩∧wrE y=false):=Lib.hid ⟨by rw [HWR.out.2]; unfold wgtR; rw [HNR.out,if_neg HLE.out]; have h:=HLE.out; simp [IntKind.wrap,IntKind.bits,IntKind.signed]; omega,by rw [HWR.out.1,HSP.out]; unfold wrW; rw [HNR.out,decide_eq_false HLE.out,show decide (Tr.tk z1≠1)=wrN z1 from rfl,HSz1.out]; rfl⟩
                     have hlj:=HLJ.out
                     try go_wp2
                     exact ⟨⟨j+1,_,by go_num,by omega,HN3,Lib.hid (by rw [← HTJ.out,List.map_append,List.flatMap_append]; have h:=HV3.out; rw [show ([y].map rdE).flatMap Ep.cs=[.int .u8 (P.a : Int),.int .u8 (P.b : Int),.int .u8 (P.c : Int),.int .u8 (P.d : Int),.int .u16 (P.port : Int),.int .i64 (IntKind.i64.wrap (Tr.tn z1 : Int))] by simp only [List.map_cons,List.map_nil,HRz.out.1]; rfl]; exact h),Lib.hid (by rw [← HTJ.out,List.any_append,HA30.out]; simp [HRz.out.2]),HB3⟩,by simp [intOf]; omega⟩
                    ·exact AllReadyH.nil
                   ·exact AllReadyH.nil
                  ·exact AllReadyH.nil
                 ·refine AllReadyH.cons (o:=⟨some 268,_,_,_,_,_⟩) rfl (fun K hK => ?_) ?_
                  ·go_simp
                   have hbn:=alloc_below wc0 (.cells #[.int .u8 (P.a : Int),.int .u8 (P.b : Int),.int .u8 (P.c : Int),.int .u8 (P.d : Int),.int .u16 (P.port : Int),.int .i64 (IntKind.i64.wrap (Tr.tn z1 : Int))] 77)
                   have HB1:=Lib.hid (HB0.out.trans (hbn.mono HB0.out.size))
                   have HN1:=Lib.hid (Bk.later HN0.out hbn)
                   have HV1:=Lib.hid (own_later HV0.out hbn)
                   have HY1:=Lib.hid (Bk.later HY0.out hbn)
                   have HP1:=Lib.hid (Bk.later HP0.out hbn)
                   have HU1:=Lib.hid (alloc_at (w:=wc0) (g:=wc0.heap.size) #[.int .u8 (P.a : Int),.int .u8 (P.b : Int),.int .u8 (P.c : Int),.int .u8 (P.d : Int),.int .u16 (P.port : Int),.int .i64 (IntKind.i64.wrap (Tr.tn z1 : Int))] 77 rfl)
                   have HG12:=Lib.hid (show g9 < wc0.heap.size from lt_of_heap HN0.out)
                   refine hK.out _ _ (mkS.out _ HY1.out HP1.out HB1.out) (fun hj8 => ?_)
                   clear hK K hj9
                   have hj9:=hj8
                   clear hj8
                   clear hbn
                   try simp only [Act.put,pS]
                   try dsimp only [p0,p1]
                   generalize wc0.alloc (.cells #[.int .u8 (P.a : Int),.int .u8 (P.b : Int),.int .u8 (P.c : Int),.int .u8 (P.d : Int),.int .u16 (P.port : Int),.int .i64 (IntKind.i64.wrap (Tr.tn z1 : Int))] 77)=wc1 at *
                   generalize wc0.heap.size=g12 at *
                   refine wpAnyH_ready (rs:=[1]) (by kernel_rfl) (by simp) ?_
                   refine AllReadyH.cons (o:=⟨some 259,_,_,_,_,_⟩) rfl (fun K hK => ?_) ?_
                   ·have rr0:=(cell_of_row _ _ 1 _ _ _ HN1.out).trans rfl
                    go_simp
                    refine hK.out _ _ (mkS.out _ HY1.out HP1.out HB1.out) (fun hj8 => ?_)
                    clear hK K hj9
                    have hj9:=hj8
                    clear hj8
                    clear rr0
                    try simp only [Act.put,pS]
                    try dsimp only [p0,p1]
                    refine wpAnyH_ready (rs:=[11]) (by kernel_rfl) (by simp) ?_
                    refine AllReadyH.cons (o:=⟨some 269,_,_,_,_,_⟩) rfl (fun K hK => ?_) ?_
                    ·obtain ⟨o6,c6,wc2,hrn,hv6,hg6,hb6⟩:=run_one wc1 (st:=72) (e:=77) (k:=6) (ty:=72) (by kernel_rfl) (by kernel_rfl) (by decide) (g9+1) (v) j ((((Tr.tl y1).take j).map rdE).flatMap Ep.cs) [.int .u8 (P.a : Int),.int .u8 (P.b : Int),.int .u8 (P.c : Int),.int .u8 (P.d : Int),.int .u16 (P.port : Int),.int .i64 (IntKind.i64.wrap (Tr.tn z1 : Int))] g12 HV1.out HU1.out rfl (by intro u hu; simp only [List.mem_cons,List.not_mem_nil,or_false] at hu; rcases hu with rfl | rfl | rfl | rfl | rfl | rfl <;> rfl) (by have:=lt_of_heap HN1.out; omega) HNJ.out
                     refine wp_append_at (.tmp 259) (.tmp 268) rfl rfl rfl hrn ?_
                     clear hrn
                     have HB2:=Lib.hid (HB1.out.trans (hb6.mono (by have:=HG9.out; omega)))
                     have HN2:=Lib.hid (HN1.out.grown HV1.out hg6 (by decide))
                     have HV2:=Lib.hid hv6
                     have HY2:=Lib.hid (HY1.out.grown HV1.out hg6 (by decide))
                     have HP2:=Lib.hid (HP1.out.grown HV1.out hg6 (by decide))
                     refine hK.out _ _ (mkS.out _ HY2.out HP2.out HB2.out) (fun hj8 => ?_)
                     clear hK K hj9
                     have hj9:=hj8
                     clear hj8
                     clear hv6 hg6 hb6
                     try simp only [Act.put,pS]
                     try dsimp only [p0,p1]
                     refine tkH (i:=12) (oi:=⟨some 270,_,_,_,_,_⟩) (v:=?_) rfl (Or.inl ⟨by rfl,by (intro w hSw; (try dsimp only at hSw); go_simp; try with_reducible rfl)⟩) hj9 ?_
                     try simp only [Act.put,pS]
                     try dsimp only [p0,p1]
                     refine wpAnyH_ready (rs:=[13]) (by kernel_rfl) (by simp) ?_
                     refine AllReadyH.cons (o:=⟨none,_,_,_,_,_⟩) rfl (fun K hK => ?_) ?_
                     ·have rr0:=(cell_of_row _ _ 1 _ _ _ HN2.out).trans rfl
                      have ss0:=frozen_of_row _ _ 1 _ _ HN2.out
                      go_simp
                      have HB3:=Lib.hid (HB2.out.setCell (p:=⟨g9,1,none⟩) (by have:=HG9.out; show w10.heap.size≤g9; omega) (.slice o6 (j+1) c6))
                      have HN3:=Lib.hid (HN2.out.set (i:=1) (.slice o6 (j+1) c6))
                      have HV3:=Lib.hid (own_set HV2.out HN2.out (by decide) 1 (.slice o6 (j+1) c6))
                      have HY3:=Lib.hid (HY2.out.away (q:=g9) (by have:=HG11.out; omega) 1 (.slice o6 (j+1) c6))
                      have HP3:=Lib.hid (HP2.out.away (q:=g9) (by have:=HG7.out.1; omega) 1 (.slice o6 (j+1) c6))
                      refine hK.out _ _ (mkS.out _ HY3.out HP3.out HB3.out) (fun hj8 => ?_)
                      clear hK K hj9
                      have hj9:=hj8
                      clear hj8
                      clear rr0 ss0
                      try simp only [Act.put,pS]
                      try dsimp only [p0,p1]
                      generalize (wc2.setCell ⟨g9,1,none⟩ (.slice o6 (j+1) c6))=wc3 at *
                      refine wpAnyH_done (by kernel_rfl) ?_ _
                      simp only [Exit.inBlock,Exit.then]
                      apply_assumption
                      have HRz : Hid (rdE y=⟨P,IntKind.i64.wrap (Tr.tn z1 : Int)⟩∧wrE y=false):=Lib.hid ⟨by rw [HWR.out.2]; unfold wgtR; rw [HNR.out,if_neg HLE.out]; have h:=HLE.out; simp [IntKind.wrap,IntKind.bits,IntKind.signed]; omega,by rw [HWR.out.1,HSP.out]; unfold wrW; rw [HNR.out,decide_eq_false HLE.out,show decide (Tr.tk z1≠1)=wrN z1 from rfl,HSz1.out]; rfl⟩
                      have hlj:=HLJ.out
                      try go_wp2
                      exact ⟨⟨j+1,_,by go_num,by omega,HN3,Lib.hid (by rw [← HTJ.out,List.map_append,List.flatMap_append]; have h:=HV3.out; rw [show ([y].map rdE).flatMap Ep.cs=[.int .u8 (P.a : Int),.int .u8 (P.b : Int),.int .u8 (P.c : Int),.int .u8 (P.d : Int),.int .u16 (P.port : Int),.int .i64 (IntKind.i64.wrap (Tr.tn z1 : Int))] by simp only [List.map_cons,List.map_nil,HRz.out.1]; rfl]; exact h),Lib.hid (by rw [← HTJ.out,List.any_append,HA30.out]; simp [HRz.out.2]),HB3⟩,by simp [intOf]; omega⟩
                     ·exact AllReadyH.nil
                    ·exact AllReadyH.nil
                   ·exact AllReadyH.nil
                  ·exact AllReadyH.nil
            ·obtain rfl : j=(Tr.tl y1).length:=by omega
             have HLX : Hid (rdCl x=⟨Tr.ts y0,(Tr.tl y1).map rdE⟩∧wrCl x=false):=Lib.hid ⟨by rw [HWL.out.2,rows_eq HKy1.out,txtR_eq (by have h:=HSy0.out; unfold wrS at h; simpa using h)],by rw [HWL.out.1,HSy0.out,wrL_eq HKy1.out]; have h:=HA30.out; rw [List.take_length] at h; rw [h]; rfl⟩
             have HVe:=Lib.hid (show w30.ownsRow (g9+1) 77 6 v ((Tr.tl y1).map rdE).length (((Tr.tl y1).map rdE).flatMap Ep.cs) by have h:=HV30.out; rw [List.take_length] at h; rwa [List.length_map])
             obtain ⟨ov,cv2,hfv⟩:=own_form HVe.out
             subst hfv
             rw [List.length_map] at HN30
             have HO30:=Lib.hid (Bk.later HO10.out HB30.out)
             have HZ30:=Lib.hid (HZ10.out.later HB30.out)
             have HL30:=Lib.hid (HL10.out.later HB30.out)
             obtain ⟨PL,hPL,hown,hin⟩:=HC10.out.later HB30.out
             have HPL:=Lib.hid hPL
             have HIN2:=Lib.hid hin
             have HWb:=Lib.hid (alloc_below w30 (.cells #[.string (Tr.ts y0),.slice ov (Tr.tl y1).length cv2] 74))
             have HW1:=Lib.hid (own_later hown HWb.out)
             have HN1':=Lib.hid (alloc_at (w:=w30) (g:=w30.heap.size) #[.string (Tr.ts y0),.slice ov (Tr.tl y1).length cv2] 74 rfl)
             have HNP:=Lib.hid (show PL.length≤1000000 by have h1 : PL.length=i:=(by rw [← List.length_map (f:=Prod.fst),hPL,List.length_map,List.length_take]; have:=HLT.out; omega); have:=HLI.out; omega)
             have HGE:=Lib.hid (show w.heap.size+3≤(w30.alloc (.cells #[.string (Tr.ts y0),.slice ov (Tr.tl y1).length cv2] 74)).heap.size by have h1:=HGO.out; have h2:=HB30.out.size; simp; omega)
             have HG9b:=Lib.hid (show w.heap.size+3≤g9+1 by have h1:=HGO.out; have h2:=HG9.out; omega)
             have HONE:=Lib.hid (show ∀ u ∈ ([.string (Tr.ts y0),.slice ov (Tr.tl y1).length cv2] : List Value),u.oneCell'=true by intro u hu; simp only [List.mem_cons,List.not_mem_nil,or_false] at hu; rcases hu with rfl | rfl <;> rfl)
             obtain ⟨t0,t1⟩:=bk3f2 HO30.out
             obtain ⟨s0,s1⟩:=bk2 HN30.out
             clear hPL hown hin
             have hq3 : ¬ (((Tr.tl y1).length : Int) < ((Tr.tl y1).length : Int)):=by omega
             go_wp2_with (first
              | (at_builtin; go_must (refine wpList_append_one (w30.alloc (.cells #[.string (Tr.ts y0),.slice ov (Tr.tl y1).length cv2] 74)) rfl (.tmp 273) (.tmp 275) (e:=74) (k:=2) Tryz.underlying35 (by kernel_rfl) (by decide) rfl (w.heap.size+3) (.slice oK nK cK) PL.length (PL.flatMap cccs) [.string (Tr.ts y0),.slice ov (Tr.tl y1).length cv2] w30.heap.size rfl HW1.out rfl HN1'.out rfl HONE.out HGE.out HNP.out ?_); intro v6 w6 hv6 hg6 hb6 hn6; obtain ⟨o6,c6,hf6⟩:=own_form hv6; subst hf6; have HV6:=Lib.hid hv6; have HO6:=Lib.hid ((HO30.out.later HWb.out).grown HW1.out hg6 (by decide)); have HL6:=Lib.hid ((HL30.out.later HWb.out).grown HW1.out hg6 (by decide) (by decide)); have HZ6:=Lib.hid ((HZ30.out.later HWb.out).grown HW1.out hg6 (by decide) (by decide) (hb6.mono (by omega))); have HVv:=Lib.hid (own_mono (B':=w.heap.size+3) (own_grown (own_later HVe.out HWb.out) HW1.out hg6 (by decide)) HG9b.out); have HI6:=Lib.hid (fun p hp => own_grown (own_later (HIN2.out p hp) HWb.out) HW1.out hg6 (by decide)); obtain ⟨y0',y1'⟩:=bk3f2 HO6.out; clear hv6 hg6 hb6 hn6))
             have hlt:=HLT.out
             go_roundw
             case rel =>
              refine ⟨i+1,_,by go_num,by omega,Lib.hid (HO6.out.set (i:=2) (.slice o6 (PL.length+1) c6)),Lib.hid ?_,Lib.hid (by rw [← HTK.out,List.any_append,HN10.out]; simp [HLX.out.2]),Lib.hid (HL6.out.set HO6.out (by decide) (by decide) 2 _),Lib.hid (HZ6.out.set (g:=w.heap.size+1+1) (by omega) 2 (.slice o6 (PL.length+1) c6))⟩
              rw [← HTK.out,List.map_append,← HPL.out]
              refine CcR.set (q:=w.heap.size+1+1) (t':=37) ?_ HO6.out (by decide) (by decide) 2 _
              refine ⟨PL++[(rdCl x,.slice ov ((Tr.tl y1).map rdE).length cv2)],by simp,?_,fun p hp => ?_⟩
              ·rw [List.length_append,List.flatMap_append]
               have h:=HV6.out
               rw [show [(rdCl x,Value.slice ov ((Tr.tl y1).map rdE).length cv2)].flatMap cccs=[.string (Tr.ts y0),.slice ov (Tr.tl y1).length cv2] by rw [HLX.out.1,List.length_map]; rfl]
               exact h
              ·rcases List.mem_append.1 hp with hp | hp
               ·exact HI6.out p hp
               ·obtain rfl:=List.mem_singleton.1 hp
                rw [HLX.out.1]
                exact HVv.out
             case measure => simp [intOf]; omega
          ·have HW : Hid (wrC t=true):=Lib.hid (HBX.out (by rw [HWL.out.1,wrL_bad hS,Bool.or_true]))
           have KY : Hid (∀ wz,Below w.heap.size w wz→Calls Tryz.prog 81 #[.agg #[.int .i64 (Tr.tk y1),.int .u64 (Tr.tn y1 : Int),.string (Tr.ts y1),.slice py1 (Tr.tl y1).length qy1],.int .i64 3,.int .i64 (-1)] wz (TrP false wz)):=Lib.hid (fun wz h => by
            have k:=shape_any 3 (-1) y1 _ _ _ _ wz (HVy1.out.later h)
            rw [shp_any,decide_eq_false hS] at k
            exact k)
           clear hS
           go_wp2_with fail
           refine (KY.out _ (HZB.out _ HB13.out)).mono ?_
           rintro e w14 ⟨rfl,hb⟩
           have HB14:=Lib.hid (HB13.out.trans (hb.mono HB13.out.size))
           have HX14:=Lib.hid (Bk.later HX13.out hb)
           clear hb f0 f1 f2 f3 a0 a1 a2 a3 a4 a5 a6 a7
           have HOe:=Lib.hid (Bk.later HO10.out HB14.out)
           have HZe:=Lib.hid (HZ10.out.later HB14.out)
           obtain ⟨k0,k1,k2⟩:=bk3 HOe.out
           have rr0:=(cell_of_row _ _ 0 _ _ _ HZe.out.rb).trans rfl
           have rr1:=(cell_of_row _ _ 1 _ _ _ HZe.out.rb).trans rfl
           have rr2:=(cell_of_row _ _ 2 _ _ _ HZe.out.rb).trans rfl
           have ss0:=frozen_of_row _ _ 0 _ _ HZe.out.rb
           have ss1:=frozen_of_row _ _ 1 _ _ HZe.out.rb
           have ss2:=frozen_of_row _ _ 2 _ _ HZe.out.rb
           go_wp2
           have hch : (((w14.setCell ⟨w.heap.size+1,0,none⟩ (.int .u64 (Tr.tn x0 : Int))).setCell ⟨w.heap.size+1,1,none⟩ (.slice oV nV cV)).setCell ⟨w.heap.size+1,2,none⟩ (.slice oK nK cK))=sets w14 (w.heap.size+1) 0 [.int .u64 (Tr.tn x0 : Int),.slice oV nV cV,.slice oK nK cK]:=rfl
           rw [hch]
           clear hch
           have HYf : Hid (Bk (sets w14 (w.heap.size+1) 0 [.int .u64 (Tr.tn x0 : Int),.slice oV nV cV,.slice oK nK cK]) (w.heap.size+1) #[.int .u64 (Tr.tn x0 : Int),.slice oV nV cV,.slice oK nK cK] 37):=Lib.hid (sets_bk [.int .u64 (Tr.tn x0 : Int),.slice oV nV cV,.slice oK nK cK] [.int .u64 0,.slice none 0 0,.slice none 0 0] [] rfl HZe.out.rb)
           have HBf:=Lib.hid (sets_below [.int .u64 (Tr.tn x0 : Int),.slice oV nV cV,.slice oK nK cK] 0 w14 HZe.out.b (show w.heap.size≤w.heap.size+1 by omega))
           generalize sets w14 (w.heap.size+1) 0 [.int .u64 (Tr.tn x0 : Int),.slice oV nV cV,.slice oK nK cK]=wf at *
           clear k0 k1 k2 rr0 rr1 rr2 ss0 ss1 ss2
           have rr0:=(cell_of_row _ _ 0 _ _ _ HYf.out).trans rfl
           have rr1:=(cell_of_row _ _ 1 _ _ _ HYf.out).trans rfl
           have rr2:=(cell_of_row _ _ 2 _ _ _ HYf.out).trans rfl
           refine bodyPost_ret (v:=.tuple #[.agg #[.int .u64 (Tr.tn x0 : Int),.slice oV nV cV,.slice oK nK cK],.bool false]) (by simp [results,Tryz.results37,go_sem, *]) rfl ?_
           exact of_bad HW.out HBf.out
       ·obtain rfl : i=(Tr.tl x2).length:=by omega
        have HCa:=Lib.hid (show CcR w10 (w.heap.size+3) K ((Tr.tl x2).map rdCl) by have h:=HC10.out; rwa [List.take_length] at h)
        have HNb:=Lib.hid (show (Tr.tl x2).any wrCl=false by have h:=HN10.out; rwa [List.take_length] at h)
        obtain ⟨oK,nK,cK,hfv⟩:=HCa.out.form
        subst hfv
        have HWf : Hid (wrC t=false):=Lib.hid (by rw [HWC.out,hB,wrL_eq HKC.out,HNa.out,wrL_eq HKD.out,HNb.out]; rfl)
        have HRf : Hid (rdC t=⟨Tr.tn x0,(Tr.tl x1).map rdLs,(Tr.tl x2).map rdCl⟩):=Lib.hid (by rw [HRC.out,rows_eq HKC.out,rows_eq HKD.out,numR_eq (by have h:=hB; unfold wrN at h; simpa using h)])
        have hq8 : ¬ (((Tr.tl x2).length : Int) < ((Tr.tl x2).length : Int)):=by omega
        obtain ⟨k0,k1,k2⟩:=bk3 HO10.out
        have rr0:=(cell_of_row _ _ 0 _ _ _ HZ10.out.rb).trans rfl
        have rr1:=(cell_of_row _ _ 1 _ _ _ HZ10.out.rb).trans rfl
        have rr2:=(cell_of_row _ _ 2 _ _ _ HZ10.out.rb).trans rfl
        have ss0:=frozen_of_row _ _ 0 _ _ HZ10.out.rb
        have ss1:=frozen_of_row _ _ 1 _ _ HZ10.out.rb
        have ss2:=frozen_of_row _ _ 2 _ _ HZ10.out.rb
        go_wp2
        have hch : (((w10.setCell ⟨w.heap.size+1,0,none⟩ (.int .u64 (Tr.tn x0 : Int))).setCell ⟨w.heap.size+1,1,none⟩ (.slice oV nV cV)).setCell ⟨w.heap.size+1,2,none⟩ (.slice oK nK cK))=sets w10 (w.heap.size+1) 0 [.int .u64 (Tr.tn x0 : Int),.slice oV nV cV,.slice oK nK cK]:=rfl
        rw [hch]
        clear hch
        have HYf : Hid (Bk (sets w10 (w.heap.size+1) 0 [.int .u64 (Tr.tn x0 : Int),.slice oV nV cV,.slice oK nK cK]) (w.heap.size+1) #[.int .u64 (Tr.tn x0 : Int),.slice oV nV cV,.slice oK nK cK] 37):=Lib.hid (sets_bk [.int .u64 (Tr.tn x0 : Int),.slice oV nV cV,.slice oK nK cK] [.int .u64 0,.slice none 0 0,.slice none 0 0] [] rfl HZ10.out.rb)
        have HBf:=Lib.hid (sets_below [.int .u64 (Tr.tn x0 : Int),.slice oV nV cV,.slice oK nK cK] 0 w10 HZ10.out.b (show w.heap.size≤w.heap.size+1 by omega))
        have HLs:=Lib.hid (HL10.out.sets HZ10.out.rb (by decide) (by decide) [.int .u64 (Tr.tn x0 : Int),.slice oV nV cV,.slice oK nK cK] 0)
        have HCs:=Lib.hid (HCa.out.sets HZ10.out.rb (by decide) (by decide) [.int .u64 (Tr.tn x0 : Int),.slice oV nV cV,.slice oK nK cK] 0)
        generalize sets w10 (w.heap.size+1) 0 [.int .u64 (Tr.tn x0 : Int),.slice oV nV cV,.slice oK nK cK]=wf at *
        clear k0 k1 k2 rr0 rr1 rr2 ss0 ss1 ss2
        have rr0:=(cell_of_row _ _ 0 _ _ _ HYf.out).trans rfl
        have rr1:=(cell_of_row _ _ 1 _ _ _ HYf.out).trans rfl
        have rr2:=(cell_of_row _ _ 2 _ _ _ HYf.out).trans rfl
        refine bodyPost_ret (v:=.tuple #[.agg #[.int .u64 (Tr.tn x0 : Int),.slice oV nV cV,.slice oK nK cK],.bool true]) (by simp [results,Tryz.results37,go_sem, *]) rfl ?_
        exact ⟨Tr.tn x0,oV,nV,cV,oK,nK,cK,by rw [HWf.out]; rfl,fun _ => ⟨by rw [HRf.out],by rw [HRf.out]; exact LlR.mono HLs.out (Nat.zero_le _),by rw [HRf.out]; exact CcR.mono HCs.out (Nat.zero_le _)⟩,HBf.out⟩
   ·have HW : Hid (wrC t=true):=Lib.hid (by rw [HWC.out,wrL_bad hD,Bool.or_true])
    have KD2 : Hid (∀ wz,Below w.heap.size w wz→Calls Tryz.prog 81 #[.agg #[.int .i64 (Tr.tk x2),.int .u64 (Tr.tn x2 : Int),.string (Tr.ts x2),.slice p2 (Tr.tl x2).length q2],.int .i64 3,.int .i64 (-1)] wz (TrP false wz)):=Lib.hid (fun wz h => by
     have k:=KD.out wz h
     rw [shp_any,decide_eq_false hD] at k
     exact k)
    clear hD
    go_wp2_with fail
    refine (KD2.out _ HZ3.out.b).mono ?_
    rintro e w4 ⟨rfl,hb⟩
    have HZ4:=Lib.hid (HZ3.out.later hb)
    have HO4:=Lib.hid (HO3.out.later hb)
    clear hb f0 f1 f2 f3 a0 a1 a2 a3 a4 a5 a6 a7 a8 a9 a10 a11
    obtain ⟨⟨f0,f1,f2,f3⟩,_⟩:=bk4 HZ4.out.pb
    obtain ⟨a0,a1,a2,a3⟩:=HC0.out _ HZ4.out.b
    obtain ⟨a4,a5,a6,a7⟩:=HC1.out _ HZ4.out.b
    obtain ⟨a8,a9,a10,a11⟩:=HC2.out _ HZ4.out.b
    obtain ⟨k0,k1,k2⟩:=bk3 HO4.out
    have y0:=(cell_of_row _ _ 0 _ _ _ HZ4.out.rb).trans rfl
    have y1:=(cell_of_row _ _ 1 _ _ _ HZ4.out.rb).trans rfl
    have y2:=(cell_of_row _ _ 2 _ _ _ HZ4.out.rb).trans rfl
    have z0:=frozen_of_row _ _ 0 _ _ HZ4.out.rb
    have z1:=frozen_of_row _ _ 1 _ _ HZ4.out.rb
    have z2:=frozen_of_row _ _ 2 _ _ HZ4.out.rb
    go_wp2
    have hch : (((w4.setCell ⟨w.heap.size+1,0,none⟩ (.int .u64 0)).setCell ⟨w.heap.size+1,1,none⟩ (.slice none 0 0)).setCell ⟨w.heap.size+1,2,none⟩ (.slice none 0 0))=sets w4 (w.heap.size+1) 0 [.int .u64 0,.slice none 0 0,.slice none 0 0]:=rfl
    rw [hch]
    clear hch
    have HYf : Hid (Bk (sets w4 (w.heap.size+1) 0 [.int .u64 0,.slice none 0 0,.slice none 0 0]) (w.heap.size+1) #[.int .u64 0,.slice none 0 0,.slice none 0 0] 37):=Lib.hid (sets_bk [.int .u64 0,.slice none 0 0,.slice none 0 0] [.int .u64 0,.slice none 0 0,.slice none 0 0] [] rfl HZ4.out.rb)
    have HBf:=Lib.hid (sets_below [.int .u64 0,.slice none 0 0,.slice none 0 0] 0 w4 HZ4.out.b (show w.heap.size≤w.heap.size+1 by omega))
    generalize sets w4 (w.heap.size+1) 0 [.int .u64 0,.slice none 0 0,.slice none 0 0]=wf at *
    clear k0 k1 k2 y0 y1 y2 z0 z1 z2
    have y0:=(cell_of_row _ _ 0 _ _ _ HYf.out).trans rfl
    have y1:=(cell_of_row _ _ 1 _ _ _ HYf.out).trans rfl
    have y2:=(cell_of_row _ _ 2 _ _ _ HYf.out).trans rfl
    refine bodyPost_ret (v:=.tuple #[.agg #[.int .u64 0,.slice none 0 0,.slice none 0 0],.bool false]) (by simp [results,Tryz.results37,go_sem, *]) rfl ?_
    exact of_bad HW.out HBf.out
  ·have HW : Hid (wrC t=true):=Lib.hid (by rw [HWC.out,wrL_bad hC,Bool.or_true,Bool.true_or])
   have KC2 : Hid (∀ wz,Below w.heap.size w wz→Calls Tryz.prog 81 #[.agg #[.int .i64 (Tr.tk x1),.int .u64 (Tr.tn x1 : Int),.string (Tr.ts x1),.slice p1 (Tr.tl x1).length q1],.int .i64 3,.int .i64 (-1)] wz (TrP false wz)):=Lib.hid (fun wz h => by
    have k:=KC.out wz h
    rw [shp_any,decide_eq_false hC] at k
    exact k)
   clear hC
   go_wp2_with fail
   refine (KC2.out _ HZ2.out.b).mono ?_
   rintro e w3 ⟨rfl,hb⟩
   have HZ3:=Lib.hid (HZ2.out.later hb)
   have HO3:=Lib.hid (HO2.out.later hb)
   clear hb f0 f1 f2 f3 a0 a1 a2 a3 a4 a5 a6 a7 a8 a9 a10 a11
   obtain ⟨⟨f0,f1,f2,f3⟩,_⟩:=bk4 HZ3.out.pb
   obtain ⟨a0,a1,a2,a3⟩:=HC0.out _ HZ3.out.b
   obtain ⟨a4,a5,a6,a7⟩:=HC1.out _ HZ3.out.b
   obtain ⟨a8,a9,a10,a11⟩:=HC2.out _ HZ3.out.b
   obtain ⟨k0,k1,k2⟩:=bk3 HO3.out
   have y0:=(cell_of_row _ _ 0 _ _ _ HZ3.out.rb).trans rfl
   have y1:=(cell_of_row _ _ 1 _ _ _ HZ3.out.rb).trans rfl
   have y2:=(cell_of_row _ _ 2 _ _ _ HZ3.out.rb).trans rfl
   have z0:=frozen_of_row _ _ 0 _ _ HZ3.out.rb
   have z1:=frozen_of_row _ _ 1 _ _ HZ3.out.rb
   have z2:=frozen_of_row _ _ 2 _ _ HZ3.out.rb
   go_wp2
   have hch : (((w3.setCell ⟨w.heap.size+1,0,none⟩ (.int .u64 0)).setCell ⟨w.heap.size+1,1,none⟩ (.slice none 0 0)).setCell ⟨w.heap.size+1,2,none⟩ (.slice none 0 0))=sets w3 (w.heap.size+1) 0 [.int .u64 0,.slice none 0 0,.slice none 0 0]:=rfl
   rw [hch]
   clear hch
   have HYf : Hid (Bk (sets w3 (w.heap.size+1) 0 [.int .u64 0,.slice none 0 0,.slice none 0 0]) (w.heap.size+1) #[.int .u64 0,.slice none 0 0,.slice none 0 0] 37):=Lib.hid (sets_bk [.int .u64 0,.slice none 0 0,.slice none 0 0] [.int .u64 0,.slice none 0 0,.slice none 0 0] [] rfl HZ3.out.rb)
   have HBf:=Lib.hid (sets_below [.int .u64 0,.slice none 0 0,.slice none 0 0] 0 w3 HZ3.out.b (show w.heap.size≤w.heap.size+1 by omega))
   generalize sets w3 (w.heap.size+1) 0 [.int .u64 0,.slice none 0 0,.slice none 0 0]=wf at *
   clear k0 k1 k2 y0 y1 y2 z0 z1 z2
   have y0:=(cell_of_row _ _ 0 _ _ _ HYf.out).trans rfl
   have y1:=(cell_of_row _ _ 1 _ _ _ HYf.out).trans rfl
   have y2:=(cell_of_row _ _ 2 _ _ _ HYf.out).trans rfl
   refine bodyPost_ret (v:=.tuple #[.agg #[.int .u64 0,.slice none 0 0,.slice none 0 0],.bool false]) (by simp [results,Tryz.results37,go_sem, *]) rfl ?_
   exact of_bad HW.out HBf.out
theorem of_all (t : Tr) (c0 c1 c2 c3 : Value) (w : World) (h : VT w t c0 c1 c2 c3) : Calls Tryz.prog 37 #[.agg #[c0,c1,c2,c3]] w (OfP t w):=by
 cases hF : wrF 3 t with
 | true => exact of_form t _ _ _ _ w h hF
 | false =>
  obtain ⟨_,hl3⟩:=wrF_row hF
  obtain ⟨x0,x1,x2,hl⟩:=three_of hl3
  obtain ⟨o,cap,b,off,rfl,rfl,rfl,rfl,_,ho,hE⟩:=VT.kids h hl
  have ho:=ho (by simp)
  subst ho
  obtain ⟨p0,q0,hc0,hv0⟩:=hE 0 (by simp)
  obtain ⟨p1,q1,hc1,hv1⟩:=hE 1 (by simp)
  obtain ⟨p2,q2,hc2,hv2⟩:=hE 2 (by simp)
  exact of_row hF hl h (fun wz hb => by have k:=hc0 wz hb; simp only [Nat.zero_mul,Nat.one_mul,Nat.reduceMul,Nat.add_zero,Nat.add_assoc,Nat.reduceAdd] at k; exact k) (fun wz hb => by have k:=hc1 wz hb; simp only [Nat.zero_mul,Nat.one_mul,Nat.reduceMul,Nat.add_zero,Nat.add_assoc,Nat.reduceAdd] at k; exact k) (fun wz hb => by have k:=hc2 wz hb; simp only [Nat.zero_mul,Nat.one_mul,Nat.reduceMul,Nat.add_zero,Nat.add_assoc,Nat.reduceAdd] at k; exact k) hv0 hv1 hv2
end Go.Proofs.YtjfjliobencppaaGreatDoor.Cf
