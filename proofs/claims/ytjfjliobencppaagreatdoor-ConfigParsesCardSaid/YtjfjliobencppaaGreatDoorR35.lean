/- config: the document's reading: a place. -/
import Derived.Test.YtjfjliobencppaaGreatDoorR00
import Derived.Test.YtjfjliobencppaaGreatDoorR34
set_option linter.unusedVariables false
set_option linter.unusedSimpArgs false
set_option maxRecDepth 100000
set_option maxHeartbeats 2000000
namespace Go.Proofs.YtjfjliobencppaaGreatDoor.Cf
open Go.RowKit
def plA (t : Tr) : Value:=.tuple #[.agg #[.int .u8 ((plR t).a : Int),.int .u8 ((plR t).b : Int),.int .u8 ((plR t).c : Int),.int .u8 ((plR t).d : Int),.int .u16 ((plR t).port : Int)],.bool (!wrP t)]
theorem plA_bad {t : Tr} (h : Tr.tk t≠2∨(Tr.ts t).size≠6∨(Sp.byt (Tr.ts t) 4=0∧Sp.byt (Tr.ts t) 5=0)) : plA t=.tuple #[.agg #[.int .u8 0,.int .u8 0,.int .u8 0,.int .u8 0,.int .u16 0],.bool false]:=by
 have hk : okP (txtR t)=false∧wrP t=true:=by
  unfold wrP
  by_cases h2 : Tr.tk t=2
  ·have e : txtR t=Tr.ts t:=by unfold txtR ofT; rw [if_pos h2]
   have h' : ¬ ((Tr.ts t).size=6∧Sp.portB (Tr.ts t)≠0):=by
    unfold Sp.portB
    rcases h with h | h | h
    ·exact absurd h2 h
    ·exact fun k => h k.1
    ·intro k
     rw [h.1,h.2] at k
     exact k.2 rfl
   have e2 : okP (txtR t)=false:=by unfold okP; rw [e]; exact decide_eq_false h'
   exact ⟨e2,by rw [e2]; simp⟩
  ·have e : txtR t=⟨#[]⟩:=by unfold txtR ofT; rw [if_neg h2]; rfl
   have e2 : okP (txtR t)=false:=by rw [e]; rfl
   exact ⟨e2,by rw [e2]; simp⟩
 unfold plA plR
 rw [hk.1,hk.2]
 rfl
theorem plA_good {t : Tr} {e0 e1 e2 e3 e4 e5 : UInt8} (h2 : Tr.tk t=2) (hs : Tr.ts t=⟨#[e0,e1,e2,e3,e4,e5]⟩) (h : ¬ (e4.toNat=0∧e5.toNat=0)) : plA t=.tuple #[.agg #[.int .u8 (e0.toNat : Int),.int .u8 (e1.toNat : Int),.int .u8 (e2.toNat : Int),.int .u8 (e3.toNat : Int),.int .u16 ((e4.toNat : Int) * 256+(e5.toNat : Int))],.bool true]:=by
 have e : txtR t=⟨#[e0,e1,e2,e3,e4,e5]⟩:=by unfold txtR ofT; rw [if_pos h2,hs]
 have hp : Sp.portB ⟨#[e0,e1,e2,e3,e4,e5]⟩=e4.toNat * 256+e5.toNat:=rfl
 have ho : okP (txtR t)=true:=by
  unfold okP
  rw [e,hp]
  exact decide_eq_true ⟨rfl,by omega⟩
 have hw : wrP t=false:=by unfold wrP; rw [ho,decide_eq_false (by simp [h2])]; rfl
 unfold plA plR
 rw [ho,hw,if_pos rfl,e,hp]
 rfl
theorem rplace_of (t : Tr) (c0 c1 c2 c3 : Value) (w : World) (h : VT w t c0 c1 c2 c3) : Calls Tryz.prog 82 #[.agg #[c0,c1,c2,c3]] w fun e w' => e=.returned (plA t)∧Below w.heap.size w w':=by
 obtain ⟨o,cap,b,off,rfl,rfl,rfl,rfl,hz⟩:=h.parts
 clear hz h
 have HANS0 : Hid (plA t=plA t):=Lib.hid rfl
 generalize (Tr.tl t).length=m at *
 have HB0:=Lib.hid (show Below w.heap.size w ((w.alloc (.cells #[.int .i64 (Tr.tk t),.int .u64 (Tr.tn t : Int),.string (Tr.ts t),.slice o m cap] 81)).alloc (.cells #[.int .u8 0,.int .u8 0,.int .u8 0,.int .u8 0,.int .u16 0] 75)) from (alloc_below _ _).trans ((alloc_below _ _).mono (by simp)))
 have HX0:=Lib.hid (show Bk ((w.alloc (.cells #[.int .i64 (Tr.tk t),.int .u64 (Tr.tn t : Int),.string (Tr.ts t),.slice o m cap] 81)).alloc (.cells #[.int .u8 0,.int .u8 0,.int .u8 0,.int .u8 0,.int .u16 0] 75)) w.heap.size #[.int .i64 (Tr.tk t),.int .u64 (Tr.tn t : Int),.string (Tr.ts t),.slice o m cap] 81 from (alloc_at (w:=w) (g:=w.heap.size) _ _ rfl).later (alloc_below _ _))
 have HY0:=Lib.hid (alloc_at (w:=w.alloc (.cells #[.int .i64 (Tr.tk t),.int .u64 (Tr.tn t : Int),.string (Tr.ts t),.slice o m cap] 81)) (g:=w.heap.size+1) #[.int .u8 0,.int .u8 0,.int .u8 0,.int .u8 0,.int .u16 0] 75 (by simp))
 obtain ⟨w0,hw0⟩ : ∃ w0,w0=((w.alloc (.cells #[.int .i64 (Tr.tk t),.int .u64 (Tr.tn t : Int),.string (Tr.ts t),.slice o m cap] 81)).alloc (.cells #[.int .u8 0,.int .u8 0,.int .u8 0,.int .u8 0,.int .u16 0] 75)):=⟨_,rfl⟩
 rw [← hw0] at HB0 HX0 HY0
 go_enter Tryz.func82,Tryz.ntmps82
 go_upto_region 1 with (fail)
 rw [← hw0]
 clear hw0
 obtain ⟨⟨x0,x1,x2,x3⟩,_⟩:=bk4 HX0.out
 by_cases h2 : Tr.tk t=2
 ·by_cases h6 : (Tr.ts t).size=6
  ·obtain ⟨e0,e1,e2,e3,e4,e5,hs⟩:=Sp.six _ h6
   have HS:=Lib.hid hs
   have H2:=Lib.hid h2
   rw [h2] at x0
   rw [hs] at x2
   have l0:=e0.toNat_lt
   have l4 : e4.toNat < 256:=e4.toNat_lt
   have l5 : e5.toNat < 256:=e5.toNat_lt
   have ew1 : IntKind.u16.wrap ((e4.toNat : Int) * 256)=(e4.toNat : Int) * 256:=by simp [IntKind.wrap,IntKind.bits,IntKind.signed]; omega
   have ew0 : IntKind.u16.wrap (e4.toNat : Int)=(e4.toNat : Int):=by simp [IntKind.wrap,IntKind.bits,IntKind.signed]; omega
   have ew5 : IntKind.u16.wrap (e5.toNat : Int)=(e5.toNat : Int):=by simp [IntKind.wrap,IntKind.bits,IntKind.signed]; omega
   have ew2 : IntKind.u16.wrap ((e4.toNat : Int) * 256+(e5.toNat : Int))=(e4.toNat : Int) * 256+(e5.toNat : Int):=by simp [IntKind.wrap,IntKind.bits,IntKind.signed]; omega
   rw [h2,hs]
   clear h2 h6 hs
   have hj0 : ∀ h,((⟨#[e0,e1,e2,e3,e4,e5]⟩ : ByteArray)[0]'h)=e0:=fun _ => rfl
   have hj1 : ∀ h,((⟨#[e0,e1,e2,e3,e4,e5]⟩ : ByteArray)[1]'h)=e1:=fun _ => rfl
   have hj2 : ∀ h,((⟨#[e0,e1,e2,e3,e4,e5]⟩ : ByteArray)[2]'h)=e2:=fun _ => rfl
   have hj3 : ∀ h,((⟨#[e0,e1,e2,e3,e4,e5]⟩ : ByteArray)[3]'h)=e3:=fun _ => rfl
   have hj4 : ∀ h,((⟨#[e0,e1,e2,e3,e4,e5]⟩ : ByteArray)[4]'h)=e4:=fun _ => rfl
   have hj5 : ∀ h,((⟨#[e0,e1,e2,e3,e4,e5]⟩ : ByteArray)[5]'h)=e5:=fun _ => rfl
   by_cases h4 : e4.toNat=0
   ·by_cases h5 : e5.toNat=0
    ·have HANS : Hid (plA t=.tuple #[.agg #[.int .u8 0,.int .u8 0,.int .u8 0,.int .u8 0,.int .u16 0],.bool false]):=Lib.hid (plA_bad (Or.inr (Or.inr (by rw [HS.out]; exact ⟨h4,h5⟩))))
     have q4 : ((e4.toNat : Int) == 0)=true:=by rw [beq_iff_eq]; omega
     have q5 : ((e5.toNat : Int) == 0)=true:=by rw [beq_iff_eq]; omega
     clear h4 h5
     have y0:=(cell_of_row _ _ 0 _ _ _ HY0.out).trans rfl
     have y1:=(cell_of_row _ _ 1 _ _ _ HY0.out).trans rfl
     have y2:=(cell_of_row _ _ 2 _ _ _ HY0.out).trans rfl
     have y3:=(cell_of_row _ _ 3 _ _ _ HY0.out).trans rfl
     have y4:=(cell_of_row _ _ 4 _ _ _ HY0.out).trans rfl
     have z0:=frozen_of_row _ _ 0 _ _ HY0.out
     have z1:=frozen_of_row _ _ 1 _ _ HY0.out
     have z2:=frozen_of_row _ _ 2 _ _ HY0.out
     have z3:=frozen_of_row _ _ 3 _ _ HY0.out
     have z4:=frozen_of_row _ _ 4 _ _ HY0.out
     go_wp2
     have hch : (((((w0.setCell ⟨w.heap.size+1,0,none⟩ (.int .u8 0)).setCell ⟨w.heap.size+1,1,none⟩ (.int .u8 0)).setCell ⟨w.heap.size+1,2,none⟩ (.int .u8 0)).setCell ⟨w.heap.size+1,3,none⟩ (.int .u8 0)).setCell ⟨w.heap.size+1,4,none⟩ (.int .u16 0))=sets w0 (w.heap.size+1) 0 [.int .u8 0,.int .u8 0,.int .u8 0,.int .u8 0,.int .u16 0]:=rfl
     rw [hch]
     clear hch
     have HYn : Hid (Bk (sets w0 (w.heap.size+1) 0 [.int .u8 0,.int .u8 0,.int .u8 0,.int .u8 0,.int .u16 0]) (w.heap.size+1) #[.int .u8 0,.int .u8 0,.int .u8 0,.int .u8 0,.int .u16 0] 75):=Lib.hid (sets_bk [.int .u8 0,.int .u8 0,.int .u8 0,.int .u8 0,.int .u16 0] [.int .u8 0,.int .u8 0,.int .u8 0,.int .u8 0,.int .u16 0] [] rfl HY0.out)
     have HBn:=Lib.hid (sets_below [.int .u8 0,.int .u8 0,.int .u8 0,.int .u8 0,.int .u16 0] 0 w0 HB0.out (show w.heap.size≤w.heap.size+1 by omega))
     generalize sets w0 (w.heap.size+1) 0 [.int .u8 0,.int .u8 0,.int .u8 0,.int .u8 0,.int .u16 0]=wf at *
     clear y0 y1 y2 y3 y4 z0 z1 z2 z3 z4
     have y0:=(cell_of_row _ _ 0 _ _ _ HYn.out).trans rfl
     have y1:=(cell_of_row _ _ 1 _ _ _ HYn.out).trans rfl
     have y2:=(cell_of_row _ _ 2 _ _ _ HYn.out).trans rfl
     have y3:=(cell_of_row _ _ 3 _ _ _ HYn.out).trans rfl
     have y4:=(cell_of_row _ _ 4 _ _ _ HYn.out).trans rfl
     refine bodyPost_ret (v:=.tuple #[.agg #[.int .u8 0,.int .u8 0,.int .u8 0,.int .u8 0,.int .u16 0],.bool false]) (by simp [results,Tryz.results82,go_sem, *]) rfl ⟨?_,HBn.out⟩
     rw [HANS.out]
    ·have HANS : Hid (plA t=.tuple #[.agg #[.int .u8 (e0.toNat : Int),.int .u8 (e1.toNat : Int),.int .u8 (e2.toNat : Int),.int .u8 (e3.toNat : Int),.int .u16 ((e4.toNat : Int) * 256+(e5.toNat : Int))],.bool true]):=Lib.hid (plA_good H2.out HS.out (fun k => h5 k.2))
     have q4 : ((e4.toNat : Int) == 0)=true:=by rw [beq_iff_eq]; omega
     have q5 : ((e5.toNat : Int) == 0)=false:=by rw [beq_eq_false_iff_ne]; omega
     clear h4 h5
     go_upto_region 4 with fail
     have HYd:=Lib.hid (show Bk w0.drew (w.heap.size+1) #[.int .u8 0,.int .u8 0,.int .u8 0,.int .u8 0,.int .u16 0] 75 from HY0.out)
     have HBd:=Lib.hid HB0.out.drew
     refine wp_region_held_drew (S:=fun _ => True) (by kernel_rfl) True.intro (fun hj9 => ?_)
     generalize w0.drew=wc0 at *
     refine tkH (i:=0) (oi:=⟨some 26,_,_,_,_,_⟩) (v:=?_) rfl (Or.inl ⟨by rfl,by (intro w hSw; (try dsimp only at hSw); go_simp; try with_reducible rfl)⟩) hj9 ?_
     try simp only [Act.put,pS,p0,p1]
     refine tkH (i:=1) (oi:=⟨some 27,_,_,_,_,_⟩) (v:=?_) rfl (Or.inl ⟨by rfl,by (intro w hSw; (try dsimp only at hSw); go_simp; try with_reducible rfl)⟩) hj9 ?_
     try simp only [Act.put,pS,p0,p1]
     refine tkH (i:=2) (oi:=⟨some 28,_,_,_,_,_⟩) (v:=?_) rfl (Or.inl ⟨by rfl,by (intro w hSw; (try dsimp only at hSw); go_simp; try with_reducible rfl)⟩) hj9 ?_
     try simp only [Act.put,pS,p0,p1]
     refine tkH (i:=3) (oi:=⟨some 29,_,_,_,_,_⟩) (v:=?_) rfl (Or.inl ⟨by rfl,by (intro w hSw; (try dsimp only at hSw); go_simp; try with_reducible rfl)⟩) hj9 ?_
     try simp only [Act.put,pS,p0,p1]
     refine tkH (i:=4) (oi:=⟨some 30,_,_,_,_,_⟩) (v:=?_) rfl (Or.inl ⟨by rfl,by (intro w hSw; (try dsimp only at hSw); go_simp; try with_reducible rfl)⟩) hj9 ?_
     try simp only [Act.put,pS,p0,p1]
     refine tkH (i:=5) (oi:=⟨some 31,_,_,_,_,_⟩) (v:=?_) rfl (Or.inl ⟨by rfl,by (intro w hSw; (try dsimp only at hSw); go_simp; try with_reducible rfl)⟩) hj9 ?_
     try simp only [Act.put,pS,p0,p1]
     refine tkH (i:=6) (oi:=⟨some 32,_,_,_,_,_⟩) (v:=?_) rfl (Or.inl ⟨by rfl,by (intro w hSw; (try dsimp only at hSw); go_simp; try with_reducible rfl)⟩) hj9 ?_
     try simp only [Act.put,pS,p0,p1]
     refine tkH (i:=7) (oi:=⟨some 33,_,_,_,_,_⟩) (v:=?_) rfl (Or.inl ⟨by rfl,by (intro w hSw; (try dsimp only at hSw); go_simp; try with_reducible rfl)⟩) hj9 ?_
     try simp only [Act.put,pS,p0,p1]
     refine tkH (i:=8) (oi:=⟨some 34,_,_,_,_,_⟩) (v:=?_) rfl (Or.inl ⟨by rfl,by (intro w hSw; (try dsimp only at hSw); go_simp; try with_reducible rfl)⟩) hj9 ?_
     try simp only [Act.put,pS,p0,p1]
     refine tkH (i:=9) (oi:=⟨some 35,_,_,_,_,_⟩) (v:=?_) rfl (Or.inl ⟨by rfl,by (intro w hSw; (try dsimp only at hSw); go_simp; try with_reducible rfl)⟩) hj9 ?_
     try simp only [Act.put,pS,p0,p1]
     refine tkH (i:=10) (oi:=⟨some 36,_,_,_,_,_⟩) (v:=?_) rfl (Or.inl ⟨by rfl,by (intro w hSw; (try dsimp only at hSw); go_simp; try with_reducible rfl)⟩) hj9 ?_
     try simp only [Act.put,pS,p0,p1]
     refine tkH (i:=11) (oi:=⟨some 37,_,_,_,_,_⟩) (v:=?_) rfl (Or.inl ⟨by rfl,by (intro w hSw; (try dsimp only at hSw); go_simp; try with_reducible rfl)⟩) hj9 ?_
     try simp only [Act.put,pS,p0,p1]
     refine tkH (i:=12) (oi:=⟨some 38,_,_,_,_,_⟩) (v:=?_) rfl (Or.inl ⟨by rfl,by (intro w hSw; (try dsimp only at hSw); go_simp; try with_reducible rfl)⟩) hj9 ?_
     try simp only [Act.put,pS,p0,p1]
     refine tkH (i:=13) (oi:=⟨some 39,_,_,_,_,_⟩) (v:=?_) rfl (Or.inl ⟨by rfl,by (intro w hSw; (try dsimp only at hSw); go_simp; try with_reducible rfl)⟩) hj9 ?_
     try simp only [Act.put,pS,p0,p1]
     refine tkH (i:=14) (oi:=⟨some 40,_,_,_,_,_⟩) (v:=?_) rfl (Or.inl ⟨by rfl,by (intro w hSw; (try dsimp only at hSw); go_simp; try with_reducible rfl)⟩) hj9 ?_
     try simp only [Act.put,pS,p0,p1]
     refine tkH (i:=15) (oi:=⟨some 41,_,_,_,_,_⟩) (v:=?_) rfl (Or.inl ⟨by rfl,by (intro w hSw; (try dsimp only at hSw); go_simp; try with_reducible rfl)⟩) hj9 ?_
     try simp only [Act.put,pS,p0,p1]
     refine tkH (i:=16) (oi:=⟨some 42,_,_,_,_,_⟩) (v:=?_) rfl (Or.inl ⟨by rfl,by (intro w hSw; (try dsimp only at hSw); go_simp; try with_reducible rfl)⟩) hj9 ?_
     try simp only [Act.put,pS,p0,p1]
     refine tkH (i:=17) (oi:=⟨some 43,_,_,_,_,_⟩) (v:=?_) rfl (Or.inl ⟨by rfl,by (intro w hSw; (try dsimp only at hSw); go_simp; try with_reducible rfl)⟩) hj9 ?_
     try simp only [Act.put,pS,p0,p1]
     refine wpAnyH_ready (rs:=[18]) (by kernel_rfl) (by simp) ?_
     refine AllReadyH.cons (o:=⟨none,_,_,_,_,_⟩) rfl (fun K hK => ?_) ?_
     ·have y0:=(cell_of_row _ _ 0 _ _ _ HYd.out).trans rfl
      have y1:=(cell_of_row _ _ 1 _ _ _ HYd.out).trans rfl
      have y2:=(cell_of_row _ _ 2 _ _ _ HYd.out).trans rfl
      have y3:=(cell_of_row _ _ 3 _ _ _ HYd.out).trans rfl
      have y4:=(cell_of_row _ _ 4 _ _ _ HYd.out).trans rfl
      have z0:=frozen_of_row _ _ 0 _ _ HYd.out
      have z1:=frozen_of_row _ _ 1 _ _ HYd.out
      have z2:=frozen_of_row _ _ 2 _ _ HYd.out
      have z3:=frozen_of_row _ _ 3 _ _ HYd.out
      have z4:=frozen_of_row _ _ 4 _ _ HYd.out
      go_simp
      have hch : (((((wc0.setCell ⟨w.heap.size+1,0,none⟩ (.int .u8 (e0.toNat : Int))).setCell ⟨w.heap.size+1,1,none⟩ (.int .u8 (e1.toNat : Int))).setCell ⟨w.heap.size+1,2,none⟩ (.int .u8 (e2.toNat : Int))).setCell ⟨w.heap.size+1,3,none⟩ (.int .u8 (e3.toNat : Int))).setCell ⟨w.heap.size+1,4,none⟩ (.int .u16 ((e4.toNat : Int) * 256+(e5.toNat : Int))))=sets wc0 (w.heap.size+1) 0 [.int .u8 (e0.toNat : Int),.int .u8 (e1.toNat : Int),.int .u8 (e2.toNat : Int),.int .u8 (e3.toNat : Int),.int .u16 ((e4.toNat : Int) * 256+(e5.toNat : Int))]:=rfl
      refine hK.out _ _ True.intro (fun hj8 => ?_)
      clear hK K hj9
      have hj9:=hj8
      clear hj8
      clear y0 z0 y1 z1 y2 z2 y3 z3 y4 z4
      try simp only [Act.put,pS,p0,p1]
      rw [hch]
      clear hch
      refine tkH (i:=19) (oi:=⟨some 3,_,_,_,_,_⟩) (v:=?_) rfl (Or.inl ⟨by rfl,by (intro w hSw; (try dsimp only at hSw); go_simp; try with_reducible rfl)⟩) hj9 ?_
      try simp only [Act.put,pS,p0,p1]
      refine wpAnyH_done (by kernel_rfl) ?_ _
      simp only [Exit.then]
      apply_assumption
      have HYn : Hid (Bk (sets wc0 (w.heap.size+1) 0 [.int .u8 (e0.toNat : Int),.int .u8 (e1.toNat : Int),.int .u8 (e2.toNat : Int),.int .u8 (e3.toNat : Int),.int .u16 ((e4.toNat : Int) * 256+(e5.toNat : Int))]) (w.heap.size+1) #[.int .u8 (e0.toNat : Int),.int .u8 (e1.toNat : Int),.int .u8 (e2.toNat : Int),.int .u8 (e3.toNat : Int),.int .u16 ((e4.toNat : Int) * 256+(e5.toNat : Int))] 75):=Lib.hid (sets_bk [.int .u8 (e0.toNat : Int),.int .u8 (e1.toNat : Int),.int .u8 (e2.toNat : Int),.int .u8 (e3.toNat : Int),.int .u16 ((e4.toNat : Int) * 256+(e5.toNat : Int))] [.int .u8 0,.int .u8 0,.int .u8 0,.int .u8 0,.int .u16 0] [] rfl HYd.out)
      have HBn:=Lib.hid (sets_below [.int .u8 (e0.toNat : Int),.int .u8 (e1.toNat : Int),.int .u8 (e2.toNat : Int),.int .u8 (e3.toNat : Int),.int .u16 ((e4.toNat : Int) * 256+(e5.toNat : Int))] 0 wc0 HBd.out (show w.heap.size≤w.heap.size+1 by omega))
      generalize sets wc0 (w.heap.size+1) 0 [.int .u8 (e0.toNat : Int),.int .u8 (e1.toNat : Int),.int .u8 (e2.toNat : Int),.int .u8 (e3.toNat : Int),.int .u16 ((e4.toNat : Int) * 256+(e5.toNat : Int))]=wf at *
      have y0:=(cell_of_row _ _ 0 _ _ _ HYn.out).trans rfl
      have y1:=(cell_of_row _ _ 1 _ _ _ HYn.out).trans rfl
      have y2:=(cell_of_row _ _ 2 _ _ _ HYn.out).trans rfl
      have y3:=(cell_of_row _ _ 3 _ _ _ HYn.out).trans rfl
      have y4:=(cell_of_row _ _ 4 _ _ _ HYn.out).trans rfl
      try go_wp2
      refine bodyPost_ret (v:=.tuple #[.agg #[.int .u8 (e0.toNat : Int),.int .u8 (e1.toNat : Int),.int .u8 (e2.toNat : Int),.int .u8 (e3.toNat : Int),.int .u16 ((e4.toNat : Int) * 256+(e5.toNat : Int))],.bool true]) (by simp [results,Tryz.results82,go_sem, *]) rfl ⟨?_,HBn.out⟩
      rw [HANS.out]
     ·exact AllReadyH.nil
   ·have HANS : Hid (plA t=.tuple #[.agg #[.int .u8 (e0.toNat : Int),.int .u8 (e1.toNat : Int),.int .u8 (e2.toNat : Int),.int .u8 (e3.toNat : Int),.int .u16 ((e4.toNat : Int) * 256+(e5.toNat : Int))],.bool true]):=Lib.hid (plA_good H2.out HS.out (fun k => h4 k.1))
    have q4 : ((e4.toNat : Int) == 0)=false:=by rw [beq_eq_false_iff_ne]; omega
    clear h4
    go_upto_region 4 with fail
    have HYd:=Lib.hid (show Bk w0.drew (w.heap.size+1) #[.int .u8 0,.int .u8 0,.int .u8 0,.int .u8 0,.int .u16 0] 75 from HY0.out)
    have HBd:=Lib.hid HB0.out.drew
    refine wp_region_held_drew (S:=fun _ => True) (by kernel_rfl) True.intro (fun hj9 => ?_)
    generalize w0.drew=wc0 at *
    refine tkH (i:=0) (oi:=⟨some 26,_,_,_,_,_⟩) (v:=?_) rfl (Or.inl ⟨by rfl,by (intro w hSw; (try dsimp only at hSw); go_simp; try with_reducible rfl)⟩) hj9 ?_
    try simp only [Act.put,pS,p0,p1]
    refine tkH (i:=1) (oi:=⟨some 27,_,_,_,_,_⟩) (v:=?_) rfl (Or.inl ⟨by rfl,by (intro w hSw; (try dsimp only at hSw); go_simp; try with_reducible rfl)⟩) hj9 ?_
    try simp only [Act.put,pS,p0,p1]
    refine tkH (i:=2) (oi:=⟨some 28,_,_,_,_,_⟩) (v:=?_) rfl (Or.inl ⟨by rfl,by (intro w hSw; (try dsimp only at hSw); go_simp; try with_reducible rfl)⟩) hj9 ?_
    try simp only [Act.put,pS,p0,p1]
    refine tkH (i:=3) (oi:=⟨some 29,_,_,_,_,_⟩) (v:=?_) rfl (Or.inl ⟨by rfl,by (intro w hSw; (try dsimp only at hSw); go_simp; try with_reducible rfl)⟩) hj9 ?_
    try simp only [Act.put,pS,p0,p1]
    refine tkH (i:=4) (oi:=⟨some 30,_,_,_,_,_⟩) (v:=?_) rfl (Or.inl ⟨by rfl,by (intro w hSw; (try dsimp only at hSw); go_simp; try with_reducible rfl)⟩) hj9 ?_
    try simp only [Act.put,pS,p0,p1]
    refine tkH (i:=5) (oi:=⟨some 31,_,_,_,_,_⟩) (v:=?_) rfl (Or.inl ⟨by rfl,by (intro w hSw; (try dsimp only at hSw); go_simp; try with_reducible rfl)⟩) hj9 ?_
    try simp only [Act.put,pS,p0,p1]
    refine tkH (i:=6) (oi:=⟨some 32,_,_,_,_,_⟩) (v:=?_) rfl (Or.inl ⟨by rfl,by (intro w hSw; (try dsimp only at hSw); go_simp; try with_reducible rfl)⟩) hj9 ?_
    try simp only [Act.put,pS,p0,p1]
    refine tkH (i:=7) (oi:=⟨some 33,_,_,_,_,_⟩) (v:=?_) rfl (Or.inl ⟨by rfl,by (intro w hSw; (try dsimp only at hSw); go_simp; try with_reducible rfl)⟩) hj9 ?_
    try simp only [Act.put,pS,p0,p1]
    refine tkH (i:=8) (oi:=⟨some 34,_,_,_,_,_⟩) (v:=?_) rfl (Or.inl ⟨by rfl,by (intro w hSw; (try dsimp only at hSw); go_simp; try with_reducible rfl)⟩) hj9 ?_
    try simp only [Act.put,pS,p0,p1]
    refine tkH (i:=9) (oi:=⟨some 35,_,_,_,_,_⟩) (v:=?_) rfl (Or.inl ⟨by rfl,by (intro w hSw; (try dsimp only at hSw); go_simp; try with_reducible rfl)⟩) hj9 ?_
    try simp only [Act.put,pS,p0,p1]
    refine tkH (i:=10) (oi:=⟨some 36,_,_,_,_,_⟩) (v:=?_) rfl (Or.inl ⟨by rfl,by (intro w hSw; (try dsimp only at hSw); go_simp; try with_reducible rfl)⟩) hj9 ?_
    try simp only [Act.put,pS,p0,p1]
    refine tkH (i:=11) (oi:=⟨some 37,_,_,_,_,_⟩) (v:=?_) rfl (Or.inl ⟨by rfl,by (intro w hSw; (try dsimp only at hSw); go_simp; try with_reducible rfl)⟩) hj9 ?_
    try simp only [Act.put,pS,p0,p1]
    refine tkH (i:=12) (oi:=⟨some 38,_,_,_,_,_⟩) (v:=?_) rfl (Or.inl ⟨by rfl,by (intro w hSw; (try dsimp only at hSw); go_simp; try with_reducible rfl)⟩) hj9 ?_
    try simp only [Act.put,pS,p0,p1]
    refine tkH (i:=13) (oi:=⟨some 39,_,_,_,_,_⟩) (v:=?_) rfl (Or.inl ⟨by rfl,by (intro w hSw; (try dsimp only at hSw); go_simp; try with_reducible rfl)⟩) hj9 ?_
    try simp only [Act.put,pS,p0,p1]
    refine tkH (i:=14) (oi:=⟨some 40,_,_,_,_,_⟩) (v:=?_) rfl (Or.inl ⟨by rfl,by (intro w hSw; (try dsimp only at hSw); go_simp; try with_reducible rfl)⟩) hj9 ?_
    try simp only [Act.put,pS,p0,p1]
    refine tkH (i:=15) (oi:=⟨some 41,_,_,_,_,_⟩) (v:=?_) rfl (Or.inl ⟨by rfl,by (intro w hSw; (try dsimp only at hSw); go_simp; try with_reducible rfl)⟩) hj9 ?_
    try simp only [Act.put,pS,p0,p1]
    refine tkH (i:=16) (oi:=⟨some 42,_,_,_,_,_⟩) (v:=?_) rfl (Or.inl ⟨by rfl,by (intro w hSw; (try dsimp only at hSw); go_simp; try with_reducible rfl)⟩) hj9 ?_
    try simp only [Act.put,pS,p0,p1]
    refine tkH (i:=17) (oi:=⟨some 43,_,_,_,_,_⟩) (v:=?_) rfl (Or.inl ⟨by rfl,by (intro w hSw; (try dsimp only at hSw); go_simp; try with_reducible rfl)⟩) hj9 ?_
    try simp only [Act.put,pS,p0,p1]
    refine wpAnyH_ready (rs:=[18]) (by kernel_rfl) (by simp) ?_
    refine AllReadyH.cons (o:=⟨none,_,_,_,_,_⟩) rfl (fun K hK => ?_) ?_
    ·have y0:=(cell_of_row _ _ 0 _ _ _ HYd.out).trans rfl
     have y1:=(cell_of_row _ _ 1 _ _ _ HYd.out).trans rfl
     have y2:=(cell_of_row _ _ 2 _ _ _ HYd.out).trans rfl
     have y3:=(cell_of_row _ _ 3 _ _ _ HYd.out).trans rfl
     have y4:=(cell_of_row _ _ 4 _ _ _ HYd.out).trans rfl
     have z0:=frozen_of_row _ _ 0 _ _ HYd.out
     have z1:=frozen_of_row _ _ 1 _ _ HYd.out
     have z2:=frozen_of_row _ _ 2 _ _ HYd.out
     have z3:=frozen_of_row _ _ 3 _ _ HYd.out
     have z4:=frozen_of_row _ _ 4 _ _ HYd.out
     go_simp
     have hch : (((((wc0.setCell ⟨w.heap.size+1,0,none⟩ (.int .u8 (e0.toNat : Int))).setCell ⟨w.heap.size+1,1,none⟩ (.int .u8 (e1.toNat : Int))).setCell ⟨w.heap.size+1,2,none⟩ (.int .u8 (e2.toNat : Int))).setCell ⟨w.heap.size+1,3,none⟩ (.int .u8 (e3.toNat : Int))).setCell ⟨w.heap.size+1,4,none⟩ (.int .u16 ((e4.toNat : Int) * 256+(e5.toNat : Int))))=sets wc0 (w.heap.size+1) 0 [.int .u8 (e0.toNat : Int),.int .u8 (e1.toNat : Int),.int .u8 (e2.toNat : Int),.int .u8 (e3.toNat : Int),.int .u16 ((e4.toNat : Int) * 256+(e5.toNat : Int))]:=rfl
     refine hK.out _ _ True.intro (fun hj8 => ?_)
     clear hK K hj9
     have hj9:=hj8
     clear hj8
     clear y0 z0 y1 z1 y2 z2 y3 z3 y4 z4
     try simp only [Act.put,pS,p0,p1]
     rw [hch]
     clear hch
     refine tkH (i:=19) (oi:=⟨some 3,_,_,_,_,_⟩) (v:=?_) rfl (Or.inl ⟨by rfl,by (intro w hSw; (try dsimp only at hSw); go_simp; try with_reducible rfl)⟩) hj9 ?_
     try simp only [Act.put,pS,p0,p1]
     refine wpAnyH_done (by kernel_rfl) ?_ _
     simp only [Exit.then]
     apply_assumption
     have HYn : Hid (Bk (sets wc0 (w.heap.size+1) 0 [.int .u8 (e0.toNat : Int),.int .u8 (e1.toNat : Int),.int .u8 (e2.toNat : Int),.int .u8 (e3.toNat : Int),.int .u16 ((e4.toNat : Int) * 256+(e5.toNat : Int))]) (w.heap.size+1) #[.int .u8 (e0.toNat : Int),.int .u8 (e1.toNat : Int),.int .u8 (e2.toNat : Int),.int .u8 (e3.toNat : Int),.int .u16 ((e4.toNat : Int) * 256+(e5.toNat : Int))] 75):=Lib.hid (sets_bk [.int .u8 (e0.toNat : Int),.int .u8 (e1.toNat : Int),.int .u8 (e2.toNat : Int),.int .u8 (e3.toNat : Int),.int .u16 ((e4.toNat : Int) * 256+(e5.toNat : Int))] [.int .u8 0,.int .u8 0,.int .u8 0,.int .u8 0,.int .u16 0] [] rfl HYd.out)
     have HBn:=Lib.hid (sets_below [.int .u8 (e0.toNat : Int),.int .u8 (e1.toNat : Int),.int .u8 (e2.toNat : Int),.int .u8 (e3.toNat : Int),.int .u16 ((e4.toNat : Int) * 256+(e5.toNat : Int))] 0 wc0 HBd.out (show w.heap.size≤w.heap.size+1 by omega))
     generalize sets wc0 (w.heap.size+1) 0 [.int .u8 (e0.toNat : Int),.int .u8 (e1.toNat : Int),.int .u8 (e2.toNat : Int),.int .u8 (e3.toNat : Int),.int .u16 ((e4.toNat : Int) * 256+(e5.toNat : Int))]=wf at *
     have y0:=(cell_of_row _ _ 0 _ _ _ HYn.out).trans rfl
     have y1:=(cell_of_row _ _ 1 _ _ _ HYn.out).trans rfl
     have y2:=(cell_of_row _ _ 2 _ _ _ HYn.out).trans rfl
     have y3:=(cell_of_row _ _ 3 _ _ _ HYn.out).trans rfl
     have y4:=(cell_of_row _ _ 4 _ _ _ HYn.out).trans rfl
     try go_wp2
     refine bodyPost_ret (v:=.tuple #[.agg #[.int .u8 (e0.toNat : Int),.int .u8 (e1.toNat : Int),.int .u8 (e2.toNat : Int),.int .u8 (e3.toNat : Int),.int .u16 ((e4.toNat : Int) * 256+(e5.toNat : Int))],.bool true]) (by simp [results,Tryz.results82,go_sem, *]) rfl ⟨?_,HBn.out⟩
     rw [HANS.out]
    ·exact AllReadyH.nil
  ·have HANS : Hid (plA t=.tuple #[.agg #[.int .u8 0,.int .u8 0,.int .u8 0,.int .u8 0,.int .u16 0],.bool false]):=Lib.hid (plA_bad (Or.inr (Or.inl h6)))
   have q6 : (((Tr.ts t).size : Int) != 6)=true:=by rw [bne_iff_ne]; omega
   rw [h2] at x0
   clear h6
   have y0:=(cell_of_row _ _ 0 _ _ _ HY0.out).trans rfl
   have y1:=(cell_of_row _ _ 1 _ _ _ HY0.out).trans rfl
   have y2:=(cell_of_row _ _ 2 _ _ _ HY0.out).trans rfl
   have y3:=(cell_of_row _ _ 3 _ _ _ HY0.out).trans rfl
   have y4:=(cell_of_row _ _ 4 _ _ _ HY0.out).trans rfl
   have z0:=frozen_of_row _ _ 0 _ _ HY0.out
   have z1:=frozen_of_row _ _ 1 _ _ HY0.out
   have z2:=frozen_of_row _ _ 2 _ _ HY0.out
   have z3:=frozen_of_row _ _ 3 _ _ HY0.out
   have z4:=frozen_of_row _ _ 4 _ _ HY0.out
   go_wp2
   have hch : (((((w0.setCell ⟨w.heap.size+1,0,none⟩ (.int .u8 0)).setCell ⟨w.heap.size+1,1,none⟩ (.int .u8 0)).setCell ⟨w.heap.size+1,2,none⟩ (.int .u8 0)).setCell ⟨w.heap.size+1,3,none⟩ (.int .u8 0)).setCell ⟨w.heap.size+1,4,none⟩ (.int .u16 0))=sets w0 (w.heap.size+1) 0 [.int .u8 0,.int .u8 0,.int .u8 0,.int .u8 0,.int .u16 0]:=rfl
   rw [hch]
   clear hch
   have HYn : Hid (Bk (sets w0 (w.heap.size+1) 0 [.int .u8 0,.int .u8 0,.int .u8 0,.int .u8 0,.int .u16 0]) (w.heap.size+1) #[.int .u8 0,.int .u8 0,.int .u8 0,.int .u8 0,.int .u16 0] 75):=Lib.hid (sets_bk [.int .u8 0,.int .u8 0,.int .u8 0,.int .u8 0,.int .u16 0] [.int .u8 0,.int .u8 0,.int .u8 0,.int .u8 0,.int .u16 0] [] rfl HY0.out)
   have HBn:=Lib.hid (sets_below [.int .u8 0,.int .u8 0,.int .u8 0,.int .u8 0,.int .u16 0] 0 w0 HB0.out (show w.heap.size≤w.heap.size+1 by omega))
   generalize sets w0 (w.heap.size+1) 0 [.int .u8 0,.int .u8 0,.int .u8 0,.int .u8 0,.int .u16 0]=wf at *
   clear y0 y1 y2 y3 y4 z0 z1 z2 z3 z4
   have y0:=(cell_of_row _ _ 0 _ _ _ HYn.out).trans rfl
   have y1:=(cell_of_row _ _ 1 _ _ _ HYn.out).trans rfl
   have y2:=(cell_of_row _ _ 2 _ _ _ HYn.out).trans rfl
   have y3:=(cell_of_row _ _ 3 _ _ _ HYn.out).trans rfl
   have y4:=(cell_of_row _ _ 4 _ _ _ HYn.out).trans rfl
   refine bodyPost_ret (v:=.tuple #[.agg #[.int .u8 0,.int .u8 0,.int .u8 0,.int .u8 0,.int .u16 0],.bool false]) (by simp [results,Tryz.results82,go_sem, *]) rfl ⟨?_,HBn.out⟩
   rw [HANS.out]
 ·have HANS : Hid (plA t=.tuple #[.agg #[.int .u8 0,.int .u8 0,.int .u8 0,.int .u8 0,.int .u16 0],.bool false]):=Lib.hid (plA_bad (Or.inl h2))
  have q2 : (Tr.tk t != 2)=true:=by rw [bne_iff_ne]; exact h2
  clear h2
  have y0:=(cell_of_row _ _ 0 _ _ _ HY0.out).trans rfl
  have y1:=(cell_of_row _ _ 1 _ _ _ HY0.out).trans rfl
  have y2:=(cell_of_row _ _ 2 _ _ _ HY0.out).trans rfl
  have y3:=(cell_of_row _ _ 3 _ _ _ HY0.out).trans rfl
  have y4:=(cell_of_row _ _ 4 _ _ _ HY0.out).trans rfl
  have z0:=frozen_of_row _ _ 0 _ _ HY0.out
  have z1:=frozen_of_row _ _ 1 _ _ HY0.out
  have z2:=frozen_of_row _ _ 2 _ _ HY0.out
  have z3:=frozen_of_row _ _ 3 _ _ HY0.out
  have z4:=frozen_of_row _ _ 4 _ _ HY0.out
  go_wp2
  have hch : (((((w0.setCell ⟨w.heap.size+1,0,none⟩ (.int .u8 0)).setCell ⟨w.heap.size+1,1,none⟩ (.int .u8 0)).setCell ⟨w.heap.size+1,2,none⟩ (.int .u8 0)).setCell ⟨w.heap.size+1,3,none⟩ (.int .u8 0)).setCell ⟨w.heap.size+1,4,none⟩ (.int .u16 0))=sets w0 (w.heap.size+1) 0 [.int .u8 0,.int .u8 0,.int .u8 0,.int .u8 0,.int .u16 0]:=rfl
  rw [hch]
  clear hch
  have HYn : Hid (Bk (sets w0 (w.heap.size+1) 0 [.int .u8 0,.int .u8 0,.int .u8 0,.int .u8 0,.int .u16 0]) (w.heap.size+1) #[.int .u8 0,.int .u8 0,.int .u8 0,.int .u8 0,.int .u16 0] 75):=Lib.hid (sets_bk [.int .u8 0,.int .u8 0,.int .u8 0,.int .u8 0,.int .u16 0] [.int .u8 0,.int .u8 0,.int .u8 0,.int .u8 0,.int .u16 0] [] rfl HY0.out)
  have HBn:=Lib.hid (sets_below [.int .u8 0,.int .u8 0,.int .u8 0,.int .u8 0,.int .u16 0] 0 w0 HB0.out (show w.heap.size≤w.heap.size+1 by omega))
  generalize sets w0 (w.heap.size+1) 0 [.int .u8 0,.int .u8 0,.int .u8 0,.int .u8 0,.int .u16 0]=wf at *
  clear y0 y1 y2 y3 y4 z0 z1 z2 z3 z4
  have y0:=(cell_of_row _ _ 0 _ _ _ HYn.out).trans rfl
  have y1:=(cell_of_row _ _ 1 _ _ _ HYn.out).trans rfl
  have y2:=(cell_of_row _ _ 2 _ _ _ HYn.out).trans rfl
  have y3:=(cell_of_row _ _ 3 _ _ _ HYn.out).trans rfl
  have y4:=(cell_of_row _ _ 4 _ _ _ HYn.out).trans rfl
  refine bodyPost_ret (v:=.tuple #[.agg #[.int .u8 0,.int .u8 0,.int .u8 0,.int .u8 0,.int .u16 0],.bool false]) (by simp [results,Tryz.results82,go_sem, *]) rfl ⟨?_,HBn.out⟩
  rw [HANS.out]
end Go.Proofs.YtjfjliobencppaaGreatDoor.Cf
