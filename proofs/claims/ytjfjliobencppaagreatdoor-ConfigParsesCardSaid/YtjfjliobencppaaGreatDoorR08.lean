/- Configs' writers: a cluster, a listener, a config. -/
import Derived.Test.YtjfjliobencppaaGreatDoorR00
import Derived.Test.YtjfjliobencppaaGreatDoorR07
set_option linter.unusedVariables false
set_option linter.unusedSimpArgs false
set_option maxRecDepth 100000
set_option maxHeartbeats 4000000
namespace Go.Proofs.YtjfjliobencppaaGreatDoor.Cf
open Go.RowKit
theorem wcluster_any (name : ByteArray) (o : Option Addr) (n cap : Nat) (ts : List Tr) (hn : name.size≤1000000000) (w : World) (hKts : ∀ wz,Below w.heap.size w wz→Calls Tryz.prog 101 #[.slice o n cap,.func (.func 102) #[] #[]] wz (WrP (rowT ts) wz)) : Calls Tryz.prog 64 #[.agg #[.string name,.slice o n cap]] w (WrP (rowT [strT name,rowT ts]) w):=by
 have HBs:=Lib.hid (show Below w.heap.size w ((w.alloc (.cells #[.string name,.slice o n cap] 57)).alloc (.cells #[.int .i64 0,.int .u64 0,.string ⟨#[]⟩,.slice none 0 0] 69)) from (alloc_below _ _).trans ((alloc_below _ _).mono (by simp)))
 have HXs:=Lib.hid (show Bk ((w.alloc (.cells #[.string name,.slice o n cap] 57)).alloc (.cells #[.int .i64 0,.int .u64 0,.string ⟨#[]⟩,.slice none 0 0] 69)) w.heap.size #[.string name,.slice o n cap] 57 from ((alloc_below _ _).block _ (by simp)).trans (heap_alloc_new w _))
 have HYs : Hid (Bk ((w.alloc (.cells #[.string name,.slice o n cap] 57)).alloc (.cells #[.int .i64 0,.int .u64 0,.string ⟨#[]⟩,.slice none 0 0] 69)) (w.heap.size+1) #[.int .i64 0,.int .u64 0,.string ⟨#[]⟩,.slice none 0 0] 69):=Lib.hid (by
  have h:=heap_alloc_new (w.alloc (.cells #[.string name,.slice o n cap] 57)) (.cells #[.int .i64 0,.int .u64 0,.string ⟨#[]⟩,.slice none 0 0] 69)
  rw [show (w.alloc (.cells #[.string name,.slice o n cap] 57)).heap.size=w.heap.size+1 by simp] at h
  exact h)
 have KR:=Lib.hid (fun o n c w => crow_any o n c w)
 have K1:=Lib.hid (fun w => ctext_any (name) w)
 have K2:=Lib.hid hKts
 have HOK:=Lib.hid hn
 clear hn hKts
 obtain ⟨W0,hW0⟩ : ∃ W0,W0=((w.alloc (.cells #[.string name,.slice o n cap] 57)).alloc (.cells #[.int .i64 0,.int .u64 0,.string ⟨#[]⟩,.slice none 0 0] 69)):=⟨_,rfl⟩
 rw [← hW0] at HBs HXs HYs
 go_enter Tryz.func64,Tryz.ntmps64
 go_upto_region 1 with (fail)
 rw [← hW0]
 clear hW0
 have HB0:=Lib.hid (show Below w.heap.size w W0.drew from HBs.out.drew)
 have HX0:=Lib.hid (show Bk W0.drew w.heap.size #[.string name,.slice o n cap] 57 from HXs.out)
 have HY0:=Lib.hid (show Bk W0.drew (w.heap.size+1) #[.int .i64 0,.int .u64 0,.string ⟨#[]⟩,.slice none 0 0] 69 from HYs.out)
 have mkS : Hid (∀ wz,Bk wz w.heap.size #[.string name,.slice o n cap] 57→wz.cell? ⟨w.heap.size,0,none⟩=some (.string name)∧wz.cell? ⟨w.heap.size,1,none⟩=some (.slice o n cap)∧Hid True):=Lib.hid (fun wz h => ⟨(cell_of_row _ _ 0 _ _ _ h).trans rfl,(cell_of_row _ _ 1 _ _ _ h).trans rfl,Lib.hid True.intro⟩)
 refine wp_region_held_drew (S:=fun wz => wz.cell? ⟨w.heap.size,0,none⟩=some (.string name)∧wz.cell? ⟨w.heap.size,1,none⟩=some (.slice o n cap)∧Hid True) (by kernel_rfl) (mkS.out _ HX0.out) (fun hj9 => ?_)
 generalize W0.drew=wc0 at *
 refine tkH (i:=0) (oi:=⟨some 3,_,_,_,_,_⟩) (v:=?_) rfl (Or.inl ⟨by rfl,by (intro w hSw; (try dsimp only at hSw); go_simp; try with_reducible rfl)⟩) hj9 ?_
 try simp only [Act.put,pS,p0,p1]
 refine tkH (i:=1) (oi:=⟨some 4,_,_,_,_,_⟩) (v:=?_) rfl (Or.inl ⟨by rfl,by (intro w hSw; (try dsimp only at hSw); go_simp; try with_reducible rfl)⟩) hj9 ?_
 try simp only [Act.put,pS,p0,p1]
 refine tkH (i:=3) (oi:=⟨some 6,_,_,_,_,_⟩) (v:=?_) rfl (Or.inl ⟨by rfl,by (intro w hSw; (try dsimp only at hSw); go_simp; try with_reducible rfl)⟩) hj9 ?_
 try simp only [Act.put,pS,p0,p1]
 refine tkH (i:=4) (oi:=⟨some 7,_,_,_,_,_⟩) (v:=?_) rfl (Or.inl ⟨by rfl,by (intro w hSw; (try dsimp only at hSw); go_simp; try with_reducible rfl)⟩) hj9 ?_
 try simp only [Act.put,pS,p0,p1]
 refine wpAnyH_ready (rs:=[2]) (by kernel_rfl) (by simp) ?_
 refine AllReadyH.cons (o:=⟨some 5,_,_,_,_,_⟩) rfl (fun K hK => ?_) ?_
 ·go_simp
  refine (K1.out _).mono ?_
  rintro ze wc1 ⟨rfl,hbn⟩
  try go_simp
  have HX1:=Lib.hid (Bk.later HX0.out hbn)
  have HY1:=Lib.hid (Bk.later HY0.out hbn)
  have HB1:=Lib.hid (HB0.out.trans (hbn.mono HB0.out.size))
  refine hK.out _ _ (mkS.out _ HX1.out) (fun hj8 => ?_)
  clear hK K hj9
  have hj9:=hj8
  clear hj8
  clear hbn
  try simp only [Act.put,pS,p0,p1]
  refine wpAnyH_ready (rs:=[5]) (by kernel_rfl) (by simp) ?_
  refine AllReadyH.cons (o:=⟨some 8,_,_,_,_,_⟩) rfl (fun K hK => ?_) ?_
  ·go_simp
   refine (K2.out _ HB1.out).mono ?_
   rintro ze wc2 ⟨o2,n2,c2,rfl,hv,hbn⟩
   try go_simp
   have HX2:=Lib.hid (Bk.later HX1.out hbn)
   have HY2:=Lib.hid (Bk.later HY1.out hbn)
   have HB2:=Lib.hid (HB1.out.trans (hbn.mono HB1.out.size))
   have HVa2:=Lib.hid (VInP.keep (Q:=fun b => w.heap.size+2≤b) (Nat.le_refl _) (fun q _ hP => ⟨rfl,Nat.le_trans (lt_of_heap HY1.out) hP⟩) _ hv)
   clear hv
   refine hK.out _ _ (mkS.out _ HX2.out) (fun hj8 => ?_)
   clear hK K hj9
   have hj9:=hj8
   clear hj8
   clear hbn
   try simp only [Act.put,pS,p0,p1]
   refine wpAnyH_ready (rs:=[6]) (by kernel_rfl) (by simp) ?_
   refine AllReadyH.cons (o:=⟨some 9,_,_,_,_,_⟩) rfl (fun K hK => ?_) ?_
   ·go_simp
    have hbn:=alloc_below wc2 (.cells #[.int .i64 2,.int .u64 0,.string name,.slice none 0 0,.int .i64 3,.int .u64 0,.string ⟨#[]⟩,.slice o2 n2 c2] 69)
    have HX3:=Lib.hid (Bk.later HX2.out hbn)
    have HY3:=Lib.hid (Bk.later HY2.out hbn)
    have HB3:=Lib.hid (HB2.out.trans (hbn.mono HB2.out.size))
    have HVa3:=Lib.hid (vlater HVa2.out hbn)
    have HR3:=Lib.hid (show Bk (wc2.alloc (.cells #[.int .i64 2,.int .u64 0,.string name,.slice none 0 0,.int .i64 3,.int .u64 0,.string ⟨#[]⟩,.slice o2 n2 c2] 69)) wc2.heap.size _ 69 from heap_alloc_new wc2 _)
    have HGX:=Lib.hid (show w.heap.size+1 < wc2.heap.size from lt_of_heap HY2.out)
    have HGR:=Lib.hid HB2.out.size
    refine hK.out _ _ (mkS.out _ HX3.out) (fun hj8 => ?_)
    clear hK K hj9
    have hj9:=hj8
    clear hj8
    clear hbn
    try simp only [Act.put,pS,p0,p1]
    generalize wc2.alloc (.cells #[.int .i64 2,.int .u64 0,.string name,.slice none 0 0,.int .i64 3,.int .u64 0,.string ⟨#[]⟩,.slice o2 n2 c2] 69)=wc3 at *
    generalize wc2.heap.size=gS at *
    refine wpAnyH_ready (rs:=[7]) (by kernel_rfl) (by simp) ?_
    refine AllReadyH.cons (o:=⟨some 10,_,_,_,_,_⟩) rfl (fun K hK => ?_) ?_
    ·go_simp
     refine (KR.out _ _ _ _).mono ?_
     rintro ze wc4 ⟨rfl,hbn⟩
     try go_simp
     have HX4:=Lib.hid (Bk.later HX3.out hbn)
     have HY4:=Lib.hid (Bk.later HY3.out hbn)
     have HB4:=Lib.hid (HB3.out.trans (hbn.mono HB3.out.size))
     have HVa4:=Lib.hid (vlater HVa3.out hbn)
     have HR4:=Lib.hid (Bk.later HR3.out hbn)
     refine hK.out _ _ (mkS.out _ HX4.out) (fun hj8 => ?_)
     clear hK K hj9
     have hj9:=hj8
     clear hj8
     clear hbn
     try simp only [Act.put,pS,p0,p1]
     refine wpAnyH_ready (rs:=[8]) (by kernel_rfl) (by simp) ?_
     refine AllReadyH.cons (o:=⟨none,_,_,_,_,_⟩) rfl (fun K hK => ?_) ?_
     ·obtain ⟨⟨y0,y1,y2,y3⟩,z0,z1,z2,z3⟩:=bk4 HY4.out
      go_simp
      have HSZ:=Lib.hid (show wc4.heap.size≤((((wc4.setCell ⟨w.heap.size+1,0,none⟩ (.int .i64 3)).setCell ⟨w.heap.size+1,1,none⟩ (.int .u64 0)).setCell ⟨w.heap.size+1,2,none⟩ (.string ⟨#[]⟩)).setCell ⟨w.heap.size+1,3,none⟩ (.slice (some ⟨gS,0,none⟩) 2 2)).heap.size by simp)
      have HZ:=Lib.hid (put4 HY4.out (.int .i64 3) (.int .u64 0) (.string ⟨#[]⟩) (.slice (some ⟨gS,0,none⟩) 2 2))
      have HX5:=Lib.hid (Bk.other4 (g:=w.heap.size+1) HX4.out (by omega) (.int .i64 3) (.int .u64 0) (.string ⟨#[]⟩) (.slice (some ⟨gS,0,none⟩) 2 2))
      have HKE:=Lib.hid (fun b (hb : b≠w.heap.size+1) => other4 (g:=w.heap.size+1) wc4 b hb (.int .i64 3) (.int .u64 0) (.string ⟨#[]⟩) (.slice (some ⟨gS,0,none⟩) 2 2))
      have HB5:=Lib.hid (below4 (g:=w.heap.size+1) HB4.out (by omega) (.int .i64 3) (.int .u64 0) (.string ⟨#[]⟩) (.slice (some ⟨gS,0,none⟩) 2 2))
      refine hK.out _ _ (mkS.out _ HX5.out) (fun hj8 => ?_)
      clear hK K hj9
      have hj9:=hj8
      clear hj8
      clear y0 y1 y2 y3 z0 z1 z2 z3
      try simp only [Act.put,pS,p0,p1]
      generalize ((((wc4.setCell ⟨w.heap.size+1,0,none⟩ (.int .i64 3)).setCell ⟨w.heap.size+1,1,none⟩ (.int .u64 0)).setCell ⟨w.heap.size+1,2,none⟩ (.string ⟨#[]⟩)).setCell ⟨w.heap.size+1,3,none⟩ (.slice (some ⟨gS,0,none⟩) 2 2))=wc5 at *
      refine wpAnyH_done (by kernel_rfl) ?_ _
      simp only [Exit.then]
      apply_assumption
      obtain ⟨⟨y0,y1,y2,y3⟩,z0,z1,z2,z3⟩:=bk4 HZ.out
      have HF:=Lib.hid HB5.out
      have HRF:=Lib.hid HR4.out
      have HBm:=Lib.hid HB4.out
      have HVFa:=Lib.hid HVa4.out
      try go_wp2
      refine bodyPost_ret (v:=.agg #[.int .i64 3,.int .u64 0,.string ⟨#[]⟩,.slice (some ⟨gS,0,none⟩) 2 2]) (by simp [results,Tryz.results64,go_sem, *]) rfl ⟨_,_,_,rfl,?_,HF.out⟩
      have hg : w.heap.size+1 < gS:=HGX.out
      have hrk:=(HKE.out gS (by omega)).trans HRF.out
      refine vin_row (l:=[strT name,rowT ts]) rfl (by simp) hrk (by omega) (fun i hi => ?_)
      match i,hi with
      | 0,_ => exact ⟨_,_,_,_,rfl,rfl,rfl,rfl,vin_str _ _ _ HOK.out⟩
      | 1,_ => exact ⟨_,_,_,_,rfl,rfl,rfl,rfl,VInP.keep HSZ.out (fun q _ hP => ⟨HKE.out q (by omega),by omega⟩) _ HVFa⟩
     ·exact AllReadyH.nil
    ·exact AllReadyH.nil
   ·exact AllReadyH.nil
  ·exact AllReadyH.nil
 ·exact AllReadyH.nil
theorem wlistener_any (name : ByteArray) (a b c d port : Nat) (o : Option Addr) (n cap : Nat) (ts : List Tr) (hn : name.size≤1000000000) (hok : Pl.ok ⟨a,b,c,d,port⟩) (w : World) (hKts : ∀ wz,Below w.heap.size w wz→Calls Tryz.prog 98 #[.slice o n cap,.func (.func 99) #[] #[]] wz (WrP (rowT ts) wz)) : Calls Tryz.prog 62 #[.agg #[.string name,.int .u8 (a : Int),.int .u8 (b : Int),.int .u8 (c : Int),.int .u8 (d : Int),.int .u16 (port : Int),.slice o n cap]] w (WrP (rowT [strT name,strT (str (Pl.bytes ⟨a,b,c,d,port⟩)),rowT ts]) w):=by
 have HBs:=Lib.hid (show Below w.heap.size w ((w.alloc (.cells #[.string name,.int .u8 (a : Int),.int .u8 (b : Int),.int .u8 (c : Int),.int .u8 (d : Int),.int .u16 (port : Int),.slice o n cap] 52)).alloc (.cells #[.int .i64 0,.int .u64 0,.string ⟨#[]⟩,.slice none 0 0] 69)) from (alloc_below _ _).trans ((alloc_below _ _).mono (by simp)))
 have HXs:=Lib.hid (show Bk ((w.alloc (.cells #[.string name,.int .u8 (a : Int),.int .u8 (b : Int),.int .u8 (c : Int),.int .u8 (d : Int),.int .u16 (port : Int),.slice o n cap] 52)).alloc (.cells #[.int .i64 0,.int .u64 0,.string ⟨#[]⟩,.slice none 0 0] 69)) w.heap.size #[.string name,.int .u8 (a : Int),.int .u8 (b : Int),.int .u8 (c : Int),.int .u8 (d : Int),.int .u16 (port : Int),.slice o n cap] 52 from ((alloc_below _ _).block _ (by simp)).trans (heap_alloc_new w _))
 have HYs : Hid (Bk ((w.alloc (.cells #[.string name,.int .u8 (a : Int),.int .u8 (b : Int),.int .u8 (c : Int),.int .u8 (d : Int),.int .u16 (port : Int),.slice o n cap] 52)).alloc (.cells #[.int .i64 0,.int .u64 0,.string ⟨#[]⟩,.slice none 0 0] 69)) (w.heap.size+1) #[.int .i64 0,.int .u64 0,.string ⟨#[]⟩,.slice none 0 0] 69):=Lib.hid (by
  have h:=heap_alloc_new (w.alloc (.cells #[.string name,.int .u8 (a : Int),.int .u8 (b : Int),.int .u8 (c : Int),.int .u8 (d : Int),.int .u16 (port : Int),.slice o n cap] 52)) (.cells #[.int .i64 0,.int .u64 0,.string ⟨#[]⟩,.slice none 0 0] 69)
  rw [show (w.alloc (.cells #[.string name,.int .u8 (a : Int),.int .u8 (b : Int),.int .u8 (c : Int),.int .u8 (d : Int),.int .u16 (port : Int),.slice o n cap] 52)).heap.size=w.heap.size+1 by simp] at h
  exact h)
 have KR:=Lib.hid (fun o n c w => crow_any o n c w)
 have K1:=Lib.hid (fun w => ctext_any (name) w)
 have K2:=Lib.hid hKts
 have HOK:=Lib.hid hn
 have K3:=Lib.hid (fun w => pbytes_any a b c d port (by have:=hok.1; simp only at this; omega) (by have:=hok.2.1; simp only at this; omega) (by have:=hok.2.2.1; simp only at this; omega) (by have:=hok.2.2.2.1; simp only at this; omega) (by have:=hok.2.2.2.2; simp only at this; omega) w)
 have HS : Hid ((str (Pl.bytes ⟨a,b,c,d,port⟩)).size≤1000000000):=Lib.hid (by rw [str_size]; unfold Pl.bytes; simp [be_length])
 clear hn hKts hok
 generalize str (Pl.bytes ⟨a,b,c,d,port⟩)=S at *
 have K4:=Lib.hid (fun w => ctext_any S w)
 obtain ⟨W0,hW0⟩ : ∃ W0,W0=((w.alloc (.cells #[.string name,.int .u8 (a : Int),.int .u8 (b : Int),.int .u8 (c : Int),.int .u8 (d : Int),.int .u16 (port : Int),.slice o n cap] 52)).alloc (.cells #[.int .i64 0,.int .u64 0,.string ⟨#[]⟩,.slice none 0 0] 69)):=⟨_,rfl⟩
 rw [← hW0] at HBs HXs HYs
 go_enter Tryz.func62,Tryz.ntmps62
 go_upto_region 1 with (fail)
 rw [← hW0]
 clear hW0
 have HB0:=Lib.hid (show Below w.heap.size w W0.drew from HBs.out.drew)
 have HX0:=Lib.hid (show Bk W0.drew w.heap.size #[.string name,.int .u8 (a : Int),.int .u8 (b : Int),.int .u8 (c : Int),.int .u8 (d : Int),.int .u16 (port : Int),.slice o n cap] 52 from HXs.out)
 have HY0:=Lib.hid (show Bk W0.drew (w.heap.size+1) #[.int .i64 0,.int .u64 0,.string ⟨#[]⟩,.slice none 0 0] 69 from HYs.out)
 have mkS : Hid (∀ wz,Bk wz w.heap.size #[.string name,.int .u8 (a : Int),.int .u8 (b : Int),.int .u8 (c : Int),.int .u8 (d : Int),.int .u16 (port : Int),.slice o n cap] 52→wz.cell? ⟨w.heap.size,0,none⟩=some (.string name)∧wz.cell? ⟨w.heap.size,1,none⟩=some (.int .u8 (a : Int))∧wz.cell? ⟨w.heap.size,2,none⟩=some (.int .u8 (b : Int))∧wz.cell? ⟨w.heap.size,3,none⟩=some (.int .u8 (c : Int))∧wz.cell? ⟨w.heap.size,4,none⟩=some (.int .u8 (d : Int))∧wz.cell? ⟨w.heap.size,5,none⟩=some (.int .u16 (port : Int))∧wz.cell? ⟨w.heap.size,6,none⟩=some (.slice o n cap)∧Hid True):=Lib.hid (fun wz h => ⟨(cell_of_row _ _ 0 _ _ _ h).trans rfl,(cell_of_row _ _ 1 _ _ _ h).trans rfl,(cell_of_row _ _ 2 _ _ _ h).trans rfl,(cell_of_row _ _ 3 _ _ _ h).trans rfl,(cell_of_row _ _ 4 _ _ _ h).trans rfl,(cell_of_row _ _ 5 _ _ _ h).trans rfl,(cell_of_row _ _ 6 _ _ _ h).trans rfl,Lib.hid True.intro⟩)
 refine wp_region_held_drew (S:=fun wz => wz.cell? ⟨w.heap.size,0,none⟩=some (.string name)∧wz.cell? ⟨w.heap.size,1,none⟩=some (.int .u8 (a : Int))∧wz.cell? ⟨w.heap.size,2,none⟩=some (.int .u8 (b : Int))∧wz.cell? ⟨w.heap.size,3,none⟩=some (.int .u8 (c : Int))∧wz.cell? ⟨w.heap.size,4,none⟩=some (.int .u8 (d : Int))∧wz.cell? ⟨w.heap.size,5,none⟩=some (.int .u16 (port : Int))∧wz.cell? ⟨w.heap.size,6,none⟩=some (.slice o n cap)∧Hid True) (by kernel_rfl) (mkS.out _ HX0.out) (fun hj9 => ?_)
 generalize W0.drew=wc0 at *
 refine tkH (i:=0) (oi:=⟨some 3,_,_,_,_,_⟩) (v:=?_) rfl (Or.inl ⟨by rfl,by (intro w hSw; (try dsimp only at hSw); go_simp; try with_reducible rfl)⟩) hj9 ?_
 try simp only [Act.put,pS,p0,p1]
 refine tkH (i:=1) (oi:=⟨some 4,_,_,_,_,_⟩) (v:=?_) rfl (Or.inl ⟨by rfl,by (intro w hSw; (try dsimp only at hSw); go_simp; try with_reducible rfl)⟩) hj9 ?_
 try simp only [Act.put,pS,p0,p1]
 refine tkH (i:=3) (oi:=⟨some 6,_,_,_,_,_⟩) (v:=?_) rfl (Or.inl ⟨by rfl,by (intro w hSw; (try dsimp only at hSw); go_simp; try with_reducible rfl)⟩) hj9 ?_
 try simp only [Act.put,pS,p0,p1]
 refine tkH (i:=4) (oi:=⟨some 7,_,_,_,_,_⟩) (v:=?_) rfl (Or.inl ⟨by rfl,by (intro w hSw; (try dsimp only at hSw); go_simp; try with_reducible rfl)⟩) hj9 ?_
 try simp only [Act.put,pS,p0,p1]
 refine tkH (i:=7) (oi:=⟨some 10,_,_,_,_,_⟩) (v:=?_) rfl (Or.inl ⟨by rfl,by (intro w hSw; (try dsimp only at hSw); go_simp; try with_reducible rfl)⟩) hj9 ?_
 try simp only [Act.put,pS,p0,p1]
 refine tkH (i:=8) (oi:=⟨some 11,_,_,_,_,_⟩) (v:=?_) rfl (Or.inl ⟨by rfl,by (intro w hSw; (try dsimp only at hSw); go_simp; try with_reducible rfl)⟩) hj9 ?_
 try simp only [Act.put,pS,p0,p1]
 refine wpAnyH_ready (rs:=[2]) (by kernel_rfl) (by simp) ?_
 refine AllReadyH.cons (o:=⟨some 5,_,_,_,_,_⟩) rfl (fun K hK => ?_) ?_
 ·go_simp
  refine (K1.out _).mono ?_
  rintro ze wc1 ⟨rfl,hbn⟩
  try go_simp
  have HX1:=Lib.hid (Bk.later HX0.out hbn)
  have HY1:=Lib.hid (Bk.later HY0.out hbn)
  have HB1:=Lib.hid (HB0.out.trans (hbn.mono HB0.out.size))
  refine hK.out _ _ (mkS.out _ HX1.out) (fun hj8 => ?_)
  clear hK K hj9
  have hj9:=hj8
  clear hj8
  clear hbn
  try simp only [Act.put,pS,p0,p1]
  refine wpAnyH_ready (rs:=[5]) (by kernel_rfl) (by simp) ?_
  refine AllReadyH.cons (o:=⟨some 8,_,_,_,_,_⟩) rfl (fun K hK => ?_) ?_
  ·go_simp
   refine (K3.out _).mono ?_
   rintro ze wc2 ⟨rfl,hbn⟩
   try go_simp
   have HX2:=Lib.hid (Bk.later HX1.out hbn)
   have HY2:=Lib.hid (Bk.later HY1.out hbn)
   have HB2:=Lib.hid (HB1.out.trans (hbn.mono HB1.out.size))
   refine hK.out _ _ (mkS.out _ HX2.out) (fun hj8 => ?_)
   clear hK K hj9
   have hj9:=hj8
   clear hj8
   clear hbn
   try simp only [Act.put,pS,p0,p1]
   refine wpAnyH_ready (rs:=[6]) (by kernel_rfl) (by simp) ?_
   refine AllReadyH.cons (o:=⟨some 9,_,_,_,_,_⟩) rfl (fun K hK => ?_) ?_
   ·go_simp
    refine (K4.out _).mono ?_
    rintro ze wc3 ⟨rfl,hbn⟩
    try go_simp
    have HX3:=Lib.hid (Bk.later HX2.out hbn)
    have HY3:=Lib.hid (Bk.later HY2.out hbn)
    have HB3:=Lib.hid (HB2.out.trans (hbn.mono HB2.out.size))
    refine hK.out _ _ (mkS.out _ HX3.out) (fun hj8 => ?_)
    clear hK K hj9
    have hj9:=hj8
    clear hj8
    clear hbn
    try simp only [Act.put,pS,p0,p1]
    refine wpAnyH_ready (rs:=[9]) (by kernel_rfl) (by simp) ?_
    refine AllReadyH.cons (o:=⟨some 12,_,_,_,_,_⟩) rfl (fun K hK => ?_) ?_
    ·go_simp
     refine (K2.out _ HB3.out).mono ?_
     rintro ze wc4 ⟨o2,n2,c2,rfl,hv,hbn⟩
     try go_simp
     have HX4:=Lib.hid (Bk.later HX3.out hbn)
     have HY4:=Lib.hid (Bk.later HY3.out hbn)
     have HB4:=Lib.hid (HB3.out.trans (hbn.mono HB3.out.size))
     have HVa4:=Lib.hid (VInP.keep (Q:=fun b => w.heap.size+2≤b) (Nat.le_refl _) (fun q _ hP => ⟨rfl,Nat.le_trans (lt_of_heap HY3.out) hP⟩) _ hv)
     clear hv
     refine hK.out _ _ (mkS.out _ HX4.out) (fun hj8 => ?_)
     clear hK K hj9
     have hj9:=hj8
     clear hj8
     clear hbn
     try simp only [Act.put,pS,p0,p1]
     refine wpAnyH_ready (rs:=[10]) (by kernel_rfl) (by simp) ?_
     refine AllReadyH.cons (o:=⟨some 13,_,_,_,_,_⟩) rfl (fun K hK => ?_) ?_
     ·go_simp
      have hbn:=alloc_below wc4 (.cells #[.int .i64 2,.int .u64 0,.string name,.slice none 0 0,.int .i64 2,.int .u64 0,.string S,.slice none 0 0,.int .i64 3,.int .u64 0,.string ⟨#[]⟩,.slice o2 n2 c2] 69)
      have HX5:=Lib.hid (Bk.later HX4.out hbn)
      have HY5:=Lib.hid (Bk.later HY4.out hbn)
      have HB5:=Lib.hid (HB4.out.trans (hbn.mono HB4.out.size))
      have HVa5:=Lib.hid (vlater HVa4.out hbn)
      have HR5:=Lib.hid (show Bk (wc4.alloc (.cells #[.int .i64 2,.int .u64 0,.string name,.slice none 0 0,.int .i64 2,.int .u64 0,.string S,.slice none 0 0,.int .i64 3,.int .u64 0,.string ⟨#[]⟩,.slice o2 n2 c2] 69)) wc4.heap.size _ 69 from heap_alloc_new wc4 _)
      have HGX:=Lib.hid (show w.heap.size+1 < wc4.heap.size from lt_of_heap HY4.out)
      have HGR:=Lib.hid HB4.out.size
      refine hK.out _ _ (mkS.out _ HX5.out) (fun hj8 => ?_)
      clear hK K hj9
      have hj9:=hj8
      clear hj8
      clear hbn
      try simp only [Act.put,pS,p0,p1]
      generalize wc4.alloc (.cells #[.int .i64 2,.int .u64 0,.string name,.slice none 0 0,.int .i64 2,.int .u64 0,.string S,.slice none 0 0,.int .i64 3,.int .u64 0,.string ⟨#[]⟩,.slice o2 n2 c2] 69)=wc5 at *
      generalize wc4.heap.size=gS at *
      refine wpAnyH_ready (rs:=[11]) (by kernel_rfl) (by simp) ?_
      refine AllReadyH.cons (o:=⟨some 14,_,_,_,_,_⟩) rfl (fun K hK => ?_) ?_
      ·go_simp
       refine (KR.out _ _ _ _).mono ?_
       rintro ze wc6 ⟨rfl,hbn⟩
       try go_simp
       have HX6:=Lib.hid (Bk.later HX5.out hbn)
       have HY6:=Lib.hid (Bk.later HY5.out hbn)
       have HB6:=Lib.hid (HB5.out.trans (hbn.mono HB5.out.size))
       have HVa6:=Lib.hid (vlater HVa5.out hbn)
       have HR6:=Lib.hid (Bk.later HR5.out hbn)
       refine hK.out _ _ (mkS.out _ HX6.out) (fun hj8 => ?_)
       clear hK K hj9
       have hj9:=hj8
       clear hj8
       clear hbn
       try simp only [Act.put,pS,p0,p1]
       refine wpAnyH_ready (rs:=[12]) (by kernel_rfl) (by simp) ?_
       refine AllReadyH.cons (o:=⟨none,_,_,_,_,_⟩) rfl (fun K hK => ?_) ?_
       ·obtain ⟨⟨y0,y1,y2,y3⟩,z0,z1,z2,z3⟩:=bk4 HY6.out
        go_simp
        have HSZ:=Lib.hid (show wc6.heap.size≤((((wc6.setCell ⟨w.heap.size+1,0,none⟩ (.int .i64 3)).setCell ⟨w.heap.size+1,1,none⟩ (.int .u64 0)).setCell ⟨w.heap.size+1,2,none⟩ (.string ⟨#[]⟩)).setCell ⟨w.heap.size+1,3,none⟩ (.slice (some ⟨gS,0,none⟩) 3 3)).heap.size by simp)
        have HZ:=Lib.hid (put4 HY6.out (.int .i64 3) (.int .u64 0) (.string ⟨#[]⟩) (.slice (some ⟨gS,0,none⟩) 3 3))
        have HX7:=Lib.hid (Bk.other4 (g:=w.heap.size+1) HX6.out (by omega) (.int .i64 3) (.int .u64 0) (.string ⟨#[]⟩) (.slice (some ⟨gS,0,none⟩) 3 3))
        have HKE:=Lib.hid (fun b (hb : b≠w.heap.size+1) => other4 (g:=w.heap.size+1) wc6 b hb (.int .i64 3) (.int .u64 0) (.string ⟨#[]⟩) (.slice (some ⟨gS,0,none⟩) 3 3))
        have HB7:=Lib.hid (below4 (g:=w.heap.size+1) HB6.out (by omega) (.int .i64 3) (.int .u64 0) (.string ⟨#[]⟩) (.slice (some ⟨gS,0,none⟩) 3 3))
        refine hK.out _ _ (mkS.out _ HX7.out) (fun hj8 => ?_)
        clear hK K hj9
        have hj9:=hj8
        clear hj8
        clear y0 y1 y2 y3 z0 z1 z2 z3
        try simp only [Act.put,pS,p0,p1]
        generalize ((((wc6.setCell ⟨w.heap.size+1,0,none⟩ (.int .i64 3)).setCell ⟨w.heap.size+1,1,none⟩ (.int .u64 0)).setCell ⟨w.heap.size+1,2,none⟩ (.string ⟨#[]⟩)).setCell ⟨w.heap.size+1,3,none⟩ (.slice (some ⟨gS,0,none⟩) 3 3))=wc7 at *
        refine wpAnyH_done (by kernel_rfl) ?_ _
        simp only [Exit.then]
        apply_assumption
        obtain ⟨⟨y0,y1,y2,y3⟩,z0,z1,z2,z3⟩:=bk4 HZ.out
        have HF:=Lib.hid HB7.out
        have HRF:=Lib.hid HR6.out
        have HBm:=Lib.hid HB6.out
        have HVFa:=Lib.hid HVa6.out
        try go_wp2
        refine bodyPost_ret (v:=.agg #[.int .i64 3,.int .u64 0,.string ⟨#[]⟩,.slice (some ⟨gS,0,none⟩) 3 3]) (by simp [results,Tryz.results62,go_sem, *]) rfl ⟨_,_,_,rfl,?_,HF.out⟩
        have hg : w.heap.size+1 < gS:=HGX.out
        have hrk:=(HKE.out gS (by omega)).trans HRF.out
        refine vin_row (l:=[strT name,strT S,rowT ts]) rfl (by simp) hrk (by omega) (fun i hi => ?_)
        match i,hi with
        | 0,_ => exact ⟨_,_,_,_,rfl,rfl,rfl,rfl,vin_str _ _ _ HOK.out⟩
        | 1,_ => exact ⟨_,_,_,_,rfl,rfl,rfl,rfl,vin_str _ _ _ HS.out⟩
        | 2,_ => exact ⟨_,_,_,_,rfl,rfl,rfl,rfl,VInP.keep HSZ.out (fun q _ hP => ⟨HKE.out q (by omega),by omega⟩) _ HVFa⟩
       ·exact AllReadyH.nil
      ·exact AllReadyH.nil
     ·exact AllReadyH.nil
    ·exact AllReadyH.nil
   ·exact AllReadyH.nil
  ·exact AllReadyH.nil
 ·exact AllReadyH.nil
theorem wconfig_any (v : Nat) (ol oc : Option Addr) (nl cl nc cc : Nat) (ts us : List Tr) (hv : v≤18446744073709551615) (w : World) (hKts : ∀ wz,Below w.heap.size w wz→Calls Tryz.prog 61 #[.slice ol nl cl,.func (.func 62) #[] #[]] wz (WrP (rowT ts) wz)) (hKus : ∀ wz,Below w.heap.size w wz→Calls Tryz.prog 63 #[.slice oc nc cc,.func (.func 64) #[] #[]] wz (WrP (rowT us) wz)) : Calls Tryz.prog 25 #[.agg #[.int .u64 (v : Int),.slice ol nl cl,.slice oc nc cc]] w (WrP (rowT [numT v,rowT ts,rowT us]) w):=by
 have HBs:=Lib.hid (show Below w.heap.size w ((w.alloc (.cells #[.int .u64 (v : Int),.slice ol nl cl,.slice oc nc cc] 26)).alloc (.cells #[.int .i64 0,.int .u64 0,.string ⟨#[]⟩,.slice none 0 0] 69)) from (alloc_below _ _).trans ((alloc_below _ _).mono (by simp)))
 have HXs:=Lib.hid (show Bk ((w.alloc (.cells #[.int .u64 (v : Int),.slice ol nl cl,.slice oc nc cc] 26)).alloc (.cells #[.int .i64 0,.int .u64 0,.string ⟨#[]⟩,.slice none 0 0] 69)) w.heap.size #[.int .u64 (v : Int),.slice ol nl cl,.slice oc nc cc] 26 from ((alloc_below _ _).block _ (by simp)).trans (heap_alloc_new w _))
 have HYs : Hid (Bk ((w.alloc (.cells #[.int .u64 (v : Int),.slice ol nl cl,.slice oc nc cc] 26)).alloc (.cells #[.int .i64 0,.int .u64 0,.string ⟨#[]⟩,.slice none 0 0] 69)) (w.heap.size+1) #[.int .i64 0,.int .u64 0,.string ⟨#[]⟩,.slice none 0 0] 69):=Lib.hid (by
  have h:=heap_alloc_new (w.alloc (.cells #[.int .u64 (v : Int),.slice ol nl cl,.slice oc nc cc] 26)) (.cells #[.int .i64 0,.int .u64 0,.string ⟨#[]⟩,.slice none 0 0] 69)
  rw [show (w.alloc (.cells #[.int .u64 (v : Int),.slice ol nl cl,.slice oc nc cc] 26)).heap.size=w.heap.size+1 by simp] at h
  exact h)
 have KR:=Lib.hid (fun o n c w => crow_any o n c w)
 have K1:=Lib.hid (fun w => num_any v w)
 have K2:=Lib.hid hKts
 have K3:=Lib.hid hKus
 have HOK:=Lib.hid hv
 clear hv hKts hKus
 obtain ⟨W0,hW0⟩ : ∃ W0,W0=((w.alloc (.cells #[.int .u64 (v : Int),.slice ol nl cl,.slice oc nc cc] 26)).alloc (.cells #[.int .i64 0,.int .u64 0,.string ⟨#[]⟩,.slice none 0 0] 69)):=⟨_,rfl⟩
 rw [← hW0] at HBs HXs HYs
 go_enter Tryz.func25,Tryz.ntmps25
 go_upto_region 1 with (fail)
 rw [← hW0]
 clear hW0
 have HB0:=Lib.hid (show Below w.heap.size w W0.drew from HBs.out.drew)
 have HX0:=Lib.hid (show Bk W0.drew w.heap.size #[.int .u64 (v : Int),.slice ol nl cl,.slice oc nc cc] 26 from HXs.out)
 have HY0:=Lib.hid (show Bk W0.drew (w.heap.size+1) #[.int .i64 0,.int .u64 0,.string ⟨#[]⟩,.slice none 0 0] 69 from HYs.out)
 have mkS : Hid (∀ wz,Bk wz w.heap.size #[.int .u64 (v : Int),.slice ol nl cl,.slice oc nc cc] 26→wz.cell? ⟨w.heap.size,0,none⟩=some (.int .u64 (v : Int))∧wz.cell? ⟨w.heap.size,1,none⟩=some (.slice ol nl cl)∧wz.cell? ⟨w.heap.size,2,none⟩=some (.slice oc nc cc)∧Hid True):=Lib.hid (fun wz h => ⟨(cell_of_row _ _ 0 _ _ _ h).trans rfl,(cell_of_row _ _ 1 _ _ _ h).trans rfl,(cell_of_row _ _ 2 _ _ _ h).trans rfl,Lib.hid True.intro⟩)
 refine wp_region_held_drew (S:=fun wz => wz.cell? ⟨w.heap.size,0,none⟩=some (.int .u64 (v : Int))∧wz.cell? ⟨w.heap.size,1,none⟩=some (.slice ol nl cl)∧wz.cell? ⟨w.heap.size,2,none⟩=some (.slice oc nc cc)∧Hid True) (by kernel_rfl) (mkS.out _ HX0.out) (fun hj9 => ?_)
 generalize W0.drew=wc0 at *
 refine tkH (i:=0) (oi:=⟨some 3,_,_,_,_,_⟩) (v:=?_) rfl (Or.inl ⟨by rfl,by (intro w hSw; (try dsimp only at hSw); go_simp; try with_reducible rfl)⟩) hj9 ?_
 try simp only [Act.put,pS,p0,p1]
 refine tkH (i:=1) (oi:=⟨some 4,_,_,_,_,_⟩) (v:=?_) rfl (Or.inl ⟨by rfl,by (intro w hSw; (try dsimp only at hSw); go_simp; try with_reducible rfl)⟩) hj9 ?_
 try simp only [Act.put,pS,p0,p1]
 refine tkH (i:=3) (oi:=⟨some 6,_,_,_,_,_⟩) (v:=?_) rfl (Or.inl ⟨by rfl,by (intro w hSw; (try dsimp only at hSw); go_simp; try with_reducible rfl)⟩) hj9 ?_
 try simp only [Act.put,pS,p0,p1]
 refine tkH (i:=4) (oi:=⟨some 7,_,_,_,_,_⟩) (v:=?_) rfl (Or.inl ⟨by rfl,by (intro w hSw; (try dsimp only at hSw); go_simp; try with_reducible rfl)⟩) hj9 ?_
 try simp only [Act.put,pS,p0,p1]
 refine tkH (i:=6) (oi:=⟨some 9,_,_,_,_,_⟩) (v:=?_) rfl (Or.inl ⟨by rfl,by (intro w hSw; (try dsimp only at hSw); go_simp; try with_reducible rfl)⟩) hj9 ?_
 try simp only [Act.put,pS,p0,p1]
 refine tkH (i:=7) (oi:=⟨some 10,_,_,_,_,_⟩) (v:=?_) rfl (Or.inl ⟨by rfl,by (intro w hSw; (try dsimp only at hSw); go_simp; try with_reducible rfl)⟩) hj9 ?_
 try simp only [Act.put,pS,p0,p1]
 refine wpAnyH_ready (rs:=[2]) (by kernel_rfl) (by simp) ?_
 refine AllReadyH.cons (o:=⟨some 5,_,_,_,_,_⟩) rfl (fun K hK => ?_) ?_
 ·go_simp
  refine (K1.out _).mono ?_
  rintro ze wc1 ⟨rfl,hbn⟩
  try go_simp
  have HX1:=Lib.hid (Bk.later HX0.out hbn)
  have HY1:=Lib.hid (Bk.later HY0.out hbn)
  have HB1:=Lib.hid (HB0.out.trans (hbn.mono HB0.out.size))
  refine hK.out _ _ (mkS.out _ HX1.out) (fun hj8 => ?_)
  clear hK K hj9
  have hj9:=hj8
  clear hj8
  clear hbn
  try simp only [Act.put,pS,p0,p1]
  refine wpAnyH_ready (rs:=[5]) (by kernel_rfl) (by simp) ?_
  refine AllReadyH.cons (o:=⟨some 8,_,_,_,_,_⟩) rfl (fun K hK => ?_) ?_
  ·go_simp
   refine (K2.out _ HB1.out).mono ?_
   rintro ze wc2 ⟨o2,n2,c2,rfl,hv,hbn⟩
   try go_simp
   have HX2:=Lib.hid (Bk.later HX1.out hbn)
   have HY2:=Lib.hid (Bk.later HY1.out hbn)
   have HB2:=Lib.hid (HB1.out.trans (hbn.mono HB1.out.size))
   have HVa2:=Lib.hid (VInP.keep (Q:=fun b => w.heap.size+2≤b) (Nat.le_refl _) (fun q _ hP => ⟨rfl,Nat.le_trans (lt_of_heap HY1.out) hP⟩) _ hv)
   clear hv
   refine hK.out _ _ (mkS.out _ HX2.out) (fun hj8 => ?_)
   clear hK K hj9
   have hj9:=hj8
   clear hj8
   clear hbn
   try simp only [Act.put,pS,p0,p1]
   refine wpAnyH_ready (rs:=[8]) (by kernel_rfl) (by simp) ?_
   refine AllReadyH.cons (o:=⟨some 11,_,_,_,_,_⟩) rfl (fun K hK => ?_) ?_
   ·go_simp
    refine (K3.out _ HB2.out).mono ?_
    rintro ze wc3 ⟨o3,n3,c3,rfl,hv,hbn⟩
    try go_simp
    have HX3:=Lib.hid (Bk.later HX2.out hbn)
    have HY3:=Lib.hid (Bk.later HY2.out hbn)
    have HB3:=Lib.hid (HB2.out.trans (hbn.mono HB2.out.size))
    have HVa3:=Lib.hid (vlater HVa2.out hbn)
    have HVb3:=Lib.hid (VInP.keep (Q:=fun b => w.heap.size+2≤b) (Nat.le_refl _) (fun q _ hP => ⟨rfl,Nat.le_trans (lt_of_heap HY2.out) hP⟩) _ hv)
    clear hv
    refine hK.out _ _ (mkS.out _ HX3.out) (fun hj8 => ?_)
    clear hK K hj9
    have hj9:=hj8
    clear hj8
    clear hbn
    try simp only [Act.put,pS,p0,p1]
    refine wpAnyH_ready (rs:=[9]) (by kernel_rfl) (by simp) ?_
    refine AllReadyH.cons (o:=⟨some 12,_,_,_,_,_⟩) rfl (fun K hK => ?_) ?_
    ·go_simp
     have hbn:=alloc_below wc3 (.cells #[.int .i64 1,.int .u64 (v : Int),.string ⟨#[]⟩,.slice none 0 0,.int .i64 3,.int .u64 0,.string ⟨#[]⟩,.slice o2 n2 c2,.int .i64 3,.int .u64 0,.string ⟨#[]⟩,.slice o3 n3 c3] 69)
     have HX4:=Lib.hid (Bk.later HX3.out hbn)
     have HY4:=Lib.hid (Bk.later HY3.out hbn)
     have HB4:=Lib.hid (HB3.out.trans (hbn.mono HB3.out.size))
     have HVa4:=Lib.hid (vlater HVa3.out hbn)
     have HVb4:=Lib.hid (vlater HVb3.out hbn)
     have HR4:=Lib.hid (show Bk (wc3.alloc (.cells #[.int .i64 1,.int .u64 (v : Int),.string ⟨#[]⟩,.slice none 0 0,.int .i64 3,.int .u64 0,.string ⟨#[]⟩,.slice o2 n2 c2,.int .i64 3,.int .u64 0,.string ⟨#[]⟩,.slice o3 n3 c3] 69)) wc3.heap.size _ 69 from heap_alloc_new wc3 _)
     have HGX:=Lib.hid (show w.heap.size+1 < wc3.heap.size from lt_of_heap HY3.out)
     have HGR:=Lib.hid HB3.out.size
     refine hK.out _ _ (mkS.out _ HX4.out) (fun hj8 => ?_)
     clear hK K hj9
     have hj9:=hj8
     clear hj8
     clear hbn
     try simp only [Act.put,pS,p0,p1]
     generalize wc3.alloc (.cells #[.int .i64 1,.int .u64 (v : Int),.string ⟨#[]⟩,.slice none 0 0,.int .i64 3,.int .u64 0,.string ⟨#[]⟩,.slice o2 n2 c2,.int .i64 3,.int .u64 0,.string ⟨#[]⟩,.slice o3 n3 c3] 69)=wc4 at *
     generalize wc3.heap.size=gS at *
     refine wpAnyH_ready (rs:=[10]) (by kernel_rfl) (by simp) ?_
     refine AllReadyH.cons (o:=⟨some 13,_,_,_,_,_⟩) rfl (fun K hK => ?_) ?_
     ·go_simp
      refine (KR.out _ _ _ _).mono ?_
      rintro ze wc5 ⟨rfl,hbn⟩
      try go_simp
      have HX5:=Lib.hid (Bk.later HX4.out hbn)
      have HY5:=Lib.hid (Bk.later HY4.out hbn)
      have HB5:=Lib.hid (HB4.out.trans (hbn.mono HB4.out.size))
      have HVa5:=Lib.hid (vlater HVa4.out hbn)
      have HVb5:=Lib.hid (vlater HVb4.out hbn)
      have HR5:=Lib.hid (Bk.later HR4.out hbn)
      refine hK.out _ _ (mkS.out _ HX5.out) (fun hj8 => ?_)
      clear hK K hj9
      have hj9:=hj8
      clear hj8
      clear hbn
      try simp only [Act.put,pS,p0,p1]
      refine wpAnyH_ready (rs:=[11]) (by kernel_rfl) (by simp) ?_
      refine AllReadyH.cons (o:=⟨none,_,_,_,_,_⟩) rfl (fun K hK => ?_) ?_
      ·obtain ⟨⟨y0,y1,y2,y3⟩,z0,z1,z2,z3⟩:=bk4 HY5.out
       go_simp
       have HSZ:=Lib.hid (show wc5.heap.size≤((((wc5.setCell ⟨w.heap.size+1,0,none⟩ (.int .i64 3)).setCell ⟨w.heap.size+1,1,none⟩ (.int .u64 0)).setCell ⟨w.heap.size+1,2,none⟩ (.string ⟨#[]⟩)).setCell ⟨w.heap.size+1,3,none⟩ (.slice (some ⟨gS,0,none⟩) 3 3)).heap.size by simp)
       have HZ:=Lib.hid (put4 HY5.out (.int .i64 3) (.int .u64 0) (.string ⟨#[]⟩) (.slice (some ⟨gS,0,none⟩) 3 3))
       have HX6:=Lib.hid (Bk.other4 (g:=w.heap.size+1) HX5.out (by omega) (.int .i64 3) (.int .u64 0) (.string ⟨#[]⟩) (.slice (some ⟨gS,0,none⟩) 3 3))
       have HKE:=Lib.hid (fun b (hb : b≠w.heap.size+1) => other4 (g:=w.heap.size+1) wc5 b hb (.int .i64 3) (.int .u64 0) (.string ⟨#[]⟩) (.slice (some ⟨gS,0,none⟩) 3 3))
       have HB6:=Lib.hid (below4 (g:=w.heap.size+1) HB5.out (by omega) (.int .i64 3) (.int .u64 0) (.string ⟨#[]⟩) (.slice (some ⟨gS,0,none⟩) 3 3))
       refine hK.out _ _ (mkS.out _ HX6.out) (fun hj8 => ?_)
       clear hK K hj9
       have hj9:=hj8
       clear hj8
       clear y0 y1 y2 y3 z0 z1 z2 z3
       try simp only [Act.put,pS,p0,p1]
       generalize ((((wc5.setCell ⟨w.heap.size+1,0,none⟩ (.int .i64 3)).setCell ⟨w.heap.size+1,1,none⟩ (.int .u64 0)).setCell ⟨w.heap.size+1,2,none⟩ (.string ⟨#[]⟩)).setCell ⟨w.heap.size+1,3,none⟩ (.slice (some ⟨gS,0,none⟩) 3 3))=wc6 at *
       refine wpAnyH_done (by kernel_rfl) ?_ _
       simp only [Exit.then]
       apply_assumption
       obtain ⟨⟨y0,y1,y2,y3⟩,z0,z1,z2,z3⟩:=bk4 HZ.out
       have HF:=Lib.hid HB6.out
       have HRF:=Lib.hid HR5.out
       have HBm:=Lib.hid HB5.out
       have HVFa:=Lib.hid HVa5.out
       have HVFb:=Lib.hid HVb5.out
       try go_wp2
       refine bodyPost_ret (v:=.agg #[.int .i64 3,.int .u64 0,.string ⟨#[]⟩,.slice (some ⟨gS,0,none⟩) 3 3]) (by simp [results,Tryz.results25,go_sem, *]) rfl ⟨_,_,_,rfl,?_,HF.out⟩
       have hg : w.heap.size+1 < gS:=HGX.out
       have hrk:=(HKE.out gS (by omega)).trans HRF.out
       refine vin_row (l:=[numT v,rowT ts,rowT us]) rfl (by simp) hrk (by omega) (fun i hi => ?_)
       match i,hi with
       | 0,_ => exact ⟨_,_,_,_,rfl,rfl,rfl,rfl,vin_num _ _ _ HOK.out⟩
       | 1,_ => exact ⟨_,_,_,_,rfl,rfl,rfl,rfl,VInP.keep HSZ.out (fun q _ hP => ⟨HKE.out q (by omega),by omega⟩) _ HVFa⟩
       | 2,_ => exact ⟨_,_,_,_,rfl,rfl,rfl,rfl,VInP.keep HSZ.out (fun q _ hP => ⟨HKE.out q (by omega),by omega⟩) _ HVFb⟩
      ·exact AllReadyH.nil
     ·exact AllReadyH.nil
    ·exact AllReadyH.nil
   ·exact AllReadyH.nil
  ·exact AllReadyH.nil
 ·exact AllReadyH.nil
end Go.Proofs.YtjfjliobencppaaGreatDoor.Cf
