/- config: the document's Value: a config as a tree. -/
import Derived.Test.YtjfjliobencppaaGreatDoorR00
import Derived.Test.YtjfjliobencppaaGreatDoorR30
set_option linter.unusedVariables false
set_option linter.unusedSimpArgs false
set_option maxRecDepth 100000
set_option maxHeartbeats 8000000
namespace Go.Proofs.YtjfjliobencppaaGreatDoor.Cf
open Go.RowKit
def Ep.u (e : Ep) : Nat:=(e.w % 18446744073709551616).toNat
def Ep.trv (e : Ep) : Tr:=rowT [strT (str e.p.bytes),numT e.u]
theorem Ep.u_le (e : Ep) : e.u≤18446744073709551615:=by unfold Ep.u; omega
theorem vin_u (w : World) (P : Nat→Prop) (e : Ep) : VInP w P (numT e.u) (.int .i64 1) (.int .u64 (IntKind.u64.wrap e.w)) (.string ⟨#[]⟩) (.slice none 0 0):=by
 have h:=vin_num w P e.u e.u_le
 rwa [show (e.u : Int)=IntKind.u64.wrap e.w by unfold Ep.u; simp [IntKind.wrap,IntKind.bits,IntKind.signed]; omega] at h
def Cl.trv (c : Cl) : Tr:=rowT [strT c.name,rowT (c.e.map Ep.trv)]
def Co.trv (c : Co) : Tr:=rowT [numT c.v,rowT (c.l.map Ls.tr),rowT (c.c.map Cl.trv)]
theorem value_any {w : World} {c0 c1 c2 : Value} {c : Co} (h : CoIn w c0 c1 c2 c) (hs : c.sized) : Calls Tryz.prog 28 #[.agg #[c0,c1,c2]] w (WrP c.trv w):=by
 have HIN:=Lib.hid h
 have HLEN:=Lib.hid (show c.l.length≤1000000∧c.c.length≤1000000∧(∀ x ∈ c.l,x.r.length≤1000000)∧∀ x ∈ c.c,x.e.length≤1000000 from ⟨hs.1,hs.2.1,fun x hx => (hs.2.2.1 x hx).2.1,fun x hx => (hs.2.2.2 x hx).2⟩)
 have HFIT:=Lib.hid (show (∀ x ∈ c.l,x.fit)∧∀ x ∈ c.c,x.name.size≤1000000000 from ⟨hs.2.2.1,fun x hx => (hs.2.2.2 x hx).1⟩)
 obtain ⟨rfl,hv,⟨o1,C1,B1,f1,rfl,ho1,hE1⟩,⟨o3,C3,B3,f3,rfl,ho3,hE3⟩⟩:=h
 have HQ1 : Hid (0 < c.l.length→o1=some ⟨B1,f1,none⟩):=Lib.hid (fun hp => (ho1 hp).1)
 have HQ9 : Hid (0 < c.c.length→o3=some ⟨B3,f3,none⟩):=Lib.hid (fun hp => (ho3 hp).1)
 have HS1 : Hid (∀ wz,Below w.heap.size w wz→∀ i (hi : i < c.l.length),True∧∃ (o : Option Addr) (cap B f : Nat),wz.cell? ⟨B1,f1+i * 7,none⟩=some (.string c.l[i].name)∧wz.cell? ⟨B1,f1+i * 7+1,none⟩=some (.int .u8 (c.l[i].p.a : Int))∧wz.cell? ⟨B1,f1+i * 7+2,none⟩=some (.int .u8 (c.l[i].p.b : Int))∧wz.cell? ⟨B1,f1+i * 7+3,none⟩=some (.int .u8 (c.l[i].p.c : Int))∧wz.cell? ⟨B1,f1+i * 7+4,none⟩=some (.int .u8 (c.l[i].p.d : Int))∧wz.cell? ⟨B1,f1+i * 7+5,none⟩=some (.int .u16 (c.l[i].p.port : Int))∧wz.cell? ⟨B1,f1+i * 7+6,none⟩=some (.slice o c.l[i].r.length cap) ∧
   (0 < c.l[i].r.length→o=some ⟨B,f,none⟩)∧c.l[i].r.length≤1000000∧∀ wy,Below w.heap.size w wy→∀ j (hj : j < c.l[i].r.length),wy.cell? ⟨B,f+j * 4,none⟩=some (.string c.l[i].r[j].host)∧wy.cell? ⟨B,f+j * 4+1,none⟩=some (.string c.l[i].r[j].path)∧wy.cell? ⟨B,f+j * 4+2,none⟩=some (.string c.l[i].r[j].cluster)∧wy.cell? ⟨B,f+j * 4+3,none⟩=some (.int .u64 (c.l[i].r[j].idle : Int))):=Lib.hid (fun wz hb i hi => by
  refine ⟨trivial,?_⟩
  obtain ⟨cs,hr,u,rfl,hn,hp,o,cap,B,f,rfl,ho,hR⟩:=hE1 i hi
  have hr:=rng_later hr hb
  refine ⟨o,cap,B,f,hr 0 _ rfl,hr 1 _ rfl,hr 2 _ rfl,hr 3 _ rfl,hr 4 _ rfl,hr 5 _ rfl,hr 6 _ rfl,fun hp => (ho hp).1,HLEN.out.2.2.1 _ (List.getElem_mem hi),fun wy hby j hj => ?_⟩
  obtain ⟨cs,hr2,hcs,hok⟩:=hR j hj
  subst hcs
  have hr2:=rng_later hr2 hby
  exact ⟨hr2 0 _ rfl,hr2 1 _ rfl,hr2 2 _ rfl,hr2 3 _ rfl⟩)
 have HS9 : Hid (∀ wz,Below w.heap.size w wz→∀ i (hi : i < c.c.length),True∧∃ (o : Option Addr) (cap B f : Nat),wz.cell? ⟨B3,f3+i * 2,none⟩=some (.string c.c[i].name)∧wz.cell? ⟨B3,f3+i * 2+1,none⟩=some (.slice o c.c[i].e.length cap) ∧
   (0 < c.c[i].e.length→o=some ⟨B,f,none⟩)∧c.c[i].e.length≤1000000∧∀ wy,Below w.heap.size w wy→∀ j (hj : j < c.c[i].e.length),wy.cell? ⟨B,f+j * 6,none⟩=some (.int .u8 (c.c[i].e[j].p.a : Int))∧wy.cell? ⟨B,f+j * 6+1,none⟩=some (.int .u8 (c.c[i].e[j].p.b : Int))∧wy.cell? ⟨B,f+j * 6+2,none⟩=some (.int .u8 (c.c[i].e[j].p.c : Int))∧wy.cell? ⟨B,f+j * 6+3,none⟩=some (.int .u8 (c.c[i].e[j].p.d : Int))∧wy.cell? ⟨B,f+j * 6+4,none⟩=some (.int .u16 (c.c[i].e[j].p.port : Int))∧wy.cell? ⟨B,f+j * 6+5,none⟩=some (.int .i64 c.c[i].e[j].w)):=Lib.hid (fun wz hb i hi => by
  refine ⟨trivial,?_⟩
  obtain ⟨cs,hr,u,rfl,hn,o,cap,B,f,rfl,ho,hR⟩:=hE3 i hi
  have hr:=rng_later hr hb
  refine ⟨o,cap,B,f,hr 0 _ rfl,hr 1 _ rfl,fun hp => (ho hp).1,HLEN.out.2.2.2 _ (List.getElem_mem hi),fun wy hby j hj => ?_⟩
  obtain ⟨cs,hr2,hcs,hok⟩:=hR j hj
  subst hcs
  have hr2:=rng_later hr2 hby
  exact ⟨hr2 0 _ rfl,hr2 1 _ rfl,hr2 2 _ rfl,hr2 3 _ rfl,hr2 4 _ rfl,hr2 5 _ rfl⟩)
 have HOKL : Hid (∀ l ∈ c.l,l.name.size≤maxLen∧l.p.ok∧∀ r ∈ l.r,r.ok):=Lib.hid (fun l hl => by
  obtain ⟨i,hi,rfl⟩:=List.getElem_of_mem hl
  obtain ⟨cs,hr,u,rfl,hn,hp,o,cap,B,f,rfl,ho,hR⟩:=hE1 i hi
  refine ⟨hn,hp,fun r hr => ?_⟩
  obtain ⟨j,hj,rfl⟩:=List.getElem_of_mem hr
  obtain ⟨cs,hr2,hcs,hok⟩:=hR j hj
  exact hok)
 have HOKC : Hid (∀ l ∈ c.c,l.name.size≤maxLen∧∀ r ∈ l.e,r.ok):=Lib.hid (fun l hl => by
  obtain ⟨i,hi,rfl⟩:=List.getElem_of_mem hl
  obtain ⟨cs,hr,u,rfl,hn,o,cap,B,f,rfl,ho,hR⟩:=hE3 i hi
  refine ⟨hn,fun r hr => ?_⟩
  obtain ⟨j,hj,rfl⟩:=List.getElem_of_mem hr
  obtain ⟨cs,hr2,hcs,hok⟩:=hR j hj
  exact hok)
 have HVV:=Lib.hid hv
 have HVV:=Lib.hid hv
 clear hE1 hE3 ho1 ho3 hv hs
 obtain ⟨W0,hW0⟩ : ∃ W0,W0=((((w.alloc (.cells #[.int .u64 (c.v : Int),.slice o1 c.l.length C1,.slice o3 c.c.length C3] 37)).alloc (.cells #[.int .i64 0,.int .u64 0,.string ⟨#[]⟩,.slice none 0 0] 81)).alloc (.cells #[.int .i64 3,.int .u64 0,.string ⟨#[]⟩,.slice none 0 0] 81)).alloc (.cells #[.int .i64 3,.int .u64 0,.string ⟨#[]⟩,.slice none 0 0] 81)):=⟨_,rfl⟩
 have HC0 : Hid (Bk W0 w.heap.size #[.int .u64 (c.v : Int),.slice o1 c.l.length C1,.slice o3 c.c.length C3] 37):=Lib.hid (by rw [hW0]; exact (((alloc_at (w:=w) (g:=w.heap.size) _ _ rfl).later (alloc_below _ _)).later (alloc_below _ _)).later (alloc_below _ _))
 have HD0 : Hid (Bk W0 (w.heap.size+1) #[.int .i64 0,.int .u64 0,.string ⟨#[]⟩,.slice none 0 0] 81):=Lib.hid (by rw [hW0]; exact ((alloc_at (w:=(w.alloc (.cells #[.int .u64 (c.v : Int),.slice o1 c.l.length C1,.slice o3 c.c.length C3] 37))) (g:=w.heap.size+1) _ _ (by simp)).later (alloc_below _ _)).later (alloc_below _ _))
 have HP0 : Hid (Bk W0 (w.heap.size+1+1) #[.int .i64 3,.int .u64 0,.string ⟨#[]⟩,.slice none 0 0] 81):=Lib.hid (by rw [hW0]; exact (alloc_at (w:=((w.alloc (.cells #[.int .u64 (c.v : Int),.slice o1 c.l.length C1,.slice o3 c.c.length C3] 37)).alloc (.cells #[.int .i64 0,.int .u64 0,.string ⟨#[]⟩,.slice none 0 0] 81))) (g:=w.heap.size+1+1) _ _ (by simp)).later (alloc_below _ _))
 have HM0 : Hid (Bk W0 (w.heap.size+1+1+1) #[.int .i64 3,.int .u64 0,.string ⟨#[]⟩,.slice none 0 0] 81):=Lib.hid (by rw [hW0]; exact alloc_at (w:=(((w.alloc (.cells #[.int .u64 (c.v : Int),.slice o1 c.l.length C1,.slice o3 c.c.length C3] 37)).alloc (.cells #[.int .i64 0,.int .u64 0,.string ⟨#[]⟩,.slice none 0 0] 81)).alloc (.cells #[.int .i64 3,.int .u64 0,.string ⟨#[]⟩,.slice none 0 0] 81))) (g:=w.heap.size+1+1+1) _ _ (by simp))
 have HS0 : Hid (W0.heap.size=w.heap.size+4):=Lib.hid (by rw [hW0]; simp)
 have HB0 : Hid (Below w.heap.size w W0):=Lib.hid (by rw [hW0]; exact (((alloc_below _ _).trans ((alloc_below _ _).mono (by simp))).trans ((alloc_below _ _).mono (by simp; omega))).trans ((alloc_below _ _).mono (by simp; omega)))
 go_enter Tryz.func28,Tryz.ntmps28
 go_upto_region 2 with (fail)
 rw [← hW0]
 clear hW0
 obtain ⟨u1,_⟩:=bk3f1 HC0.out
 go_wp2
 go_loopw [20] (fun y wz => ∃ (i : Nat) (V : Value),y=.int .i64 i∧i≤c.l.length∧Hid (Bk wz (w.heap.size+1+1) #[.int .i64 3,.int .u64 0,.string ⟨#[]⟩,V] 81)∧Hid (VL wz (w.heap.size+4) V ((c.l.take i).map Ls.tr))∧Hid (Kp (w.heap.size+1+1) W0 wz)∧Hid (Below w.heap.size w wz)) (fun y _ => c.l.length - (intOf y).toNat)
 case atStart => exact ⟨0,_,rfl,by omega,HP0,Lib.hid (by rw [List.take_zero]; exact VL.nil _ _),Lib.hid (Kp.refl _ _),HB0⟩
 case round =>
  rename World => wo
  obtain ⟨i,V,rfl,hi,HY,HL,HK,HB⟩:=hrel
  by_cases hlt : i < c.l.length
  ·obtain ⟨_,hsrc⟩:=HS1.out wo HB.out i hlt
   obtain rfl:=HQ1.out (by omega)
   have HTK : Hid ((c.l.take i).map Ls.tr++[Ls.tr c.l[i]]=(c.l.take (i+1)).map Ls.tr):=Lib.hid (by rw [← List.take_append_getElem hlt,List.map_append]; rfl)
   have HLI : Hid (((c.l.take i).map Ls.tr).length≤1000000):=Lib.hid (by rw [List.length_map,List.length_take]; have:=HLEN.out.1; omega)
   have HOX:=Lib.hid (HOKL.out _ (List.getElem_mem hlt))
   have HFX:=Lib.hid (HFIT.out.1 _ (List.getElem_mem hlt))
   have q1 : (i : Int) < (c.l.length : Int):=by omega
   have q0 : (c.l.length : Int)≤1000000:=by have:=HLEN.out.1; omega
   generalize c.l[i]=x at *
   generalize (c.l.take i).map Ls.tr=l at *
   obtain ⟨oV,cV,rfl⟩:=HL.out.form
   obtain ⟨o2,cap2,B2,f2,h0,h1,h2,h3,h4,h5,h6,ho2,hrl,hel⟩:=hsrc
   have HO2:=Lib.hid ho2
   have HRL:=Lib.hid hrl
   have HEL:=Lib.hid hel
   have hgy : w.heap.size+4≤wo.heap.size:=by have h1:=HK.out.size; have h2:=HS0.out; omega
   have HXo:=Lib.hid ((alloc_at (w:=wo) (g:=wo.heap.size) #[.string x.name,.int .u8 (x.p.a : Int),.int .u8 (x.p.b : Int),.int .u8 (x.p.c : Int),.int .u8 (x.p.d : Int),.int .u16 (x.p.port : Int),.slice o2 x.r.length cap2] 85 rfl).later (alloc_below _ (.cells #[.int .i64 3,.int .u64 0,.string ⟨#[]⟩,.slice none 0 0] 81)))
   have HYo:=Lib.hid (alloc_at (w:=wo.alloc (.cells #[.string x.name,.int .u8 (x.p.a : Int),.int .u8 (x.p.b : Int),.int .u8 (x.p.c : Int),.int .u8 (x.p.d : Int),.int .u16 (x.p.port : Int),.slice o2 x.r.length cap2] 85)) (g:=wo.heap.size+1) #[.int .i64 3,.int .u64 0,.string ⟨#[]⟩,.slice none 0 0] 81 (by simp))
   have HBo:=Lib.hid (show Below wo.heap.size wo ((wo.alloc (.cells #[.string x.name,.int .u8 (x.p.a : Int),.int .u8 (x.p.b : Int),.int .u8 (x.p.c : Int),.int .u8 (x.p.d : Int),.int .u16 (x.p.port : Int),.slice o2 x.r.length cap2] 85)).alloc (.cells #[.int .i64 3,.int .u64 0,.string ⟨#[]⟩,.slice none 0 0] 81)) from (alloc_below _ _).trans ((alloc_below _ _).mono (by simp)))
   clear ho2 hrl hel
   have q2 : (x.r.length : Int)≤1000000:=by have:=HRL.out; omega
   go_wp2
   go_loopw [28] (fun y wz => ∃ (j : Nat) (V : Value),y=.int .i64 j∧j≤x.r.length∧Hid (Bk wz (wo.heap.size+1) #[.int .i64 3,.int .u64 0,.string ⟨#[]⟩,V] 81)∧Hid (VL wz (wo.heap.size+2) V ((x.r.take j).map Rt.tr))∧Hid (Below wo.heap.size wo wz)∧Hid (Bk wz wo.heap.size #[.string x.name,.int .u8 (x.p.a : Int),.int .u8 (x.p.b : Int),.int .u8 (x.p.c : Int),.int .u8 (x.p.d : Int),.int .u16 (x.p.port : Int),.slice o2 x.r.length cap2] 85)) (fun y _ => x.r.length - (intOf y).toNat)
   case atStart => exact ⟨0,_,rfl,by omega,HYo,Lib.hid (by rw [List.take_zero]; exact VL.nil _ _),HBo,HXo⟩
   case round =>
    obtain ⟨j,Vi,rfl,hj,HYi,HLi,HBi,HXi⟩:=hrel
    by_cases hlj : j < x.r.length
    ·obtain rfl:=HO2.out (by omega)
     obtain ⟨e0,e1,e2,e3⟩:=HEL.out _ (HB.out.trans (HBi.out.mono HB.out.size)) j hlj
     have HTJ : Hid ((x.r.take j).map Rt.tr++[Rt.tr x.r[j]]=(x.r.take (j+1)).map Rt.tr):=Lib.hid (by rw [← List.take_append_getElem hlj,List.map_append]; rfl)
     have HNJ : Hid (((x.r.take j).map Rt.tr).length≤1000000):=Lib.hid (by rw [List.length_map,List.length_take]; have:=HRL.out; omega)
     have HRO:=Lib.hid (HOX.out.2.2 _ (List.getElem_mem hlj))
     have HRF:=Lib.hid (HFX.out.2.2 _ (List.getElem_mem hlj))
     have q3 : (j : Int) < (x.r.length : Int):=by omega
     generalize x.r[j]=r at *
     generalize (x.r.take j).map Rt.tr=li at *
     obtain ⟨oW,cW,rfl⟩:=HLi.out.form
     have hge : wo.heap.size+2≤wr.heap.size:=by have:=lt_of_heap HYi.out; omega
     obtain ⟨W1,hW1⟩ : ∃ W1,W1=wr.alloc (.cells #[.string r.host,.string r.path,.string r.cluster,.int .u64 (r.idle : Int)] 86):=⟨_,rfl⟩
     have hb1 : Below wr.heap.size wr W1.drew:=by rw [hW1]; exact (alloc_below _ _).drew
     have HX0 : Hid (Bk W1.drew wr.heap.size #[.string r.host,.string r.path,.string r.cluster,.int .u64 (r.idle : Int)] 86):=Lib.hid (by rw [hW1]; exact alloc_at (w:=wr) _ _ rfl)
     have HY0:=Lib.hid (show Bk W1.drew (wo.heap.size+1) _ 81 from HYi.out.later hb1)
     have HL0:=Lib.hid (show VL W1.drew (wo.heap.size+2) _ li from HLi.out.later hb1)
     have HF0:=Lib.hid (show Bk W1.drew wo.heap.size _ 85 from HXi.out.later hb1)
     have HB0:=Lib.hid (show Below wo.heap.size wo W1.drew from HBi.out.trans (hb1.mono HBi.out.size))
     clear hb1
     go_upto_region 9 with (fail)
     rw [← hW1]
     clear hW1
     have mkS : Hid (∀ wz,Bk wz (wr.heap.size) #[.string r.host,.string r.path,.string r.cluster,.int .u64 (r.idle : Int)] 86→wz.cell? ⟨wr.heap.size,0,none⟩=some (.string r.host)∧wz.cell? ⟨wr.heap.size,1,none⟩=some (.string r.path)∧wz.cell? ⟨wr.heap.size,2,none⟩=some (.string r.cluster)∧wz.cell? ⟨wr.heap.size,3,none⟩=some (.int .u64 (r.idle : Int))∧Hid True):=Lib.hid (fun wz h0 => ⟨(cell_of_row _ _ 0 _ _ _ h0).trans rfl,(cell_of_row _ _ 1 _ _ _ h0).trans rfl,(cell_of_row _ _ 2 _ _ _ h0).trans rfl,(cell_of_row _ _ 3 _ _ _ h0).trans rfl,Lib.hid True.intro⟩)
     refine wp_region_held_drew (S:=fun wz => wz.cell? ⟨wr.heap.size,0,none⟩=some (.string r.host)∧wz.cell? ⟨wr.heap.size,1,none⟩=some (.string r.path)∧wz.cell? ⟨wr.heap.size,2,none⟩=some (.string r.cluster)∧wz.cell? ⟨wr.heap.size,3,none⟩=some (.int .u64 (r.idle : Int))∧Hid True) (by kernel_rfl) (mkS.out _ HX0.out) (fun hj9 => ?_)
     generalize W1.drew=wc0 at *
     refine tkH (i:=0) (oi:=⟨some 32,_,_,_,_,_⟩) (v:=?_) rfl (Or.inl ⟨by rfl,by (intro w hSw; (try dsimp only at hSw); go_simp; try with_reducible rfl)⟩) hj9 ?_
     try simp only [Act.put,pS,p0,p1]
     refine tkH (i:=2) (oi:=⟨some 34,_,_,_,_,_⟩) (v:=?_) rfl (Or.inl ⟨by rfl,by (intro w hSw; (try dsimp only at hSw); go_simp; try with_reducible rfl)⟩) hj9 ?_
     try simp only [Act.put,pS,p0,p1]
     refine tkH (i:=3) (oi:=⟨some 35,_,_,_,_,_⟩) (v:=?_) rfl (Or.inl ⟨by rfl,by (intro w hSw; (try dsimp only at hSw); go_simp; try with_reducible rfl)⟩) hj9 ?_
     try simp only [Act.put,pS,p0,p1]
     refine tkH (i:=5) (oi:=⟨some 37,_,_,_,_,_⟩) (v:=?_) rfl (Or.inl ⟨by rfl,by (intro w hSw; (try dsimp only at hSw); go_simp; try with_reducible rfl)⟩) hj9 ?_
     try simp only [Act.put,pS,p0,p1]
     refine tkH (i:=6) (oi:=⟨some 38,_,_,_,_,_⟩) (v:=?_) rfl (Or.inl ⟨by rfl,by (intro w hSw; (try dsimp only at hSw); go_simp; try with_reducible rfl)⟩) hj9 ?_
     try simp only [Act.put,pS,p0,p1]
     refine tkH (i:=8) (oi:=⟨some 40,_,_,_,_,_⟩) (v:=?_) rfl (Or.inl ⟨by rfl,by (intro w hSw; (try dsimp only at hSw); go_simp; try with_reducible rfl)⟩) hj9 ?_
     try simp only [Act.put,pS,p0,p1]
     refine tkH (i:=9) (oi:=⟨some 41,_,_,_,_,_⟩) (v:=?_) rfl (Or.inl ⟨by rfl,by (intro w hSw; (try dsimp only at hSw); go_simp; try with_reducible rfl)⟩) hj9 ?_
     try simp only [Act.put,pS,p0,p1]
     refine tkH (i:=11) (oi:=⟨some 43,_,_,_,_,_⟩) (v:=?_) rfl (Or.inl ⟨by rfl,by (intro w hSw; (try dsimp only at hSw); go_simp; try with_reducible rfl)⟩) hj9 ?_
     try simp only [Act.put,pS,p0,p1]
     refine tkH (i:=12) (oi:=⟨some 44,_,_,_,_,_⟩) (v:=?_) rfl (Or.inl ⟨by rfl,by (intro w hSw; (try dsimp only at hSw); go_simp; try with_reducible rfl)⟩) hj9 ?_
     try simp only [Act.put,pS,p0,p1]
     refine wpAnyH_ready (rs:=[1,4]) (by kernel_rfl) (by simp) ?_
     refine AllReadyH.cons (o:=⟨some 33,_,_,_,_,_⟩) rfl (fun K hK => ?_) ?_
     ·obtain ⟨⟨y0,y1,y2,y3⟩,z0,z1,z2,z3⟩:=bk4 HY0.out
      go_simp
      refine hK.out _ _ (mkS.out _ HX0.out) (fun hj8 => ?_)
      clear hK K hj9
      have hj9:=hj8
      clear hj8
      clear y0 y1 y2 y3 z0 z1 z2 z3
      try simp only [Act.put,pS,p0,p1]
      refine wpAnyH_ready (rs:=[4]) (by kernel_rfl) (by simp) ?_
      refine AllReadyH.cons (o:=⟨some 36,_,_,_,_,_⟩) rfl (fun K hK => ?_) ?_
      ·go_simp
       refine (rtext_any _ _).mono ?_
       rintro ze wc1 ⟨rfl,hbn⟩
       try go_simp
       have HX1:=Lib.hid (Bk.later HX0.out hbn)
       have HY1:=Lib.hid (Bk.later HY0.out hbn)
       have HL1:=Lib.hid (VL.later HL0.out hbn)
       have HF1:=Lib.hid (Bk.later HF0.out hbn)
       have HB1:=Lib.hid (HB0.out.trans (hbn.mono HB0.out.size))
       refine hK.out _ _ (mkS.out _ HX1.out) (fun hj8 => ?_)
       clear hK K hj9
       have hj9:=hj8
       clear hj8
       clear hbn
       try simp only [Act.put,pS,p0,p1]
       refine wpAnyH_ready (rs:=[7]) (by kernel_rfl) (by simp) ?_
       refine AllReadyH.cons (o:=⟨some 39,_,_,_,_,_⟩) rfl (fun K hK => ?_) ?_
       ·go_simp
        refine (rtext_any _ _).mono ?_
        rintro ze wc2 ⟨rfl,hbn⟩
        try go_simp
        have HX2:=Lib.hid (Bk.later HX1.out hbn)
        have HY2:=Lib.hid (Bk.later HY1.out hbn)
        have HL2:=Lib.hid (VL.later HL1.out hbn)
        have HF2:=Lib.hid (Bk.later HF1.out hbn)
        have HB2:=Lib.hid (HB1.out.trans (hbn.mono HB1.out.size))
        refine hK.out _ _ (mkS.out _ HX2.out) (fun hj8 => ?_)
        clear hK K hj9
        have hj9:=hj8
        clear hj8
        clear hbn
        try simp only [Act.put,pS,p0,p1]
        refine wpAnyH_ready (rs:=[10]) (by kernel_rfl) (by simp) ?_
        refine AllReadyH.cons (o:=⟨some 42,_,_,_,_,_⟩) rfl (fun K hK => ?_) ?_
        ·go_simp
         refine (rtext_any _ _).mono ?_
         rintro ze wc3 ⟨rfl,hbn⟩
         try go_simp
         have HX3:=Lib.hid (Bk.later HX2.out hbn)
         have HY3:=Lib.hid (Bk.later HY2.out hbn)
         have HL3:=Lib.hid (VL.later HL2.out hbn)
         have HF3:=Lib.hid (Bk.later HF2.out hbn)
         have HB3:=Lib.hid (HB2.out.trans (hbn.mono HB2.out.size))
         refine hK.out _ _ (mkS.out _ HX3.out) (fun hj8 => ?_)
         clear hK K hj9
         have hj9:=hj8
         clear hj8
         clear hbn
         try simp only [Act.put,pS,p0,p1]
         refine wpAnyH_ready (rs:=[13]) (by kernel_rfl) (by simp) ?_
         refine AllReadyH.cons (o:=⟨some 45,_,_,_,_,_⟩) rfl (fun K hK => ?_) ?_
         ·go_simp
          refine (rnum_any _ _).mono ?_
          rintro ze wc4 ⟨rfl,hbn⟩
          try go_simp
          have HX4:=Lib.hid (Bk.later HX3.out hbn)
          have HY4:=Lib.hid (Bk.later HY3.out hbn)
          have HL4:=Lib.hid (VL.later HL3.out hbn)
          have HF4:=Lib.hid (Bk.later HF3.out hbn)
          have HB4:=Lib.hid (HB3.out.trans (hbn.mono HB3.out.size))
          refine hK.out _ _ (mkS.out _ HX4.out) (fun hj8 => ?_)
          clear hK K hj9
          have hj9:=hj8
          clear hj8
          clear hbn
          try simp only [Act.put,pS,p0,p1]
          refine wpAnyH_ready (rs:=[14]) (by kernel_rfl) (by simp) ?_
          refine AllReadyH.cons (o:=⟨some 46,_,_,_,_,_⟩) rfl (fun K hK => ?_) ?_
          ·go_simp
           have hbn:=alloc_below wc4 (.cells #[.int .i64 2,.int .u64 0,.string (r.host),.slice none 0 0,.int .i64 2,.int .u64 0,.string (r.path),.slice none 0 0,.int .i64 2,.int .u64 0,.string (r.cluster),.slice none 0 0,.int .i64 1,.int .u64 ((r.idle : Int)),.string ⟨#[]⟩,.slice none 0 0] 81)
           have HX5:=Lib.hid (Bk.later HX4.out hbn)
           have HY5:=Lib.hid (Bk.later HY4.out hbn)
           have HL5:=Lib.hid (VL.later HL4.out hbn)
           have HF5:=Lib.hid (Bk.later HF4.out hbn)
           have HB5:=Lib.hid (HB4.out.trans (hbn.mono HB4.out.size))
           have HR5:=Lib.hid (show Bk (wc4.alloc (.cells #[.int .i64 2,.int .u64 0,.string (r.host),.slice none 0 0,.int .i64 2,.int .u64 0,.string (r.path),.slice none 0 0,.int .i64 2,.int .u64 0,.string (r.cluster),.slice none 0 0,.int .i64 1,.int .u64 ((r.idle : Int)),.string ⟨#[]⟩,.slice none 0 0] 81)) wc4.heap.size _ 81 from heap_alloc_new wc4 _)
           have HG:=Lib.hid (show wo.heap.size+2≤wc4.heap.size∧∀ b,(Value.slice oW li.length cW).ownBlock=some b→b≠wc4.heap.size from ⟨by have:=lt_of_heap HY4.out; omega,fun b hb => Nat.ne_of_lt (HL4.out.own b hb).2⟩)
           refine hK.out _ _ (mkS.out _ HX5.out) (fun hj8 => ?_)
           clear hK K hj9
           have hj9:=hj8
           clear hj8
           clear hbn
           try simp only [Act.put,pS,p0,p1]
           generalize wc4.alloc (.cells #[.int .i64 2,.int .u64 0,.string (r.host),.slice none 0 0,.int .i64 2,.int .u64 0,.string (r.path),.slice none 0 0,.int .i64 2,.int .u64 0,.string (r.cluster),.slice none 0 0,.int .i64 1,.int .u64 ((r.idle : Int)),.string ⟨#[]⟩,.slice none 0 0] 81)=wc5 at *
           generalize wc4.heap.size=g1 at *
           refine tkH (i:=15) (oi:=⟨some 47,_,_,_,_,_⟩) (v:=?_) rfl (Or.inl ⟨by rfl,by (intro w hSw; (try dsimp only at hSw); go_simp; try with_reducible rfl)⟩) hj9 ?_
           try simp only [Act.put,pS,p0,p1]
           refine wpAnyH_ready (rs:=[16]) (by kernel_rfl) (by simp) ?_
           refine AllReadyH.cons (o:=⟨some 48,_,_,_,_,_⟩) rfl (fun K hK => ?_) ?_
           ·go_simp
            have hbn:=alloc_below wc5 (.cells #[.int .i64 3,.int .u64 0,.string ⟨#[]⟩,.slice (some ⟨g1,0,none⟩) 4 4] 81)
            have HX6:=Lib.hid (Bk.later HX5.out hbn)
            have HY6:=Lib.hid (Bk.later HY5.out hbn)
            have HL6:=Lib.hid (VL.later HL5.out hbn)
            have HF6:=Lib.hid (Bk.later HF5.out hbn)
            have HR6:=Lib.hid (Bk.later HR5.out hbn)
            have HB6:=Lib.hid (HB5.out.trans (hbn.mono HB5.out.size))
            have HQ6:=Lib.hid (show Bk (wc5.alloc (.cells #[.int .i64 3,.int .u64 0,.string ⟨#[]⟩,.slice (some ⟨g1,0,none⟩) 4 4] 81)) wc5.heap.size _ 81 from heap_alloc_new wc5 _)
            refine hK.out _ _ (mkS.out _ HX6.out) (fun hj8 => ?_)
            clear hK K hj9
            have hj9:=hj8
            clear hj8
            clear hbn
            try simp only [Act.put,pS,p0,p1]
            generalize wc5.alloc (.cells #[.int .i64 3,.int .u64 0,.string ⟨#[]⟩,.slice (some ⟨g1,0,none⟩) 4 4] 81)=wc6 at *
            generalize wc5.heap.size=g2 at *
            refine wpAnyH_ready (rs:=[17]) (by kernel_rfl) (by simp) ?_
            refine AllReadyH.cons (o:=⟨some 49,_,_,_,_,_⟩) rfl (fun K hK => ?_) ?_
            ·have HTr:=Lib.hid (show VInP wc6 (fun b => wo.heap.size+2≤b∧(Value.slice oW li.length cW).ownBlock≠some b) (rowT [strT r.host,strT r.path,strT r.cluster,numT r.idle]) (.int .i64 3) (.int .u64 0) (.string ⟨#[]⟩) (.slice (some ⟨g1,0,none⟩) 4 4) from vin_row (l:=[strT r.host,strT r.path,strT r.cluster,numT r.idle]) rfl (by simp) HR6.out ⟨HG.out.1,fun e => HG.out.2 _ e rfl⟩ (fun i hi => by
              match i,hi with
              | 0,_ => exact ⟨_,_,_,_,rfl,rfl,rfl,rfl,vin_str _ _ _ HRF.out.1⟩
              | 1,_ => exact ⟨_,_,_,_,rfl,rfl,rfl,rfl,vin_str _ _ _ HRF.out.2.1⟩
              | 2,_ => exact ⟨_,_,_,_,rfl,rfl,rfl,rfl,vin_str _ _ _ HRF.out.2.2⟩
              | 3,_ => exact ⟨_,_,_,_,rfl,rfl,rfl,rfl,vin_num _ _ _ HRO.out.2.2.2⟩))
             refine wp_push (.tmp 33) (.tmp 48) rfl (wo.heap.size+2) (Value.slice oW li.length cW) _ _ _ _ _ _ g2 rfl rfl HL6.out HQ6.out HTr.out (by have:=lt_of_heap HY6.out; omega) (HNJ.out) ?_
             intro o6 k6 wc7 hl6 hg6 hb6
             have HL7:=Lib.hid hl6
             have HX7:=Lib.hid (HL6.out.bk HX6.out (by decide) hg6)
             have HY7:=Lib.hid (Bk.upto HY6.out (by omega) hb6)
             have HF7:=Lib.hid (HL6.out.bk HF6.out (by decide) hg6)
             have HB7:=Lib.hid (HB6.out.trans (hb6.mono (by omega)))
             refine hK.out _ _ (mkS.out _ HX7.out) (fun hj8 => ?_)
             clear hK K hj9
             have hj9:=hj8
             clear hj8
             clear HTr hl6 hg6 hb6
             try simp only [Act.put,pS,p0,p1]
             refine tkH (i:=18) (oi:=⟨some 50,_,_,_,_,_⟩) (v:=?_) rfl (Or.inl ⟨by rfl,by (intro w hSw; (try dsimp only at hSw); go_simp; try with_reducible rfl)⟩) hj9 ?_
             try simp only [Act.put,pS,p0,p1]
             refine wpAnyH_ready (rs:=[19]) (by kernel_rfl) (by simp) ?_
             refine AllReadyH.cons (o:=⟨none,_,_,_,_,_⟩) rfl (fun K hK => ?_) ?_
             ·obtain ⟨⟨y0,y1,y2,y3⟩,z0,z1,z2,z3⟩:=bk4 HY7.out
              go_simp
              have HY8:=Lib.hid (HY7.out.set (i:=3) (.slice o6 (li.length+1) k6))
              have HL8:=Lib.hid (HL7.out.away (q:=wo.heap.size+1) (by omega) 3 (.slice o6 (li.length+1) k6))
              have HX8:=Lib.hid (HX7.out.away (q:=wo.heap.size+1) (by omega) 3 (.slice o6 (li.length+1) k6))
              have HF8:=Lib.hid (HF7.out.away (q:=wo.heap.size+1) (by omega) 3 (.slice o6 (li.length+1) k6))
              have HB8:=Lib.hid (HB7.out.setCell (p:=⟨wo.heap.size+1,3,none⟩) (by show wo.heap.size≤wo.heap.size+1; omega) (.slice o6 (li.length+1) k6))
              refine hK.out _ _ (mkS.out _ HX8.out) (fun hj8 => ?_)
              clear hK K hj9
              have hj9:=hj8
              clear hj8
              clear y0 y1 y2 y3 z0 z1 z2 z3
              try simp only [Act.put,pS,p0,p1]
              generalize (wc7.setCell ⟨wo.heap.size+1,3,none⟩ (.slice o6 (li.length+1) k6))=wc8 at *
              refine wpAnyH_done (by kernel_rfl) ?_ _
              simp only [Exit.inBlock,Exit.then]
              apply_assumption
              try go_wp2
              exact ⟨⟨j+1,_,by go_num,by omega,HY8,Lib.hid (by rw [← HTJ.out]; exact HL8.out),HB8,HF8⟩,by simp [intOf]; omega⟩
             ·exact AllReadyH.nil
            ·exact AllReadyH.nil
           ·exact AllReadyH.nil
          ·exact AllReadyH.nil
         ·exact AllReadyH.nil
        ·exact AllReadyH.nil
       ·exact AllReadyH.nil
      ·exact AllReadyH.nil
     ·refine AllReadyH.cons (o:=⟨some 36,_,_,_,_,_⟩) rfl (fun K hK => ?_) ?_
      ·go_simp
       refine (rtext_any _ _).mono ?_
       rintro ze wc1 ⟨rfl,hbn⟩
       try go_simp
       have HX1:=Lib.hid (Bk.later HX0.out hbn)
       have HY1:=Lib.hid (Bk.later HY0.out hbn)
       have HL1:=Lib.hid (VL.later HL0.out hbn)
       have HF1:=Lib.hid (Bk.later HF0.out hbn)
       have HB1:=Lib.hid (HB0.out.trans (hbn.mono HB0.out.size))
       refine hK.out _ _ (mkS.out _ HX1.out) (fun hj8 => ?_)
       clear hK K hj9
       have hj9:=hj8
       clear hj8
       clear hbn
       try simp only [Act.put,pS,p0,p1]
       refine wpAnyH_ready (rs:=[1,7]) (by kernel_rfl) (by simp) ?_
       refine AllReadyH.cons (o:=⟨some 33,_,_,_,_,_⟩) rfl (fun K hK => ?_) ?_
       ·obtain ⟨⟨y0,y1,y2,y3⟩,z0,z1,z2,z3⟩:=bk4 HY1.out
        go_simp
        refine hK.out _ _ (mkS.out _ HX1.out) (fun hj8 => ?_)
        clear hK K hj9
        have hj9:=hj8
        clear hj8
        clear y0 y1 y2 y3 z0 z1 z2 z3
        try simp only [Act.put,pS,p0,p1]
        refine wpAnyH_ready (rs:=[7]) (by kernel_rfl) (by simp) ?_
        refine AllReadyH.cons (o:=⟨some 39,_,_,_,_,_⟩) rfl (fun K hK => ?_) ?_
        ·go_simp
         refine (rtext_any _ _).mono ?_
         rintro ze wc2 ⟨rfl,hbn⟩
         try go_simp
         have HX2:=Lib.hid (Bk.later HX1.out hbn)
         have HY2:=Lib.hid (Bk.later HY1.out hbn)
         have HL2:=Lib.hid (VL.later HL1.out hbn)
         have HF2:=Lib.hid (Bk.later HF1.out hbn)
         have HB2:=Lib.hid (HB1.out.trans (hbn.mono HB1.out.size))
         refine hK.out _ _ (mkS.out _ HX2.out) (fun hj8 => ?_)
         clear hK K hj9
         have hj9:=hj8
         clear hj8
         clear hbn
         try simp only [Act.put,pS,p0,p1]
         refine wpAnyH_ready (rs:=[10]) (by kernel_rfl) (by simp) ?_
         refine AllReadyH.cons (o:=⟨some 42,_,_,_,_,_⟩) rfl (fun K hK => ?_) ?_
         ·go_simp
          refine (rtext_any _ _).mono ?_
          rintro ze wc3 ⟨rfl,hbn⟩
          try go_simp
          have HX3:=Lib.hid (Bk.later HX2.out hbn)
          have HY3:=Lib.hid (Bk.later HY2.out hbn)
          have HL3:=Lib.hid (VL.later HL2.out hbn)
          have HF3:=Lib.hid (Bk.later HF2.out hbn)
          have HB3:=Lib.hid (HB2.out.trans (hbn.mono HB2.out.size))
          refine hK.out _ _ (mkS.out _ HX3.out) (fun hj8 => ?_)
          clear hK K hj9
          have hj9:=hj8
          clear hj8
          clear hbn
          try simp only [Act.put,pS,p0,p1]
          refine wpAnyH_ready (rs:=[13]) (by kernel_rfl) (by simp) ?_
          refine AllReadyH.cons (o:=⟨some 45,_,_,_,_,_⟩) rfl (fun K hK => ?_) ?_
          ·go_simp
           refine (rnum_any _ _).mono ?_
           rintro ze wc4 ⟨rfl,hbn⟩
           try go_simp
           have HX4:=Lib.hid (Bk.later HX3.out hbn)
           have HY4:=Lib.hid (Bk.later HY3.out hbn)
           have HL4:=Lib.hid (VL.later HL3.out hbn)
           have HF4:=Lib.hid (Bk.later HF3.out hbn)
           have HB4:=Lib.hid (HB3.out.trans (hbn.mono HB3.out.size))
           refine hK.out _ _ (mkS.out _ HX4.out) (fun hj8 => ?_)
           clear hK K hj9
           have hj9:=hj8
           clear hj8
           clear hbn
           try simp only [Act.put,pS,p0,p1]
           refine wpAnyH_ready (rs:=[14]) (by kernel_rfl) (by simp) ?_
           refine AllReadyH.cons (o:=⟨some 46,_,_,_,_,_⟩) rfl (fun K hK => ?_) ?_
           ·go_simp
            have hbn:=alloc_below wc4 (.cells #[.int .i64 2,.int .u64 0,.string (r.host),.slice none 0 0,.int .i64 2,.int .u64 0,.string (r.path),.slice none 0 0,.int .i64 2,.int .u64 0,.string (r.cluster),.slice none 0 0,.int .i64 1,.int .u64 ((r.idle : Int)),.string ⟨#[]⟩,.slice none 0 0] 81)
            have HX5:=Lib.hid (Bk.later HX4.out hbn)
            have HY5:=Lib.hid (Bk.later HY4.out hbn)
            have HL5:=Lib.hid (VL.later HL4.out hbn)
            have HF5:=Lib.hid (Bk.later HF4.out hbn)
            have HB5:=Lib.hid (HB4.out.trans (hbn.mono HB4.out.size))
            have HR5:=Lib.hid (show Bk (wc4.alloc (.cells #[.int .i64 2,.int .u64 0,.string (r.host),.slice none 0 0,.int .i64 2,.int .u64 0,.string (r.path),.slice none 0 0,.int .i64 2,.int .u64 0,.string (r.cluster),.slice none 0 0,.int .i64 1,.int .u64 ((r.idle : Int)),.string ⟨#[]⟩,.slice none 0 0] 81)) wc4.heap.size _ 81 from heap_alloc_new wc4 _)
            have HG:=Lib.hid (show wo.heap.size+2≤wc4.heap.size∧∀ b,(Value.slice oW li.length cW).ownBlock=some b→b≠wc4.heap.size from ⟨by have:=lt_of_heap HY4.out; omega,fun b hb => Nat.ne_of_lt (HL4.out.own b hb).2⟩)
            refine hK.out _ _ (mkS.out _ HX5.out) (fun hj8 => ?_)
            clear hK K hj9
            have hj9:=hj8
            clear hj8
            clear hbn
            try simp only [Act.put,pS,p0,p1]
            generalize wc4.alloc (.cells #[.int .i64 2,.int .u64 0,.string (r.host),.slice none 0 0,.int .i64 2,.int .u64 0,.string (r.path),.slice none 0 0,.int .i64 2,.int .u64 0,.string (r.cluster),.slice none 0 0,.int .i64 1,.int .u64 ((r.idle : Int)),.string ⟨#[]⟩,.slice none 0 0] 81)=wc5 at *
            generalize wc4.heap.size=g1 at *
            refine tkH (i:=15) (oi:=⟨some 47,_,_,_,_,_⟩) (v:=?_) rfl (Or.inl ⟨by rfl,by (intro w hSw; (try dsimp only at hSw); go_simp; try with_reducible rfl)⟩) hj9 ?_
            try simp only [Act.put,pS,p0,p1]
            refine wpAnyH_ready (rs:=[16]) (by kernel_rfl) (by simp) ?_
            refine AllReadyH.cons (o:=⟨some 48,_,_,_,_,_⟩) rfl (fun K hK => ?_) ?_
            ·go_simp
             have hbn:=alloc_below wc5 (.cells #[.int .i64 3,.int .u64 0,.string ⟨#[]⟩,.slice (some ⟨g1,0,none⟩) 4 4] 81)
             have HX6:=Lib.hid (Bk.later HX5.out hbn)
             have HY6:=Lib.hid (Bk.later HY5.out hbn)
             have HL6:=Lib.hid (VL.later HL5.out hbn)
             have HF6:=Lib.hid (Bk.later HF5.out hbn)
             have HR6:=Lib.hid (Bk.later HR5.out hbn)
             have HB6:=Lib.hid (HB5.out.trans (hbn.mono HB5.out.size))
             have HQ6:=Lib.hid (show Bk (wc5.alloc (.cells #[.int .i64 3,.int .u64 0,.string ⟨#[]⟩,.slice (some ⟨g1,0,none⟩) 4 4] 81)) wc5.heap.size _ 81 from heap_alloc_new wc5 _)
             refine hK.out _ _ (mkS.out _ HX6.out) (fun hj8 => ?_)
             clear hK K hj9
             have hj9:=hj8
             clear hj8
             clear hbn
             try simp only [Act.put,pS,p0,p1]
             generalize wc5.alloc (.cells #[.int .i64 3,.int .u64 0,.string ⟨#[]⟩,.slice (some ⟨g1,0,none⟩) 4 4] 81)=wc6 at *
             generalize wc5.heap.size=g2 at *
             refine wpAnyH_ready (rs:=[17]) (by kernel_rfl) (by simp) ?_
             refine AllReadyH.cons (o:=⟨some 49,_,_,_,_,_⟩) rfl (fun K hK => ?_) ?_
             ·have HTr:=Lib.hid (show VInP wc6 (fun b => wo.heap.size+2≤b∧(Value.slice oW li.length cW).ownBlock≠some b) (rowT [strT r.host,strT r.path,strT r.cluster,numT r.idle]) (.int .i64 3) (.int .u64 0) (.string ⟨#[]⟩) (.slice (some ⟨g1,0,none⟩) 4 4) from vin_row (l:=[strT r.host,strT r.path,strT r.cluster,numT r.idle]) rfl (by simp) HR6.out ⟨HG.out.1,fun e => HG.out.2 _ e rfl⟩ (fun i hi => by
               match i,hi with
               | 0,_ => exact ⟨_,_,_,_,rfl,rfl,rfl,rfl,vin_str _ _ _ HRF.out.1⟩
               | 1,_ => exact ⟨_,_,_,_,rfl,rfl,rfl,rfl,vin_str _ _ _ HRF.out.2.1⟩
               | 2,_ => exact ⟨_,_,_,_,rfl,rfl,rfl,rfl,vin_str _ _ _ HRF.out.2.2⟩
               | 3,_ => exact ⟨_,_,_,_,rfl,rfl,rfl,rfl,vin_num _ _ _ HRO.out.2.2.2⟩))
              refine wp_push (.tmp 33) (.tmp 48) rfl (wo.heap.size+2) (Value.slice oW li.length cW) _ _ _ _ _ _ g2 rfl rfl HL6.out HQ6.out HTr.out (by have:=lt_of_heap HY6.out; omega) (HNJ.out) ?_
              intro o6 k6 wc7 hl6 hg6 hb6
              have HL7:=Lib.hid hl6
              have HX7:=Lib.hid (HL6.out.bk HX6.out (by decide) hg6)
              have HY7:=Lib.hid (Bk.upto HY6.out (by omega) hb6)
              have HF7:=Lib.hid (HL6.out.bk HF6.out (by decide) hg6)
              have HB7:=Lib.hid (HB6.out.trans (hb6.mono (by omega)))
              refine hK.out _ _ (mkS.out _ HX7.out) (fun hj8 => ?_)
              clear hK K hj9
              have hj9:=hj8
              clear hj8
              clear HTr hl6 hg6 hb6
              try simp only [Act.put,pS,p0,p1]
              refine tkH (i:=18) (oi:=⟨some 50,_,_,_,_,_⟩) (v:=?_) rfl (Or.inl ⟨by rfl,by (intro w hSw; (try dsimp only at hSw); go_simp; try with_reducible rfl)⟩) hj9 ?_
              try simp only [Act.put,pS,p0,p1]
              refine wpAnyH_ready (rs:=[19]) (by kernel_rfl) (by simp) ?_
              refine AllReadyH.cons (o:=⟨none,_,_,_,_,_⟩) rfl (fun K hK => ?_) ?_
              ·obtain ⟨⟨y0,y1,y2,y3⟩,z0,z1,z2,z3⟩:=bk4 HY7.out
               go_simp
               have HY8:=Lib.hid (HY7.out.set (i:=3) (.slice o6 (li.length+1) k6))
               have HL8:=Lib.hid (HL7.out.away (q:=wo.heap.size+1) (by omega) 3 (.slice o6 (li.length+1) k6))
               have HX8:=Lib.hid (HX7.out.away (q:=wo.heap.size+1) (by omega) 3 (.slice o6 (li.length+1) k6))
               have HF8:=Lib.hid (HF7.out.away (q:=wo.heap.size+1) (by omega) 3 (.slice o6 (li.length+1) k6))
               have HB8:=Lib.hid (HB7.out.setCell (p:=⟨wo.heap.size+1,3,none⟩) (by show wo.heap.size≤wo.heap.size+1; omega) (.slice o6 (li.length+1) k6))
               refine hK.out _ _ (mkS.out _ HX8.out) (fun hj8 => ?_)
               clear hK K hj9
               have hj9:=hj8
               clear hj8
               clear y0 y1 y2 y3 z0 z1 z2 z3
               try simp only [Act.put,pS,p0,p1]
               generalize (wc7.setCell ⟨wo.heap.size+1,3,none⟩ (.slice o6 (li.length+1) k6))=wc8 at *
               refine wpAnyH_done (by kernel_rfl) ?_ _
               simp only [Exit.inBlock,Exit.then]
               apply_assumption
               try go_wp2
               exact ⟨⟨j+1,_,by go_num,by omega,HY8,Lib.hid (by rw [← HTJ.out]; exact HL8.out),HB8,HF8⟩,by simp [intOf]; omega⟩
              ·exact AllReadyH.nil
             ·exact AllReadyH.nil
            ·exact AllReadyH.nil
           ·exact AllReadyH.nil
          ·exact AllReadyH.nil
         ·exact AllReadyH.nil
        ·exact AllReadyH.nil
       ·refine AllReadyH.cons (o:=⟨some 39,_,_,_,_,_⟩) rfl (fun K hK => ?_) ?_
        ·go_simp
         refine (rtext_any _ _).mono ?_
         rintro ze wc2 ⟨rfl,hbn⟩
         try go_simp
         have HX2:=Lib.hid (Bk.later HX1.out hbn)
         have HY2:=Lib.hid (Bk.later HY1.out hbn)
         have HL2:=Lib.hid (VL.later HL1.out hbn)
         have HF2:=Lib.hid (Bk.later HF1.out hbn)
         have HB2:=Lib.hid (HB1.out.trans (hbn.mono HB1.out.size))
         refine hK.out _ _ (mkS.out _ HX2.out) (fun hj8 => ?_)
         clear hK K hj9
         have hj9:=hj8
         clear hj8
         clear hbn
         try simp only [Act.put,pS,p0,p1]
         refine wpAnyH_ready (rs:=[1,10]) (by kernel_rfl) (by simp) ?_
         refine AllReadyH.cons (o:=⟨some 33,_,_,_,_,_⟩) rfl (fun K hK => ?_) ?_
         ·obtain ⟨⟨y0,y1,y2,y3⟩,z0,z1,z2,z3⟩:=bk4 HY2.out
          go_simp
          refine hK.out _ _ (mkS.out _ HX2.out) (fun hj8 => ?_)
          clear hK K hj9
          have hj9:=hj8
          clear hj8
          clear y0 y1 y2 y3 z0 z1 z2 z3
          try simp only [Act.put,pS,p0,p1]
          refine wpAnyH_ready (rs:=[10]) (by kernel_rfl) (by simp) ?_
          refine AllReadyH.cons (o:=⟨some 42,_,_,_,_,_⟩) rfl (fun K hK => ?_) ?_
          ·go_simp
           refine (rtext_any _ _).mono ?_
           rintro ze wc3 ⟨rfl,hbn⟩
           try go_simp
           have HX3:=Lib.hid (Bk.later HX2.out hbn)
           have HY3:=Lib.hid (Bk.later HY2.out hbn)
           have HL3:=Lib.hid (VL.later HL2.out hbn)
           have HF3:=Lib.hid (Bk.later HF2.out hbn)
           have HB3:=Lib.hid (HB2.out.trans (hbn.mono HB2.out.size))
           refine hK.out _ _ (mkS.out _ HX3.out) (fun hj8 => ?_)
           clear hK K hj9
           have hj9:=hj8
           clear hj8
           clear hbn
           try simp only [Act.put,pS,p0,p1]
           refine wpAnyH_ready (rs:=[13]) (by kernel_rfl) (by simp) ?_
           refine AllReadyH.cons (o:=⟨some 45,_,_,_,_,_⟩) rfl (fun K hK => ?_) ?_
           ·go_simp
            refine (rnum_any _ _).mono ?_
            rintro ze wc4 ⟨rfl,hbn⟩
            try go_simp
            have HX4:=Lib.hid (Bk.later HX3.out hbn)
            have HY4:=Lib.hid (Bk.later HY3.out hbn)
            have HL4:=Lib.hid (VL.later HL3.out hbn)
            have HF4:=Lib.hid (Bk.later HF3.out hbn)
            have HB4:=Lib.hid (HB3.out.trans (hbn.mono HB3.out.size))
            refine hK.out _ _ (mkS.out _ HX4.out) (fun hj8 => ?_)
            clear hK K hj9
            have hj9:=hj8
            clear hj8
            clear hbn
            try simp only [Act.put,pS,p0,p1]
            refine wpAnyH_ready (rs:=[14]) (by kernel_rfl) (by simp) ?_
            refine AllReadyH.cons (o:=⟨some 46,_,_,_,_,_⟩) rfl (fun K hK => ?_) ?_
            ·go_simp
             have hbn:=alloc_below wc4 (.cells #[.int .i64 2,.int .u64 0,.string (r.host),.slice none 0 0,.int .i64 2,.int .u64 0,.string (r.path),.slice none 0 0,.int .i64 2,.int .u64 0,.string (r.cluster),.slice none 0 0,.int .i64 1,.int .u64 ((r.idle : Int)),.string ⟨#[]⟩,.slice none 0 0] 81)
             have HX5:=Lib.hid (Bk.later HX4.out hbn)
             have HY5:=Lib.hid (Bk.later HY4.out hbn)
             have HL5:=Lib.hid (VL.later HL4.out hbn)
             have HF5:=Lib.hid (Bk.later HF4.out hbn)
             have HB5:=Lib.hid (HB4.out.trans (hbn.mono HB4.out.size))
             have HR5:=Lib.hid (show Bk (wc4.alloc (.cells #[.int .i64 2,.int .u64 0,.string (r.host),.slice none 0 0,.int .i64 2,.int .u64 0,.string (r.path),.slice none 0 0,.int .i64 2,.int .u64 0,.string (r.cluster),.slice none 0 0,.int .i64 1,.int .u64 ((r.idle : Int)),.string ⟨#[]⟩,.slice none 0 0] 81)) wc4.heap.size _ 81 from heap_alloc_new wc4 _)
             have HG:=Lib.hid (show wo.heap.size+2≤wc4.heap.size∧∀ b,(Value.slice oW li.length cW).ownBlock=some b→b≠wc4.heap.size from ⟨by have:=lt_of_heap HY4.out; omega,fun b hb => Nat.ne_of_lt (HL4.out.own b hb).2⟩)
             refine hK.out _ _ (mkS.out _ HX5.out) (fun hj8 => ?_)
             clear hK K hj9
             have hj9:=hj8
             clear hj8
             clear hbn
             try simp only [Act.put,pS,p0,p1]
             generalize wc4.alloc (.cells #[.int .i64 2,.int .u64 0,.string (r.host),.slice none 0 0,.int .i64 2,.int .u64 0,.string (r.path),.slice none 0 0,.int .i64 2,.int .u64 0,.string (r.cluster),.slice none 0 0,.int .i64 1,.int .u64 ((r.idle : Int)),.string ⟨#[]⟩,.slice none 0 0] 81)=wc5 at *
             generalize wc4.heap.size=g1 at *
             refine tkH (i:=15) (oi:=⟨some 47,_,_,_,_,_⟩) (v:=?_) rfl (Or.inl ⟨by rfl,by (intro w hSw; (try dsimp only at hSw); go_simp; try with_reducible rfl)⟩) hj9 ?_
             try simp only [Act.put,pS,p0,p1]
             refine wpAnyH_ready (rs:=[16]) (by kernel_rfl) (by simp) ?_
             refine AllReadyH.cons (o:=⟨some 48,_,_,_,_,_⟩) rfl (fun K hK => ?_) ?_
             ·go_simp
              have hbn:=alloc_below wc5 (.cells #[.int .i64 3,.int .u64 0,.string ⟨#[]⟩,.slice (some ⟨g1,0,none⟩) 4 4] 81)
              have HX6:=Lib.hid (Bk.later HX5.out hbn)
              have HY6:=Lib.hid (Bk.later HY5.out hbn)
              have HL6:=Lib.hid (VL.later HL5.out hbn)
              have HF6:=Lib.hid (Bk.later HF5.out hbn)
              have HR6:=Lib.hid (Bk.later HR5.out hbn)
              have HB6:=Lib.hid (HB5.out.trans (hbn.mono HB5.out.size))
              have HQ6:=Lib.hid (show Bk (wc5.alloc (.cells #[.int .i64 3,.int .u64 0,.string ⟨#[]⟩,.slice (some ⟨g1,0,none⟩) 4 4] 81)) wc5.heap.size _ 81 from heap_alloc_new wc5 _)
              refine hK.out _ _ (mkS.out _ HX6.out) (fun hj8 => ?_)
              clear hK K hj9
              have hj9:=hj8
              clear hj8
              clear hbn
              try simp only [Act.put,pS,p0,p1]
              generalize wc5.alloc (.cells #[.int .i64 3,.int .u64 0,.string ⟨#[]⟩,.slice (some ⟨g1,0,none⟩) 4 4] 81)=wc6 at *
              generalize wc5.heap.size=g2 at *
              refine wpAnyH_ready (rs:=[17]) (by kernel_rfl) (by simp) ?_
              refine AllReadyH.cons (o:=⟨some 49,_,_,_,_,_⟩) rfl (fun K hK => ?_) ?_
              ·have HTr:=Lib.hid (show VInP wc6 (fun b => wo.heap.size+2≤b∧(Value.slice oW li.length cW).ownBlock≠some b) (rowT [strT r.host,strT r.path,strT r.cluster,numT r.idle]) (.int .i64 3) (.int .u64 0) (.string ⟨#[]⟩) (.slice (some ⟨g1,0,none⟩) 4 4) from vin_row (l:=[strT r.host,strT r.path,strT r.cluster,numT r.idle]) rfl (by simp) HR6.out ⟨HG.out.1,fun e => HG.out.2 _ e rfl⟩ (fun i hi => by
                match i,hi with
                | 0,_ => exact ⟨_,_,_,_,rfl,rfl,rfl,rfl,vin_str _ _ _ HRF.out.1⟩
                | 1,_ => exact ⟨_,_,_,_,rfl,rfl,rfl,rfl,vin_str _ _ _ HRF.out.2.1⟩
                | 2,_ => exact ⟨_,_,_,_,rfl,rfl,rfl,rfl,vin_str _ _ _ HRF.out.2.2⟩
                | 3,_ => exact ⟨_,_,_,_,rfl,rfl,rfl,rfl,vin_num _ _ _ HRO.out.2.2.2⟩))
               refine wp_push (.tmp 33) (.tmp 48) rfl (wo.heap.size+2) (Value.slice oW li.length cW) _ _ _ _ _ _ g2 rfl rfl HL6.out HQ6.out HTr.out (by have:=lt_of_heap HY6.out; omega) (HNJ.out) ?_
               intro o6 k6 wc7 hl6 hg6 hb6
               have HL7:=Lib.hid hl6
               have HX7:=Lib.hid (HL6.out.bk HX6.out (by decide) hg6)
               have HY7:=Lib.hid (Bk.upto HY6.out (by omega) hb6)
               have HF7:=Lib.hid (HL6.out.bk HF6.out (by decide) hg6)
               have HB7:=Lib.hid (HB6.out.trans (hb6.mono (by omega)))
               refine hK.out _ _ (mkS.out _ HX7.out) (fun hj8 => ?_)
               clear hK K hj9
               have hj9:=hj8
               clear hj8
               clear HTr hl6 hg6 hb6
               try simp only [Act.put,pS,p0,p1]
               refine tkH (i:=18) (oi:=⟨some 50,_,_,_,_,_⟩) (v:=?_) rfl (Or.inl ⟨by rfl,by (intro w hSw; (try dsimp only at hSw); go_simp; try with_reducible rfl)⟩) hj9 ?_
               try simp only [Act.put,pS,p0,p1]
               refine wpAnyH_ready (rs:=[19]) (by kernel_rfl) (by simp) ?_
               refine AllReadyH.cons (o:=⟨none,_,_,_,_,_⟩) rfl (fun K hK => ?_) ?_
               ·obtain ⟨⟨y0,y1,y2,y3⟩,z0,z1,z2,z3⟩:=bk4 HY7.out
                go_simp
                have HY8:=Lib.hid (HY7.out.set (i:=3) (.slice o6 (li.length+1) k6))
                have HL8:=Lib.hid (HL7.out.away (q:=wo.heap.size+1) (by omega) 3 (.slice o6 (li.length+1) k6))
                have HX8:=Lib.hid (HX7.out.away (q:=wo.heap.size+1) (by omega) 3 (.slice o6 (li.length+1) k6))
                have HF8:=Lib.hid (HF7.out.away (q:=wo.heap.size+1) (by omega) 3 (.slice o6 (li.length+1) k6))
                have HB8:=Lib.hid (HB7.out.setCell (p:=⟨wo.heap.size+1,3,none⟩) (by show wo.heap.size≤wo.heap.size+1; omega) (.slice o6 (li.length+1) k6))
                refine hK.out _ _ (mkS.out _ HX8.out) (fun hj8 => ?_)
                clear hK K hj9
                have hj9:=hj8
                clear hj8
                clear y0 y1 y2 y3 z0 z1 z2 z3
                try simp only [Act.put,pS,p0,p1]
                generalize (wc7.setCell ⟨wo.heap.size+1,3,none⟩ (.slice o6 (li.length+1) k6))=wc8 at *
                refine wpAnyH_done (by kernel_rfl) ?_ _
                simp only [Exit.inBlock,Exit.then]
                apply_assumption
                try go_wp2
                exact ⟨⟨j+1,_,by go_num,by omega,HY8,Lib.hid (by rw [← HTJ.out]; exact HL8.out),HB8,HF8⟩,by simp [intOf]; omega⟩
               ·exact AllReadyH.nil
              ·exact AllReadyH.nil
             ·exact AllReadyH.nil
            ·exact AllReadyH.nil
           ·exact AllReadyH.nil
          ·exact AllReadyH.nil
         ·refine AllReadyH.cons (o:=⟨some 42,_,_,_,_,_⟩) rfl (fun K hK => ?_) ?_
          ·go_simp
           refine (rtext_any _ _).mono ?_
           rintro ze wc3 ⟨rfl,hbn⟩
           try go_simp
           have HX3:=Lib.hid (Bk.later HX2.out hbn)
           have HY3:=Lib.hid (Bk.later HY2.out hbn)
           have HL3:=Lib.hid (VL.later HL2.out hbn)
           have HF3:=Lib.hid (Bk.later HF2.out hbn)
           have HB3:=Lib.hid (HB2.out.trans (hbn.mono HB2.out.size))
           refine hK.out _ _ (mkS.out _ HX3.out) (fun hj8 => ?_)
           clear hK K hj9
           have hj9:=hj8
           clear hj8
           clear hbn
           try simp only [Act.put,pS,p0,p1]
           refine wpAnyH_ready (rs:=[1,13]) (by kernel_rfl) (by simp) ?_
           refine AllReadyH.cons (o:=⟨some 33,_,_,_,_,_⟩) rfl (fun K hK => ?_) ?_
           ·obtain ⟨⟨y0,y1,y2,y3⟩,z0,z1,z2,z3⟩:=bk4 HY3.out
            go_simp
            refine hK.out _ _ (mkS.out _ HX3.out) (fun hj8 => ?_)
            clear hK K hj9
            have hj9:=hj8
            clear hj8
            clear y0 y1 y2 y3 z0 z1 z2 z3
            try simp only [Act.put,pS,p0,p1]
            refine wpAnyH_ready (rs:=[13]) (by kernel_rfl) (by simp) ?_
            refine AllReadyH.cons (o:=⟨some 45,_,_,_,_,_⟩) rfl (fun K hK => ?_) ?_
            ·go_simp
             refine (rnum_any _ _).mono ?_
             rintro ze wc4 ⟨rfl,hbn⟩
             try go_simp
             have HX4:=Lib.hid (Bk.later HX3.out hbn)
             have HY4:=Lib.hid (Bk.later HY3.out hbn)
             have HL4:=Lib.hid (VL.later HL3.out hbn)
             have HF4:=Lib.hid (Bk.later HF3.out hbn)
             have HB4:=Lib.hid (HB3.out.trans (hbn.mono HB3.out.size))
             refine hK.out _ _ (mkS.out _ HX4.out) (fun hj8 => ?_)
             clear hK K hj9
             have hj9:=hj8
             clear hj8
             clear hbn
             try simp only [Act.put,pS,p0,p1]
             refine wpAnyH_ready (rs:=[14]) (by kernel_rfl) (by simp) ?_
             refine AllReadyH.cons (o:=⟨some 46,_,_,_,_,_⟩) rfl (fun K hK => ?_) ?_
             ·go_simp
              have hbn:=alloc_below wc4 (.cells #[.int .i64 2,.int .u64 0,.string (r.host),.slice none 0 0,.int .i64 2,.int .u64 0,.string (r.path),.slice none 0 0,.int .i64 2,.int .u64 0,.string (r.cluster),.slice none 0 0,.int .i64 1,.int .u64 ((r.idle : Int)),.string ⟨#[]⟩,.slice none 0 0] 81)
              have HX5:=Lib.hid (Bk.later HX4.out hbn)
              have HY5:=Lib.hid (Bk.later HY4.out hbn)
              have HL5:=Lib.hid (VL.later HL4.out hbn)
              have HF5:=Lib.hid (Bk.later HF4.out hbn)
              have HB5:=Lib.hid (HB4.out.trans (hbn.mono HB4.out.size))
              have HR5:=Lib.hid (show Bk (wc4.alloc (.cells #[.int .i64 2,.int .u64 0,.string (r.host),.slice none 0 0,.int .i64 2,.int .u64 0,.string (r.path),.slice none 0 0,.int .i64 2,.int .u64 0,.string (r.cluster),.slice none 0 0,.int .i64 1,.int .u64 ((r.idle : Int)),.string ⟨#[]⟩,.slice none 0 0] 81)) wc4.heap.size _ 81 from heap_alloc_new wc4 _)
              have HG:=Lib.hid (show wo.heap.size+2≤wc4.heap.size∧∀ b,(Value.slice oW li.length cW).ownBlock=some b→b≠wc4.heap.size from ⟨by have:=lt_of_heap HY4.out; omega,fun b hb => Nat.ne_of_lt (HL4.out.own b hb).2⟩)
              refine hK.out _ _ (mkS.out _ HX5.out) (fun hj8 => ?_)
              clear hK K hj9
              have hj9:=hj8
              clear hj8
              clear hbn
              try simp only [Act.put,pS,p0,p1]
              generalize wc4.alloc (.cells #[.int .i64 2,.int .u64 0,.string (r.host),.slice none 0 0,.int .i64 2,.int .u64 0,.string (r.path),.slice none 0 0,.int .i64 2,.int .u64 0,.string (r.cluster),.slice none 0 0,.int .i64 1,.int .u64 ((r.idle : Int)),.string ⟨#[]⟩,.slice none 0 0] 81)=wc5 at *
              generalize wc4.heap.size=g1 at *
              refine tkH (i:=15) (oi:=⟨some 47,_,_,_,_,_⟩) (v:=?_) rfl (Or.inl ⟨by rfl,by (intro w hSw; (try dsimp only at hSw); go_simp; try with_reducible rfl)⟩) hj9 ?_
              try simp only [Act.put,pS,p0,p1]
              refine wpAnyH_ready (rs:=[16]) (by kernel_rfl) (by simp) ?_
              refine AllReadyH.cons (o:=⟨some 48,_,_,_,_,_⟩) rfl (fun K hK => ?_) ?_
              ·go_simp
               have hbn:=alloc_below wc5 (.cells #[.int .i64 3,.int .u64 0,.string ⟨#[]⟩,.slice (some ⟨g1,0,none⟩) 4 4] 81)
               have HX6:=Lib.hid (Bk.later HX5.out hbn)
               have HY6:=Lib.hid (Bk.later HY5.out hbn)
               have HL6:=Lib.hid (VL.later HL5.out hbn)
               have HF6:=Lib.hid (Bk.later HF5.out hbn)
               have HR6:=Lib.hid (Bk.later HR5.out hbn)
               have HB6:=Lib.hid (HB5.out.trans (hbn.mono HB5.out.size))
               have HQ6:=Lib.hid (show Bk (wc5.alloc (.cells #[.int .i64 3,.int .u64 0,.string ⟨#[]⟩,.slice (some ⟨g1,0,none⟩) 4 4] 81)) wc5.heap.size _ 81 from heap_alloc_new wc5 _)
               refine hK.out _ _ (mkS.out _ HX6.out) (fun hj8 => ?_)
               clear hK K hj9
               have hj9:=hj8
               clear hj8
               clear hbn
               try simp only [Act.put,pS,p0,p1]
               generalize wc5.alloc (.cells #[.int .i64 3,.int .u64 0,.string ⟨#[]⟩,.slice (some ⟨g1,0,none⟩) 4 4] 81)=wc6 at *
               generalize wc5.heap.size=g2 at *
               refine wpAnyH_ready (rs:=[17]) (by kernel_rfl) (by simp) ?_
               refine AllReadyH.cons (o:=⟨some 49,_,_,_,_,_⟩) rfl (fun K hK => ?_) ?_
               ·have HTr:=Lib.hid (show VInP wc6 (fun b => wo.heap.size+2≤b∧(Value.slice oW li.length cW).ownBlock≠some b) (rowT [strT r.host,strT r.path,strT r.cluster,numT r.idle]) (.int .i64 3) (.int .u64 0) (.string ⟨#[]⟩) (.slice (some ⟨g1,0,none⟩) 4 4) from vin_row (l:=[strT r.host,strT r.path,strT r.cluster,numT r.idle]) rfl (by simp) HR6.out ⟨HG.out.1,fun e => HG.out.2 _ e rfl⟩ (fun i hi => by
                 match i,hi with
                 | 0,_ => exact ⟨_,_,_,_,rfl,rfl,rfl,rfl,vin_str _ _ _ HRF.out.1⟩
                 | 1,_ => exact ⟨_,_,_,_,rfl,rfl,rfl,rfl,vin_str _ _ _ HRF.out.2.1⟩
                 | 2,_ => exact ⟨_,_,_,_,rfl,rfl,rfl,rfl,vin_str _ _ _ HRF.out.2.2⟩
                 | 3,_ => exact ⟨_,_,_,_,rfl,rfl,rfl,rfl,vin_num _ _ _ HRO.out.2.2.2⟩))
                refine wp_push (.tmp 33) (.tmp 48) rfl (wo.heap.size+2) (Value.slice oW li.length cW) _ _ _ _ _ _ g2 rfl rfl HL6.out HQ6.out HTr.out (by have:=lt_of_heap HY6.out; omega) (HNJ.out) ?_
                intro o6 k6 wc7 hl6 hg6 hb6
                have HL7:=Lib.hid hl6
                have HX7:=Lib.hid (HL6.out.bk HX6.out (by decide) hg6)
                have HY7:=Lib.hid (Bk.upto HY6.out (by omega) hb6)
                have HF7:=Lib.hid (HL6.out.bk HF6.out (by decide) hg6)
                have HB7:=Lib.hid (HB6.out.trans (hb6.mono (by omega)))
                refine hK.out _ _ (mkS.out _ HX7.out) (fun hj8 => ?_)
                clear hK K hj9
                have hj9:=hj8
                clear hj8
                clear HTr hl6 hg6 hb6
                try simp only [Act.put,pS,p0,p1]
                refine tkH (i:=18) (oi:=⟨some 50,_,_,_,_,_⟩) (v:=?_) rfl (Or.inl ⟨by rfl,by (intro w hSw; (try dsimp only at hSw); go_simp; try with_reducible rfl)⟩) hj9 ?_
                try simp only [Act.put,pS,p0,p1]
                refine wpAnyH_ready (rs:=[19]) (by kernel_rfl) (by simp) ?_
                refine AllReadyH.cons (o:=⟨none,_,_,_,_,_⟩) rfl (fun K hK => ?_) ?_
                ·obtain ⟨⟨y0,y1,y2,y3⟩,z0,z1,z2,z3⟩:=bk4 HY7.out
                 go_simp
                 have HY8:=Lib.hid (HY7.out.set (i:=3) (.slice o6 (li.length+1) k6))
                 have HL8:=Lib.hid (HL7.out.away (q:=wo.heap.size+1) (by omega) 3 (.slice o6 (li.length+1) k6))
                 have HX8:=Lib.hid (HX7.out.away (q:=wo.heap.size+1) (by omega) 3 (.slice o6 (li.length+1) k6))
                 have HF8:=Lib.hid (HF7.out.away (q:=wo.heap.size+1) (by omega) 3 (.slice o6 (li.length+1) k6))
                 have HB8:=Lib.hid (HB7.out.setCell (p:=⟨wo.heap.size+1,3,none⟩) (by show wo.heap.size≤wo.heap.size+1; omega) (.slice o6 (li.length+1) k6))
                 refine hK.out _ _ (mkS.out _ HX8.out) (fun hj8 => ?_)
                 clear hK K hj9
                 have hj9:=hj8
                 clear hj8
                 clear y0 y1 y2 y3 z0 z1 z2 z3
                 try simp only [Act.put,pS,p0,p1]
                 generalize (wc7.setCell ⟨wo.heap.size+1,3,none⟩ (.slice o6 (li.length+1) k6))=wc8 at *
                 refine wpAnyH_done (by kernel_rfl) ?_ _
                 simp only [Exit.inBlock,Exit.then]
                 apply_assumption
                 try go_wp2
                 exact ⟨⟨j+1,_,by go_num,by omega,HY8,Lib.hid (by rw [← HTJ.out]; exact HL8.out),HB8,HF8⟩,by simp [intOf]; omega⟩
                ·exact AllReadyH.nil
               ·exact AllReadyH.nil
              ·exact AllReadyH.nil
             ·exact AllReadyH.nil
            ·exact AllReadyH.nil
           ·refine AllReadyH.cons (o:=⟨some 45,_,_,_,_,_⟩) rfl (fun K hK => ?_) ?_
            ·go_simp
             refine (rnum_any _ _).mono ?_
             rintro ze wc4 ⟨rfl,hbn⟩
             try go_simp
             have HX4:=Lib.hid (Bk.later HX3.out hbn)
             have HY4:=Lib.hid (Bk.later HY3.out hbn)
             have HL4:=Lib.hid (VL.later HL3.out hbn)
             have HF4:=Lib.hid (Bk.later HF3.out hbn)
             have HB4:=Lib.hid (HB3.out.trans (hbn.mono HB3.out.size))
             refine hK.out _ _ (mkS.out _ HX4.out) (fun hj8 => ?_)
             clear hK K hj9
             have hj9:=hj8
             clear hj8
             clear hbn
             try simp only [Act.put,pS,p0,p1]
             refine wpAnyH_ready (rs:=[1,14]) (by kernel_rfl) (by simp) ?_
             refine AllReadyH.cons (o:=⟨some 33,_,_,_,_,_⟩) rfl (fun K hK => ?_) ?_
             ·obtain ⟨⟨y0,y1,y2,y3⟩,z0,z1,z2,z3⟩:=bk4 HY4.out
              go_simp
              refine hK.out _ _ (mkS.out _ HX4.out) (fun hj8 => ?_)
              clear hK K hj9
              have hj9:=hj8
              clear hj8
              clear y0 y1 y2 y3 z0 z1 z2 z3
              try simp only [Act.put,pS,p0,p1]
              refine wpAnyH_ready (rs:=[14]) (by kernel_rfl) (by simp) ?_
              refine AllReadyH.cons (o:=⟨some 46,_,_,_,_,_⟩) rfl (fun K hK => ?_) ?_
              ·go_simp
               have hbn:=alloc_below wc4 (.cells #[.int .i64 2,.int .u64 0,.string (r.host),.slice none 0 0,.int .i64 2,.int .u64 0,.string (r.path),.slice none 0 0,.int .i64 2,.int .u64 0,.string (r.cluster),.slice none 0 0,.int .i64 1,.int .u64 ((r.idle : Int)),.string ⟨#[]⟩,.slice none 0 0] 81)
               have HX5:=Lib.hid (Bk.later HX4.out hbn)
               have HY5:=Lib.hid (Bk.later HY4.out hbn)
               have HL5:=Lib.hid (VL.later HL4.out hbn)
               have HF5:=Lib.hid (Bk.later HF4.out hbn)
               have HB5:=Lib.hid (HB4.out.trans (hbn.mono HB4.out.size))
               have HR5:=Lib.hid (show Bk (wc4.alloc (.cells #[.int .i64 2,.int .u64 0,.string (r.host),.slice none 0 0,.int .i64 2,.int .u64 0,.string (r.path),.slice none 0 0,.int .i64 2,.int .u64 0,.string (r.cluster),.slice none 0 0,.int .i64 1,.int .u64 ((r.idle : Int)),.string ⟨#[]⟩,.slice none 0 0] 81)) wc4.heap.size _ 81 from heap_alloc_new wc4 _)
               have HG:=Lib.hid (show wo.heap.size+2≤wc4.heap.size∧∀ b,(Value.slice oW li.length cW).ownBlock=some b→b≠wc4.heap.size from ⟨by have:=lt_of_heap HY4.out; omega,fun b hb => Nat.ne_of_lt (HL4.out.own b hb).2⟩)
               refine hK.out _ _ (mkS.out _ HX5.out) (fun hj8 => ?_)
               clear hK K hj9
               have hj9:=hj8
               clear hj8
               clear hbn
               try simp only [Act.put,pS,p0,p1]
               generalize wc4.alloc (.cells #[.int .i64 2,.int .u64 0,.string (r.host),.slice none 0 0,.int .i64 2,.int .u64 0,.string (r.path),.slice none 0 0,.int .i64 2,.int .u64 0,.string (r.cluster),.slice none 0 0,.int .i64 1,.int .u64 ((r.idle : Int)),.string ⟨#[]⟩,.slice none 0 0] 81)=wc5 at *
               generalize wc4.heap.size=g1 at *
               refine tkH (i:=15) (oi:=⟨some 47,_,_,_,_,_⟩) (v:=?_) rfl (Or.inl ⟨by rfl,by (intro w hSw; (try dsimp only at hSw); go_simp; try with_reducible rfl)⟩) hj9 ?_
               try simp only [Act.put,pS,p0,p1]
               refine wpAnyH_ready (rs:=[16]) (by kernel_rfl) (by simp) ?_
               refine AllReadyH.cons (o:=⟨some 48,_,_,_,_,_⟩) rfl (fun K hK => ?_) ?_
               ·go_simp
                have hbn:=alloc_below wc5 (.cells #[.int .i64 3,.int .u64 0,.string ⟨#[]⟩,.slice (some ⟨g1,0,none⟩) 4 4] 81)
                have HX6:=Lib.hid (Bk.later HX5.out hbn)
                have HY6:=Lib.hid (Bk.later HY5.out hbn)
                have HL6:=Lib.hid (VL.later HL5.out hbn)
                have HF6:=Lib.hid (Bk.later HF5.out hbn)
                have HR6:=Lib.hid (Bk.later HR5.out hbn)
                have HB6:=Lib.hid (HB5.out.trans (hbn.mono HB5.out.size))
                have HQ6:=Lib.hid (show Bk (wc5.alloc (.cells #[.int .i64 3,.int .u64 0,.string ⟨#[]⟩,.slice (some ⟨g1,0,none⟩) 4 4] 81)) wc5.heap.size _ 81 from heap_alloc_new wc5 _)
                refine hK.out _ _ (mkS.out _ HX6.out) (fun hj8 => ?_)
                clear hK K hj9
                have hj9:=hj8
                clear hj8
                clear hbn
                try simp only [Act.put,pS,p0,p1]
                generalize wc5.alloc (.cells #[.int .i64 3,.int .u64 0,.string ⟨#[]⟩,.slice (some ⟨g1,0,none⟩) 4 4] 81)=wc6 at *
                generalize wc5.heap.size=g2 at *
                refine wpAnyH_ready (rs:=[17]) (by kernel_rfl) (by simp) ?_
                refine AllReadyH.cons (o:=⟨some 49,_,_,_,_,_⟩) rfl (fun K hK => ?_) ?_
                ·have HTr:=Lib.hid (show VInP wc6 (fun b => wo.heap.size+2≤b∧(Value.slice oW li.length cW).ownBlock≠some b) (rowT [strT r.host,strT r.path,strT r.cluster,numT r.idle]) (.int .i64 3) (.int .u64 0) (.string ⟨#[]⟩) (.slice (some ⟨g1,0,none⟩) 4 4) from vin_row (l:=[strT r.host,strT r.path,strT r.cluster,numT r.idle]) rfl (by simp) HR6.out ⟨HG.out.1,fun e => HG.out.2 _ e rfl⟩ (fun i hi => by
                  match i,hi with
                  | 0,_ => exact ⟨_,_,_,_,rfl,rfl,rfl,rfl,vin_str _ _ _ HRF.out.1⟩
                  | 1,_ => exact ⟨_,_,_,_,rfl,rfl,rfl,rfl,vin_str _ _ _ HRF.out.2.1⟩
                  | 2,_ => exact ⟨_,_,_,_,rfl,rfl,rfl,rfl,vin_str _ _ _ HRF.out.2.2⟩
                  | 3,_ => exact ⟨_,_,_,_,rfl,rfl,rfl,rfl,vin_num _ _ _ HRO.out.2.2.2⟩))
                 refine wp_push (.tmp 33) (.tmp 48) rfl (wo.heap.size+2) (Value.slice oW li.length cW) _ _ _ _ _ _ g2 rfl rfl HL6.out HQ6.out HTr.out (by have:=lt_of_heap HY6.out; omega) (HNJ.out) ?_
                 intro o6 k6 wc7 hl6 hg6 hb6
                 have HL7:=Lib.hid hl6
                 have HX7:=Lib.hid (HL6.out.bk HX6.out (by decide) hg6)
                 have HY7:=Lib.hid (Bk.upto HY6.out (by omega) hb6)
                 have HF7:=Lib.hid (HL6.out.bk HF6.out (by decide) hg6)
                 have HB7:=Lib.hid (HB6.out.trans (hb6.mono (by omega)))
                 refine hK.out _ _ (mkS.out _ HX7.out) (fun hj8 => ?_)
                 clear hK K hj9
                 have hj9:=hj8
                 clear hj8
                 clear HTr hl6 hg6 hb6
                 try simp only [Act.put,pS,p0,p1]
                 refine tkH (i:=18) (oi:=⟨some 50,_,_,_,_,_⟩) (v:=?_) rfl (Or.inl ⟨by rfl,by (intro w hSw; (try dsimp only at hSw); go_simp; try with_reducible rfl)⟩) hj9 ?_
                 try simp only [Act.put,pS,p0,p1]
                 refine wpAnyH_ready (rs:=[19]) (by kernel_rfl) (by simp) ?_
                 refine AllReadyH.cons (o:=⟨none,_,_,_,_,_⟩) rfl (fun K hK => ?_) ?_
                 ·obtain ⟨⟨y0,y1,y2,y3⟩,z0,z1,z2,z3⟩:=bk4 HY7.out
                  go_simp
                  have HY8:=Lib.hid (HY7.out.set (i:=3) (.slice o6 (li.length+1) k6))
                  have HL8:=Lib.hid (HL7.out.away (q:=wo.heap.size+1) (by omega) 3 (.slice o6 (li.length+1) k6))
                  have HX8:=Lib.hid (HX7.out.away (q:=wo.heap.size+1) (by omega) 3 (.slice o6 (li.length+1) k6))
                  have HF8:=Lib.hid (HF7.out.away (q:=wo.heap.size+1) (by omega) 3 (.slice o6 (li.length+1) k6))
                  have HB8:=Lib.hid (HB7.out.setCell (p:=⟨wo.heap.size+1,3,none⟩) (by show wo.heap.size≤wo.heap.size+1; omega) (.slice o6 (li.length+1) k6))
                  refine hK.out _ _ (mkS.out _ HX8.out) (fun hj8 => ?_)
                  clear hK K hj9
                  have hj9:=hj8
                  clear hj8
                  clear y0 y1 y2 y3 z0 z1 z2 z3
                  try simp only [Act.put,pS,p0,p1]
                  generalize (wc7.setCell ⟨wo.heap.size+1,3,none⟩ (.slice o6 (li.length+1) k6))=wc8 at *
                  refine wpAnyH_done (by kernel_rfl) ?_ _
                  simp only [Exit.inBlock,Exit.then]
                  apply_assumption
                  try go_wp2
                  exact ⟨⟨j+1,_,by go_num,by omega,HY8,Lib.hid (by rw [← HTJ.out]; exact HL8.out),HB8,HF8⟩,by simp [intOf]; omega⟩
                 ·exact AllReadyH.nil
                ·exact AllReadyH.nil
               ·exact AllReadyH.nil
              ·exact AllReadyH.nil
             ·refine AllReadyH.cons (o:=⟨some 46,_,_,_,_,_⟩) rfl (fun K hK => ?_) ?_
              ·go_simp
               have hbn:=alloc_below wc4 (.cells #[.int .i64 2,.int .u64 0,.string (r.host),.slice none 0 0,.int .i64 2,.int .u64 0,.string (r.path),.slice none 0 0,.int .i64 2,.int .u64 0,.string (r.cluster),.slice none 0 0,.int .i64 1,.int .u64 ((r.idle : Int)),.string ⟨#[]⟩,.slice none 0 0] 81)
               have HX5:=Lib.hid (Bk.later HX4.out hbn)
               have HY5:=Lib.hid (Bk.later HY4.out hbn)
               have HL5:=Lib.hid (VL.later HL4.out hbn)
               have HF5:=Lib.hid (Bk.later HF4.out hbn)
               have HB5:=Lib.hid (HB4.out.trans (hbn.mono HB4.out.size))
               have HR5:=Lib.hid (show Bk (wc4.alloc (.cells #[.int .i64 2,.int .u64 0,.string (r.host),.slice none 0 0,.int .i64 2,.int .u64 0,.string (r.path),.slice none 0 0,.int .i64 2,.int .u64 0,.string (r.cluster),.slice none 0 0,.int .i64 1,.int .u64 ((r.idle : Int)),.string ⟨#[]⟩,.slice none 0 0] 81)) wc4.heap.size _ 81 from heap_alloc_new wc4 _)
               have HG:=Lib.hid (show wo.heap.size+2≤wc4.heap.size∧∀ b,(Value.slice oW li.length cW).ownBlock=some b→b≠wc4.heap.size from ⟨by have:=lt_of_heap HY4.out; omega,fun b hb => Nat.ne_of_lt (HL4.out.own b hb).2⟩)
               refine hK.out _ _ (mkS.out _ HX5.out) (fun hj8 => ?_)
               clear hK K hj9
               have hj9:=hj8
               clear hj8
               clear hbn
               try simp only [Act.put,pS,p0,p1]
               generalize wc4.alloc (.cells #[.int .i64 2,.int .u64 0,.string (r.host),.slice none 0 0,.int .i64 2,.int .u64 0,.string (r.path),.slice none 0 0,.int .i64 2,.int .u64 0,.string (r.cluster),.slice none 0 0,.int .i64 1,.int .u64 ((r.idle : Int)),.string ⟨#[]⟩,.slice none 0 0] 81)=wc5 at *
               generalize wc4.heap.size=g1 at *
               refine tkH (i:=15) (oi:=⟨some 47,_,_,_,_,_⟩) (v:=?_) rfl (Or.inl ⟨by rfl,by (intro w hSw; (try dsimp only at hSw); go_simp; try with_reducible rfl)⟩) hj9 ?_
               try simp only [Act.put,pS,p0,p1]
               refine wpAnyH_ready (rs:=[1,16]) (by kernel_rfl) (by simp) ?_
               refine AllReadyH.cons (o:=⟨some 33,_,_,_,_,_⟩) rfl (fun K hK => ?_) ?_
               ·obtain ⟨⟨y0,y1,y2,y3⟩,z0,z1,z2,z3⟩:=bk4 HY5.out
                go_simp
                refine hK.out _ _ (mkS.out _ HX5.out) (fun hj8 => ?_)
                clear hK K hj9
                have hj9:=hj8
                clear hj8
                clear y0 y1 y2 y3 z0 z1 z2 z3
                try simp only [Act.put,pS,p0,p1]
                refine wpAnyH_ready (rs:=[16]) (by kernel_rfl) (by simp) ?_
                refine AllReadyH.cons (o:=⟨some 48,_,_,_,_,_⟩) rfl (fun K hK => ?_) ?_
                ·go_simp
                 have hbn:=alloc_below wc5 (.cells #[.int .i64 3,.int .u64 0,.string ⟨#[]⟩,.slice (some ⟨g1,0,none⟩) 4 4] 81)
                 have HX6:=Lib.hid (Bk.later HX5.out hbn)
                 have HY6:=Lib.hid (Bk.later HY5.out hbn)
                 have HL6:=Lib.hid (VL.later HL5.out hbn)
                 have HF6:=Lib.hid (Bk.later HF5.out hbn)
                 have HR6:=Lib.hid (Bk.later HR5.out hbn)
                 have HB6:=Lib.hid (HB5.out.trans (hbn.mono HB5.out.size))
                 have HQ6:=Lib.hid (show Bk (wc5.alloc (.cells #[.int .i64 3,.int .u64 0,.string ⟨#[]⟩,.slice (some ⟨g1,0,none⟩) 4 4] 81)) wc5.heap.size _ 81 from heap_alloc_new wc5 _)
                 refine hK.out _ _ (mkS.out _ HX6.out) (fun hj8 => ?_)
                 clear hK K hj9
                 have hj9:=hj8
                 clear hj8
                 clear hbn
                 try simp only [Act.put,pS,p0,p1]
                 generalize wc5.alloc (.cells #[.int .i64 3,.int .u64 0,.string ⟨#[]⟩,.slice (some ⟨g1,0,none⟩) 4 4] 81)=wc6 at *
                 generalize wc5.heap.size=g2 at *
                 refine wpAnyH_ready (rs:=[17]) (by kernel_rfl) (by simp) ?_
                 refine AllReadyH.cons (o:=⟨some 49,_,_,_,_,_⟩) rfl (fun K hK => ?_) ?_
                 ·have HTr:=Lib.hid (show VInP wc6 (fun b => wo.heap.size+2≤b∧(Value.slice oW li.length cW).ownBlock≠some b) (rowT [strT r.host,strT r.path,strT r.cluster,numT r.idle]) (.int .i64 3) (.int .u64 0) (.string ⟨#[]⟩) (.slice (some ⟨g1,0,none⟩) 4 4) from vin_row (l:=[strT r.host,strT r.path,strT r.cluster,numT r.idle]) rfl (by simp) HR6.out ⟨HG.out.1,fun e => HG.out.2 _ e rfl⟩ (fun i hi => by
                   match i,hi with
                   | 0,_ => exact ⟨_,_,_,_,rfl,rfl,rfl,rfl,vin_str _ _ _ HRF.out.1⟩
                   | 1,_ => exact ⟨_,_,_,_,rfl,rfl,rfl,rfl,vin_str _ _ _ HRF.out.2.1⟩
                   | 2,_ => exact ⟨_,_,_,_,rfl,rfl,rfl,rfl,vin_str _ _ _ HRF.out.2.2⟩
                   | 3,_ => exact ⟨_,_,_,_,rfl,rfl,rfl,rfl,vin_num _ _ _ HRO.out.2.2.2⟩))
                  refine wp_push (.tmp 33) (.tmp 48) rfl (wo.heap.size+2) (Value.slice oW li.length cW) _ _ _ _ _ _ g2 rfl rfl HL6.out HQ6.out HTr.out (by have:=lt_of_heap HY6.out; omega) (HNJ.out) ?_
                  intro o6 k6 wc7 hl6 hg6 hb6
                  have HL7:=Lib.hid hl6
                  have HX7:=Lib.hid (HL6.out.bk HX6.out (by decide) hg6)
                  have HY7:=Lib.hid (Bk.upto HY6.out (by omega) hb6)
                  have HF7:=Lib.hid (HL6.out.bk HF6.out (by decide) hg6)
                  have HB7:=Lib.hid (HB6.out.trans (hb6.mono (by omega)))
                  refine hK.out _ _ (mkS.out _ HX7.out) (fun hj8 => ?_)
                  clear hK K hj9
                  have hj9:=hj8
                  clear hj8
                  clear HTr hl6 hg6 hb6
                  try simp only [Act.put,pS,p0,p1]
                  refine tkH (i:=18) (oi:=⟨some 50,_,_,_,_,_⟩) (v:=?_) rfl (Or.inl ⟨by rfl,by (intro w hSw; (try dsimp only at hSw); go_simp; try with_reducible rfl)⟩) hj9 ?_
                  try simp only [Act.put,pS,p0,p1]
                  refine wpAnyH_ready (rs:=[19]) (by kernel_rfl) (by simp) ?_
                  refine AllReadyH.cons (o:=⟨none,_,_,_,_,_⟩) rfl (fun K hK => ?_) ?_
                  ·obtain ⟨⟨y0,y1,y2,y3⟩,z0,z1,z2,z3⟩:=bk4 HY7.out
                   go_simp
                   have HY8:=Lib.hid (HY7.out.set (i:=3) (.slice o6 (li.length+1) k6))
                   have HL8:=Lib.hid (HL7.out.away (q:=wo.heap.size+1) (by omega) 3 (.slice o6 (li.length+1) k6))
                   have HX8:=Lib.hid (HX7.out.away (q:=wo.heap.size+1) (by omega) 3 (.slice o6 (li.length+1) k6))
                   have HF8:=Lib.hid (HF7.out.away (q:=wo.heap.size+1) (by omega) 3 (.slice o6 (li.length+1) k6))
                   have HB8:=Lib.hid (HB7.out.setCell (p:=⟨wo.heap.size+1,3,none⟩) (by show wo.heap.size≤wo.heap.size+1; omega) (.slice o6 (li.length+1) k6))
                   refine hK.out _ _ (mkS.out _ HX8.out) (fun hj8 => ?_)
                   clear hK K hj9
                   have hj9:=hj8
                   clear hj8
                   clear y0 y1 y2 y3 z0 z1 z2 z3
                   try simp only [Act.put,pS,p0,p1]
                   generalize (wc7.setCell ⟨wo.heap.size+1,3,none⟩ (.slice o6 (li.length+1) k6))=wc8 at *
                   refine wpAnyH_done (by kernel_rfl) ?_ _
                   simp only [Exit.inBlock,Exit.then]
                   apply_assumption
                   try go_wp2
                   exact ⟨⟨j+1,_,by go_num,by omega,HY8,Lib.hid (by rw [← HTJ.out]; exact HL8.out),HB8,HF8⟩,by simp [intOf]; omega⟩
                  ·exact AllReadyH.nil
                 ·exact AllReadyH.nil
                ·exact AllReadyH.nil
               ·refine AllReadyH.cons (o:=⟨some 48,_,_,_,_,_⟩) rfl (fun K hK => ?_) ?_
                ·go_simp
                 have hbn:=alloc_below wc5 (.cells #[.int .i64 3,.int .u64 0,.string ⟨#[]⟩,.slice (some ⟨g1,0,none⟩) 4 4] 81)
                 have HX6:=Lib.hid (Bk.later HX5.out hbn)
                 have HY6:=Lib.hid (Bk.later HY5.out hbn)
                 have HL6:=Lib.hid (VL.later HL5.out hbn)
                 have HF6:=Lib.hid (Bk.later HF5.out hbn)
                 have HR6:=Lib.hid (Bk.later HR5.out hbn)
                 have HB6:=Lib.hid (HB5.out.trans (hbn.mono HB5.out.size))
                 have HQ6:=Lib.hid (show Bk (wc5.alloc (.cells #[.int .i64 3,.int .u64 0,.string ⟨#[]⟩,.slice (some ⟨g1,0,none⟩) 4 4] 81)) wc5.heap.size _ 81 from heap_alloc_new wc5 _)
                 refine hK.out _ _ (mkS.out _ HX6.out) (fun hj8 => ?_)
                 clear hK K hj9
                 have hj9:=hj8
                 clear hj8
                 clear hbn
                 try simp only [Act.put,pS,p0,p1]
                 generalize wc5.alloc (.cells #[.int .i64 3,.int .u64 0,.string ⟨#[]⟩,.slice (some ⟨g1,0,none⟩) 4 4] 81)=wc6 at *
                 generalize wc5.heap.size=g2 at *
                 refine wpAnyH_ready (rs:=[1]) (by kernel_rfl) (by simp) ?_
                 refine AllReadyH.cons (o:=⟨some 33,_,_,_,_,_⟩) rfl (fun K hK => ?_) ?_
                 ·obtain ⟨⟨y0,y1,y2,y3⟩,z0,z1,z2,z3⟩:=bk4 HY6.out
                  go_simp
                  refine hK.out _ _ (mkS.out _ HX6.out) (fun hj8 => ?_)
                  clear hK K hj9
                  have hj9:=hj8
                  clear hj8
                  clear y0 y1 y2 y3 z0 z1 z2 z3
                  try simp only [Act.put,pS,p0,p1]
                  refine wpAnyH_ready (rs:=[17]) (by kernel_rfl) (by simp) ?_
                  refine AllReadyH.cons (o:=⟨some 49,_,_,_,_,_⟩) rfl (fun K hK => ?_) ?_
                  ·have HTr:=Lib.hid (show VInP wc6 (fun b => wo.heap.size+2≤b∧(Value.slice oW li.length cW).ownBlock≠some b) (rowT [strT r.host,strT r.path,strT r.cluster,numT r.idle]) (.int .i64 3) (.int .u64 0) (.string ⟨#[]⟩) (.slice (some ⟨g1,0,none⟩) 4 4) from vin_row (l:=[strT r.host,strT r.path,strT r.cluster,numT r.idle]) rfl (by simp) HR6.out ⟨HG.out.1,fun e => HG.out.2 _ e rfl⟩ (fun i hi => by
                    match i,hi with
                    | 0,_ => exact ⟨_,_,_,_,rfl,rfl,rfl,rfl,vin_str _ _ _ HRF.out.1⟩
                    | 1,_ => exact ⟨_,_,_,_,rfl,rfl,rfl,rfl,vin_str _ _ _ HRF.out.2.1⟩
                    | 2,_ => exact ⟨_,_,_,_,rfl,rfl,rfl,rfl,vin_str _ _ _ HRF.out.2.2⟩
                    | 3,_ => exact ⟨_,_,_,_,rfl,rfl,rfl,rfl,vin_num _ _ _ HRO.out.2.2.2⟩))
                   refine wp_push (.tmp 33) (.tmp 48) rfl (wo.heap.size+2) (Value.slice oW li.length cW) _ _ _ _ _ _ g2 rfl rfl HL6.out HQ6.out HTr.out (by have:=lt_of_heap HY6.out; omega) (HNJ.out) ?_
                   intro o6 k6 wc7 hl6 hg6 hb6
                   have HL7:=Lib.hid hl6
                   have HX7:=Lib.hid (HL6.out.bk HX6.out (by decide) hg6)
                   have HY7:=Lib.hid (Bk.upto HY6.out (by omega) hb6)
                   have HF7:=Lib.hid (HL6.out.bk HF6.out (by decide) hg6)
                   have HB7:=Lib.hid (HB6.out.trans (hb6.mono (by omega)))
                   refine hK.out _ _ (mkS.out _ HX7.out) (fun hj8 => ?_)
                   clear hK K hj9
                   have hj9:=hj8
                   clear hj8
                   clear HTr hl6 hg6 hb6
                   try simp only [Act.put,pS,p0,p1]
                   refine tkH (i:=18) (oi:=⟨some 50,_,_,_,_,_⟩) (v:=?_) rfl (Or.inl ⟨by rfl,by (intro w hSw; (try dsimp only at hSw); go_simp; try with_reducible rfl)⟩) hj9 ?_
                   try simp only [Act.put,pS,p0,p1]
                   refine wpAnyH_ready (rs:=[19]) (by kernel_rfl) (by simp) ?_
                   refine AllReadyH.cons (o:=⟨none,_,_,_,_,_⟩) rfl (fun K hK => ?_) ?_
                   ·obtain ⟨⟨y0,y1,y2,y3⟩,z0,z1,z2,z3⟩:=bk4 HY7.out
                    go_simp
                    have HY8:=Lib.hid (HY7.out.set (i:=3) (.slice o6 (li.length+1) k6))
                    have HL8:=Lib.hid (HL7.out.away (q:=wo.heap.size+1) (by omega) 3 (.slice o6 (li.length+1) k6))
                    have HX8:=Lib.hid (HX7.out.away (q:=wo.heap.size+1) (by omega) 3 (.slice o6 (li.length+1) k6))
                    have HF8:=Lib.hid (HF7.out.away (q:=wo.heap.size+1) (by omega) 3 (.slice o6 (li.length+1) k6))
                    have HB8:=Lib.hid (HB7.out.setCell (p:=⟨wo.heap.size+1,3,none⟩) (by show wo.heap.size≤wo.heap.size+1; omega) (.slice o6 (li.length+1) k6))
                    refine hK.out _ _ (mkS.out _ HX8.out) (fun hj8 => ?_)
                    clear hK K hj9
                    have hj9:=hj8
                    clear hj8
                    clear y0 y1 y2 y3 z0 z1 z2 z3
                    try simp only [Act.put,pS,p0,p1]
                    generalize (wc7.setCell ⟨wo.heap.size+1,3,none⟩ (.slice o6 (li.length+1) k6))=wc8 at *
                    refine wpAnyH_done (by kernel_rfl) ?_ _
                    simp only [Exit.inBlock,Exit.then]
                    apply_assumption
                    try go_wp2
                    exact ⟨⟨j+1,_,by go_num,by omega,HY8,Lib.hid (by rw [← HTJ.out]; exact HL8.out),HB8,HF8⟩,by simp [intOf]; omega⟩
                   ·exact AllReadyH.nil
                  ·exact AllReadyH.nil
                 ·exact AllReadyH.nil
                ·exact AllReadyH.nil
              ·exact AllReadyH.nil
            ·exact AllReadyH.nil
          ·exact AllReadyH.nil
        ·exact AllReadyH.nil
      ·exact AllReadyH.nil
    ·obtain rfl : j=x.r.length:=by omega
     have HLe:=Lib.hid (show VL wr (wo.heap.size+2) Vi (x.r.map Rt.tr) by have h:=HLi.out; rwa [List.take_length] at h)
     obtain ⟨oW,cW,rfl⟩:=HLe.out.form
     have hq3 : ¬ ((x.r.length : Int) < (x.r.length : Int)):=by omega
     have HNE : Hid ((x.r.map Rt.tr).length≤1000000):=Lib.hid (by rw [List.length_map]; exact HRL.out)
     have HVo : Hid (∀ b,(Value.slice oV l.length cV).ownBlock=some b→b < wo.heap.size):=Lib.hid (fun b hb => (HL.out.own b hb).2)
     have hb1 : Below wr.heap.size wr wr.drew:=(Below.refl _ _).drew
     have HX0:=Lib.hid (show Bk wr.drew wo.heap.size _ 85 from HXi.out.later hb1)
     have HZ0:=Lib.hid (show Bk wr.drew (wo.heap.size+1) _ 81 from HYi.out.later hb1)
     have HY0:=Lib.hid (show Bk wr.drew (w.heap.size+1+1) _ 81 from (HY.out.later HBi.out).later hb1)
     have HL0:=Lib.hid (show VL wr.drew (w.heap.size+4) _ l from (HL.out.later HBi.out).later hb1)
     have HK0:=Lib.hid (show Kp (w.heap.size+1+1) W0 wr.drew from (HK.out.later HBi.out).later hb1)
     have HT0:=Lib.hid (show VInP wr.drew (fun b => wo.heap.size+2≤b) (rowT (x.r.map Rt.tr)) _ _ _ _ from (HLe.out.later hb1).whole HNE.out)
     have HB0:=Lib.hid (show Below w.heap.size w wr.drew from (HB.out.trans (HBi.out.mono HB.out.size)).trans (hb1.mono (Nat.le_trans HB.out.size HBi.out.size)))
     clear hb1
     generalize (x.r.map Rt.tr).length=nT at *
     go_upto_region 11 with (fail)
     have mkS : Hid (∀ wz,Bk wz (wo.heap.size) #[.string x.name,.int .u8 (x.p.a : Int),.int .u8 (x.p.b : Int),.int .u8 (x.p.c : Int),.int .u8 (x.p.d : Int),.int .u16 (x.p.port : Int),.slice o2 x.r.length cap2] 85→Bk wz (wo.heap.size+1) #[.int .i64 3,.int .u64 0,.string ⟨#[]⟩,.slice oW nT cW] 81→wz.cell? ⟨wo.heap.size,0,none⟩=some (.string x.name)∧wz.cell? ⟨wo.heap.size,1,none⟩=some (.int .u8 (x.p.a : Int))∧wz.cell? ⟨wo.heap.size,2,none⟩=some (.int .u8 (x.p.b : Int))∧wz.cell? ⟨wo.heap.size,3,none⟩=some (.int .u8 (x.p.c : Int))∧wz.cell? ⟨wo.heap.size,4,none⟩=some (.int .u8 (x.p.d : Int))∧wz.cell? ⟨wo.heap.size,5,none⟩=some (.int .u16 (x.p.port : Int))∧wz.cell? ⟨wo.heap.size,6,none⟩=some (.slice o2 x.r.length cap2)∧wz.cell? ⟨wo.heap.size+1,0,none⟩=some (.int .i64 3)∧wz.cell? ⟨wo.heap.size+1,1,none⟩=some (.int .u64 0)∧wz.cell? ⟨wo.heap.size+1,2,none⟩=some (.string ⟨#[]⟩)∧wz.cell? ⟨wo.heap.size+1,3,none⟩=some (.slice oW nT cW)∧Hid True):=Lib.hid (fun wz h0 h1 => ⟨(cell_of_row _ _ 0 _ _ _ h0).trans rfl,(cell_of_row _ _ 1 _ _ _ h0).trans rfl,(cell_of_row _ _ 2 _ _ _ h0).trans rfl,(cell_of_row _ _ 3 _ _ _ h0).trans rfl,(cell_of_row _ _ 4 _ _ _ h0).trans rfl,(cell_of_row _ _ 5 _ _ _ h0).trans rfl,(cell_of_row _ _ 6 _ _ _ h0).trans rfl,(cell_of_row _ _ 0 _ _ _ h1).trans rfl,(cell_of_row _ _ 1 _ _ _ h1).trans rfl,(cell_of_row _ _ 2 _ _ _ h1).trans rfl,(cell_of_row _ _ 3 _ _ _ h1).trans rfl,Lib.hid True.intro⟩)
     refine wp_region_held_drew (S:=fun wz => wz.cell? ⟨wo.heap.size,0,none⟩=some (.string x.name)∧wz.cell? ⟨wo.heap.size,1,none⟩=some (.int .u8 (x.p.a : Int))∧wz.cell? ⟨wo.heap.size,2,none⟩=some (.int .u8 (x.p.b : Int))∧wz.cell? ⟨wo.heap.size,3,none⟩=some (.int .u8 (x.p.c : Int))∧wz.cell? ⟨wo.heap.size,4,none⟩=some (.int .u8 (x.p.d : Int))∧wz.cell? ⟨wo.heap.size,5,none⟩=some (.int .u16 (x.p.port : Int))∧wz.cell? ⟨wo.heap.size,6,none⟩=some (.slice o2 x.r.length cap2)∧wz.cell? ⟨wo.heap.size+1,0,none⟩=some (.int .i64 3)∧wz.cell? ⟨wo.heap.size+1,1,none⟩=some (.int .u64 0)∧wz.cell? ⟨wo.heap.size+1,2,none⟩=some (.string ⟨#[]⟩)∧wz.cell? ⟨wo.heap.size+1,3,none⟩=some (.slice oW nT cW)∧Hid True) (by kernel_rfl) (mkS.out _ HX0.out HZ0.out) (fun hj9 => ?_)
     generalize wr.drew=wc0 at *
     refine tkH (i:=0) (oi:=⟨some 52,_,_,_,_,_⟩) (v:=?_) rfl (Or.inl ⟨by rfl,by (intro w hSw; (try dsimp only at hSw); go_simp; try with_reducible rfl)⟩) hj9 ?_
     try simp only [Act.put,pS,p0,p1]
     refine tkH (i:=2) (oi:=⟨some 54,_,_,_,_,_⟩) (v:=?_) rfl (Or.inl ⟨by rfl,by (intro w hSw; (try dsimp only at hSw); go_simp; try with_reducible rfl)⟩) hj9 ?_
     try simp only [Act.put,pS,p0,p1]
     refine tkH (i:=3) (oi:=⟨some 55,_,_,_,_,_⟩) (v:=?_) rfl (Or.inl ⟨by rfl,by (intro w hSw; (try dsimp only at hSw); go_simp; try with_reducible rfl)⟩) hj9 ?_
     try simp only [Act.put,pS,p0,p1]
     refine tkH (i:=5) (oi:=⟨some 57,_,_,_,_,_⟩) (v:=?_) rfl (Or.inl ⟨by rfl,by (intro w hSw; (try dsimp only at hSw); go_simp; try with_reducible rfl)⟩) hj9 ?_
     try simp only [Act.put,pS,p0,p1]
     refine tkH (i:=6) (oi:=⟨some 58,_,_,_,_,_⟩) (v:=?_) rfl (Or.inl ⟨by rfl,by (intro w hSw; (try dsimp only at hSw); go_simp; try with_reducible rfl)⟩) hj9 ?_
     try simp only [Act.put,pS,p0,p1]
     refine tkH (i:=9) (oi:=⟨some 61,_,_,_,_,_⟩) (v:=?_) rfl (Or.inl ⟨by rfl,by (intro w hSw; (try dsimp only at hSw); go_simp; try with_reducible rfl)⟩) hj9 ?_
     try simp only [Act.put,pS,p0,p1]
     refine wpAnyH_ready (rs:=[1,4]) (by kernel_rfl) (by simp) ?_
     refine AllReadyH.cons (o:=⟨some 53,_,_,_,_,_⟩) rfl (fun K hK => ?_) ?_
     ·obtain ⟨⟨y0,y1,y2,y3⟩,z0,z1,z2,z3⟩:=bk4 HY0.out
      go_simp
      refine hK.out _ _ (mkS.out _ HX0.out HZ0.out) (fun hj8 => ?_)
      clear hK K hj9
      have hj9:=hj8
      clear hj8
      clear y0 y1 y2 y3 z0 z1 z2 z3
      try simp only [Act.put,pS,p0,p1]
      refine wpAnyH_ready (rs:=[4]) (by kernel_rfl) (by simp) ?_
      refine AllReadyH.cons (o:=⟨some 56,_,_,_,_,_⟩) rfl (fun K hK => ?_) ?_
      ·go_simp
       refine (rtext_any _ _).mono ?_
       rintro ze wc1 ⟨rfl,hbn⟩
       try go_simp
       have HX1:=Lib.hid (Bk.later HX0.out hbn)
       have HZ1:=Lib.hid (Bk.later HZ0.out hbn)
       have HY1:=Lib.hid (Bk.later HY0.out hbn)
       have HL1:=Lib.hid (VL.later HL0.out hbn)
       have HK1:=Lib.hid (Kp.later HK0.out hbn)
       have HT1:=Lib.hid (VInP.keep hbn.size (fun b hb' hP => ⟨hbn.block b hb',hP⟩) _ HT0.out)
       have HB1:=Lib.hid (HB0.out.trans (hbn.mono HB0.out.size))
       refine hK.out _ _ (mkS.out _ HX1.out HZ1.out) (fun hj8 => ?_)
       clear hK K hj9
       have hj9:=hj8
       clear hj8
       clear hbn
       try simp only [Act.put,pS,p0,p1]
       refine wpAnyH_ready (rs:=[7]) (by kernel_rfl) (by simp) ?_
       refine AllReadyH.cons (o:=⟨some 59,_,_,_,_,_⟩) rfl (fun K hK => ?_) ?_
       ·go_simp
        refine (rplace_any _ HOX.out.2.1 _).mono ?_
        rintro ze wc2 ⟨rfl,hbn⟩
        try go_simp
        have HX2:=Lib.hid (Bk.later HX1.out hbn)
        have HZ2:=Lib.hid (Bk.later HZ1.out hbn)
        have HY2:=Lib.hid (Bk.later HY1.out hbn)
        have HL2:=Lib.hid (VL.later HL1.out hbn)
        have HK2:=Lib.hid (Kp.later HK1.out hbn)
        have HT2:=Lib.hid (VInP.keep hbn.size (fun b hb' hP => ⟨hbn.block b hb',hP⟩) _ HT1.out)
        have HB2:=Lib.hid (HB1.out.trans (hbn.mono HB1.out.size))
        refine hK.out _ _ (mkS.out _ HX2.out HZ2.out) (fun hj8 => ?_)
        clear hK K hj9
        have hj9:=hj8
        clear hj8
        clear hbn
        try simp only [Act.put,pS,p0,p1]
        refine wpAnyH_ready (rs:=[8]) (by kernel_rfl) (by simp) ?_
        refine AllReadyH.cons (o:=⟨some 60,_,_,_,_,_⟩) rfl (fun K hK => ?_) ?_
        ·go_simp
         refine (rtext_any _ _).mono ?_
         rintro ze wc3 ⟨rfl,hbn⟩
         try go_simp
         have HX3:=Lib.hid (Bk.later HX2.out hbn)
         have HZ3:=Lib.hid (Bk.later HZ2.out hbn)
         have HY3:=Lib.hid (Bk.later HY2.out hbn)
         have HL3:=Lib.hid (VL.later HL2.out hbn)
         have HK3:=Lib.hid (Kp.later HK2.out hbn)
         have HT3:=Lib.hid (VInP.keep hbn.size (fun b hb' hP => ⟨hbn.block b hb',hP⟩) _ HT2.out)
         have HB3:=Lib.hid (HB2.out.trans (hbn.mono HB2.out.size))
         refine hK.out _ _ (mkS.out _ HX3.out HZ3.out) (fun hj8 => ?_)
         clear hK K hj9
         have hj9:=hj8
         clear hj8
         clear hbn
         try simp only [Act.put,pS,p0,p1]
         refine wpAnyH_ready (rs:=[10]) (by kernel_rfl) (by simp) ?_
         refine AllReadyH.cons (o:=⟨some 62,_,_,_,_,_⟩) rfl (fun K hK => ?_) ?_
         ·go_simp
          have hbn:=alloc_below wc3 (.cells #[.int .i64 2,.int .u64 0,.string (x.name),.slice none 0 0,.int .i64 2,.int .u64 0,.string (str x.p.bytes),.slice none 0 0,.int .i64 3,.int .u64 0,.string ⟨#[]⟩,.slice oW nT cW] 81)
          have HX4:=Lib.hid (Bk.later HX3.out hbn)
          have HZ4:=Lib.hid (Bk.later HZ3.out hbn)
          have HY4:=Lib.hid (Bk.later HY3.out hbn)
          have HL4:=Lib.hid (VL.later HL3.out hbn)
          have HK4:=Lib.hid (Kp.later HK3.out hbn)
          have HT4:=Lib.hid (VInP.keep hbn.size (fun b hb' hP => ⟨hbn.block b hb',hP⟩) _ HT3.out)
          have HB4:=Lib.hid (HB3.out.trans (hbn.mono HB3.out.size))
          have HR4:=Lib.hid (show Bk (wc3.alloc (.cells #[.int .i64 2,.int .u64 0,.string (x.name),.slice none 0 0,.int .i64 2,.int .u64 0,.string (str x.p.bytes),.slice none 0 0,.int .i64 3,.int .u64 0,.string ⟨#[]⟩,.slice oW nT cW] 81)) wc3.heap.size _ 81 from heap_alloc_new wc3 _)
          have HG:=Lib.hid (show w.heap.size+4≤wc3.heap.size∧∀ b,(Value.slice oV l.length cV).ownBlock=some b→b≠wc3.heap.size from ⟨by have h1:=HK3.out.size; have h2:=HS0.out; omega,fun b hb => Nat.ne_of_lt (HL3.out.own b hb).2⟩)
          refine hK.out _ _ (mkS.out _ HX4.out HZ4.out) (fun hj8 => ?_)
          clear hK K hj9
          have hj9:=hj8
          clear hj8
          clear hbn
          try simp only [Act.put,pS,p0,p1]
          generalize wc3.alloc (.cells #[.int .i64 2,.int .u64 0,.string (x.name),.slice none 0 0,.int .i64 2,.int .u64 0,.string (str x.p.bytes),.slice none 0 0,.int .i64 3,.int .u64 0,.string ⟨#[]⟩,.slice oW nT cW] 81)=wc4 at *
          generalize wc3.heap.size=g1 at *
          refine tkH (i:=11) (oi:=⟨some 63,_,_,_,_,_⟩) (v:=?_) rfl (Or.inl ⟨by rfl,by (intro w hSw; (try dsimp only at hSw); go_simp; try with_reducible rfl)⟩) hj9 ?_
          try simp only [Act.put,pS,p0,p1]
          refine wpAnyH_ready (rs:=[12]) (by kernel_rfl) (by simp) ?_
          refine AllReadyH.cons (o:=⟨some 64,_,_,_,_,_⟩) rfl (fun K hK => ?_) ?_
          ·go_simp
           have hbn:=alloc_below wc4 (.cells #[.int .i64 3,.int .u64 0,.string ⟨#[]⟩,.slice (some ⟨g1,0,none⟩) 3 3] 81)
           have HX5:=Lib.hid (Bk.later HX4.out hbn)
           have HZ5:=Lib.hid (Bk.later HZ4.out hbn)
           have HY5:=Lib.hid (Bk.later HY4.out hbn)
           have HL5:=Lib.hid (VL.later HL4.out hbn)
           have HK5:=Lib.hid (Kp.later HK4.out hbn)
           have HT5:=Lib.hid (VInP.keep hbn.size (fun b hb' hP => ⟨hbn.block b hb',hP⟩) _ HT4.out)
           have HR5:=Lib.hid (Bk.later HR4.out hbn)
           have HB5:=Lib.hid (HB4.out.trans (hbn.mono HB4.out.size))
           have HQ5:=Lib.hid (show Bk (wc4.alloc (.cells #[.int .i64 3,.int .u64 0,.string ⟨#[]⟩,.slice (some ⟨g1,0,none⟩) 3 3] 81)) wc4.heap.size _ 81 from heap_alloc_new wc4 _)
           refine hK.out _ _ (mkS.out _ HX5.out HZ5.out) (fun hj8 => ?_)
           clear hK K hj9
           have hj9:=hj8
           clear hj8
           clear hbn
           try simp only [Act.put,pS,p0,p1]
           generalize wc4.alloc (.cells #[.int .i64 3,.int .u64 0,.string ⟨#[]⟩,.slice (some ⟨g1,0,none⟩) 3 3] 81)=wc5 at *
           generalize wc4.heap.size=g2 at *
           refine wpAnyH_ready (rs:=[13]) (by kernel_rfl) (by simp) ?_
           refine AllReadyH.cons (o:=⟨some 65,_,_,_,_,_⟩) rfl (fun K hK => ?_) ?_
           ·have HTr:=Lib.hid (show VInP wc5 (fun b => w.heap.size+4≤b∧(Value.slice oV l.length cV).ownBlock≠some b) (rowT [strT x.name,strT (str x.p.bytes),rowT (x.r.map Rt.tr)]) (.int .i64 3) (.int .u64 0) (.string ⟨#[]⟩) (.slice (some ⟨g1,0,none⟩) 3 3) from vin_row (l:=[strT x.name,strT (str x.p.bytes),rowT (x.r.map Rt.tr)]) rfl (by simp) HR5.out ⟨HG.out.1,fun e => HG.out.2 _ e rfl⟩ (fun i hi => by
             match i,hi with
             | 0,_ => exact ⟨_,_,_,_,rfl,rfl,rfl,rfl,vin_str _ _ _ HFX.out.1⟩
             | 1,_ => exact ⟨_,_,_,_,rfl,rfl,rfl,rfl,vin_str _ _ _ (pbytes_size _)⟩
             | 2,_ => exact ⟨_,_,_,_,rfl,rfl,rfl,rfl,VInP.keep (Nat.le_refl _) (fun b _ hP => ⟨rfl,by omega,fun e => absurd (HVo.out _ e) (by omega)⟩) _ HT5.out⟩))
            refine wp_push (.tmp 53) (.tmp 64) rfl (w.heap.size+4) (Value.slice oV l.length cV) _ _ _ _ _ _ g2 rfl rfl HL5.out HQ5.out HTr.out (by have h1:=HK5.out.size; have h2:=HS0.out; omega) (HLI.out) ?_
            intro o6 k6 wc6 hl6 hg6 hb6
            have HL6:=Lib.hid hl6
            have HX6:=Lib.hid (HL5.out.bk HX5.out (by decide) hg6)
            have HZ6:=Lib.hid (show Bk wc6 _ _ _ from (hg6.block _ (lt_of_heap HZ5.out) (fun e => absurd (HVo.out _ e.symm) (by omega))).trans HZ5.out)
            have HY6:=Lib.hid (Bk.upto HY5.out (by omega) hb6)
            have HK6:=Lib.hid (Kp.upto HK5.out (by have:=HS0.out; omega) hg6.size hb6)
            have HB6:=Lib.hid (HB5.out.trans (hb6.mono (by omega)))
            refine hK.out _ _ (mkS.out _ HX6.out HZ6.out) (fun hj8 => ?_)
            clear hK K hj9
            have hj9:=hj8
            clear hj8
            clear HTr hl6 hg6 hb6
            try simp only [Act.put,pS,p0,p1]
            refine tkH (i:=14) (oi:=⟨some 66,_,_,_,_,_⟩) (v:=?_) rfl (Or.inl ⟨by rfl,by (intro w hSw; (try dsimp only at hSw); go_simp; try with_reducible rfl)⟩) hj9 ?_
            try simp only [Act.put,pS,p0,p1]
            refine wpAnyH_ready (rs:=[15]) (by kernel_rfl) (by simp) ?_
            refine AllReadyH.cons (o:=⟨none,_,_,_,_,_⟩) rfl (fun K hK => ?_) ?_
            ·obtain ⟨⟨y0,y1,y2,y3⟩,z0,z1,z2,z3⟩:=bk4 HY6.out
             go_simp
             have HY7:=Lib.hid (HY6.out.set (i:=3) (.slice o6 (l.length+1) k6))
             have HL7:=Lib.hid (HL6.out.away (q:=w.heap.size+1+1) (by omega) 3 (.slice o6 (l.length+1) k6))
             have HX7:=Lib.hid (HX6.out.away (q:=w.heap.size+1+1) (by omega) 3 (.slice o6 (l.length+1) k6))
             have HZ7:=Lib.hid (HZ6.out.away (q:=w.heap.size+1+1) (by omega) 3 (.slice o6 (l.length+1) k6))
             have HK7:=Lib.hid (HK6.out.set 3 (.slice o6 (l.length+1) k6))
             have HB7:=Lib.hid (HB6.out.setCell (p:=⟨w.heap.size+1+1,3,none⟩) (by show w.heap.size≤w.heap.size+1+1; omega) (.slice o6 (l.length+1) k6))
             refine hK.out _ _ (mkS.out _ HX7.out HZ7.out) (fun hj8 => ?_)
             clear hK K hj9
             have hj9:=hj8
             clear hj8
             clear y0 y1 y2 y3 z0 z1 z2 z3
             try simp only [Act.put,pS,p0,p1]
             generalize (wc6.setCell ⟨w.heap.size+1+1,3,none⟩ (.slice o6 (l.length+1) k6))=wc7 at *
             refine wpAnyH_done (by kernel_rfl) ?_ _
             simp only [Exit.inBlock,Exit.then]
             apply_assumption
             try go_wp2
             exact ⟨⟨i+1,_,by go_num,by omega,HY7,Lib.hid (by rw [← HTK.out]; exact HL7.out),HK7,HB7⟩,by simp [intOf]; omega⟩
            ·exact AllReadyH.nil
           ·exact AllReadyH.nil
          ·exact AllReadyH.nil
         ·exact AllReadyH.nil
        ·exact AllReadyH.nil
       ·exact AllReadyH.nil
      ·exact AllReadyH.nil
     ·refine AllReadyH.cons (o:=⟨some 56,_,_,_,_,_⟩) rfl (fun K hK => ?_) ?_
      ·go_simp
       refine (rtext_any _ _).mono ?_
       rintro ze wc1 ⟨rfl,hbn⟩
       try go_simp
       have HX1:=Lib.hid (Bk.later HX0.out hbn)
       have HZ1:=Lib.hid (Bk.later HZ0.out hbn)
       have HY1:=Lib.hid (Bk.later HY0.out hbn)
       have HL1:=Lib.hid (VL.later HL0.out hbn)
       have HK1:=Lib.hid (Kp.later HK0.out hbn)
       have HT1:=Lib.hid (VInP.keep hbn.size (fun b hb' hP => ⟨hbn.block b hb',hP⟩) _ HT0.out)
       have HB1:=Lib.hid (HB0.out.trans (hbn.mono HB0.out.size))
       refine hK.out _ _ (mkS.out _ HX1.out HZ1.out) (fun hj8 => ?_)
       clear hK K hj9
       have hj9:=hj8
       clear hj8
       clear hbn
       try simp only [Act.put,pS,p0,p1]
       refine wpAnyH_ready (rs:=[1,7]) (by kernel_rfl) (by simp) ?_
       refine AllReadyH.cons (o:=⟨some 53,_,_,_,_,_⟩) rfl (fun K hK => ?_) ?_
       ·obtain ⟨⟨y0,y1,y2,y3⟩,z0,z1,z2,z3⟩:=bk4 HY1.out
        go_simp
        refine hK.out _ _ (mkS.out _ HX1.out HZ1.out) (fun hj8 => ?_)
        clear hK K hj9
        have hj9:=hj8
        clear hj8
        clear y0 y1 y2 y3 z0 z1 z2 z3
        try simp only [Act.put,pS,p0,p1]
        refine wpAnyH_ready (rs:=[7]) (by kernel_rfl) (by simp) ?_
        refine AllReadyH.cons (o:=⟨some 59,_,_,_,_,_⟩) rfl (fun K hK => ?_) ?_
        ·go_simp
         refine (rplace_any _ HOX.out.2.1 _).mono ?_
         rintro ze wc2 ⟨rfl,hbn⟩
         try go_simp
         have HX2:=Lib.hid (Bk.later HX1.out hbn)
         have HZ2:=Lib.hid (Bk.later HZ1.out hbn)
         have HY2:=Lib.hid (Bk.later HY1.out hbn)
         have HL2:=Lib.hid (VL.later HL1.out hbn)
         have HK2:=Lib.hid (Kp.later HK1.out hbn)
         have HT2:=Lib.hid (VInP.keep hbn.size (fun b hb' hP => ⟨hbn.block b hb',hP⟩) _ HT1.out)
         have HB2:=Lib.hid (HB1.out.trans (hbn.mono HB1.out.size))
         refine hK.out _ _ (mkS.out _ HX2.out HZ2.out) (fun hj8 => ?_)
         clear hK K hj9
         have hj9:=hj8
         clear hj8
         clear hbn
         try simp only [Act.put,pS,p0,p1]
         refine wpAnyH_ready (rs:=[8]) (by kernel_rfl) (by simp) ?_
         refine AllReadyH.cons (o:=⟨some 60,_,_,_,_,_⟩) rfl (fun K hK => ?_) ?_
         ·go_simp
          refine (rtext_any _ _).mono ?_
          rintro ze wc3 ⟨rfl,hbn⟩
          try go_simp
          have HX3:=Lib.hid (Bk.later HX2.out hbn)
          have HZ3:=Lib.hid (Bk.later HZ2.out hbn)
          have HY3:=Lib.hid (Bk.later HY2.out hbn)
          have HL3:=Lib.hid (VL.later HL2.out hbn)
          have HK3:=Lib.hid (Kp.later HK2.out hbn)
          have HT3:=Lib.hid (VInP.keep hbn.size (fun b hb' hP => ⟨hbn.block b hb',hP⟩) _ HT2.out)
          have HB3:=Lib.hid (HB2.out.trans (hbn.mono HB2.out.size))
          refine hK.out _ _ (mkS.out _ HX3.out HZ3.out) (fun hj8 => ?_)
          clear hK K hj9
          have hj9:=hj8
          clear hj8
          clear hbn
          try simp only [Act.put,pS,p0,p1]
          refine wpAnyH_ready (rs:=[10]) (by kernel_rfl) (by simp) ?_
          refine AllReadyH.cons (o:=⟨some 62,_,_,_,_,_⟩) rfl (fun K hK => ?_) ?_
          ·go_simp
           have hbn:=alloc_below wc3 (.cells #[.int .i64 2,.int .u64 0,.string (x.name),.slice none 0 0,.int .i64 2,.int .u64 0,.string (str x.p.bytes),.slice none 0 0,.int .i64 3,.int .u64 0,.string ⟨#[]⟩,.slice oW nT cW] 81)
           have HX4:=Lib.hid (Bk.later HX3.out hbn)
           have HZ4:=Lib.hid (Bk.later HZ3.out hbn)
           have HY4:=Lib.hid (Bk.later HY3.out hbn)
           have HL4:=Lib.hid (VL.later HL3.out hbn)
           have HK4:=Lib.hid (Kp.later HK3.out hbn)
           have HT4:=Lib.hid (VInP.keep hbn.size (fun b hb' hP => ⟨hbn.block b hb',hP⟩) _ HT3.out)
           have HB4:=Lib.hid (HB3.out.trans (hbn.mono HB3.out.size))
           have HR4:=Lib.hid (show Bk (wc3.alloc (.cells #[.int .i64 2,.int .u64 0,.string (x.name),.slice none 0 0,.int .i64 2,.int .u64 0,.string (str x.p.bytes),.slice none 0 0,.int .i64 3,.int .u64 0,.string ⟨#[]⟩,.slice oW nT cW] 81)) wc3.heap.size _ 81 from heap_alloc_new wc3 _)
           have HG:=Lib.hid (show w.heap.size+4≤wc3.heap.size∧∀ b,(Value.slice oV l.length cV).ownBlock=some b→b≠wc3.heap.size from ⟨by have h1:=HK3.out.size; have h2:=HS0.out; omega,fun b hb => Nat.ne_of_lt (HL3.out.own b hb).2⟩)
           refine hK.out _ _ (mkS.out _ HX4.out HZ4.out) (fun hj8 => ?_)
           clear hK K hj9
           have hj9:=hj8
           clear hj8
           clear hbn
           try simp only [Act.put,pS,p0,p1]
           generalize wc3.alloc (.cells #[.int .i64 2,.int .u64 0,.string (x.name),.slice none 0 0,.int .i64 2,.int .u64 0,.string (str x.p.bytes),.slice none 0 0,.int .i64 3,.int .u64 0,.string ⟨#[]⟩,.slice oW nT cW] 81)=wc4 at *
           generalize wc3.heap.size=g1 at *
           refine tkH (i:=11) (oi:=⟨some 63,_,_,_,_,_⟩) (v:=?_) rfl (Or.inl ⟨by rfl,by (intro w hSw; (try dsimp only at hSw); go_simp; try with_reducible rfl)⟩) hj9 ?_
           try simp only [Act.put,pS,p0,p1]
           refine wpAnyH_ready (rs:=[12]) (by kernel_rfl) (by simp) ?_
           refine AllReadyH.cons (o:=⟨some 64,_,_,_,_,_⟩) rfl (fun K hK => ?_) ?_
           ·go_simp
            have hbn:=alloc_below wc4 (.cells #[.int .i64 3,.int .u64 0,.string ⟨#[]⟩,.slice (some ⟨g1,0,none⟩) 3 3] 81)
            have HX5:=Lib.hid (Bk.later HX4.out hbn)
            have HZ5:=Lib.hid (Bk.later HZ4.out hbn)
            have HY5:=Lib.hid (Bk.later HY4.out hbn)
            have HL5:=Lib.hid (VL.later HL4.out hbn)
            have HK5:=Lib.hid (Kp.later HK4.out hbn)
            have HT5:=Lib.hid (VInP.keep hbn.size (fun b hb' hP => ⟨hbn.block b hb',hP⟩) _ HT4.out)
            have HR5:=Lib.hid (Bk.later HR4.out hbn)
            have HB5:=Lib.hid (HB4.out.trans (hbn.mono HB4.out.size))
            have HQ5:=Lib.hid (show Bk (wc4.alloc (.cells #[.int .i64 3,.int .u64 0,.string ⟨#[]⟩,.slice (some ⟨g1,0,none⟩) 3 3] 81)) wc4.heap.size _ 81 from heap_alloc_new wc4 _)
            refine hK.out _ _ (mkS.out _ HX5.out HZ5.out) (fun hj8 => ?_)
            clear hK K hj9
            have hj9:=hj8
            clear hj8
            clear hbn
            try simp only [Act.put,pS,p0,p1]
            generalize wc4.alloc (.cells #[.int .i64 3,.int .u64 0,.string ⟨#[]⟩,.slice (some ⟨g1,0,none⟩) 3 3] 81)=wc5 at *
            generalize wc4.heap.size=g2 at *
            refine wpAnyH_ready (rs:=[13]) (by kernel_rfl) (by simp) ?_
            refine AllReadyH.cons (o:=⟨some 65,_,_,_,_,_⟩) rfl (fun K hK => ?_) ?_
            ·have HTr:=Lib.hid (show VInP wc5 (fun b => w.heap.size+4≤b∧(Value.slice oV l.length cV).ownBlock≠some b) (rowT [strT x.name,strT (str x.p.bytes),rowT (x.r.map Rt.tr)]) (.int .i64 3) (.int .u64 0) (.string ⟨#[]⟩) (.slice (some ⟨g1,0,none⟩) 3 3) from vin_row (l:=[strT x.name,strT (str x.p.bytes),rowT (x.r.map Rt.tr)]) rfl (by simp) HR5.out ⟨HG.out.1,fun e => HG.out.2 _ e rfl⟩ (fun i hi => by
              match i,hi with
              | 0,_ => exact ⟨_,_,_,_,rfl,rfl,rfl,rfl,vin_str _ _ _ HFX.out.1⟩
              | 1,_ => exact ⟨_,_,_,_,rfl,rfl,rfl,rfl,vin_str _ _ _ (pbytes_size _)⟩
              | 2,_ => exact ⟨_,_,_,_,rfl,rfl,rfl,rfl,VInP.keep (Nat.le_refl _) (fun b _ hP => ⟨rfl,by omega,fun e => absurd (HVo.out _ e) (by omega)⟩) _ HT5.out⟩))
             refine wp_push (.tmp 53) (.tmp 64) rfl (w.heap.size+4) (Value.slice oV l.length cV) _ _ _ _ _ _ g2 rfl rfl HL5.out HQ5.out HTr.out (by have h1:=HK5.out.size; have h2:=HS0.out; omega) (HLI.out) ?_
             intro o6 k6 wc6 hl6 hg6 hb6
             have HL6:=Lib.hid hl6
             have HX6:=Lib.hid (HL5.out.bk HX5.out (by decide) hg6)
             have HZ6:=Lib.hid (show Bk wc6 _ _ _ from (hg6.block _ (lt_of_heap HZ5.out) (fun e => absurd (HVo.out _ e.symm) (by omega))).trans HZ5.out)
             have HY6:=Lib.hid (Bk.upto HY5.out (by omega) hb6)
             have HK6:=Lib.hid (Kp.upto HK5.out (by have:=HS0.out; omega) hg6.size hb6)
             have HB6:=Lib.hid (HB5.out.trans (hb6.mono (by omega)))
             refine hK.out _ _ (mkS.out _ HX6.out HZ6.out) (fun hj8 => ?_)
             clear hK K hj9
             have hj9:=hj8
             clear hj8
             clear HTr hl6 hg6 hb6
             try simp only [Act.put,pS,p0,p1]
             refine tkH (i:=14) (oi:=⟨some 66,_,_,_,_,_⟩) (v:=?_) rfl (Or.inl ⟨by rfl,by (intro w hSw; (try dsimp only at hSw); go_simp; try with_reducible rfl)⟩) hj9 ?_
             try simp only [Act.put,pS,p0,p1]
             refine wpAnyH_ready (rs:=[15]) (by kernel_rfl) (by simp) ?_
             refine AllReadyH.cons (o:=⟨none,_,_,_,_,_⟩) rfl (fun K hK => ?_) ?_
             ·obtain ⟨⟨y0,y1,y2,y3⟩,z0,z1,z2,z3⟩:=bk4 HY6.out
              go_simp
              have HY7:=Lib.hid (HY6.out.set (i:=3) (.slice o6 (l.length+1) k6))
              have HL7:=Lib.hid (HL6.out.away (q:=w.heap.size+1+1) (by omega) 3 (.slice o6 (l.length+1) k6))
              have HX7:=Lib.hid (HX6.out.away (q:=w.heap.size+1+1) (by omega) 3 (.slice o6 (l.length+1) k6))
              have HZ7:=Lib.hid (HZ6.out.away (q:=w.heap.size+1+1) (by omega) 3 (.slice o6 (l.length+1) k6))
              have HK7:=Lib.hid (HK6.out.set 3 (.slice o6 (l.length+1) k6))
              have HB7:=Lib.hid (HB6.out.setCell (p:=⟨w.heap.size+1+1,3,none⟩) (by show w.heap.size≤w.heap.size+1+1; omega) (.slice o6 (l.length+1) k6))
              refine hK.out _ _ (mkS.out _ HX7.out HZ7.out) (fun hj8 => ?_)
              clear hK K hj9
              have hj9:=hj8
              clear hj8
              clear y0 y1 y2 y3 z0 z1 z2 z3
              try simp only [Act.put,pS,p0,p1]
              generalize (wc6.setCell ⟨w.heap.size+1+1,3,none⟩ (.slice o6 (l.length+1) k6))=wc7 at *
              refine wpAnyH_done (by kernel_rfl) ?_ _
              simp only [Exit.inBlock,Exit.then]
              apply_assumption
              try go_wp2
              exact ⟨⟨i+1,_,by go_num,by omega,HY7,Lib.hid (by rw [← HTK.out]; exact HL7.out),HK7,HB7⟩,by simp [intOf]; omega⟩
             ·exact AllReadyH.nil
            ·exact AllReadyH.nil
           ·exact AllReadyH.nil
          ·exact AllReadyH.nil
         ·exact AllReadyH.nil
        ·exact AllReadyH.nil
       ·refine AllReadyH.cons (o:=⟨some 59,_,_,_,_,_⟩) rfl (fun K hK => ?_) ?_
        ·go_simp
         refine (rplace_any _ HOX.out.2.1 _).mono ?_
         rintro ze wc2 ⟨rfl,hbn⟩
         try go_simp
         have HX2:=Lib.hid (Bk.later HX1.out hbn)
         have HZ2:=Lib.hid (Bk.later HZ1.out hbn)
         have HY2:=Lib.hid (Bk.later HY1.out hbn)
         have HL2:=Lib.hid (VL.later HL1.out hbn)
         have HK2:=Lib.hid (Kp.later HK1.out hbn)
         have HT2:=Lib.hid (VInP.keep hbn.size (fun b hb' hP => ⟨hbn.block b hb',hP⟩) _ HT1.out)
         have HB2:=Lib.hid (HB1.out.trans (hbn.mono HB1.out.size))
         refine hK.out _ _ (mkS.out _ HX2.out HZ2.out) (fun hj8 => ?_)
         clear hK K hj9
         have hj9:=hj8
         clear hj8
         clear hbn
         try simp only [Act.put,pS,p0,p1]
         refine wpAnyH_ready (rs:=[1,8]) (by kernel_rfl) (by simp) ?_
         refine AllReadyH.cons (o:=⟨some 53,_,_,_,_,_⟩) rfl (fun K hK => ?_) ?_
         ·obtain ⟨⟨y0,y1,y2,y3⟩,z0,z1,z2,z3⟩:=bk4 HY2.out
          go_simp
          refine hK.out _ _ (mkS.out _ HX2.out HZ2.out) (fun hj8 => ?_)
          clear hK K hj9
          have hj9:=hj8
          clear hj8
          clear y0 y1 y2 y3 z0 z1 z2 z3
          try simp only [Act.put,pS,p0,p1]
          refine wpAnyH_ready (rs:=[8]) (by kernel_rfl) (by simp) ?_
          refine AllReadyH.cons (o:=⟨some 60,_,_,_,_,_⟩) rfl (fun K hK => ?_) ?_
          ·go_simp
           refine (rtext_any _ _).mono ?_
           rintro ze wc3 ⟨rfl,hbn⟩
           try go_simp
           have HX3:=Lib.hid (Bk.later HX2.out hbn)
           have HZ3:=Lib.hid (Bk.later HZ2.out hbn)
           have HY3:=Lib.hid (Bk.later HY2.out hbn)
           have HL3:=Lib.hid (VL.later HL2.out hbn)
           have HK3:=Lib.hid (Kp.later HK2.out hbn)
           have HT3:=Lib.hid (VInP.keep hbn.size (fun b hb' hP => ⟨hbn.block b hb',hP⟩) _ HT2.out)
           have HB3:=Lib.hid (HB2.out.trans (hbn.mono HB2.out.size))
           refine hK.out _ _ (mkS.out _ HX3.out HZ3.out) (fun hj8 => ?_)
           clear hK K hj9
           have hj9:=hj8
           clear hj8
           clear hbn
           try simp only [Act.put,pS,p0,p1]
           refine wpAnyH_ready (rs:=[10]) (by kernel_rfl) (by simp) ?_
           refine AllReadyH.cons (o:=⟨some 62,_,_,_,_,_⟩) rfl (fun K hK => ?_) ?_
           ·go_simp
            have hbn:=alloc_below wc3 (.cells #[.int .i64 2,.int .u64 0,.string (x.name),.slice none 0 0,.int .i64 2,.int .u64 0,.string (str x.p.bytes),.slice none 0 0,.int .i64 3,.int .u64 0,.string ⟨#[]⟩,.slice oW nT cW] 81)
            have HX4:=Lib.hid (Bk.later HX3.out hbn)
            have HZ4:=Lib.hid (Bk.later HZ3.out hbn)
            have HY4:=Lib.hid (Bk.later HY3.out hbn)
            have HL4:=Lib.hid (VL.later HL3.out hbn)
            have HK4:=Lib.hid (Kp.later HK3.out hbn)
            have HT4:=Lib.hid (VInP.keep hbn.size (fun b hb' hP => ⟨hbn.block b hb',hP⟩) _ HT3.out)
            have HB4:=Lib.hid (HB3.out.trans (hbn.mono HB3.out.size))
            have HR4:=Lib.hid (show Bk (wc3.alloc (.cells #[.int .i64 2,.int .u64 0,.string (x.name),.slice none 0 0,.int .i64 2,.int .u64 0,.string (str x.p.bytes),.slice none 0 0,.int .i64 3,.int .u64 0,.string ⟨#[]⟩,.slice oW nT cW] 81)) wc3.heap.size _ 81 from heap_alloc_new wc3 _)
            have HG:=Lib.hid (show w.heap.size+4≤wc3.heap.size∧∀ b,(Value.slice oV l.length cV).ownBlock=some b→b≠wc3.heap.size from ⟨by have h1:=HK3.out.size; have h2:=HS0.out; omega,fun b hb => Nat.ne_of_lt (HL3.out.own b hb).2⟩)
            refine hK.out _ _ (mkS.out _ HX4.out HZ4.out) (fun hj8 => ?_)
            clear hK K hj9
            have hj9:=hj8
            clear hj8
            clear hbn
            try simp only [Act.put,pS,p0,p1]
            generalize wc3.alloc (.cells #[.int .i64 2,.int .u64 0,.string (x.name),.slice none 0 0,.int .i64 2,.int .u64 0,.string (str x.p.bytes),.slice none 0 0,.int .i64 3,.int .u64 0,.string ⟨#[]⟩,.slice oW nT cW] 81)=wc4 at *
            generalize wc3.heap.size=g1 at *
            refine tkH (i:=11) (oi:=⟨some 63,_,_,_,_,_⟩) (v:=?_) rfl (Or.inl ⟨by rfl,by (intro w hSw; (try dsimp only at hSw); go_simp; try with_reducible rfl)⟩) hj9 ?_
            try simp only [Act.put,pS,p0,p1]
            refine wpAnyH_ready (rs:=[12]) (by kernel_rfl) (by simp) ?_
            refine AllReadyH.cons (o:=⟨some 64,_,_,_,_,_⟩) rfl (fun K hK => ?_) ?_
            ·go_simp
             have hbn:=alloc_below wc4 (.cells #[.int .i64 3,.int .u64 0,.string ⟨#[]⟩,.slice (some ⟨g1,0,none⟩) 3 3] 81)
             have HX5:=Lib.hid (Bk.later HX4.out hbn)
             have HZ5:=Lib.hid (Bk.later HZ4.out hbn)
             have HY5:=Lib.hid (Bk.later HY4.out hbn)
             have HL5:=Lib.hid (VL.later HL4.out hbn)
             have HK5:=Lib.hid (Kp.later HK4.out hbn)
             have HT5:=Lib.hid (VInP.keep hbn.size (fun b hb' hP => ⟨hbn.block b hb',hP⟩) _ HT4.out)
             have HR5:=Lib.hid (Bk.later HR4.out hbn)
             have HB5:=Lib.hid (HB4.out.trans (hbn.mono HB4.out.size))
             have HQ5:=Lib.hid (show Bk (wc4.alloc (.cells #[.int .i64 3,.int .u64 0,.string ⟨#[]⟩,.slice (some ⟨g1,0,none⟩) 3 3] 81)) wc4.heap.size _ 81 from heap_alloc_new wc4 _)
             refine hK.out _ _ (mkS.out _ HX5.out HZ5.out) (fun hj8 => ?_)
             clear hK K hj9
             have hj9:=hj8
             clear hj8
             clear hbn
             try simp only [Act.put,pS,p0,p1]
             generalize wc4.alloc (.cells #[.int .i64 3,.int .u64 0,.string ⟨#[]⟩,.slice (some ⟨g1,0,none⟩) 3 3] 81)=wc5 at *
             generalize wc4.heap.size=g2 at *
             refine wpAnyH_ready (rs:=[13]) (by kernel_rfl) (by simp) ?_
             refine AllReadyH.cons (o:=⟨some 65,_,_,_,_,_⟩) rfl (fun K hK => ?_) ?_
             ·have HTr:=Lib.hid (show VInP wc5 (fun b => w.heap.size+4≤b∧(Value.slice oV l.length cV).ownBlock≠some b) (rowT [strT x.name,strT (str x.p.bytes),rowT (x.r.map Rt.tr)]) (.int .i64 3) (.int .u64 0) (.string ⟨#[]⟩) (.slice (some ⟨g1,0,none⟩) 3 3) from vin_row (l:=[strT x.name,strT (str x.p.bytes),rowT (x.r.map Rt.tr)]) rfl (by simp) HR5.out ⟨HG.out.1,fun e => HG.out.2 _ e rfl⟩ (fun i hi => by
               match i,hi with
               | 0,_ => exact ⟨_,_,_,_,rfl,rfl,rfl,rfl,vin_str _ _ _ HFX.out.1⟩
               | 1,_ => exact ⟨_,_,_,_,rfl,rfl,rfl,rfl,vin_str _ _ _ (pbytes_size _)⟩
               | 2,_ => exact ⟨_,_,_,_,rfl,rfl,rfl,rfl,VInP.keep (Nat.le_refl _) (fun b _ hP => ⟨rfl,by omega,fun e => absurd (HVo.out _ e) (by omega)⟩) _ HT5.out⟩))
              refine wp_push (.tmp 53) (.tmp 64) rfl (w.heap.size+4) (Value.slice oV l.length cV) _ _ _ _ _ _ g2 rfl rfl HL5.out HQ5.out HTr.out (by have h1:=HK5.out.size; have h2:=HS0.out; omega) (HLI.out) ?_
              intro o6 k6 wc6 hl6 hg6 hb6
              have HL6:=Lib.hid hl6
              have HX6:=Lib.hid (HL5.out.bk HX5.out (by decide) hg6)
              have HZ6:=Lib.hid (show Bk wc6 _ _ _ from (hg6.block _ (lt_of_heap HZ5.out) (fun e => absurd (HVo.out _ e.symm) (by omega))).trans HZ5.out)
              have HY6:=Lib.hid (Bk.upto HY5.out (by omega) hb6)
              have HK6:=Lib.hid (Kp.upto HK5.out (by have:=HS0.out; omega) hg6.size hb6)
              have HB6:=Lib.hid (HB5.out.trans (hb6.mono (by omega)))
              refine hK.out _ _ (mkS.out _ HX6.out HZ6.out) (fun hj8 => ?_)
              clear hK K hj9
              have hj9:=hj8
              clear hj8
              clear HTr hl6 hg6 hb6
              try simp only [Act.put,pS,p0,p1]
              refine tkH (i:=14) (oi:=⟨some 66,_,_,_,_,_⟩) (v:=?_) rfl (Or.inl ⟨by rfl,by (intro w hSw; (try dsimp only at hSw); go_simp; try with_reducible rfl)⟩) hj9 ?_
              try simp only [Act.put,pS,p0,p1]
              refine wpAnyH_ready (rs:=[15]) (by kernel_rfl) (by simp) ?_
              refine AllReadyH.cons (o:=⟨none,_,_,_,_,_⟩) rfl (fun K hK => ?_) ?_
              ·obtain ⟨⟨y0,y1,y2,y3⟩,z0,z1,z2,z3⟩:=bk4 HY6.out
               go_simp
               have HY7:=Lib.hid (HY6.out.set (i:=3) (.slice o6 (l.length+1) k6))
               have HL7:=Lib.hid (HL6.out.away (q:=w.heap.size+1+1) (by omega) 3 (.slice o6 (l.length+1) k6))
               have HX7:=Lib.hid (HX6.out.away (q:=w.heap.size+1+1) (by omega) 3 (.slice o6 (l.length+1) k6))
               have HZ7:=Lib.hid (HZ6.out.away (q:=w.heap.size+1+1) (by omega) 3 (.slice o6 (l.length+1) k6))
               have HK7:=Lib.hid (HK6.out.set 3 (.slice o6 (l.length+1) k6))
               have HB7:=Lib.hid (HB6.out.setCell (p:=⟨w.heap.size+1+1,3,none⟩) (by show w.heap.size≤w.heap.size+1+1; omega) (.slice o6 (l.length+1) k6))
               refine hK.out _ _ (mkS.out _ HX7.out HZ7.out) (fun hj8 => ?_)
               clear hK K hj9
               have hj9:=hj8
               clear hj8
               clear y0 y1 y2 y3 z0 z1 z2 z3
               try simp only [Act.put,pS,p0,p1]
               generalize (wc6.setCell ⟨w.heap.size+1+1,3,none⟩ (.slice o6 (l.length+1) k6))=wc7 at *
               refine wpAnyH_done (by kernel_rfl) ?_ _
               simp only [Exit.inBlock,Exit.then]
               apply_assumption
               try go_wp2
               exact ⟨⟨i+1,_,by go_num,by omega,HY7,Lib.hid (by rw [← HTK.out]; exact HL7.out),HK7,HB7⟩,by simp [intOf]; omega⟩
              ·exact AllReadyH.nil
             ·exact AllReadyH.nil
            ·exact AllReadyH.nil
           ·exact AllReadyH.nil
          ·exact AllReadyH.nil
         ·refine AllReadyH.cons (o:=⟨some 60,_,_,_,_,_⟩) rfl (fun K hK => ?_) ?_
          ·go_simp
           refine (rtext_any _ _).mono ?_
           rintro ze wc3 ⟨rfl,hbn⟩
           try go_simp
           have HX3:=Lib.hid (Bk.later HX2.out hbn)
           have HZ3:=Lib.hid (Bk.later HZ2.out hbn)
           have HY3:=Lib.hid (Bk.later HY2.out hbn)
           have HL3:=Lib.hid (VL.later HL2.out hbn)
           have HK3:=Lib.hid (Kp.later HK2.out hbn)
           have HT3:=Lib.hid (VInP.keep hbn.size (fun b hb' hP => ⟨hbn.block b hb',hP⟩) _ HT2.out)
           have HB3:=Lib.hid (HB2.out.trans (hbn.mono HB2.out.size))
           refine hK.out _ _ (mkS.out _ HX3.out HZ3.out) (fun hj8 => ?_)
           clear hK K hj9
           have hj9:=hj8
           clear hj8
           clear hbn
           try simp only [Act.put,pS,p0,p1]
           refine wpAnyH_ready (rs:=[1,10]) (by kernel_rfl) (by simp) ?_
           refine AllReadyH.cons (o:=⟨some 53,_,_,_,_,_⟩) rfl (fun K hK => ?_) ?_
           ·obtain ⟨⟨y0,y1,y2,y3⟩,z0,z1,z2,z3⟩:=bk4 HY3.out
            go_simp
            refine hK.out _ _ (mkS.out _ HX3.out HZ3.out) (fun hj8 => ?_)
            clear hK K hj9
            have hj9:=hj8
            clear hj8
            clear y0 y1 y2 y3 z0 z1 z2 z3
            try simp only [Act.put,pS,p0,p1]
            refine wpAnyH_ready (rs:=[10]) (by kernel_rfl) (by simp) ?_
            refine AllReadyH.cons (o:=⟨some 62,_,_,_,_,_⟩) rfl (fun K hK => ?_) ?_
            ·go_simp
             have hbn:=alloc_below wc3 (.cells #[.int .i64 2,.int .u64 0,.string (x.name),.slice none 0 0,.int .i64 2,.int .u64 0,.string (str x.p.bytes),.slice none 0 0,.int .i64 3,.int .u64 0,.string ⟨#[]⟩,.slice oW nT cW] 81)
             have HX4:=Lib.hid (Bk.later HX3.out hbn)
             have HZ4:=Lib.hid (Bk.later HZ3.out hbn)
             have HY4:=Lib.hid (Bk.later HY3.out hbn)
             have HL4:=Lib.hid (VL.later HL3.out hbn)
             have HK4:=Lib.hid (Kp.later HK3.out hbn)
             have HT4:=Lib.hid (VInP.keep hbn.size (fun b hb' hP => ⟨hbn.block b hb',hP⟩) _ HT3.out)
             have HB4:=Lib.hid (HB3.out.trans (hbn.mono HB3.out.size))
             have HR4:=Lib.hid (show Bk (wc3.alloc (.cells #[.int .i64 2,.int .u64 0,.string (x.name),.slice none 0 0,.int .i64 2,.int .u64 0,.string (str x.p.bytes),.slice none 0 0,.int .i64 3,.int .u64 0,.string ⟨#[]⟩,.slice oW nT cW] 81)) wc3.heap.size _ 81 from heap_alloc_new wc3 _)
             have HG:=Lib.hid (show w.heap.size+4≤wc3.heap.size∧∀ b,(Value.slice oV l.length cV).ownBlock=some b→b≠wc3.heap.size from ⟨by have h1:=HK3.out.size; have h2:=HS0.out; omega,fun b hb => Nat.ne_of_lt (HL3.out.own b hb).2⟩)
             refine hK.out _ _ (mkS.out _ HX4.out HZ4.out) (fun hj8 => ?_)
             clear hK K hj9
             have hj9:=hj8
             clear hj8
             clear hbn
             try simp only [Act.put,pS,p0,p1]
             generalize wc3.alloc (.cells #[.int .i64 2,.int .u64 0,.string (x.name),.slice none 0 0,.int .i64 2,.int .u64 0,.string (str x.p.bytes),.slice none 0 0,.int .i64 3,.int .u64 0,.string ⟨#[]⟩,.slice oW nT cW] 81)=wc4 at *
             generalize wc3.heap.size=g1 at *
             refine tkH (i:=11) (oi:=⟨some 63,_,_,_,_,_⟩) (v:=?_) rfl (Or.inl ⟨by rfl,by (intro w hSw; (try dsimp only at hSw); go_simp; try with_reducible rfl)⟩) hj9 ?_
             try simp only [Act.put,pS,p0,p1]
             refine wpAnyH_ready (rs:=[12]) (by kernel_rfl) (by simp) ?_
             refine AllReadyH.cons (o:=⟨some 64,_,_,_,_,_⟩) rfl (fun K hK => ?_) ?_
             ·go_simp
              have hbn:=alloc_below wc4 (.cells #[.int .i64 3,.int .u64 0,.string ⟨#[]⟩,.slice (some ⟨g1,0,none⟩) 3 3] 81)
              have HX5:=Lib.hid (Bk.later HX4.out hbn)
              have HZ5:=Lib.hid (Bk.later HZ4.out hbn)
              have HY5:=Lib.hid (Bk.later HY4.out hbn)
              have HL5:=Lib.hid (VL.later HL4.out hbn)
              have HK5:=Lib.hid (Kp.later HK4.out hbn)
              have HT5:=Lib.hid (VInP.keep hbn.size (fun b hb' hP => ⟨hbn.block b hb',hP⟩) _ HT4.out)
              have HR5:=Lib.hid (Bk.later HR4.out hbn)
              have HB5:=Lib.hid (HB4.out.trans (hbn.mono HB4.out.size))
              have HQ5:=Lib.hid (show Bk (wc4.alloc (.cells #[.int .i64 3,.int .u64 0,.string ⟨#[]⟩,.slice (some ⟨g1,0,none⟩) 3 3] 81)) wc4.heap.size _ 81 from heap_alloc_new wc4 _)
              refine hK.out _ _ (mkS.out _ HX5.out HZ5.out) (fun hj8 => ?_)
              clear hK K hj9
              have hj9:=hj8
              clear hj8
              clear hbn
              try simp only [Act.put,pS,p0,p1]
              generalize wc4.alloc (.cells #[.int .i64 3,.int .u64 0,.string ⟨#[]⟩,.slice (some ⟨g1,0,none⟩) 3 3] 81)=wc5 at *
              generalize wc4.heap.size=g2 at *
              refine wpAnyH_ready (rs:=[13]) (by kernel_rfl) (by simp) ?_
              refine AllReadyH.cons (o:=⟨some 65,_,_,_,_,_⟩) rfl (fun K hK => ?_) ?_
              ·have HTr:=Lib.hid (show VInP wc5 (fun b => w.heap.size+4≤b∧(Value.slice oV l.length cV).ownBlock≠some b) (rowT [strT x.name,strT (str x.p.bytes),rowT (x.r.map Rt.tr)]) (.int .i64 3) (.int .u64 0) (.string ⟨#[]⟩) (.slice (some ⟨g1,0,none⟩) 3 3) from vin_row (l:=[strT x.name,strT (str x.p.bytes),rowT (x.r.map Rt.tr)]) rfl (by simp) HR5.out ⟨HG.out.1,fun e => HG.out.2 _ e rfl⟩ (fun i hi => by
                match i,hi with
                | 0,_ => exact ⟨_,_,_,_,rfl,rfl,rfl,rfl,vin_str _ _ _ HFX.out.1⟩
                | 1,_ => exact ⟨_,_,_,_,rfl,rfl,rfl,rfl,vin_str _ _ _ (pbytes_size _)⟩
                | 2,_ => exact ⟨_,_,_,_,rfl,rfl,rfl,rfl,VInP.keep (Nat.le_refl _) (fun b _ hP => ⟨rfl,by omega,fun e => absurd (HVo.out _ e) (by omega)⟩) _ HT5.out⟩))
               refine wp_push (.tmp 53) (.tmp 64) rfl (w.heap.size+4) (Value.slice oV l.length cV) _ _ _ _ _ _ g2 rfl rfl HL5.out HQ5.out HTr.out (by have h1:=HK5.out.size; have h2:=HS0.out; omega) (HLI.out) ?_
               intro o6 k6 wc6 hl6 hg6 hb6
               have HL6:=Lib.hid hl6
               have HX6:=Lib.hid (HL5.out.bk HX5.out (by decide) hg6)
               have HZ6:=Lib.hid (show Bk wc6 _ _ _ from (hg6.block _ (lt_of_heap HZ5.out) (fun e => absurd (HVo.out _ e.symm) (by omega))).trans HZ5.out)
               have HY6:=Lib.hid (Bk.upto HY5.out (by omega) hb6)
               have HK6:=Lib.hid (Kp.upto HK5.out (by have:=HS0.out; omega) hg6.size hb6)
               have HB6:=Lib.hid (HB5.out.trans (hb6.mono (by omega)))
               refine hK.out _ _ (mkS.out _ HX6.out HZ6.out) (fun hj8 => ?_)
               clear hK K hj9
               have hj9:=hj8
               clear hj8
               clear HTr hl6 hg6 hb6
               try simp only [Act.put,pS,p0,p1]
               refine tkH (i:=14) (oi:=⟨some 66,_,_,_,_,_⟩) (v:=?_) rfl (Or.inl ⟨by rfl,by (intro w hSw; (try dsimp only at hSw); go_simp; try with_reducible rfl)⟩) hj9 ?_
               try simp only [Act.put,pS,p0,p1]
               refine wpAnyH_ready (rs:=[15]) (by kernel_rfl) (by simp) ?_
               refine AllReadyH.cons (o:=⟨none,_,_,_,_,_⟩) rfl (fun K hK => ?_) ?_
               ·obtain ⟨⟨y0,y1,y2,y3⟩,z0,z1,z2,z3⟩:=bk4 HY6.out
                go_simp
                have HY7:=Lib.hid (HY6.out.set (i:=3) (.slice o6 (l.length+1) k6))
                have HL7:=Lib.hid (HL6.out.away (q:=w.heap.size+1+1) (by omega) 3 (.slice o6 (l.length+1) k6))
                have HX7:=Lib.hid (HX6.out.away (q:=w.heap.size+1+1) (by omega) 3 (.slice o6 (l.length+1) k6))
                have HZ7:=Lib.hid (HZ6.out.away (q:=w.heap.size+1+1) (by omega) 3 (.slice o6 (l.length+1) k6))
                have HK7:=Lib.hid (HK6.out.set 3 (.slice o6 (l.length+1) k6))
                have HB7:=Lib.hid (HB6.out.setCell (p:=⟨w.heap.size+1+1,3,none⟩) (by show w.heap.size≤w.heap.size+1+1; omega) (.slice o6 (l.length+1) k6))
                refine hK.out _ _ (mkS.out _ HX7.out HZ7.out) (fun hj8 => ?_)
                clear hK K hj9
                have hj9:=hj8
                clear hj8
                clear y0 y1 y2 y3 z0 z1 z2 z3
                try simp only [Act.put,pS,p0,p1]
                generalize (wc6.setCell ⟨w.heap.size+1+1,3,none⟩ (.slice o6 (l.length+1) k6))=wc7 at *
                refine wpAnyH_done (by kernel_rfl) ?_ _
                simp only [Exit.inBlock,Exit.then]
                apply_assumption
                try go_wp2
                exact ⟨⟨i+1,_,by go_num,by omega,HY7,Lib.hid (by rw [← HTK.out]; exact HL7.out),HK7,HB7⟩,by simp [intOf]; omega⟩
               ·exact AllReadyH.nil
              ·exact AllReadyH.nil
             ·exact AllReadyH.nil
            ·exact AllReadyH.nil
           ·refine AllReadyH.cons (o:=⟨some 62,_,_,_,_,_⟩) rfl (fun K hK => ?_) ?_
            ·go_simp
             have hbn:=alloc_below wc3 (.cells #[.int .i64 2,.int .u64 0,.string (x.name),.slice none 0 0,.int .i64 2,.int .u64 0,.string (str x.p.bytes),.slice none 0 0,.int .i64 3,.int .u64 0,.string ⟨#[]⟩,.slice oW nT cW] 81)
             have HX4:=Lib.hid (Bk.later HX3.out hbn)
             have HZ4:=Lib.hid (Bk.later HZ3.out hbn)
             have HY4:=Lib.hid (Bk.later HY3.out hbn)
             have HL4:=Lib.hid (VL.later HL3.out hbn)
             have HK4:=Lib.hid (Kp.later HK3.out hbn)
             have HT4:=Lib.hid (VInP.keep hbn.size (fun b hb' hP => ⟨hbn.block b hb',hP⟩) _ HT3.out)
             have HB4:=Lib.hid (HB3.out.trans (hbn.mono HB3.out.size))
             have HR4:=Lib.hid (show Bk (wc3.alloc (.cells #[.int .i64 2,.int .u64 0,.string (x.name),.slice none 0 0,.int .i64 2,.int .u64 0,.string (str x.p.bytes),.slice none 0 0,.int .i64 3,.int .u64 0,.string ⟨#[]⟩,.slice oW nT cW] 81)) wc3.heap.size _ 81 from heap_alloc_new wc3 _)
             have HG:=Lib.hid (show w.heap.size+4≤wc3.heap.size∧∀ b,(Value.slice oV l.length cV).ownBlock=some b→b≠wc3.heap.size from ⟨by have h1:=HK3.out.size; have h2:=HS0.out; omega,fun b hb => Nat.ne_of_lt (HL3.out.own b hb).2⟩)
             refine hK.out _ _ (mkS.out _ HX4.out HZ4.out) (fun hj8 => ?_)
             clear hK K hj9
             have hj9:=hj8
             clear hj8
             clear hbn
             try simp only [Act.put,pS,p0,p1]
             generalize wc3.alloc (.cells #[.int .i64 2,.int .u64 0,.string (x.name),.slice none 0 0,.int .i64 2,.int .u64 0,.string (str x.p.bytes),.slice none 0 0,.int .i64 3,.int .u64 0,.string ⟨#[]⟩,.slice oW nT cW] 81)=wc4 at *
             generalize wc3.heap.size=g1 at *
             refine tkH (i:=11) (oi:=⟨some 63,_,_,_,_,_⟩) (v:=?_) rfl (Or.inl ⟨by rfl,by (intro w hSw; (try dsimp only at hSw); go_simp; try with_reducible rfl)⟩) hj9 ?_
             try simp only [Act.put,pS,p0,p1]
             refine wpAnyH_ready (rs:=[1,12]) (by kernel_rfl) (by simp) ?_
             refine AllReadyH.cons (o:=⟨some 53,_,_,_,_,_⟩) rfl (fun K hK => ?_) ?_
             ·obtain ⟨⟨y0,y1,y2,y3⟩,z0,z1,z2,z3⟩:=bk4 HY4.out
              go_simp
              refine hK.out _ _ (mkS.out _ HX4.out HZ4.out) (fun hj8 => ?_)
              clear hK K hj9
              have hj9:=hj8
              clear hj8
              clear y0 y1 y2 y3 z0 z1 z2 z3
              try simp only [Act.put,pS,p0,p1]
              refine wpAnyH_ready (rs:=[12]) (by kernel_rfl) (by simp) ?_
              refine AllReadyH.cons (o:=⟨some 64,_,_,_,_,_⟩) rfl (fun K hK => ?_) ?_
              ·go_simp
               have hbn:=alloc_below wc4 (.cells #[.int .i64 3,.int .u64 0,.string ⟨#[]⟩,.slice (some ⟨g1,0,none⟩) 3 3] 81)
               have HX5:=Lib.hid (Bk.later HX4.out hbn)
               have HZ5:=Lib.hid (Bk.later HZ4.out hbn)
               have HY5:=Lib.hid (Bk.later HY4.out hbn)
               have HL5:=Lib.hid (VL.later HL4.out hbn)
               have HK5:=Lib.hid (Kp.later HK4.out hbn)
               have HT5:=Lib.hid (VInP.keep hbn.size (fun b hb' hP => ⟨hbn.block b hb',hP⟩) _ HT4.out)
               have HR5:=Lib.hid (Bk.later HR4.out hbn)
               have HB5:=Lib.hid (HB4.out.trans (hbn.mono HB4.out.size))
               have HQ5:=Lib.hid (show Bk (wc4.alloc (.cells #[.int .i64 3,.int .u64 0,.string ⟨#[]⟩,.slice (some ⟨g1,0,none⟩) 3 3] 81)) wc4.heap.size _ 81 from heap_alloc_new wc4 _)
               refine hK.out _ _ (mkS.out _ HX5.out HZ5.out) (fun hj8 => ?_)
               clear hK K hj9
               have hj9:=hj8
               clear hj8
               clear hbn
               try simp only [Act.put,pS,p0,p1]
               generalize wc4.alloc (.cells #[.int .i64 3,.int .u64 0,.string ⟨#[]⟩,.slice (some ⟨g1,0,none⟩) 3 3] 81)=wc5 at *
               generalize wc4.heap.size=g2 at *
               refine wpAnyH_ready (rs:=[13]) (by kernel_rfl) (by simp) ?_
               refine AllReadyH.cons (o:=⟨some 65,_,_,_,_,_⟩) rfl (fun K hK => ?_) ?_
               ·have HTr:=Lib.hid (show VInP wc5 (fun b => w.heap.size+4≤b∧(Value.slice oV l.length cV).ownBlock≠some b) (rowT [strT x.name,strT (str x.p.bytes),rowT (x.r.map Rt.tr)]) (.int .i64 3) (.int .u64 0) (.string ⟨#[]⟩) (.slice (some ⟨g1,0,none⟩) 3 3) from vin_row (l:=[strT x.name,strT (str x.p.bytes),rowT (x.r.map Rt.tr)]) rfl (by simp) HR5.out ⟨HG.out.1,fun e => HG.out.2 _ e rfl⟩ (fun i hi => by
                 match i,hi with
                 | 0,_ => exact ⟨_,_,_,_,rfl,rfl,rfl,rfl,vin_str _ _ _ HFX.out.1⟩
                 | 1,_ => exact ⟨_,_,_,_,rfl,rfl,rfl,rfl,vin_str _ _ _ (pbytes_size _)⟩
                 | 2,_ => exact ⟨_,_,_,_,rfl,rfl,rfl,rfl,VInP.keep (Nat.le_refl _) (fun b _ hP => ⟨rfl,by omega,fun e => absurd (HVo.out _ e) (by omega)⟩) _ HT5.out⟩))
                refine wp_push (.tmp 53) (.tmp 64) rfl (w.heap.size+4) (Value.slice oV l.length cV) _ _ _ _ _ _ g2 rfl rfl HL5.out HQ5.out HTr.out (by have h1:=HK5.out.size; have h2:=HS0.out; omega) (HLI.out) ?_
                intro o6 k6 wc6 hl6 hg6 hb6
                have HL6:=Lib.hid hl6
                have HX6:=Lib.hid (HL5.out.bk HX5.out (by decide) hg6)
                have HZ6:=Lib.hid (show Bk wc6 _ _ _ from (hg6.block _ (lt_of_heap HZ5.out) (fun e => absurd (HVo.out _ e.symm) (by omega))).trans HZ5.out)
                have HY6:=Lib.hid (Bk.upto HY5.out (by omega) hb6)
                have HK6:=Lib.hid (Kp.upto HK5.out (by have:=HS0.out; omega) hg6.size hb6)
                have HB6:=Lib.hid (HB5.out.trans (hb6.mono (by omega)))
                refine hK.out _ _ (mkS.out _ HX6.out HZ6.out) (fun hj8 => ?_)
                clear hK K hj9
                have hj9:=hj8
                clear hj8
                clear HTr hl6 hg6 hb6
                try simp only [Act.put,pS,p0,p1]
                refine tkH (i:=14) (oi:=⟨some 66,_,_,_,_,_⟩) (v:=?_) rfl (Or.inl ⟨by rfl,by (intro w hSw; (try dsimp only at hSw); go_simp; try with_reducible rfl)⟩) hj9 ?_
                try simp only [Act.put,pS,p0,p1]
                refine wpAnyH_ready (rs:=[15]) (by kernel_rfl) (by simp) ?_
                refine AllReadyH.cons (o:=⟨none,_,_,_,_,_⟩) rfl (fun K hK => ?_) ?_
                ·obtain ⟨⟨y0,y1,y2,y3⟩,z0,z1,z2,z3⟩:=bk4 HY6.out
                 go_simp
                 have HY7:=Lib.hid (HY6.out.set (i:=3) (.slice o6 (l.length+1) k6))
                 have HL7:=Lib.hid (HL6.out.away (q:=w.heap.size+1+1) (by omega) 3 (.slice o6 (l.length+1) k6))
                 have HX7:=Lib.hid (HX6.out.away (q:=w.heap.size+1+1) (by omega) 3 (.slice o6 (l.length+1) k6))
                 have HZ7:=Lib.hid (HZ6.out.away (q:=w.heap.size+1+1) (by omega) 3 (.slice o6 (l.length+1) k6))
                 have HK7:=Lib.hid (HK6.out.set 3 (.slice o6 (l.length+1) k6))
                 have HB7:=Lib.hid (HB6.out.setCell (p:=⟨w.heap.size+1+1,3,none⟩) (by show w.heap.size≤w.heap.size+1+1; omega) (.slice o6 (l.length+1) k6))
                 refine hK.out _ _ (mkS.out _ HX7.out HZ7.out) (fun hj8 => ?_)
                 clear hK K hj9
                 have hj9:=hj8
                 clear hj8
                 clear y0 y1 y2 y3 z0 z1 z2 z3
                 try simp only [Act.put,pS,p0,p1]
                 generalize (wc6.setCell ⟨w.heap.size+1+1,3,none⟩ (.slice o6 (l.length+1) k6))=wc7 at *
                 refine wpAnyH_done (by kernel_rfl) ?_ _
                 simp only [Exit.inBlock,Exit.then]
                 apply_assumption
                 try go_wp2
                 exact ⟨⟨i+1,_,by go_num,by omega,HY7,Lib.hid (by rw [← HTK.out]; exact HL7.out),HK7,HB7⟩,by simp [intOf]; omega⟩
                ·exact AllReadyH.nil
               ·exact AllReadyH.nil
              ·exact AllReadyH.nil
             ·refine AllReadyH.cons (o:=⟨some 64,_,_,_,_,_⟩) rfl (fun K hK => ?_) ?_
              ·go_simp
               have hbn:=alloc_below wc4 (.cells #[.int .i64 3,.int .u64 0,.string ⟨#[]⟩,.slice (some ⟨g1,0,none⟩) 3 3] 81)
               have HX5:=Lib.hid (Bk.later HX4.out hbn)
               have HZ5:=Lib.hid (Bk.later HZ4.out hbn)
               have HY5:=Lib.hid (Bk.later HY4.out hbn)
               have HL5:=Lib.hid (VL.later HL4.out hbn)
               have HK5:=Lib.hid (Kp.later HK4.out hbn)
               have HT5:=Lib.hid (VInP.keep hbn.size (fun b hb' hP => ⟨hbn.block b hb',hP⟩) _ HT4.out)
               have HR5:=Lib.hid (Bk.later HR4.out hbn)
               have HB5:=Lib.hid (HB4.out.trans (hbn.mono HB4.out.size))
               have HQ5:=Lib.hid (show Bk (wc4.alloc (.cells #[.int .i64 3,.int .u64 0,.string ⟨#[]⟩,.slice (some ⟨g1,0,none⟩) 3 3] 81)) wc4.heap.size _ 81 from heap_alloc_new wc4 _)
               refine hK.out _ _ (mkS.out _ HX5.out HZ5.out) (fun hj8 => ?_)
               clear hK K hj9
               have hj9:=hj8
               clear hj8
               clear hbn
               try simp only [Act.put,pS,p0,p1]
               generalize wc4.alloc (.cells #[.int .i64 3,.int .u64 0,.string ⟨#[]⟩,.slice (some ⟨g1,0,none⟩) 3 3] 81)=wc5 at *
               generalize wc4.heap.size=g2 at *
               refine wpAnyH_ready (rs:=[1]) (by kernel_rfl) (by simp) ?_
               refine AllReadyH.cons (o:=⟨some 53,_,_,_,_,_⟩) rfl (fun K hK => ?_) ?_
               ·obtain ⟨⟨y0,y1,y2,y3⟩,z0,z1,z2,z3⟩:=bk4 HY5.out
                go_simp
                refine hK.out _ _ (mkS.out _ HX5.out HZ5.out) (fun hj8 => ?_)
                clear hK K hj9
                have hj9:=hj8
                clear hj8
                clear y0 y1 y2 y3 z0 z1 z2 z3
                try simp only [Act.put,pS,p0,p1]
                refine wpAnyH_ready (rs:=[13]) (by kernel_rfl) (by simp) ?_
                refine AllReadyH.cons (o:=⟨some 65,_,_,_,_,_⟩) rfl (fun K hK => ?_) ?_
                ·have HTr:=Lib.hid (show VInP wc5 (fun b => w.heap.size+4≤b∧(Value.slice oV l.length cV).ownBlock≠some b) (rowT [strT x.name,strT (str x.p.bytes),rowT (x.r.map Rt.tr)]) (.int .i64 3) (.int .u64 0) (.string ⟨#[]⟩) (.slice (some ⟨g1,0,none⟩) 3 3) from vin_row (l:=[strT x.name,strT (str x.p.bytes),rowT (x.r.map Rt.tr)]) rfl (by simp) HR5.out ⟨HG.out.1,fun e => HG.out.2 _ e rfl⟩ (fun i hi => by
                  match i,hi with
                  | 0,_ => exact ⟨_,_,_,_,rfl,rfl,rfl,rfl,vin_str _ _ _ HFX.out.1⟩
                  | 1,_ => exact ⟨_,_,_,_,rfl,rfl,rfl,rfl,vin_str _ _ _ (pbytes_size _)⟩
                  | 2,_ => exact ⟨_,_,_,_,rfl,rfl,rfl,rfl,VInP.keep (Nat.le_refl _) (fun b _ hP => ⟨rfl,by omega,fun e => absurd (HVo.out _ e) (by omega)⟩) _ HT5.out⟩))
                 refine wp_push (.tmp 53) (.tmp 64) rfl (w.heap.size+4) (Value.slice oV l.length cV) _ _ _ _ _ _ g2 rfl rfl HL5.out HQ5.out HTr.out (by have h1:=HK5.out.size; have h2:=HS0.out; omega) (HLI.out) ?_
                 intro o6 k6 wc6 hl6 hg6 hb6
                 have HL6:=Lib.hid hl6
                 have HX6:=Lib.hid (HL5.out.bk HX5.out (by decide) hg6)
                 have HZ6:=Lib.hid (show Bk wc6 _ _ _ from (hg6.block _ (lt_of_heap HZ5.out) (fun e => absurd (HVo.out _ e.symm) (by omega))).trans HZ5.out)
                 have HY6:=Lib.hid (Bk.upto HY5.out (by omega) hb6)
                 have HK6:=Lib.hid (Kp.upto HK5.out (by have:=HS0.out; omega) hg6.size hb6)
                 have HB6:=Lib.hid (HB5.out.trans (hb6.mono (by omega)))
                 refine hK.out _ _ (mkS.out _ HX6.out HZ6.out) (fun hj8 => ?_)
                 clear hK K hj9
                 have hj9:=hj8
                 clear hj8
                 clear HTr hl6 hg6 hb6
                 try simp only [Act.put,pS,p0,p1]
                 refine tkH (i:=14) (oi:=⟨some 66,_,_,_,_,_⟩) (v:=?_) rfl (Or.inl ⟨by rfl,by (intro w hSw; (try dsimp only at hSw); go_simp; try with_reducible rfl)⟩) hj9 ?_
                 try simp only [Act.put,pS,p0,p1]
                 refine wpAnyH_ready (rs:=[15]) (by kernel_rfl) (by simp) ?_
                 refine AllReadyH.cons (o:=⟨none,_,_,_,_,_⟩) rfl (fun K hK => ?_) ?_
                 ·obtain ⟨⟨y0,y1,y2,y3⟩,z0,z1,z2,z3⟩:=bk4 HY6.out
                  go_simp
                  have HY7:=Lib.hid (HY6.out.set (i:=3) (.slice o6 (l.length+1) k6))
                  have HL7:=Lib.hid (HL6.out.away (q:=w.heap.size+1+1) (by omega) 3 (.slice o6 (l.length+1) k6))
                  have HX7:=Lib.hid (HX6.out.away (q:=w.heap.size+1+1) (by omega) 3 (.slice o6 (l.length+1) k6))
                  have HZ7:=Lib.hid (HZ6.out.away (q:=w.heap.size+1+1) (by omega) 3 (.slice o6 (l.length+1) k6))
                  have HK7:=Lib.hid (HK6.out.set 3 (.slice o6 (l.length+1) k6))
                  have HB7:=Lib.hid (HB6.out.setCell (p:=⟨w.heap.size+1+1,3,none⟩) (by show w.heap.size≤w.heap.size+1+1; omega) (.slice o6 (l.length+1) k6))
                  refine hK.out _ _ (mkS.out _ HX7.out HZ7.out) (fun hj8 => ?_)
                  clear hK K hj9
                  have hj9:=hj8
                  clear hj8
                  clear y0 y1 y2 y3 z0 z1 z2 z3
                  try simp only [Act.put,pS,p0,p1]
                  generalize (wc6.setCell ⟨w.heap.size+1+1,3,none⟩ (.slice o6 (l.length+1) k6))=wc7 at *
                  refine wpAnyH_done (by kernel_rfl) ?_ _
                  simp only [Exit.inBlock,Exit.then]
                  apply_assumption
                  try go_wp2
                  exact ⟨⟨i+1,_,by go_num,by omega,HY7,Lib.hid (by rw [← HTK.out]; exact HL7.out),HK7,HB7⟩,by simp [intOf]; omega⟩
                 ·exact AllReadyH.nil
                ·exact AllReadyH.nil
               ·exact AllReadyH.nil
              ·exact AllReadyH.nil
            ·exact AllReadyH.nil
          ·exact AllReadyH.nil
        ·exact AllReadyH.nil
      ·exact AllReadyH.nil
  ·obtain rfl : i=c.l.length:=by omega
   have HLe:=Lib.hid (show VL wo (w.heap.size+4) V (c.l.map Ls.tr) by have h:=HL.out; rwa [List.take_length] at h)
   obtain ⟨oP,cP,rfl⟩:=HLe.out.form
   have HNl : Hid ((c.l.map Ls.tr).length≤1000000):=Lib.hid (by rw [List.length_map]; exact HLEN.out.1)
   have HTl:=Lib.hid (HLe.out.whole HNl.out)
   have HCl:=Lib.hid (HK.out.bk HC0.out (by omega))
   have HDl:=Lib.hid (HK.out.bk HD0.out (by omega))
   have HMl:=Lib.hid (HK.out.bk HM0.out (by omega))
   have HYl:=HY
   have HBl:=HB
   have hgo : w.heap.size+4≤wo.heap.size:=by have h1:=HK.out.size; have h2:=HS0.out; omega
   have hq9 : ¬ ((c.l.length : Int) < (c.l.length : Int)):=by omega
   obtain ⟨u2,_⟩:=bk3f2 HCl.out
   clear HY HL HK HB HLe
   generalize (c.l.map Ls.tr).length=nP at *
   go_wp2
   go_loopw [71] (fun y wz => ∃ (i : Nat) (V : Value),y=.int .i64 i∧i≤c.c.length∧Hid (Bk wz (w.heap.size+1+1+1) #[.int .i64 3,.int .u64 0,.string ⟨#[]⟩,V] 81)∧Hid (VL wz (wo.heap.size) V ((c.c.take i).map Cl.trv))∧Hid (Kp (w.heap.size+1+1+1) wo wz)∧Hid (Below w.heap.size w wz)) (fun y _ => c.c.length - (intOf y).toNat)
   case atStart => exact ⟨0,_,rfl,by omega,HMl,Lib.hid (by rw [List.take_zero]; exact VL.nil _ _),Lib.hid (Kp.refl _ _),HBl⟩
   case round =>
    rename World => wp
    obtain ⟨i,V,rfl,hi,HY,HL,HK,HB⟩:=hrel
    by_cases hlt : i < c.c.length
    ·obtain ⟨_,hsrc⟩:=HS9.out wp HB.out i hlt
     obtain rfl:=HQ9.out (by omega)
     have HTK : Hid ((c.c.take i).map Cl.trv++[Cl.trv c.c[i]]=(c.c.take (i+1)).map Cl.trv):=Lib.hid (by rw [← List.take_append_getElem hlt,List.map_append]; rfl)
     have HLI : Hid (((c.c.take i).map Cl.trv).length≤1000000):=Lib.hid (by rw [List.length_map,List.length_take]; have:=HLEN.out.2.1; omega)
     have HOX:=Lib.hid (HOKC.out _ (List.getElem_mem hlt))
     have HFX:=Lib.hid (HFIT.out.2 _ (List.getElem_mem hlt))
     have q1 : (i : Int) < (c.c.length : Int):=by omega
     have q0 : (c.c.length : Int)≤1000000:=by have:=HLEN.out.2.1; omega
     generalize c.c[i]=x at *
     generalize (c.c.take i).map Cl.trv=l at *
     obtain ⟨oV,cV,rfl⟩:=HL.out.form
     obtain ⟨o2,cap2,B2,f2,h0,h1,ho2,hrl,hel⟩:=hsrc
     have HO2:=Lib.hid ho2
     have HRL:=Lib.hid hrl
     have HEL:=Lib.hid hel
     have hgy : wo.heap.size≤wp.heap.size:=by have h1:=HK.out.size; have h2:=HS0.out; omega
     have HXo:=Lib.hid ((alloc_at (w:=wp) (g:=wp.heap.size) #[.string x.name,.slice o2 x.e.length cap2] 74 rfl).later (alloc_below _ (.cells #[.int .i64 3,.int .u64 0,.string ⟨#[]⟩,.slice none 0 0] 81)))
     have HYo:=Lib.hid (alloc_at (w:=wp.alloc (.cells #[.string x.name,.slice o2 x.e.length cap2] 74)) (g:=wp.heap.size+1) #[.int .i64 3,.int .u64 0,.string ⟨#[]⟩,.slice none 0 0] 81 (by simp))
     have HBo:=Lib.hid (show Below wp.heap.size wp ((wp.alloc (.cells #[.string x.name,.slice o2 x.e.length cap2] 74)).alloc (.cells #[.int .i64 3,.int .u64 0,.string ⟨#[]⟩,.slice none 0 0] 81)) from (alloc_below _ _).trans ((alloc_below _ _).mono (by simp)))
     clear ho2 hrl hel
     have q2 : (x.e.length : Int)≤1000000:=by have:=HRL.out; omega
     go_wp2
     go_loopw [79] (fun y wz => ∃ (j : Nat) (V : Value),y=.int .i64 j∧j≤x.e.length∧Hid (Bk wz (wp.heap.size+1) #[.int .i64 3,.int .u64 0,.string ⟨#[]⟩,V] 81)∧Hid (VL wz (wp.heap.size+2) V ((x.e.take j).map Ep.trv))∧Hid (Below wp.heap.size wp wz)∧Hid (Bk wz wp.heap.size #[.string x.name,.slice o2 x.e.length cap2] 74)) (fun y _ => x.e.length - (intOf y).toNat)
     case atStart => exact ⟨0,_,rfl,by omega,HYo,Lib.hid (by rw [List.take_zero]; exact VL.nil _ _),HBo,HXo⟩
     case round =>
      obtain ⟨j,Vi,rfl,hj,HYi,HLi,HBi,HXi⟩:=hrel
      by_cases hlj : j < x.e.length
      ·obtain rfl:=HO2.out (by omega)
       obtain ⟨e0,e1,e2,e3,e4,e5⟩:=HEL.out _ (HB.out.trans (HBi.out.mono HB.out.size)) j hlj
       have HTJ : Hid ((x.e.take j).map Ep.trv++[Ep.trv x.e[j]]=(x.e.take (j+1)).map Ep.trv):=Lib.hid (by rw [← List.take_append_getElem hlj,List.map_append]; rfl)
       have HNJ : Hid (((x.e.take j).map Ep.trv).length≤1000000):=Lib.hid (by rw [List.length_map,List.length_take]; have:=HRL.out; omega)
       have HRO:=Lib.hid (HOX.out.2 _ (List.getElem_mem hlj))
       have q3 : (j : Int) < (x.e.length : Int):=by omega
       generalize x.e[j]=r at *
       generalize (x.e.take j).map Ep.trv=li at *
       obtain ⟨oW,cW,rfl⟩:=HLi.out.form
       have hge : wp.heap.size+2≤wr.heap.size:=by have:=lt_of_heap HYi.out; omega
       obtain ⟨W1,hW1⟩ : ∃ W1,W1=wr.alloc (.cells #[.int .u8 (r.p.a : Int),.int .u8 (r.p.b : Int),.int .u8 (r.p.c : Int),.int .u8 (r.p.d : Int),.int .u16 (r.p.port : Int),.int .i64 r.w] 77):=⟨_,rfl⟩
       have hb1 : Below wr.heap.size wr W1.drew:=by rw [hW1]; exact (alloc_below _ _).drew
       have HX0 : Hid (Bk W1.drew wr.heap.size #[.int .u8 (r.p.a : Int),.int .u8 (r.p.b : Int),.int .u8 (r.p.c : Int),.int .u8 (r.p.d : Int),.int .u16 (r.p.port : Int),.int .i64 r.w] 77):=Lib.hid (by rw [hW1]; exact alloc_at (w:=wr) _ _ rfl)
       have HY0:=Lib.hid (show Bk W1.drew (wp.heap.size+1) _ 81 from HYi.out.later hb1)
       have HL0:=Lib.hid (show VL W1.drew (wp.heap.size+2) _ li from HLi.out.later hb1)
       have HF0:=Lib.hid (show Bk W1.drew wp.heap.size _ 74 from HXi.out.later hb1)
       have HB0:=Lib.hid (show Below wp.heap.size wp W1.drew from HBi.out.trans (hb1.mono HBi.out.size))
       clear hb1
       go_upto_region 20 with (fail)
       rw [← hW1]
       clear hW1
       have mkS : Hid (∀ wz,Bk wz (wr.heap.size) #[.int .u8 (r.p.a : Int),.int .u8 (r.p.b : Int),.int .u8 (r.p.c : Int),.int .u8 (r.p.d : Int),.int .u16 (r.p.port : Int),.int .i64 r.w] 77→wz.cell? ⟨wr.heap.size,0,none⟩=some (.int .u8 (r.p.a : Int))∧wz.cell? ⟨wr.heap.size,1,none⟩=some (.int .u8 (r.p.b : Int))∧wz.cell? ⟨wr.heap.size,2,none⟩=some (.int .u8 (r.p.c : Int))∧wz.cell? ⟨wr.heap.size,3,none⟩=some (.int .u8 (r.p.d : Int))∧wz.cell? ⟨wr.heap.size,4,none⟩=some (.int .u16 (r.p.port : Int))∧wz.cell? ⟨wr.heap.size,5,none⟩=some (.int .i64 r.w)∧Hid True):=Lib.hid (fun wz h0 => ⟨(cell_of_row _ _ 0 _ _ _ h0).trans rfl,(cell_of_row _ _ 1 _ _ _ h0).trans rfl,(cell_of_row _ _ 2 _ _ _ h0).trans rfl,(cell_of_row _ _ 3 _ _ _ h0).trans rfl,(cell_of_row _ _ 4 _ _ _ h0).trans rfl,(cell_of_row _ _ 5 _ _ _ h0).trans rfl,Lib.hid True.intro⟩)
       refine wp_region_held_drew (S:=fun wz => wz.cell? ⟨wr.heap.size,0,none⟩=some (.int .u8 (r.p.a : Int))∧wz.cell? ⟨wr.heap.size,1,none⟩=some (.int .u8 (r.p.b : Int))∧wz.cell? ⟨wr.heap.size,2,none⟩=some (.int .u8 (r.p.c : Int))∧wz.cell? ⟨wr.heap.size,3,none⟩=some (.int .u8 (r.p.d : Int))∧wz.cell? ⟨wr.heap.size,4,none⟩=some (.int .u16 (r.p.port : Int))∧wz.cell? ⟨wr.heap.size,5,none⟩=some (.int .i64 r.w)∧Hid True) (by kernel_rfl) (mkS.out _ HX0.out) (fun hj9 => ?_)
       generalize W1.drew=wc0 at *
       refine tkH (i:=0) (oi:=⟨some 83,_,_,_,_,_⟩) (v:=?_) rfl (Or.inl ⟨by rfl,by (intro w hSw; (try dsimp only at hSw); go_simp; try with_reducible rfl)⟩) hj9 ?_
       try simp only [Act.put,pS,p0,p1]
       refine tkH (i:=2) (oi:=⟨some 85,_,_,_,_,_⟩) (v:=?_) rfl (Or.inl ⟨by rfl,by (intro w hSw; (try dsimp only at hSw); go_simp; try with_reducible rfl)⟩) hj9 ?_
       try simp only [Act.put,pS,p0,p1]
       refine tkH (i:=3) (oi:=⟨some 86,_,_,_,_,_⟩) (v:=?_) rfl (Or.inl ⟨by rfl,by (intro w hSw; (try dsimp only at hSw); go_simp; try with_reducible rfl)⟩) hj9 ?_
       try simp only [Act.put,pS,p0,p1]
       refine tkH (i:=6) (oi:=⟨some 89,_,_,_,_,_⟩) (v:=?_) rfl (Or.inl ⟨by rfl,by (intro w hSw; (try dsimp only at hSw); go_simp; try with_reducible rfl)⟩) hj9 ?_
       try simp only [Act.put,pS,p0,p1]
       refine tkH (i:=7) (oi:=⟨some 90,_,_,_,_,_⟩) (v:=?_) rfl (Or.inl ⟨by rfl,by (intro w hSw; (try dsimp only at hSw); go_simp; try with_reducible rfl)⟩) hj9 ?_
       try simp only [Act.put,pS,p0,p1]
       refine tkH (i:=8) (oi:=⟨some 91,_,_,_,_,_⟩) (v:=?_) rfl (Or.inl ⟨by rfl,by (intro w hSw; (try dsimp only at hSw); go_simp; try with_reducible rfl)⟩) hj9 ?_
       try simp only [Act.put,pS,p0,p1]
       refine wpAnyH_ready (rs:=[1,4]) (by kernel_rfl) (by simp) ?_
       refine AllReadyH.cons (o:=⟨some 84,_,_,_,_,_⟩) rfl (fun K hK => ?_) ?_
       ·obtain ⟨⟨y0,y1,y2,y3⟩,z0,z1,z2,z3⟩:=bk4 HY0.out
        go_simp
        refine hK.out _ _ (mkS.out _ HX0.out) (fun hj8 => ?_)
        clear hK K hj9
        have hj9:=hj8
        clear hj8
        clear y0 y1 y2 y3 z0 z1 z2 z3
        try simp only [Act.put,pS,p0,p1]
        refine wpAnyH_ready (rs:=[4]) (by kernel_rfl) (by simp) ?_
        refine AllReadyH.cons (o:=⟨some 87,_,_,_,_,_⟩) rfl (fun K hK => ?_) ?_
        ·go_simp
         refine (rplace_any _ HRO.out.1 _).mono ?_
         rintro ze wc1 ⟨rfl,hbn⟩
         try go_simp
         have HX1:=Lib.hid (Bk.later HX0.out hbn)
         have HY1:=Lib.hid (Bk.later HY0.out hbn)
         have HL1:=Lib.hid (VL.later HL0.out hbn)
         have HF1:=Lib.hid (Bk.later HF0.out hbn)
         have HB1:=Lib.hid (HB0.out.trans (hbn.mono HB0.out.size))
         refine hK.out _ _ (mkS.out _ HX1.out) (fun hj8 => ?_)
         clear hK K hj9
         have hj9:=hj8
         clear hj8
         clear hbn
         try simp only [Act.put,pS,p0,p1]
         refine wpAnyH_ready (rs:=[5]) (by kernel_rfl) (by simp) ?_
         refine AllReadyH.cons (o:=⟨some 88,_,_,_,_,_⟩) rfl (fun K hK => ?_) ?_
         ·go_simp
          refine (rtext_any _ _).mono ?_
          rintro ze wc2 ⟨rfl,hbn⟩
          try go_simp
          have HX2:=Lib.hid (Bk.later HX1.out hbn)
          have HY2:=Lib.hid (Bk.later HY1.out hbn)
          have HL2:=Lib.hid (VL.later HL1.out hbn)
          have HF2:=Lib.hid (Bk.later HF1.out hbn)
          have HB2:=Lib.hid (HB1.out.trans (hbn.mono HB1.out.size))
          refine hK.out _ _ (mkS.out _ HX2.out) (fun hj8 => ?_)
          clear hK K hj9
          have hj9:=hj8
          clear hj8
          clear hbn
          try simp only [Act.put,pS,p0,p1]
          refine wpAnyH_ready (rs:=[9]) (by kernel_rfl) (by simp) ?_
          refine AllReadyH.cons (o:=⟨some 92,_,_,_,_,_⟩) rfl (fun K hK => ?_) ?_
          ·go_simp
           refine (rnum_any _ _).mono ?_
           rintro ze wc3 ⟨rfl,hbn⟩
           try go_simp
           have HX3:=Lib.hid (Bk.later HX2.out hbn)
           have HY3:=Lib.hid (Bk.later HY2.out hbn)
           have HL3:=Lib.hid (VL.later HL2.out hbn)
           have HF3:=Lib.hid (Bk.later HF2.out hbn)
           have HB3:=Lib.hid (HB2.out.trans (hbn.mono HB2.out.size))
           refine hK.out _ _ (mkS.out _ HX3.out) (fun hj8 => ?_)
           clear hK K hj9
           have hj9:=hj8
           clear hj8
           clear hbn
           try simp only [Act.put,pS,p0,p1]
           refine wpAnyH_ready (rs:=[10]) (by kernel_rfl) (by simp) ?_
           refine AllReadyH.cons (o:=⟨some 93,_,_,_,_,_⟩) rfl (fun K hK => ?_) ?_
           ·go_simp
            have hbn:=alloc_below wc3 (.cells #[.int .i64 2,.int .u64 0,.string (str r.p.bytes),.slice none 0 0,.int .i64 1,.int .u64 (IntKind.u64.wrap r.w),.string ⟨#[]⟩,.slice none 0 0] 81)
            have HX4:=Lib.hid (Bk.later HX3.out hbn)
            have HY4:=Lib.hid (Bk.later HY3.out hbn)
            have HL4:=Lib.hid (VL.later HL3.out hbn)
            have HF4:=Lib.hid (Bk.later HF3.out hbn)
            have HB4:=Lib.hid (HB3.out.trans (hbn.mono HB3.out.size))
            have HR4:=Lib.hid (show Bk (wc3.alloc (.cells #[.int .i64 2,.int .u64 0,.string (str r.p.bytes),.slice none 0 0,.int .i64 1,.int .u64 (IntKind.u64.wrap r.w),.string ⟨#[]⟩,.slice none 0 0] 81)) wc3.heap.size _ 81 from heap_alloc_new wc3 _)
            have HG:=Lib.hid (show wp.heap.size+2≤wc3.heap.size∧∀ b,(Value.slice oW li.length cW).ownBlock=some b→b≠wc3.heap.size from ⟨by have:=lt_of_heap HY3.out; omega,fun b hb => Nat.ne_of_lt (HL3.out.own b hb).2⟩)
            refine hK.out _ _ (mkS.out _ HX4.out) (fun hj8 => ?_)
            clear hK K hj9
            have hj9:=hj8
            clear hj8
            clear hbn
            try simp only [Act.put,pS,p0,p1]
            generalize wc3.alloc (.cells #[.int .i64 2,.int .u64 0,.string (str r.p.bytes),.slice none 0 0,.int .i64 1,.int .u64 (IntKind.u64.wrap r.w),.string ⟨#[]⟩,.slice none 0 0] 81)=wc4 at *
            generalize wc3.heap.size=g1 at *
            refine tkH (i:=11) (oi:=⟨some 94,_,_,_,_,_⟩) (v:=?_) rfl (Or.inl ⟨by rfl,by (intro w hSw; (try dsimp only at hSw); go_simp; try with_reducible rfl)⟩) hj9 ?_
            try simp only [Act.put,pS,p0,p1]
            refine wpAnyH_ready (rs:=[12]) (by kernel_rfl) (by simp) ?_
            refine AllReadyH.cons (o:=⟨some 95,_,_,_,_,_⟩) rfl (fun K hK => ?_) ?_
            ·go_simp
             have hbn:=alloc_below wc4 (.cells #[.int .i64 3,.int .u64 0,.string ⟨#[]⟩,.slice (some ⟨g1,0,none⟩) 2 2] 81)
             have HX5:=Lib.hid (Bk.later HX4.out hbn)
             have HY5:=Lib.hid (Bk.later HY4.out hbn)
             have HL5:=Lib.hid (VL.later HL4.out hbn)
             have HF5:=Lib.hid (Bk.later HF4.out hbn)
             have HR5:=Lib.hid (Bk.later HR4.out hbn)
             have HB5:=Lib.hid (HB4.out.trans (hbn.mono HB4.out.size))
             have HQ5:=Lib.hid (show Bk (wc4.alloc (.cells #[.int .i64 3,.int .u64 0,.string ⟨#[]⟩,.slice (some ⟨g1,0,none⟩) 2 2] 81)) wc4.heap.size _ 81 from heap_alloc_new wc4 _)
             refine hK.out _ _ (mkS.out _ HX5.out) (fun hj8 => ?_)
             clear hK K hj9
             have hj9:=hj8
             clear hj8
             clear hbn
             try simp only [Act.put,pS,p0,p1]
             generalize wc4.alloc (.cells #[.int .i64 3,.int .u64 0,.string ⟨#[]⟩,.slice (some ⟨g1,0,none⟩) 2 2] 81)=wc5 at *
             generalize wc4.heap.size=g2 at *
             refine wpAnyH_ready (rs:=[13]) (by kernel_rfl) (by simp) ?_
             refine AllReadyH.cons (o:=⟨some 96,_,_,_,_,_⟩) rfl (fun K hK => ?_) ?_
             ·have HTr:=Lib.hid (show VInP wc5 (fun b => wp.heap.size+2≤b∧(Value.slice oW li.length cW).ownBlock≠some b) (rowT [strT (str r.p.bytes),numT r.u]) (.int .i64 3) (.int .u64 0) (.string ⟨#[]⟩) (.slice (some ⟨g1,0,none⟩) 2 2) from vin_row (l:=[strT (str r.p.bytes),numT r.u]) rfl (by simp) HR5.out ⟨HG.out.1,fun e => HG.out.2 _ e rfl⟩ (fun i hi => by
               match i,hi with
               | 0,_ => exact ⟨_,_,_,_,rfl,rfl,rfl,rfl,vin_str _ _ _ (pbytes_size _)⟩
               | 1,_ => exact ⟨_,_,_,_,rfl,rfl,rfl,rfl,vin_u _ _ r⟩))
              refine wp_push (.tmp 84) (.tmp 95) rfl (wp.heap.size+2) (Value.slice oW li.length cW) _ _ _ _ _ _ g2 rfl rfl HL5.out HQ5.out HTr.out (by have:=lt_of_heap HY5.out; omega) (HNJ.out) ?_
              intro o6 k6 wc6 hl6 hg6 hb6
              have HL6:=Lib.hid hl6
              have HX6:=Lib.hid (HL5.out.bk HX5.out (by decide) hg6)
              have HY6:=Lib.hid (Bk.upto HY5.out (by omega) hb6)
              have HF6:=Lib.hid (HL5.out.bk HF5.out (by decide) hg6)
              have HB6:=Lib.hid (HB5.out.trans (hb6.mono (by omega)))
              refine hK.out _ _ (mkS.out _ HX6.out) (fun hj8 => ?_)
              clear hK K hj9
              have hj9:=hj8
              clear hj8
              clear HTr hl6 hg6 hb6
              try simp only [Act.put,pS,p0,p1]
              refine tkH (i:=14) (oi:=⟨some 97,_,_,_,_,_⟩) (v:=?_) rfl (Or.inl ⟨by rfl,by (intro w hSw; (try dsimp only at hSw); go_simp; try with_reducible rfl)⟩) hj9 ?_
              try simp only [Act.put,pS,p0,p1]
              refine wpAnyH_ready (rs:=[15]) (by kernel_rfl) (by simp) ?_
              refine AllReadyH.cons (o:=⟨none,_,_,_,_,_⟩) rfl (fun K hK => ?_) ?_
              ·obtain ⟨⟨y0,y1,y2,y3⟩,z0,z1,z2,z3⟩:=bk4 HY6.out
               go_simp
               have HY7:=Lib.hid (HY6.out.set (i:=3) (.slice o6 (li.length+1) k6))
               have HL7:=Lib.hid (HL6.out.away (q:=wp.heap.size+1) (by omega) 3 (.slice o6 (li.length+1) k6))
               have HX7:=Lib.hid (HX6.out.away (q:=wp.heap.size+1) (by omega) 3 (.slice o6 (li.length+1) k6))
               have HF7:=Lib.hid (HF6.out.away (q:=wp.heap.size+1) (by omega) 3 (.slice o6 (li.length+1) k6))
               have HB7:=Lib.hid (HB6.out.setCell (p:=⟨wp.heap.size+1,3,none⟩) (by show wp.heap.size≤wp.heap.size+1; omega) (.slice o6 (li.length+1) k6))
               refine hK.out _ _ (mkS.out _ HX7.out) (fun hj8 => ?_)
               clear hK K hj9
               have hj9:=hj8
               clear hj8
               clear y0 y1 y2 y3 z0 z1 z2 z3
               try simp only [Act.put,pS,p0,p1]
               generalize (wc6.setCell ⟨wp.heap.size+1,3,none⟩ (.slice o6 (li.length+1) k6))=wc7 at *
               refine wpAnyH_done (by kernel_rfl) ?_ _
               simp only [Exit.inBlock,Exit.then]
               apply_assumption
               try go_wp2
               exact ⟨⟨j+1,_,by go_num,by omega,HY7,Lib.hid (by rw [← HTJ.out]; exact HL7.out),HB7,HF7⟩,by simp [intOf]; omega⟩
              ·exact AllReadyH.nil
             ·exact AllReadyH.nil
            ·exact AllReadyH.nil
           ·exact AllReadyH.nil
          ·exact AllReadyH.nil
         ·exact AllReadyH.nil
        ·exact AllReadyH.nil
       ·refine AllReadyH.cons (o:=⟨some 87,_,_,_,_,_⟩) rfl (fun K hK => ?_) ?_
        ·go_simp
         refine (rplace_any _ HRO.out.1 _).mono ?_
         rintro ze wc1 ⟨rfl,hbn⟩
         try go_simp
         have HX1:=Lib.hid (Bk.later HX0.out hbn)
         have HY1:=Lib.hid (Bk.later HY0.out hbn)
         have HL1:=Lib.hid (VL.later HL0.out hbn)
         have HF1:=Lib.hid (Bk.later HF0.out hbn)
         have HB1:=Lib.hid (HB0.out.trans (hbn.mono HB0.out.size))
         refine hK.out _ _ (mkS.out _ HX1.out) (fun hj8 => ?_)
         clear hK K hj9
         have hj9:=hj8
         clear hj8
         clear hbn
         try simp only [Act.put,pS,p0,p1]
         refine wpAnyH_ready (rs:=[1,5]) (by kernel_rfl) (by simp) ?_
         refine AllReadyH.cons (o:=⟨some 84,_,_,_,_,_⟩) rfl (fun K hK => ?_) ?_
         ·obtain ⟨⟨y0,y1,y2,y3⟩,z0,z1,z2,z3⟩:=bk4 HY1.out
          go_simp
          refine hK.out _ _ (mkS.out _ HX1.out) (fun hj8 => ?_)
          clear hK K hj9
          have hj9:=hj8
          clear hj8
          clear y0 y1 y2 y3 z0 z1 z2 z3
          try simp only [Act.put,pS,p0,p1]
          refine wpAnyH_ready (rs:=[5]) (by kernel_rfl) (by simp) ?_
          refine AllReadyH.cons (o:=⟨some 88,_,_,_,_,_⟩) rfl (fun K hK => ?_) ?_
          ·go_simp
           refine (rtext_any _ _).mono ?_
           rintro ze wc2 ⟨rfl,hbn⟩
           try go_simp
           have HX2:=Lib.hid (Bk.later HX1.out hbn)
           have HY2:=Lib.hid (Bk.later HY1.out hbn)
           have HL2:=Lib.hid (VL.later HL1.out hbn)
           have HF2:=Lib.hid (Bk.later HF1.out hbn)
           have HB2:=Lib.hid (HB1.out.trans (hbn.mono HB1.out.size))
           refine hK.out _ _ (mkS.out _ HX2.out) (fun hj8 => ?_)
           clear hK K hj9
           have hj9:=hj8
           clear hj8
           clear hbn
           try simp only [Act.put,pS,p0,p1]
           refine wpAnyH_ready (rs:=[9]) (by kernel_rfl) (by simp) ?_
           refine AllReadyH.cons (o:=⟨some 92,_,_,_,_,_⟩) rfl (fun K hK => ?_) ?_
           ·go_simp
            refine (rnum_any _ _).mono ?_
            rintro ze wc3 ⟨rfl,hbn⟩
            try go_simp
            have HX3:=Lib.hid (Bk.later HX2.out hbn)
            have HY3:=Lib.hid (Bk.later HY2.out hbn)
            have HL3:=Lib.hid (VL.later HL2.out hbn)
            have HF3:=Lib.hid (Bk.later HF2.out hbn)
            have HB3:=Lib.hid (HB2.out.trans (hbn.mono HB2.out.size))
            refine hK.out _ _ (mkS.out _ HX3.out) (fun hj8 => ?_)
            clear hK K hj9
            have hj9:=hj8
            clear hj8
            clear hbn
            try simp only [Act.put,pS,p0,p1]
            refine wpAnyH_ready (rs:=[10]) (by kernel_rfl) (by simp) ?_
            refine AllReadyH.cons (o:=⟨some 93,_,_,_,_,_⟩) rfl (fun K hK => ?_) ?_
            ·go_simp
             have hbn:=alloc_below wc3 (.cells #[.int .i64 2,.int .u64 0,.string (str r.p.bytes),.slice none 0 0,.int .i64 1,.int .u64 (IntKind.u64.wrap r.w),.string ⟨#[]⟩,.slice none 0 0] 81)
             have HX4:=Lib.hid (Bk.later HX3.out hbn)
             have HY4:=Lib.hid (Bk.later HY3.out hbn)
             have HL4:=Lib.hid (VL.later HL3.out hbn)
             have HF4:=Lib.hid (Bk.later HF3.out hbn)
             have HB4:=Lib.hid (HB3.out.trans (hbn.mono HB3.out.size))
             have HR4:=Lib.hid (show Bk (wc3.alloc (.cells #[.int .i64 2,.int .u64 0,.string (str r.p.bytes),.slice none 0 0,.int .i64 1,.int .u64 (IntKind.u64.wrap r.w),.string ⟨#[]⟩,.slice none 0 0] 81)) wc3.heap.size _ 81 from heap_alloc_new wc3 _)
             have HG:=Lib.hid (show wp.heap.size+2≤wc3.heap.size∧∀ b,(Value.slice oW li.length cW).ownBlock=some b→b≠wc3.heap.size from ⟨by have:=lt_of_heap HY3.out; omega,fun b hb => Nat.ne_of_lt (HL3.out.own b hb).2⟩)
             refine hK.out _ _ (mkS.out _ HX4.out) (fun hj8 => ?_)
             clear hK K hj9
             have hj9:=hj8
             clear hj8
             clear hbn
             try simp only [Act.put,pS,p0,p1]
             generalize wc3.alloc (.cells #[.int .i64 2,.int .u64 0,.string (str r.p.bytes),.slice none 0 0,.int .i64 1,.int .u64 (IntKind.u64.wrap r.w),.string ⟨#[]⟩,.slice none 0 0] 81)=wc4 at *
             generalize wc3.heap.size=g1 at *
             refine tkH (i:=11) (oi:=⟨some 94,_,_,_,_,_⟩) (v:=?_) rfl (Or.inl ⟨by rfl,by (intro w hSw; (try dsimp only at hSw); go_simp; try with_reducible rfl)⟩) hj9 ?_
             try simp only [Act.put,pS,p0,p1]
             refine wpAnyH_ready (rs:=[12]) (by kernel_rfl) (by simp) ?_
             refine AllReadyH.cons (o:=⟨some 95,_,_,_,_,_⟩) rfl (fun K hK => ?_) ?_
             ·go_simp
              have hbn:=alloc_below wc4 (.cells #[.int .i64 3,.int .u64 0,.string ⟨#[]⟩,.slice (some ⟨g1,0,none⟩) 2 2] 81)
              have HX5:=Lib.hid (Bk.later HX4.out hbn)
              have HY5:=Lib.hid (Bk.later HY4.out hbn)
              have HL5:=Lib.hid (VL.later HL4.out hbn)
              have HF5:=Lib.hid (Bk.later HF4.out hbn)
              have HR5:=Lib.hid (Bk.later HR4.out hbn)
              have HB5:=Lib.hid (HB4.out.trans (hbn.mono HB4.out.size))
              have HQ5:=Lib.hid (show Bk (wc4.alloc (.cells #[.int .i64 3,.int .u64 0,.string ⟨#[]⟩,.slice (some ⟨g1,0,none⟩) 2 2] 81)) wc4.heap.size _ 81 from heap_alloc_new wc4 _)
              refine hK.out _ _ (mkS.out _ HX5.out) (fun hj8 => ?_)
              clear hK K hj9
              have hj9:=hj8
              clear hj8
              clear hbn
              try simp only [Act.put,pS,p0,p1]
              generalize wc4.alloc (.cells #[.int .i64 3,.int .u64 0,.string ⟨#[]⟩,.slice (some ⟨g1,0,none⟩) 2 2] 81)=wc5 at *
              generalize wc4.heap.size=g2 at *
              refine wpAnyH_ready (rs:=[13]) (by kernel_rfl) (by simp) ?_
              refine AllReadyH.cons (o:=⟨some 96,_,_,_,_,_⟩) rfl (fun K hK => ?_) ?_
              ·have HTr:=Lib.hid (show VInP wc5 (fun b => wp.heap.size+2≤b∧(Value.slice oW li.length cW).ownBlock≠some b) (rowT [strT (str r.p.bytes),numT r.u]) (.int .i64 3) (.int .u64 0) (.string ⟨#[]⟩) (.slice (some ⟨g1,0,none⟩) 2 2) from vin_row (l:=[strT (str r.p.bytes),numT r.u]) rfl (by simp) HR5.out ⟨HG.out.1,fun e => HG.out.2 _ e rfl⟩ (fun i hi => by
                match i,hi with
                | 0,_ => exact ⟨_,_,_,_,rfl,rfl,rfl,rfl,vin_str _ _ _ (pbytes_size _)⟩
                | 1,_ => exact ⟨_,_,_,_,rfl,rfl,rfl,rfl,vin_u _ _ r⟩))
               refine wp_push (.tmp 84) (.tmp 95) rfl (wp.heap.size+2) (Value.slice oW li.length cW) _ _ _ _ _ _ g2 rfl rfl HL5.out HQ5.out HTr.out (by have:=lt_of_heap HY5.out; omega) (HNJ.out) ?_
               intro o6 k6 wc6 hl6 hg6 hb6
               have HL6:=Lib.hid hl6
               have HX6:=Lib.hid (HL5.out.bk HX5.out (by decide) hg6)
               have HY6:=Lib.hid (Bk.upto HY5.out (by omega) hb6)
               have HF6:=Lib.hid (HL5.out.bk HF5.out (by decide) hg6)
               have HB6:=Lib.hid (HB5.out.trans (hb6.mono (by omega)))
               refine hK.out _ _ (mkS.out _ HX6.out) (fun hj8 => ?_)
               clear hK K hj9
               have hj9:=hj8
               clear hj8
               clear HTr hl6 hg6 hb6
               try simp only [Act.put,pS,p0,p1]
               refine tkH (i:=14) (oi:=⟨some 97,_,_,_,_,_⟩) (v:=?_) rfl (Or.inl ⟨by rfl,by (intro w hSw; (try dsimp only at hSw); go_simp; try with_reducible rfl)⟩) hj9 ?_
               try simp only [Act.put,pS,p0,p1]
               refine wpAnyH_ready (rs:=[15]) (by kernel_rfl) (by simp) ?_
               refine AllReadyH.cons (o:=⟨none,_,_,_,_,_⟩) rfl (fun K hK => ?_) ?_
               ·obtain ⟨⟨y0,y1,y2,y3⟩,z0,z1,z2,z3⟩:=bk4 HY6.out
                go_simp
                have HY7:=Lib.hid (HY6.out.set (i:=3) (.slice o6 (li.length+1) k6))
                have HL7:=Lib.hid (HL6.out.away (q:=wp.heap.size+1) (by omega) 3 (.slice o6 (li.length+1) k6))
                have HX7:=Lib.hid (HX6.out.away (q:=wp.heap.size+1) (by omega) 3 (.slice o6 (li.length+1) k6))
                have HF7:=Lib.hid (HF6.out.away (q:=wp.heap.size+1) (by omega) 3 (.slice o6 (li.length+1) k6))
                have HB7:=Lib.hid (HB6.out.setCell (p:=⟨wp.heap.size+1,3,none⟩) (by show wp.heap.size≤wp.heap.size+1; omega) (.slice o6 (li.length+1) k6))
                refine hK.out _ _ (mkS.out _ HX7.out) (fun hj8 => ?_)
                clear hK K hj9
                have hj9:=hj8
                clear hj8
                clear y0 y1 y2 y3 z0 z1 z2 z3
                try simp only [Act.put,pS,p0,p1]
                generalize (wc6.setCell ⟨wp.heap.size+1,3,none⟩ (.slice o6 (li.length+1) k6))=wc7 at *
                refine wpAnyH_done (by kernel_rfl) ?_ _
                simp only [Exit.inBlock,Exit.then]
                apply_assumption
                try go_wp2
                exact ⟨⟨j+1,_,by go_num,by omega,HY7,Lib.hid (by rw [← HTJ.out]; exact HL7.out),HB7,HF7⟩,by simp [intOf]; omega⟩
               ·exact AllReadyH.nil
              ·exact AllReadyH.nil
             ·exact AllReadyH.nil
            ·exact AllReadyH.nil
           ·exact AllReadyH.nil
          ·exact AllReadyH.nil
         ·refine AllReadyH.cons (o:=⟨some 88,_,_,_,_,_⟩) rfl (fun K hK => ?_) ?_
          ·go_simp
           refine (rtext_any _ _).mono ?_
           rintro ze wc2 ⟨rfl,hbn⟩
           try go_simp
           have HX2:=Lib.hid (Bk.later HX1.out hbn)
           have HY2:=Lib.hid (Bk.later HY1.out hbn)
           have HL2:=Lib.hid (VL.later HL1.out hbn)
           have HF2:=Lib.hid (Bk.later HF1.out hbn)
           have HB2:=Lib.hid (HB1.out.trans (hbn.mono HB1.out.size))
           refine hK.out _ _ (mkS.out _ HX2.out) (fun hj8 => ?_)
           clear hK K hj9
           have hj9:=hj8
           clear hj8
           clear hbn
           try simp only [Act.put,pS,p0,p1]
           refine wpAnyH_ready (rs:=[1,9]) (by kernel_rfl) (by simp) ?_
           refine AllReadyH.cons (o:=⟨some 84,_,_,_,_,_⟩) rfl (fun K hK => ?_) ?_
           ·obtain ⟨⟨y0,y1,y2,y3⟩,z0,z1,z2,z3⟩:=bk4 HY2.out
            go_simp
            refine hK.out _ _ (mkS.out _ HX2.out) (fun hj8 => ?_)
            clear hK K hj9
            have hj9:=hj8
            clear hj8
            clear y0 y1 y2 y3 z0 z1 z2 z3
            try simp only [Act.put,pS,p0,p1]
            refine wpAnyH_ready (rs:=[9]) (by kernel_rfl) (by simp) ?_
            refine AllReadyH.cons (o:=⟨some 92,_,_,_,_,_⟩) rfl (fun K hK => ?_) ?_
            ·go_simp
             refine (rnum_any _ _).mono ?_
             rintro ze wc3 ⟨rfl,hbn⟩
             try go_simp
             have HX3:=Lib.hid (Bk.later HX2.out hbn)
             have HY3:=Lib.hid (Bk.later HY2.out hbn)
             have HL3:=Lib.hid (VL.later HL2.out hbn)
             have HF3:=Lib.hid (Bk.later HF2.out hbn)
             have HB3:=Lib.hid (HB2.out.trans (hbn.mono HB2.out.size))
             refine hK.out _ _ (mkS.out _ HX3.out) (fun hj8 => ?_)
             clear hK K hj9
             have hj9:=hj8
             clear hj8
             clear hbn
             try simp only [Act.put,pS,p0,p1]
             refine wpAnyH_ready (rs:=[10]) (by kernel_rfl) (by simp) ?_
             refine AllReadyH.cons (o:=⟨some 93,_,_,_,_,_⟩) rfl (fun K hK => ?_) ?_
             ·go_simp
              have hbn:=alloc_below wc3 (.cells #[.int .i64 2,.int .u64 0,.string (str r.p.bytes),.slice none 0 0,.int .i64 1,.int .u64 (IntKind.u64.wrap r.w),.string ⟨#[]⟩,.slice none 0 0] 81)
              have HX4:=Lib.hid (Bk.later HX3.out hbn)
              have HY4:=Lib.hid (Bk.later HY3.out hbn)
              have HL4:=Lib.hid (VL.later HL3.out hbn)
              have HF4:=Lib.hid (Bk.later HF3.out hbn)
              have HB4:=Lib.hid (HB3.out.trans (hbn.mono HB3.out.size))
              have HR4:=Lib.hid (show Bk (wc3.alloc (.cells #[.int .i64 2,.int .u64 0,.string (str r.p.bytes),.slice none 0 0,.int .i64 1,.int .u64 (IntKind.u64.wrap r.w),.string ⟨#[]⟩,.slice none 0 0] 81)) wc3.heap.size _ 81 from heap_alloc_new wc3 _)
              have HG:=Lib.hid (show wp.heap.size+2≤wc3.heap.size∧∀ b,(Value.slice oW li.length cW).ownBlock=some b→b≠wc3.heap.size from ⟨by have:=lt_of_heap HY3.out; omega,fun b hb => Nat.ne_of_lt (HL3.out.own b hb).2⟩)
              refine hK.out _ _ (mkS.out _ HX4.out) (fun hj8 => ?_)
              clear hK K hj9
              have hj9:=hj8
              clear hj8
              clear hbn
              try simp only [Act.put,pS,p0,p1]
              generalize wc3.alloc (.cells #[.int .i64 2,.int .u64 0,.string (str r.p.bytes),.slice none 0 0,.int .i64 1,.int .u64 (IntKind.u64.wrap r.w),.string ⟨#[]⟩,.slice none 0 0] 81)=wc4 at *
              generalize wc3.heap.size=g1 at *
              refine tkH (i:=11) (oi:=⟨some 94,_,_,_,_,_⟩) (v:=?_) rfl (Or.inl ⟨by rfl,by (intro w hSw; (try dsimp only at hSw); go_simp; try with_reducible rfl)⟩) hj9 ?_
              try simp only [Act.put,pS,p0,p1]
              refine wpAnyH_ready (rs:=[12]) (by kernel_rfl) (by simp) ?_
              refine AllReadyH.cons (o:=⟨some 95,_,_,_,_,_⟩) rfl (fun K hK => ?_) ?_
              ·go_simp
               have hbn:=alloc_below wc4 (.cells #[.int .i64 3,.int .u64 0,.string ⟨#[]⟩,.slice (some ⟨g1,0,none⟩) 2 2] 81)
               have HX5:=Lib.hid (Bk.later HX4.out hbn)
               have HY5:=Lib.hid (Bk.later HY4.out hbn)
               have HL5:=Lib.hid (VL.later HL4.out hbn)
               have HF5:=Lib.hid (Bk.later HF4.out hbn)
               have HR5:=Lib.hid (Bk.later HR4.out hbn)
               have HB5:=Lib.hid (HB4.out.trans (hbn.mono HB4.out.size))
               have HQ5:=Lib.hid (show Bk (wc4.alloc (.cells #[.int .i64 3,.int .u64 0,.string ⟨#[]⟩,.slice (some ⟨g1,0,none⟩) 2 2] 81)) wc4.heap.size _ 81 from heap_alloc_new wc4 _)
               refine hK.out _ _ (mkS.out _ HX5.out) (fun hj8 => ?_)
               clear hK K hj9
               have hj9:=hj8
               clear hj8
               clear hbn
               try simp only [Act.put,pS,p0,p1]
               generalize wc4.alloc (.cells #[.int .i64 3,.int .u64 0,.string ⟨#[]⟩,.slice (some ⟨g1,0,none⟩) 2 2] 81)=wc5 at *
               generalize wc4.heap.size=g2 at *
               refine wpAnyH_ready (rs:=[13]) (by kernel_rfl) (by simp) ?_
               refine AllReadyH.cons (o:=⟨some 96,_,_,_,_,_⟩) rfl (fun K hK => ?_) ?_
               ·have HTr:=Lib.hid (show VInP wc5 (fun b => wp.heap.size+2≤b∧(Value.slice oW li.length cW).ownBlock≠some b) (rowT [strT (str r.p.bytes),numT r.u]) (.int .i64 3) (.int .u64 0) (.string ⟨#[]⟩) (.slice (some ⟨g1,0,none⟩) 2 2) from vin_row (l:=[strT (str r.p.bytes),numT r.u]) rfl (by simp) HR5.out ⟨HG.out.1,fun e => HG.out.2 _ e rfl⟩ (fun i hi => by
                 match i,hi with
                 | 0,_ => exact ⟨_,_,_,_,rfl,rfl,rfl,rfl,vin_str _ _ _ (pbytes_size _)⟩
                 | 1,_ => exact ⟨_,_,_,_,rfl,rfl,rfl,rfl,vin_u _ _ r⟩))
                refine wp_push (.tmp 84) (.tmp 95) rfl (wp.heap.size+2) (Value.slice oW li.length cW) _ _ _ _ _ _ g2 rfl rfl HL5.out HQ5.out HTr.out (by have:=lt_of_heap HY5.out; omega) (HNJ.out) ?_
                intro o6 k6 wc6 hl6 hg6 hb6
                have HL6:=Lib.hid hl6
                have HX6:=Lib.hid (HL5.out.bk HX5.out (by decide) hg6)
                have HY6:=Lib.hid (Bk.upto HY5.out (by omega) hb6)
                have HF6:=Lib.hid (HL5.out.bk HF5.out (by decide) hg6)
                have HB6:=Lib.hid (HB5.out.trans (hb6.mono (by omega)))
                refine hK.out _ _ (mkS.out _ HX6.out) (fun hj8 => ?_)
                clear hK K hj9
                have hj9:=hj8
                clear hj8
                clear HTr hl6 hg6 hb6
                try simp only [Act.put,pS,p0,p1]
                refine tkH (i:=14) (oi:=⟨some 97,_,_,_,_,_⟩) (v:=?_) rfl (Or.inl ⟨by rfl,by (intro w hSw; (try dsimp only at hSw); go_simp; try with_reducible rfl)⟩) hj9 ?_
                try simp only [Act.put,pS,p0,p1]
                refine wpAnyH_ready (rs:=[15]) (by kernel_rfl) (by simp) ?_
                refine AllReadyH.cons (o:=⟨none,_,_,_,_,_⟩) rfl (fun K hK => ?_) ?_
                ·obtain ⟨⟨y0,y1,y2,y3⟩,z0,z1,z2,z3⟩:=bk4 HY6.out
                 go_simp
                 have HY7:=Lib.hid (HY6.out.set (i:=3) (.slice o6 (li.length+1) k6))
                 have HL7:=Lib.hid (HL6.out.away (q:=wp.heap.size+1) (by omega) 3 (.slice o6 (li.length+1) k6))
                 have HX7:=Lib.hid (HX6.out.away (q:=wp.heap.size+1) (by omega) 3 (.slice o6 (li.length+1) k6))
                 have HF7:=Lib.hid (HF6.out.away (q:=wp.heap.size+1) (by omega) 3 (.slice o6 (li.length+1) k6))
                 have HB7:=Lib.hid (HB6.out.setCell (p:=⟨wp.heap.size+1,3,none⟩) (by show wp.heap.size≤wp.heap.size+1; omega) (.slice o6 (li.length+1) k6))
                 refine hK.out _ _ (mkS.out _ HX7.out) (fun hj8 => ?_)
                 clear hK K hj9
                 have hj9:=hj8
                 clear hj8
                 clear y0 y1 y2 y3 z0 z1 z2 z3
                 try simp only [Act.put,pS,p0,p1]
                 generalize (wc6.setCell ⟨wp.heap.size+1,3,none⟩ (.slice o6 (li.length+1) k6))=wc7 at *
                 refine wpAnyH_done (by kernel_rfl) ?_ _
                 simp only [Exit.inBlock,Exit.then]
                 apply_assumption
                 try go_wp2
                 exact ⟨⟨j+1,_,by go_num,by omega,HY7,Lib.hid (by rw [← HTJ.out]; exact HL7.out),HB7,HF7⟩,by simp [intOf]; omega⟩
                ·exact AllReadyH.nil
               ·exact AllReadyH.nil
              ·exact AllReadyH.nil
             ·exact AllReadyH.nil
            ·exact AllReadyH.nil
           ·refine AllReadyH.cons (o:=⟨some 92,_,_,_,_,_⟩) rfl (fun K hK => ?_) ?_
            ·go_simp
             refine (rnum_any _ _).mono ?_
             rintro ze wc3 ⟨rfl,hbn⟩
             try go_simp
             have HX3:=Lib.hid (Bk.later HX2.out hbn)
             have HY3:=Lib.hid (Bk.later HY2.out hbn)
             have HL3:=Lib.hid (VL.later HL2.out hbn)
             have HF3:=Lib.hid (Bk.later HF2.out hbn)
             have HB3:=Lib.hid (HB2.out.trans (hbn.mono HB2.out.size))
             refine hK.out _ _ (mkS.out _ HX3.out) (fun hj8 => ?_)
             clear hK K hj9
             have hj9:=hj8
             clear hj8
             clear hbn
             try simp only [Act.put,pS,p0,p1]
             refine wpAnyH_ready (rs:=[1,10]) (by kernel_rfl) (by simp) ?_
             refine AllReadyH.cons (o:=⟨some 84,_,_,_,_,_⟩) rfl (fun K hK => ?_) ?_
             ·obtain ⟨⟨y0,y1,y2,y3⟩,z0,z1,z2,z3⟩:=bk4 HY3.out
              go_simp
              refine hK.out _ _ (mkS.out _ HX3.out) (fun hj8 => ?_)
              clear hK K hj9
              have hj9:=hj8
              clear hj8
              clear y0 y1 y2 y3 z0 z1 z2 z3
              try simp only [Act.put,pS,p0,p1]
              refine wpAnyH_ready (rs:=[10]) (by kernel_rfl) (by simp) ?_
              refine AllReadyH.cons (o:=⟨some 93,_,_,_,_,_⟩) rfl (fun K hK => ?_) ?_
              ·go_simp
               have hbn:=alloc_below wc3 (.cells #[.int .i64 2,.int .u64 0,.string (str r.p.bytes),.slice none 0 0,.int .i64 1,.int .u64 (IntKind.u64.wrap r.w),.string ⟨#[]⟩,.slice none 0 0] 81)
               have HX4:=Lib.hid (Bk.later HX3.out hbn)
               have HY4:=Lib.hid (Bk.later HY3.out hbn)
               have HL4:=Lib.hid (VL.later HL3.out hbn)
               have HF4:=Lib.hid (Bk.later HF3.out hbn)
               have HB4:=Lib.hid (HB3.out.trans (hbn.mono HB3.out.size))
               have HR4:=Lib.hid (show Bk (wc3.alloc (.cells #[.int .i64 2,.int .u64 0,.string (str r.p.bytes),.slice none 0 0,.int .i64 1,.int .u64 (IntKind.u64.wrap r.w),.string ⟨#[]⟩,.slice none 0 0] 81)) wc3.heap.size _ 81 from heap_alloc_new wc3 _)
               have HG:=Lib.hid (show wp.heap.size+2≤wc3.heap.size∧∀ b,(Value.slice oW li.length cW).ownBlock=some b→b≠wc3.heap.size from ⟨by have:=lt_of_heap HY3.out; omega,fun b hb => Nat.ne_of_lt (HL3.out.own b hb).2⟩)
               refine hK.out _ _ (mkS.out _ HX4.out) (fun hj8 => ?_)
               clear hK K hj9
               have hj9:=hj8
               clear hj8
               clear hbn
               try simp only [Act.put,pS,p0,p1]
               generalize wc3.alloc (.cells #[.int .i64 2,.int .u64 0,.string (str r.p.bytes),.slice none 0 0,.int .i64 1,.int .u64 (IntKind.u64.wrap r.w),.string ⟨#[]⟩,.slice none 0 0] 81)=wc4 at *
               generalize wc3.heap.size=g1 at *
               refine tkH (i:=11) (oi:=⟨some 94,_,_,_,_,_⟩) (v:=?_) rfl (Or.inl ⟨by rfl,by (intro w hSw; (try dsimp only at hSw); go_simp; try with_reducible rfl)⟩) hj9 ?_
               try simp only [Act.put,pS,p0,p1]
               refine wpAnyH_ready (rs:=[12]) (by kernel_rfl) (by simp) ?_
               refine AllReadyH.cons (o:=⟨some 95,_,_,_,_,_⟩) rfl (fun K hK => ?_) ?_
               ·go_simp
                have hbn:=alloc_below wc4 (.cells #[.int .i64 3,.int .u64 0,.string ⟨#[]⟩,.slice (some ⟨g1,0,none⟩) 2 2] 81)
                have HX5:=Lib.hid (Bk.later HX4.out hbn)
                have HY5:=Lib.hid (Bk.later HY4.out hbn)
                have HL5:=Lib.hid (VL.later HL4.out hbn)
                have HF5:=Lib.hid (Bk.later HF4.out hbn)
                have HR5:=Lib.hid (Bk.later HR4.out hbn)
                have HB5:=Lib.hid (HB4.out.trans (hbn.mono HB4.out.size))
                have HQ5:=Lib.hid (show Bk (wc4.alloc (.cells #[.int .i64 3,.int .u64 0,.string ⟨#[]⟩,.slice (some ⟨g1,0,none⟩) 2 2] 81)) wc4.heap.size _ 81 from heap_alloc_new wc4 _)
                refine hK.out _ _ (mkS.out _ HX5.out) (fun hj8 => ?_)
                clear hK K hj9
                have hj9:=hj8
                clear hj8
                clear hbn
                try simp only [Act.put,pS,p0,p1]
                generalize wc4.alloc (.cells #[.int .i64 3,.int .u64 0,.string ⟨#[]⟩,.slice (some ⟨g1,0,none⟩) 2 2] 81)=wc5 at *
                generalize wc4.heap.size=g2 at *
                refine wpAnyH_ready (rs:=[13]) (by kernel_rfl) (by simp) ?_
                refine AllReadyH.cons (o:=⟨some 96,_,_,_,_,_⟩) rfl (fun K hK => ?_) ?_
                ·have HTr:=Lib.hid (show VInP wc5 (fun b => wp.heap.size+2≤b∧(Value.slice oW li.length cW).ownBlock≠some b) (rowT [strT (str r.p.bytes),numT r.u]) (.int .i64 3) (.int .u64 0) (.string ⟨#[]⟩) (.slice (some ⟨g1,0,none⟩) 2 2) from vin_row (l:=[strT (str r.p.bytes),numT r.u]) rfl (by simp) HR5.out ⟨HG.out.1,fun e => HG.out.2 _ e rfl⟩ (fun i hi => by
                  match i,hi with
                  | 0,_ => exact ⟨_,_,_,_,rfl,rfl,rfl,rfl,vin_str _ _ _ (pbytes_size _)⟩
                  | 1,_ => exact ⟨_,_,_,_,rfl,rfl,rfl,rfl,vin_u _ _ r⟩))
                 refine wp_push (.tmp 84) (.tmp 95) rfl (wp.heap.size+2) (Value.slice oW li.length cW) _ _ _ _ _ _ g2 rfl rfl HL5.out HQ5.out HTr.out (by have:=lt_of_heap HY5.out; omega) (HNJ.out) ?_
                 intro o6 k6 wc6 hl6 hg6 hb6
                 have HL6:=Lib.hid hl6
                 have HX6:=Lib.hid (HL5.out.bk HX5.out (by decide) hg6)
                 have HY6:=Lib.hid (Bk.upto HY5.out (by omega) hb6)
                 have HF6:=Lib.hid (HL5.out.bk HF5.out (by decide) hg6)
                 have HB6:=Lib.hid (HB5.out.trans (hb6.mono (by omega)))
                 refine hK.out _ _ (mkS.out _ HX6.out) (fun hj8 => ?_)
                 clear hK K hj9
                 have hj9:=hj8
                 clear hj8
                 clear HTr hl6 hg6 hb6
                 try simp only [Act.put,pS,p0,p1]
                 refine tkH (i:=14) (oi:=⟨some 97,_,_,_,_,_⟩) (v:=?_) rfl (Or.inl ⟨by rfl,by (intro w hSw; (try dsimp only at hSw); go_simp; try with_reducible rfl)⟩) hj9 ?_
                 try simp only [Act.put,pS,p0,p1]
                 refine wpAnyH_ready (rs:=[15]) (by kernel_rfl) (by simp) ?_
                 refine AllReadyH.cons (o:=⟨none,_,_,_,_,_⟩) rfl (fun K hK => ?_) ?_
                 ·obtain ⟨⟨y0,y1,y2,y3⟩,z0,z1,z2,z3⟩:=bk4 HY6.out
                  go_simp
                  have HY7:=Lib.hid (HY6.out.set (i:=3) (.slice o6 (li.length+1) k6))
                  have HL7:=Lib.hid (HL6.out.away (q:=wp.heap.size+1) (by omega) 3 (.slice o6 (li.length+1) k6))
                  have HX7:=Lib.hid (HX6.out.away (q:=wp.heap.size+1) (by omega) 3 (.slice o6 (li.length+1) k6))
                  have HF7:=Lib.hid (HF6.out.away (q:=wp.heap.size+1) (by omega) 3 (.slice o6 (li.length+1) k6))
                  have HB7:=Lib.hid (HB6.out.setCell (p:=⟨wp.heap.size+1,3,none⟩) (by show wp.heap.size≤wp.heap.size+1; omega) (.slice o6 (li.length+1) k6))
                  refine hK.out _ _ (mkS.out _ HX7.out) (fun hj8 => ?_)
                  clear hK K hj9
                  have hj9:=hj8
                  clear hj8
                  clear y0 y1 y2 y3 z0 z1 z2 z3
                  try simp only [Act.put,pS,p0,p1]
                  generalize (wc6.setCell ⟨wp.heap.size+1,3,none⟩ (.slice o6 (li.length+1) k6))=wc7 at *
                  refine wpAnyH_done (by kernel_rfl) ?_ _
                  simp only [Exit.inBlock,Exit.then]
                  apply_assumption
                  try go_wp2
                  exact ⟨⟨j+1,_,by go_num,by omega,HY7,Lib.hid (by rw [← HTJ.out]; exact HL7.out),HB7,HF7⟩,by simp [intOf]; omega⟩
                 ·exact AllReadyH.nil
                ·exact AllReadyH.nil
               ·exact AllReadyH.nil
              ·exact AllReadyH.nil
             ·refine AllReadyH.cons (o:=⟨some 93,_,_,_,_,_⟩) rfl (fun K hK => ?_) ?_
              ·go_simp
               have hbn:=alloc_below wc3 (.cells #[.int .i64 2,.int .u64 0,.string (str r.p.bytes),.slice none 0 0,.int .i64 1,.int .u64 (IntKind.u64.wrap r.w),.string ⟨#[]⟩,.slice none 0 0] 81)
               have HX4:=Lib.hid (Bk.later HX3.out hbn)
               have HY4:=Lib.hid (Bk.later HY3.out hbn)
               have HL4:=Lib.hid (VL.later HL3.out hbn)
               have HF4:=Lib.hid (Bk.later HF3.out hbn)
               have HB4:=Lib.hid (HB3.out.trans (hbn.mono HB3.out.size))
               have HR4:=Lib.hid (show Bk (wc3.alloc (.cells #[.int .i64 2,.int .u64 0,.string (str r.p.bytes),.slice none 0 0,.int .i64 1,.int .u64 (IntKind.u64.wrap r.w),.string ⟨#[]⟩,.slice none 0 0] 81)) wc3.heap.size _ 81 from heap_alloc_new wc3 _)
               have HG:=Lib.hid (show wp.heap.size+2≤wc3.heap.size∧∀ b,(Value.slice oW li.length cW).ownBlock=some b→b≠wc3.heap.size from ⟨by have:=lt_of_heap HY3.out; omega,fun b hb => Nat.ne_of_lt (HL3.out.own b hb).2⟩)
               refine hK.out _ _ (mkS.out _ HX4.out) (fun hj8 => ?_)
               clear hK K hj9
               have hj9:=hj8
               clear hj8
               clear hbn
               try simp only [Act.put,pS,p0,p1]
               generalize wc3.alloc (.cells #[.int .i64 2,.int .u64 0,.string (str r.p.bytes),.slice none 0 0,.int .i64 1,.int .u64 (IntKind.u64.wrap r.w),.string ⟨#[]⟩,.slice none 0 0] 81)=wc4 at *
               generalize wc3.heap.size=g1 at *
               refine tkH (i:=11) (oi:=⟨some 94,_,_,_,_,_⟩) (v:=?_) rfl (Or.inl ⟨by rfl,by (intro w hSw; (try dsimp only at hSw); go_simp; try with_reducible rfl)⟩) hj9 ?_
               try simp only [Act.put,pS,p0,p1]
               refine wpAnyH_ready (rs:=[1,12]) (by kernel_rfl) (by simp) ?_
               refine AllReadyH.cons (o:=⟨some 84,_,_,_,_,_⟩) rfl (fun K hK => ?_) ?_
               ·obtain ⟨⟨y0,y1,y2,y3⟩,z0,z1,z2,z3⟩:=bk4 HY4.out
                go_simp
                refine hK.out _ _ (mkS.out _ HX4.out) (fun hj8 => ?_)
                clear hK K hj9
                have hj9:=hj8
                clear hj8
                clear y0 y1 y2 y3 z0 z1 z2 z3
                try simp only [Act.put,pS,p0,p1]
                refine wpAnyH_ready (rs:=[12]) (by kernel_rfl) (by simp) ?_
                refine AllReadyH.cons (o:=⟨some 95,_,_,_,_,_⟩) rfl (fun K hK => ?_) ?_
                ·go_simp
                 have hbn:=alloc_below wc4 (.cells #[.int .i64 3,.int .u64 0,.string ⟨#[]⟩,.slice (some ⟨g1,0,none⟩) 2 2] 81)
                 have HX5:=Lib.hid (Bk.later HX4.out hbn)
                 have HY5:=Lib.hid (Bk.later HY4.out hbn)
                 have HL5:=Lib.hid (VL.later HL4.out hbn)
                 have HF5:=Lib.hid (Bk.later HF4.out hbn)
                 have HR5:=Lib.hid (Bk.later HR4.out hbn)
                 have HB5:=Lib.hid (HB4.out.trans (hbn.mono HB4.out.size))
                 have HQ5:=Lib.hid (show Bk (wc4.alloc (.cells #[.int .i64 3,.int .u64 0,.string ⟨#[]⟩,.slice (some ⟨g1,0,none⟩) 2 2] 81)) wc4.heap.size _ 81 from heap_alloc_new wc4 _)
                 refine hK.out _ _ (mkS.out _ HX5.out) (fun hj8 => ?_)
                 clear hK K hj9
                 have hj9:=hj8
                 clear hj8
                 clear hbn
                 try simp only [Act.put,pS,p0,p1]
                 generalize wc4.alloc (.cells #[.int .i64 3,.int .u64 0,.string ⟨#[]⟩,.slice (some ⟨g1,0,none⟩) 2 2] 81)=wc5 at *
                 generalize wc4.heap.size=g2 at *
                 refine wpAnyH_ready (rs:=[13]) (by kernel_rfl) (by simp) ?_
                 refine AllReadyH.cons (o:=⟨some 96,_,_,_,_,_⟩) rfl (fun K hK => ?_) ?_
                 ·have HTr:=Lib.hid (show VInP wc5 (fun b => wp.heap.size+2≤b∧(Value.slice oW li.length cW).ownBlock≠some b) (rowT [strT (str r.p.bytes),numT r.u]) (.int .i64 3) (.int .u64 0) (.string ⟨#[]⟩) (.slice (some ⟨g1,0,none⟩) 2 2) from vin_row (l:=[strT (str r.p.bytes),numT r.u]) rfl (by simp) HR5.out ⟨HG.out.1,fun e => HG.out.2 _ e rfl⟩ (fun i hi => by
                   match i,hi with
                   | 0,_ => exact ⟨_,_,_,_,rfl,rfl,rfl,rfl,vin_str _ _ _ (pbytes_size _)⟩
                   | 1,_ => exact ⟨_,_,_,_,rfl,rfl,rfl,rfl,vin_u _ _ r⟩))
                  refine wp_push (.tmp 84) (.tmp 95) rfl (wp.heap.size+2) (Value.slice oW li.length cW) _ _ _ _ _ _ g2 rfl rfl HL5.out HQ5.out HTr.out (by have:=lt_of_heap HY5.out; omega) (HNJ.out) ?_
                  intro o6 k6 wc6 hl6 hg6 hb6
                  have HL6:=Lib.hid hl6
                  have HX6:=Lib.hid (HL5.out.bk HX5.out (by decide) hg6)
                  have HY6:=Lib.hid (Bk.upto HY5.out (by omega) hb6)
                  have HF6:=Lib.hid (HL5.out.bk HF5.out (by decide) hg6)
                  have HB6:=Lib.hid (HB5.out.trans (hb6.mono (by omega)))
                  refine hK.out _ _ (mkS.out _ HX6.out) (fun hj8 => ?_)
                  clear hK K hj9
                  have hj9:=hj8
                  clear hj8
                  clear HTr hl6 hg6 hb6
                  try simp only [Act.put,pS,p0,p1]
                  refine tkH (i:=14) (oi:=⟨some 97,_,_,_,_,_⟩) (v:=?_) rfl (Or.inl ⟨by rfl,by (intro w hSw; (try dsimp only at hSw); go_simp; try with_reducible rfl)⟩) hj9 ?_
                  try simp only [Act.put,pS,p0,p1]
                  refine wpAnyH_ready (rs:=[15]) (by kernel_rfl) (by simp) ?_
                  refine AllReadyH.cons (o:=⟨none,_,_,_,_,_⟩) rfl (fun K hK => ?_) ?_
                  ·obtain ⟨⟨y0,y1,y2,y3⟩,z0,z1,z2,z3⟩:=bk4 HY6.out
                   go_simp
                   have HY7:=Lib.hid (HY6.out.set (i:=3) (.slice o6 (li.length+1) k6))
                   have HL7:=Lib.hid (HL6.out.away (q:=wp.heap.size+1) (by omega) 3 (.slice o6 (li.length+1) k6))
                   have HX7:=Lib.hid (HX6.out.away (q:=wp.heap.size+1) (by omega) 3 (.slice o6 (li.length+1) k6))
                   have HF7:=Lib.hid (HF6.out.away (q:=wp.heap.size+1) (by omega) 3 (.slice o6 (li.length+1) k6))
                   have HB7:=Lib.hid (HB6.out.setCell (p:=⟨wp.heap.size+1,3,none⟩) (by show wp.heap.size≤wp.heap.size+1; omega) (.slice o6 (li.length+1) k6))
                   refine hK.out _ _ (mkS.out _ HX7.out) (fun hj8 => ?_)
                   clear hK K hj9
                   have hj9:=hj8
                   clear hj8
                   clear y0 y1 y2 y3 z0 z1 z2 z3
                   try simp only [Act.put,pS,p0,p1]
                   generalize (wc6.setCell ⟨wp.heap.size+1,3,none⟩ (.slice o6 (li.length+1) k6))=wc7 at *
                   refine wpAnyH_done (by kernel_rfl) ?_ _
                   simp only [Exit.inBlock,Exit.then]
                   apply_assumption
                   try go_wp2
                   exact ⟨⟨j+1,_,by go_num,by omega,HY7,Lib.hid (by rw [← HTJ.out]; exact HL7.out),HB7,HF7⟩,by simp [intOf]; omega⟩
                  ·exact AllReadyH.nil
                 ·exact AllReadyH.nil
                ·exact AllReadyH.nil
               ·refine AllReadyH.cons (o:=⟨some 95,_,_,_,_,_⟩) rfl (fun K hK => ?_) ?_
                ·go_simp
                 have hbn:=alloc_below wc4 (.cells #[.int .i64 3,.int .u64 0,.string ⟨#[]⟩,.slice (some ⟨g1,0,none⟩) 2 2] 81)
                 have HX5:=Lib.hid (Bk.later HX4.out hbn)
                 have HY5:=Lib.hid (Bk.later HY4.out hbn)
                 have HL5:=Lib.hid (VL.later HL4.out hbn)
                 have HF5:=Lib.hid (Bk.later HF4.out hbn)
                 have HR5:=Lib.hid (Bk.later HR4.out hbn)
                 have HB5:=Lib.hid (HB4.out.trans (hbn.mono HB4.out.size))
                 have HQ5:=Lib.hid (show Bk (wc4.alloc (.cells #[.int .i64 3,.int .u64 0,.string ⟨#[]⟩,.slice (some ⟨g1,0,none⟩) 2 2] 81)) wc4.heap.size _ 81 from heap_alloc_new wc4 _)
                 refine hK.out _ _ (mkS.out _ HX5.out) (fun hj8 => ?_)
                 clear hK K hj9
                 have hj9:=hj8
                 clear hj8
                 clear hbn
                 try simp only [Act.put,pS,p0,p1]
                 generalize wc4.alloc (.cells #[.int .i64 3,.int .u64 0,.string ⟨#[]⟩,.slice (some ⟨g1,0,none⟩) 2 2] 81)=wc5 at *
                 generalize wc4.heap.size=g2 at *
                 refine wpAnyH_ready (rs:=[1]) (by kernel_rfl) (by simp) ?_
                 refine AllReadyH.cons (o:=⟨some 84,_,_,_,_,_⟩) rfl (fun K hK => ?_) ?_
                 ·obtain ⟨⟨y0,y1,y2,y3⟩,z0,z1,z2,z3⟩:=bk4 HY5.out
                  go_simp
                  refine hK.out _ _ (mkS.out _ HX5.out) (fun hj8 => ?_)
                  clear hK K hj9
                  have hj9:=hj8
                  clear hj8
                  clear y0 y1 y2 y3 z0 z1 z2 z3
                  try simp only [Act.put,pS,p0,p1]
                  refine wpAnyH_ready (rs:=[13]) (by kernel_rfl) (by simp) ?_
                  refine AllReadyH.cons (o:=⟨some 96,_,_,_,_,_⟩) rfl (fun K hK => ?_) ?_
                  ·have HTr:=Lib.hid (show VInP wc5 (fun b => wp.heap.size+2≤b∧(Value.slice oW li.length cW).ownBlock≠some b) (rowT [strT (str r.p.bytes),numT r.u]) (.int .i64 3) (.int .u64 0) (.string ⟨#[]⟩) (.slice (some ⟨g1,0,none⟩) 2 2) from vin_row (l:=[strT (str r.p.bytes),numT r.u]) rfl (by simp) HR5.out ⟨HG.out.1,fun e => HG.out.2 _ e rfl⟩ (fun i hi => by
                    match i,hi with
                    | 0,_ => exact ⟨_,_,_,_,rfl,rfl,rfl,rfl,vin_str _ _ _ (pbytes_size _)⟩
                    | 1,_ => exact ⟨_,_,_,_,rfl,rfl,rfl,rfl,vin_u _ _ r⟩))
                   refine wp_push (.tmp 84) (.tmp 95) rfl (wp.heap.size+2) (Value.slice oW li.length cW) _ _ _ _ _ _ g2 rfl rfl HL5.out HQ5.out HTr.out (by have:=lt_of_heap HY5.out; omega) (HNJ.out) ?_
                   intro o6 k6 wc6 hl6 hg6 hb6
                   have HL6:=Lib.hid hl6
                   have HX6:=Lib.hid (HL5.out.bk HX5.out (by decide) hg6)
                   have HY6:=Lib.hid (Bk.upto HY5.out (by omega) hb6)
                   have HF6:=Lib.hid (HL5.out.bk HF5.out (by decide) hg6)
                   have HB6:=Lib.hid (HB5.out.trans (hb6.mono (by omega)))
                   refine hK.out _ _ (mkS.out _ HX6.out) (fun hj8 => ?_)
                   clear hK K hj9
                   have hj9:=hj8
                   clear hj8
                   clear HTr hl6 hg6 hb6
                   try simp only [Act.put,pS,p0,p1]
                   refine tkH (i:=14) (oi:=⟨some 97,_,_,_,_,_⟩) (v:=?_) rfl (Or.inl ⟨by rfl,by (intro w hSw; (try dsimp only at hSw); go_simp; try with_reducible rfl)⟩) hj9 ?_
                   try simp only [Act.put,pS,p0,p1]
                   refine wpAnyH_ready (rs:=[15]) (by kernel_rfl) (by simp) ?_
                   refine AllReadyH.cons (o:=⟨none,_,_,_,_,_⟩) rfl (fun K hK => ?_) ?_
                   ·obtain ⟨⟨y0,y1,y2,y3⟩,z0,z1,z2,z3⟩:=bk4 HY6.out
                    go_simp
                    have HY7:=Lib.hid (HY6.out.set (i:=3) (.slice o6 (li.length+1) k6))
                    have HL7:=Lib.hid (HL6.out.away (q:=wp.heap.size+1) (by omega) 3 (.slice o6 (li.length+1) k6))
                    have HX7:=Lib.hid (HX6.out.away (q:=wp.heap.size+1) (by omega) 3 (.slice o6 (li.length+1) k6))
                    have HF7:=Lib.hid (HF6.out.away (q:=wp.heap.size+1) (by omega) 3 (.slice o6 (li.length+1) k6))
                    have HB7:=Lib.hid (HB6.out.setCell (p:=⟨wp.heap.size+1,3,none⟩) (by show wp.heap.size≤wp.heap.size+1; omega) (.slice o6 (li.length+1) k6))
                    refine hK.out _ _ (mkS.out _ HX7.out) (fun hj8 => ?_)
                    clear hK K hj9
                    have hj9:=hj8
                    clear hj8
                    clear y0 y1 y2 y3 z0 z1 z2 z3
                    try simp only [Act.put,pS,p0,p1]
                    generalize (wc6.setCell ⟨wp.heap.size+1,3,none⟩ (.slice o6 (li.length+1) k6))=wc7 at *
                    refine wpAnyH_done (by kernel_rfl) ?_ _
                    simp only [Exit.inBlock,Exit.then]
                    apply_assumption
                    try go_wp2
                    exact ⟨⟨j+1,_,by go_num,by omega,HY7,Lib.hid (by rw [← HTJ.out]; exact HL7.out),HB7,HF7⟩,by simp [intOf]; omega⟩
                   ·exact AllReadyH.nil
                  ·exact AllReadyH.nil
                 ·exact AllReadyH.nil
                ·exact AllReadyH.nil
              ·exact AllReadyH.nil
            ·exact AllReadyH.nil
          ·exact AllReadyH.nil
        ·exact AllReadyH.nil
      ·obtain rfl : j=x.e.length:=by omega
       have HLe:=Lib.hid (show VL wr (wp.heap.size+2) Vi (x.e.map Ep.trv) by have h:=HLi.out; rwa [List.take_length] at h)
       obtain ⟨oW,cW,rfl⟩:=HLe.out.form
       have hq3 : ¬ ((x.e.length : Int) < (x.e.length : Int)):=by omega
       have HNE : Hid ((x.e.map Ep.trv).length≤1000000):=Lib.hid (by rw [List.length_map]; exact HRL.out)
       have HVo : Hid (∀ b,(Value.slice oV l.length cV).ownBlock=some b→b < wp.heap.size):=Lib.hid (fun b hb => (HL.out.own b hb).2)
       have hb1 : Below wr.heap.size wr wr.drew:=(Below.refl _ _).drew
       have HX0:=Lib.hid (show Bk wr.drew wp.heap.size _ 74 from HXi.out.later hb1)
       have HZ0:=Lib.hid (show Bk wr.drew (wp.heap.size+1) _ 81 from HYi.out.later hb1)
       have HY0:=Lib.hid (show Bk wr.drew (w.heap.size+1+1+1) _ 81 from (HY.out.later HBi.out).later hb1)
       have HL0:=Lib.hid (show VL wr.drew (wo.heap.size) _ l from (HL.out.later HBi.out).later hb1)
       have HK0:=Lib.hid (show Kp (w.heap.size+1+1+1) wo wr.drew from (HK.out.later HBi.out).later hb1)
       have HT0:=Lib.hid (show VInP wr.drew (fun b => wp.heap.size+2≤b) (rowT (x.e.map Ep.trv)) _ _ _ _ from (HLe.out.later hb1).whole HNE.out)
       have HB0:=Lib.hid (show Below w.heap.size w wr.drew from (HB.out.trans (HBi.out.mono HB.out.size)).trans (hb1.mono (Nat.le_trans HB.out.size HBi.out.size)))
       clear hb1
       generalize (x.e.map Ep.trv).length=nT at *
       go_upto_region 22 with (fail)
       have mkS : Hid (∀ wz,Bk wz (wp.heap.size) #[.string x.name,.slice o2 x.e.length cap2] 74→Bk wz (wp.heap.size+1) #[.int .i64 3,.int .u64 0,.string ⟨#[]⟩,.slice oW nT cW] 81→wz.cell? ⟨wp.heap.size,0,none⟩=some (.string x.name)∧wz.cell? ⟨wp.heap.size,1,none⟩=some (.slice o2 x.e.length cap2)∧wz.cell? ⟨wp.heap.size+1,0,none⟩=some (.int .i64 3)∧wz.cell? ⟨wp.heap.size+1,1,none⟩=some (.int .u64 0)∧wz.cell? ⟨wp.heap.size+1,2,none⟩=some (.string ⟨#[]⟩)∧wz.cell? ⟨wp.heap.size+1,3,none⟩=some (.slice oW nT cW)∧Hid True):=Lib.hid (fun wz h0 h1 => ⟨(cell_of_row _ _ 0 _ _ _ h0).trans rfl,(cell_of_row _ _ 1 _ _ _ h0).trans rfl,(cell_of_row _ _ 0 _ _ _ h1).trans rfl,(cell_of_row _ _ 1 _ _ _ h1).trans rfl,(cell_of_row _ _ 2 _ _ _ h1).trans rfl,(cell_of_row _ _ 3 _ _ _ h1).trans rfl,Lib.hid True.intro⟩)
       refine wp_region_held_drew (S:=fun wz => wz.cell? ⟨wp.heap.size,0,none⟩=some (.string x.name)∧wz.cell? ⟨wp.heap.size,1,none⟩=some (.slice o2 x.e.length cap2)∧wz.cell? ⟨wp.heap.size+1,0,none⟩=some (.int .i64 3)∧wz.cell? ⟨wp.heap.size+1,1,none⟩=some (.int .u64 0)∧wz.cell? ⟨wp.heap.size+1,2,none⟩=some (.string ⟨#[]⟩)∧wz.cell? ⟨wp.heap.size+1,3,none⟩=some (.slice oW nT cW)∧Hid True) (by kernel_rfl) (mkS.out _ HX0.out HZ0.out) (fun hj9 => ?_)
       generalize wr.drew=wc0 at *
       refine tkH (i:=0) (oi:=⟨some 99,_,_,_,_,_⟩) (v:=?_) rfl (Or.inl ⟨by rfl,by (intro w hSw; (try dsimp only at hSw); go_simp; try with_reducible rfl)⟩) hj9 ?_
       try simp only [Act.put,pS,p0,p1]
       refine tkH (i:=2) (oi:=⟨some 101,_,_,_,_,_⟩) (v:=?_) rfl (Or.inl ⟨by rfl,by (intro w hSw; (try dsimp only at hSw); go_simp; try with_reducible rfl)⟩) hj9 ?_
       try simp only [Act.put,pS,p0,p1]
       refine tkH (i:=3) (oi:=⟨some 102,_,_,_,_,_⟩) (v:=?_) rfl (Or.inl ⟨by rfl,by (intro w hSw; (try dsimp only at hSw); go_simp; try with_reducible rfl)⟩) hj9 ?_
       try simp only [Act.put,pS,p0,p1]
       refine tkH (i:=5) (oi:=⟨some 104,_,_,_,_,_⟩) (v:=?_) rfl (Or.inl ⟨by rfl,by (intro w hSw; (try dsimp only at hSw); go_simp; try with_reducible rfl)⟩) hj9 ?_
       try simp only [Act.put,pS,p0,p1]
       refine wpAnyH_ready (rs:=[1,4]) (by kernel_rfl) (by simp) ?_
       refine AllReadyH.cons (o:=⟨some 100,_,_,_,_,_⟩) rfl (fun K hK => ?_) ?_
       ·obtain ⟨⟨y0,y1,y2,y3⟩,z0,z1,z2,z3⟩:=bk4 HY0.out
        go_simp
        refine hK.out _ _ (mkS.out _ HX0.out HZ0.out) (fun hj8 => ?_)
        clear hK K hj9
        have hj9:=hj8
        clear hj8
        clear y0 y1 y2 y3 z0 z1 z2 z3
        try simp only [Act.put,pS,p0,p1]
        refine wpAnyH_ready (rs:=[4]) (by kernel_rfl) (by simp) ?_
        refine AllReadyH.cons (o:=⟨some 103,_,_,_,_,_⟩) rfl (fun K hK => ?_) ?_
        ·go_simp
         refine (rtext_any _ _).mono ?_
         rintro ze wc1 ⟨rfl,hbn⟩
         try go_simp
         have HX1:=Lib.hid (Bk.later HX0.out hbn)
         have HZ1:=Lib.hid (Bk.later HZ0.out hbn)
         have HY1:=Lib.hid (Bk.later HY0.out hbn)
         have HL1:=Lib.hid (VL.later HL0.out hbn)
         have HK1:=Lib.hid (Kp.later HK0.out hbn)
         have HT1:=Lib.hid (VInP.keep hbn.size (fun b hb' hP => ⟨hbn.block b hb',hP⟩) _ HT0.out)
         have HB1:=Lib.hid (HB0.out.trans (hbn.mono HB0.out.size))
         refine hK.out _ _ (mkS.out _ HX1.out HZ1.out) (fun hj8 => ?_)
         clear hK K hj9
         have hj9:=hj8
         clear hj8
         clear hbn
         try simp only [Act.put,pS,p0,p1]
         refine wpAnyH_ready (rs:=[6]) (by kernel_rfl) (by simp) ?_
         refine AllReadyH.cons (o:=⟨some 105,_,_,_,_,_⟩) rfl (fun K hK => ?_) ?_
         ·go_simp
          have hbn:=alloc_below wc1 (.cells #[.int .i64 2,.int .u64 0,.string (x.name),.slice none 0 0,.int .i64 3,.int .u64 0,.string ⟨#[]⟩,.slice oW nT cW] 81)
          have HX2:=Lib.hid (Bk.later HX1.out hbn)
          have HZ2:=Lib.hid (Bk.later HZ1.out hbn)
          have HY2:=Lib.hid (Bk.later HY1.out hbn)
          have HL2:=Lib.hid (VL.later HL1.out hbn)
          have HK2:=Lib.hid (Kp.later HK1.out hbn)
          have HT2:=Lib.hid (VInP.keep hbn.size (fun b hb' hP => ⟨hbn.block b hb',hP⟩) _ HT1.out)
          have HB2:=Lib.hid (HB1.out.trans (hbn.mono HB1.out.size))
          have HR2:=Lib.hid (show Bk (wc1.alloc (.cells #[.int .i64 2,.int .u64 0,.string (x.name),.slice none 0 0,.int .i64 3,.int .u64 0,.string ⟨#[]⟩,.slice oW nT cW] 81)) wc1.heap.size _ 81 from heap_alloc_new wc1 _)
          have HG:=Lib.hid (show wo.heap.size≤wc1.heap.size∧∀ b,(Value.slice oV l.length cV).ownBlock=some b→b≠wc1.heap.size from ⟨by have h1:=HK1.out.size; omega,fun b hb => Nat.ne_of_lt (HL1.out.own b hb).2⟩)
          refine hK.out _ _ (mkS.out _ HX2.out HZ2.out) (fun hj8 => ?_)
          clear hK K hj9
          have hj9:=hj8
          clear hj8
          clear hbn
          try simp only [Act.put,pS,p0,p1]
          generalize wc1.alloc (.cells #[.int .i64 2,.int .u64 0,.string (x.name),.slice none 0 0,.int .i64 3,.int .u64 0,.string ⟨#[]⟩,.slice oW nT cW] 81)=wc2 at *
          generalize wc1.heap.size=g1 at *
          refine tkH (i:=7) (oi:=⟨some 106,_,_,_,_,_⟩) (v:=?_) rfl (Or.inl ⟨by rfl,by (intro w hSw; (try dsimp only at hSw); go_simp; try with_reducible rfl)⟩) hj9 ?_
          try simp only [Act.put,pS,p0,p1]
          refine wpAnyH_ready (rs:=[8]) (by kernel_rfl) (by simp) ?_
          refine AllReadyH.cons (o:=⟨some 107,_,_,_,_,_⟩) rfl (fun K hK => ?_) ?_
          ·go_simp
           have hbn:=alloc_below wc2 (.cells #[.int .i64 3,.int .u64 0,.string ⟨#[]⟩,.slice (some ⟨g1,0,none⟩) 2 2] 81)
           have HX3:=Lib.hid (Bk.later HX2.out hbn)
           have HZ3:=Lib.hid (Bk.later HZ2.out hbn)
           have HY3:=Lib.hid (Bk.later HY2.out hbn)
           have HL3:=Lib.hid (VL.later HL2.out hbn)
           have HK3:=Lib.hid (Kp.later HK2.out hbn)
           have HT3:=Lib.hid (VInP.keep hbn.size (fun b hb' hP => ⟨hbn.block b hb',hP⟩) _ HT2.out)
           have HR3:=Lib.hid (Bk.later HR2.out hbn)
           have HB3:=Lib.hid (HB2.out.trans (hbn.mono HB2.out.size))
           have HQ3:=Lib.hid (show Bk (wc2.alloc (.cells #[.int .i64 3,.int .u64 0,.string ⟨#[]⟩,.slice (some ⟨g1,0,none⟩) 2 2] 81)) wc2.heap.size _ 81 from heap_alloc_new wc2 _)
           refine hK.out _ _ (mkS.out _ HX3.out HZ3.out) (fun hj8 => ?_)
           clear hK K hj9
           have hj9:=hj8
           clear hj8
           clear hbn
           try simp only [Act.put,pS,p0,p1]
           generalize wc2.alloc (.cells #[.int .i64 3,.int .u64 0,.string ⟨#[]⟩,.slice (some ⟨g1,0,none⟩) 2 2] 81)=wc3 at *
           generalize wc2.heap.size=g2 at *
           refine wpAnyH_ready (rs:=[9]) (by kernel_rfl) (by simp) ?_
           refine AllReadyH.cons (o:=⟨some 108,_,_,_,_,_⟩) rfl (fun K hK => ?_) ?_
           ·have HTr:=Lib.hid (show VInP wc3 (fun b => wo.heap.size≤b∧(Value.slice oV l.length cV).ownBlock≠some b) (rowT [strT x.name,rowT (x.e.map Ep.trv)]) (.int .i64 3) (.int .u64 0) (.string ⟨#[]⟩) (.slice (some ⟨g1,0,none⟩) 2 2) from vin_row (l:=[strT x.name,rowT (x.e.map Ep.trv)]) rfl (by simp) HR3.out ⟨HG.out.1,fun e => HG.out.2 _ e rfl⟩ (fun i hi => by
             match i,hi with
             | 0,_ => exact ⟨_,_,_,_,rfl,rfl,rfl,rfl,vin_str _ _ _ HFX.out⟩
             | 1,_ => exact ⟨_,_,_,_,rfl,rfl,rfl,rfl,VInP.keep (Nat.le_refl _) (fun b _ hP => ⟨rfl,by omega,fun e => absurd (HVo.out _ e) (by omega)⟩) _ HT3.out⟩))
            refine wp_push (.tmp 100) (.tmp 107) rfl (wo.heap.size) (Value.slice oV l.length cV) _ _ _ _ _ _ g2 rfl rfl HL3.out HQ3.out HTr.out (by have h1:=HK3.out.size; omega) (HLI.out) ?_
            intro o6 k6 wc4 hl6 hg6 hb6
            have HL4:=Lib.hid hl6
            have HX4:=Lib.hid (HL3.out.bk HX3.out (by decide) hg6)
            have HZ4:=Lib.hid (show Bk wc4 _ _ _ from (hg6.block _ (lt_of_heap HZ3.out) (fun e => absurd (HVo.out _ e.symm) (by omega))).trans HZ3.out)
            have HY4:=Lib.hid (Bk.upto HY3.out (by omega) hb6)
            have HK4:=Lib.hid (Kp.upto HK3.out (Nat.le_refl _) hg6.size hb6)
            have HB4:=Lib.hid (HB3.out.trans (hb6.mono (by omega)))
            refine hK.out _ _ (mkS.out _ HX4.out HZ4.out) (fun hj8 => ?_)
            clear hK K hj9
            have hj9:=hj8
            clear hj8
            clear HTr hl6 hg6 hb6
            try simp only [Act.put,pS,p0,p1]
            refine tkH (i:=10) (oi:=⟨some 109,_,_,_,_,_⟩) (v:=?_) rfl (Or.inl ⟨by rfl,by (intro w hSw; (try dsimp only at hSw); go_simp; try with_reducible rfl)⟩) hj9 ?_
            try simp only [Act.put,pS,p0,p1]
            refine wpAnyH_ready (rs:=[11]) (by kernel_rfl) (by simp) ?_
            refine AllReadyH.cons (o:=⟨none,_,_,_,_,_⟩) rfl (fun K hK => ?_) ?_
            ·obtain ⟨⟨y0,y1,y2,y3⟩,z0,z1,z2,z3⟩:=bk4 HY4.out
             go_simp
             have HY5:=Lib.hid (HY4.out.set (i:=3) (.slice o6 (l.length+1) k6))
             have HL5:=Lib.hid (HL4.out.away (q:=w.heap.size+1+1+1) (by omega) 3 (.slice o6 (l.length+1) k6))
             have HX5:=Lib.hid (HX4.out.away (q:=w.heap.size+1+1+1) (by omega) 3 (.slice o6 (l.length+1) k6))
             have HZ5:=Lib.hid (HZ4.out.away (q:=w.heap.size+1+1+1) (by omega) 3 (.slice o6 (l.length+1) k6))
             have HK5:=Lib.hid (HK4.out.set 3 (.slice o6 (l.length+1) k6))
             have HB5:=Lib.hid (HB4.out.setCell (p:=⟨w.heap.size+1+1+1,3,none⟩) (by show w.heap.size≤w.heap.size+1+1+1; omega) (.slice o6 (l.length+1) k6))
             refine hK.out _ _ (mkS.out _ HX5.out HZ5.out) (fun hj8 => ?_)
             clear hK K hj9
             have hj9:=hj8
             clear hj8
             clear y0 y1 y2 y3 z0 z1 z2 z3
             try simp only [Act.put,pS,p0,p1]
             generalize (wc4.setCell ⟨w.heap.size+1+1+1,3,none⟩ (.slice o6 (l.length+1) k6))=wc5 at *
             refine wpAnyH_done (by kernel_rfl) ?_ _
             simp only [Exit.inBlock,Exit.then]
             apply_assumption
             try go_wp2
             exact ⟨⟨i+1,_,by go_num,by omega,HY5,Lib.hid (by rw [← HTK.out]; exact HL5.out),HK5,HB5⟩,by simp [intOf]; omega⟩
            ·exact AllReadyH.nil
           ·exact AllReadyH.nil
          ·exact AllReadyH.nil
         ·exact AllReadyH.nil
        ·exact AllReadyH.nil
       ·refine AllReadyH.cons (o:=⟨some 103,_,_,_,_,_⟩) rfl (fun K hK => ?_) ?_
        ·go_simp
         refine (rtext_any _ _).mono ?_
         rintro ze wc1 ⟨rfl,hbn⟩
         try go_simp
         have HX1:=Lib.hid (Bk.later HX0.out hbn)
         have HZ1:=Lib.hid (Bk.later HZ0.out hbn)
         have HY1:=Lib.hid (Bk.later HY0.out hbn)
         have HL1:=Lib.hid (VL.later HL0.out hbn)
         have HK1:=Lib.hid (Kp.later HK0.out hbn)
         have HT1:=Lib.hid (VInP.keep hbn.size (fun b hb' hP => ⟨hbn.block b hb',hP⟩) _ HT0.out)
         have HB1:=Lib.hid (HB0.out.trans (hbn.mono HB0.out.size))
         refine hK.out _ _ (mkS.out _ HX1.out HZ1.out) (fun hj8 => ?_)
         clear hK K hj9
         have hj9:=hj8
         clear hj8
         clear hbn
         try simp only [Act.put,pS,p0,p1]
         refine wpAnyH_ready (rs:=[1,6]) (by kernel_rfl) (by simp) ?_
         refine AllReadyH.cons (o:=⟨some 100,_,_,_,_,_⟩) rfl (fun K hK => ?_) ?_
         ·obtain ⟨⟨y0,y1,y2,y3⟩,z0,z1,z2,z3⟩:=bk4 HY1.out
          go_simp
          refine hK.out _ _ (mkS.out _ HX1.out HZ1.out) (fun hj8 => ?_)
          clear hK K hj9
          have hj9:=hj8
          clear hj8
          clear y0 y1 y2 y3 z0 z1 z2 z3
          try simp only [Act.put,pS,p0,p1]
          refine wpAnyH_ready (rs:=[6]) (by kernel_rfl) (by simp) ?_
          refine AllReadyH.cons (o:=⟨some 105,_,_,_,_,_⟩) rfl (fun K hK => ?_) ?_
          ·go_simp
           have hbn:=alloc_below wc1 (.cells #[.int .i64 2,.int .u64 0,.string (x.name),.slice none 0 0,.int .i64 3,.int .u64 0,.string ⟨#[]⟩,.slice oW nT cW] 81)
           have HX2:=Lib.hid (Bk.later HX1.out hbn)
           have HZ2:=Lib.hid (Bk.later HZ1.out hbn)
           have HY2:=Lib.hid (Bk.later HY1.out hbn)
           have HL2:=Lib.hid (VL.later HL1.out hbn)
           have HK2:=Lib.hid (Kp.later HK1.out hbn)
           have HT2:=Lib.hid (VInP.keep hbn.size (fun b hb' hP => ⟨hbn.block b hb',hP⟩) _ HT1.out)
           have HB2:=Lib.hid (HB1.out.trans (hbn.mono HB1.out.size))
           have HR2:=Lib.hid (show Bk (wc1.alloc (.cells #[.int .i64 2,.int .u64 0,.string (x.name),.slice none 0 0,.int .i64 3,.int .u64 0,.string ⟨#[]⟩,.slice oW nT cW] 81)) wc1.heap.size _ 81 from heap_alloc_new wc1 _)
           have HG:=Lib.hid (show wo.heap.size≤wc1.heap.size∧∀ b,(Value.slice oV l.length cV).ownBlock=some b→b≠wc1.heap.size from ⟨by have h1:=HK1.out.size; omega,fun b hb => Nat.ne_of_lt (HL1.out.own b hb).2⟩)
           refine hK.out _ _ (mkS.out _ HX2.out HZ2.out) (fun hj8 => ?_)
           clear hK K hj9
           have hj9:=hj8
           clear hj8
           clear hbn
           try simp only [Act.put,pS,p0,p1]
           generalize wc1.alloc (.cells #[.int .i64 2,.int .u64 0,.string (x.name),.slice none 0 0,.int .i64 3,.int .u64 0,.string ⟨#[]⟩,.slice oW nT cW] 81)=wc2 at *
           generalize wc1.heap.size=g1 at *
           refine tkH (i:=7) (oi:=⟨some 106,_,_,_,_,_⟩) (v:=?_) rfl (Or.inl ⟨by rfl,by (intro w hSw; (try dsimp only at hSw); go_simp; try with_reducible rfl)⟩) hj9 ?_
           try simp only [Act.put,pS,p0,p1]
           refine wpAnyH_ready (rs:=[8]) (by kernel_rfl) (by simp) ?_
           refine AllReadyH.cons (o:=⟨some 107,_,_,_,_,_⟩) rfl (fun K hK => ?_) ?_
           ·go_simp
            have hbn:=alloc_below wc2 (.cells #[.int .i64 3,.int .u64 0,.string ⟨#[]⟩,.slice (some ⟨g1,0,none⟩) 2 2] 81)
            have HX3:=Lib.hid (Bk.later HX2.out hbn)
            have HZ3:=Lib.hid (Bk.later HZ2.out hbn)
            have HY3:=Lib.hid (Bk.later HY2.out hbn)
            have HL3:=Lib.hid (VL.later HL2.out hbn)
            have HK3:=Lib.hid (Kp.later HK2.out hbn)
            have HT3:=Lib.hid (VInP.keep hbn.size (fun b hb' hP => ⟨hbn.block b hb',hP⟩) _ HT2.out)
            have HR3:=Lib.hid (Bk.later HR2.out hbn)
            have HB3:=Lib.hid (HB2.out.trans (hbn.mono HB2.out.size))
            have HQ3:=Lib.hid (show Bk (wc2.alloc (.cells #[.int .i64 3,.int .u64 0,.string ⟨#[]⟩,.slice (some ⟨g1,0,none⟩) 2 2] 81)) wc2.heap.size _ 81 from heap_alloc_new wc2 _)
            refine hK.out _ _ (mkS.out _ HX3.out HZ3.out) (fun hj8 => ?_)
            clear hK K hj9
            have hj9:=hj8
            clear hj8
            clear hbn
            try simp only [Act.put,pS,p0,p1]
            generalize wc2.alloc (.cells #[.int .i64 3,.int .u64 0,.string ⟨#[]⟩,.slice (some ⟨g1,0,none⟩) 2 2] 81)=wc3 at *
            generalize wc2.heap.size=g2 at *
            refine wpAnyH_ready (rs:=[9]) (by kernel_rfl) (by simp) ?_
            refine AllReadyH.cons (o:=⟨some 108,_,_,_,_,_⟩) rfl (fun K hK => ?_) ?_
            ·have HTr:=Lib.hid (show VInP wc3 (fun b => wo.heap.size≤b∧(Value.slice oV l.length cV).ownBlock≠some b) (rowT [strT x.name,rowT (x.e.map Ep.trv)]) (.int .i64 3) (.int .u64 0) (.string ⟨#[]⟩) (.slice (some ⟨g1,0,none⟩) 2 2) from vin_row (l:=[strT x.name,rowT (x.e.map Ep.trv)]) rfl (by simp) HR3.out ⟨HG.out.1,fun e => HG.out.2 _ e rfl⟩ (fun i hi => by
              match i,hi with
              | 0,_ => exact ⟨_,_,_,_,rfl,rfl,rfl,rfl,vin_str _ _ _ HFX.out⟩
              | 1,_ => exact ⟨_,_,_,_,rfl,rfl,rfl,rfl,VInP.keep (Nat.le_refl _) (fun b _ hP => ⟨rfl,by omega,fun e => absurd (HVo.out _ e) (by omega)⟩) _ HT3.out⟩))
             refine wp_push (.tmp 100) (.tmp 107) rfl (wo.heap.size) (Value.slice oV l.length cV) _ _ _ _ _ _ g2 rfl rfl HL3.out HQ3.out HTr.out (by have h1:=HK3.out.size; omega) (HLI.out) ?_
             intro o6 k6 wc4 hl6 hg6 hb6
             have HL4:=Lib.hid hl6
             have HX4:=Lib.hid (HL3.out.bk HX3.out (by decide) hg6)
             have HZ4:=Lib.hid (show Bk wc4 _ _ _ from (hg6.block _ (lt_of_heap HZ3.out) (fun e => absurd (HVo.out _ e.symm) (by omega))).trans HZ3.out)
             have HY4:=Lib.hid (Bk.upto HY3.out (by omega) hb6)
             have HK4:=Lib.hid (Kp.upto HK3.out (Nat.le_refl _) hg6.size hb6)
             have HB4:=Lib.hid (HB3.out.trans (hb6.mono (by omega)))
             refine hK.out _ _ (mkS.out _ HX4.out HZ4.out) (fun hj8 => ?_)
             clear hK K hj9
             have hj9:=hj8
             clear hj8
             clear HTr hl6 hg6 hb6
             try simp only [Act.put,pS,p0,p1]
             refine tkH (i:=10) (oi:=⟨some 109,_,_,_,_,_⟩) (v:=?_) rfl (Or.inl ⟨by rfl,by (intro w hSw; (try dsimp only at hSw); go_simp; try with_reducible rfl)⟩) hj9 ?_
             try simp only [Act.put,pS,p0,p1]
             refine wpAnyH_ready (rs:=[11]) (by kernel_rfl) (by simp) ?_
             refine AllReadyH.cons (o:=⟨none,_,_,_,_,_⟩) rfl (fun K hK => ?_) ?_
             ·obtain ⟨⟨y0,y1,y2,y3⟩,z0,z1,z2,z3⟩:=bk4 HY4.out
              go_simp
              have HY5:=Lib.hid (HY4.out.set (i:=3) (.slice o6 (l.length+1) k6))
              have HL5:=Lib.hid (HL4.out.away (q:=w.heap.size+1+1+1) (by omega) 3 (.slice o6 (l.length+1) k6))
              have HX5:=Lib.hid (HX4.out.away (q:=w.heap.size+1+1+1) (by omega) 3 (.slice o6 (l.length+1) k6))
              have HZ5:=Lib.hid (HZ4.out.away (q:=w.heap.size+1+1+1) (by omega) 3 (.slice o6 (l.length+1) k6))
              have HK5:=Lib.hid (HK4.out.set 3 (.slice o6 (l.length+1) k6))
              have HB5:=Lib.hid (HB4.out.setCell (p:=⟨w.heap.size+1+1+1,3,none⟩) (by show w.heap.size≤w.heap.size+1+1+1; omega) (.slice o6 (l.length+1) k6))
              refine hK.out _ _ (mkS.out _ HX5.out HZ5.out) (fun hj8 => ?_)
              clear hK K hj9
              have hj9:=hj8
              clear hj8
              clear y0 y1 y2 y3 z0 z1 z2 z3
              try simp only [Act.put,pS,p0,p1]
              generalize (wc4.setCell ⟨w.heap.size+1+1+1,3,none⟩ (.slice o6 (l.length+1) k6))=wc5 at *
              refine wpAnyH_done (by kernel_rfl) ?_ _
              simp only [Exit.inBlock,Exit.then]
              apply_assumption
              try go_wp2
              exact ⟨⟨i+1,_,by go_num,by omega,HY5,Lib.hid (by rw [← HTK.out]; exact HL5.out),HK5,HB5⟩,by simp [intOf]; omega⟩
             ·exact AllReadyH.nil
            ·exact AllReadyH.nil
           ·exact AllReadyH.nil
          ·exact AllReadyH.nil
         ·refine AllReadyH.cons (o:=⟨some 105,_,_,_,_,_⟩) rfl (fun K hK => ?_) ?_
          ·go_simp
           have hbn:=alloc_below wc1 (.cells #[.int .i64 2,.int .u64 0,.string (x.name),.slice none 0 0,.int .i64 3,.int .u64 0,.string ⟨#[]⟩,.slice oW nT cW] 81)
           have HX2:=Lib.hid (Bk.later HX1.out hbn)
           have HZ2:=Lib.hid (Bk.later HZ1.out hbn)
           have HY2:=Lib.hid (Bk.later HY1.out hbn)
           have HL2:=Lib.hid (VL.later HL1.out hbn)
           have HK2:=Lib.hid (Kp.later HK1.out hbn)
           have HT2:=Lib.hid (VInP.keep hbn.size (fun b hb' hP => ⟨hbn.block b hb',hP⟩) _ HT1.out)
           have HB2:=Lib.hid (HB1.out.trans (hbn.mono HB1.out.size))
           have HR2:=Lib.hid (show Bk (wc1.alloc (.cells #[.int .i64 2,.int .u64 0,.string (x.name),.slice none 0 0,.int .i64 3,.int .u64 0,.string ⟨#[]⟩,.slice oW nT cW] 81)) wc1.heap.size _ 81 from heap_alloc_new wc1 _)
           have HG:=Lib.hid (show wo.heap.size≤wc1.heap.size∧∀ b,(Value.slice oV l.length cV).ownBlock=some b→b≠wc1.heap.size from ⟨by have h1:=HK1.out.size; omega,fun b hb => Nat.ne_of_lt (HL1.out.own b hb).2⟩)
           refine hK.out _ _ (mkS.out _ HX2.out HZ2.out) (fun hj8 => ?_)
           clear hK K hj9
           have hj9:=hj8
           clear hj8
           clear hbn
           try simp only [Act.put,pS,p0,p1]
           generalize wc1.alloc (.cells #[.int .i64 2,.int .u64 0,.string (x.name),.slice none 0 0,.int .i64 3,.int .u64 0,.string ⟨#[]⟩,.slice oW nT cW] 81)=wc2 at *
           generalize wc1.heap.size=g1 at *
           refine tkH (i:=7) (oi:=⟨some 106,_,_,_,_,_⟩) (v:=?_) rfl (Or.inl ⟨by rfl,by (intro w hSw; (try dsimp only at hSw); go_simp; try with_reducible rfl)⟩) hj9 ?_
           try simp only [Act.put,pS,p0,p1]
           refine wpAnyH_ready (rs:=[1,8]) (by kernel_rfl) (by simp) ?_
           refine AllReadyH.cons (o:=⟨some 100,_,_,_,_,_⟩) rfl (fun K hK => ?_) ?_
           ·obtain ⟨⟨y0,y1,y2,y3⟩,z0,z1,z2,z3⟩:=bk4 HY2.out
            go_simp
            refine hK.out _ _ (mkS.out _ HX2.out HZ2.out) (fun hj8 => ?_)
            clear hK K hj9
            have hj9:=hj8
            clear hj8
            clear y0 y1 y2 y3 z0 z1 z2 z3
            try simp only [Act.put,pS,p0,p1]
            refine wpAnyH_ready (rs:=[8]) (by kernel_rfl) (by simp) ?_
            refine AllReadyH.cons (o:=⟨some 107,_,_,_,_,_⟩) rfl (fun K hK => ?_) ?_
            ·go_simp
             have hbn:=alloc_below wc2 (.cells #[.int .i64 3,.int .u64 0,.string ⟨#[]⟩,.slice (some ⟨g1,0,none⟩) 2 2] 81)
             have HX3:=Lib.hid (Bk.later HX2.out hbn)
             have HZ3:=Lib.hid (Bk.later HZ2.out hbn)
             have HY3:=Lib.hid (Bk.later HY2.out hbn)
             have HL3:=Lib.hid (VL.later HL2.out hbn)
             have HK3:=Lib.hid (Kp.later HK2.out hbn)
             have HT3:=Lib.hid (VInP.keep hbn.size (fun b hb' hP => ⟨hbn.block b hb',hP⟩) _ HT2.out)
             have HR3:=Lib.hid (Bk.later HR2.out hbn)
             have HB3:=Lib.hid (HB2.out.trans (hbn.mono HB2.out.size))
             have HQ3:=Lib.hid (show Bk (wc2.alloc (.cells #[.int .i64 3,.int .u64 0,.string ⟨#[]⟩,.slice (some ⟨g1,0,none⟩) 2 2] 81)) wc2.heap.size _ 81 from heap_alloc_new wc2 _)
             refine hK.out _ _ (mkS.out _ HX3.out HZ3.out) (fun hj8 => ?_)
             clear hK K hj9
             have hj9:=hj8
             clear hj8
             clear hbn
             try simp only [Act.put,pS,p0,p1]
             generalize wc2.alloc (.cells #[.int .i64 3,.int .u64 0,.string ⟨#[]⟩,.slice (some ⟨g1,0,none⟩) 2 2] 81)=wc3 at *
             generalize wc2.heap.size=g2 at *
             refine wpAnyH_ready (rs:=[9]) (by kernel_rfl) (by simp) ?_
             refine AllReadyH.cons (o:=⟨some 108,_,_,_,_,_⟩) rfl (fun K hK => ?_) ?_
             ·have HTr:=Lib.hid (show VInP wc3 (fun b => wo.heap.size≤b∧(Value.slice oV l.length cV).ownBlock≠some b) (rowT [strT x.name,rowT (x.e.map Ep.trv)]) (.int .i64 3) (.int .u64 0) (.string ⟨#[]⟩) (.slice (some ⟨g1,0,none⟩) 2 2) from vin_row (l:=[strT x.name,rowT (x.e.map Ep.trv)]) rfl (by simp) HR3.out ⟨HG.out.1,fun e => HG.out.2 _ e rfl⟩ (fun i hi => by
               match i,hi with
               | 0,_ => exact ⟨_,_,_,_,rfl,rfl,rfl,rfl,vin_str _ _ _ HFX.out⟩
               | 1,_ => exact ⟨_,_,_,_,rfl,rfl,rfl,rfl,VInP.keep (Nat.le_refl _) (fun b _ hP => ⟨rfl,by omega,fun e => absurd (HVo.out _ e) (by omega)⟩) _ HT3.out⟩))
              refine wp_push (.tmp 100) (.tmp 107) rfl (wo.heap.size) (Value.slice oV l.length cV) _ _ _ _ _ _ g2 rfl rfl HL3.out HQ3.out HTr.out (by have h1:=HK3.out.size; omega) (HLI.out) ?_
              intro o6 k6 wc4 hl6 hg6 hb6
              have HL4:=Lib.hid hl6
              have HX4:=Lib.hid (HL3.out.bk HX3.out (by decide) hg6)
              have HZ4:=Lib.hid (show Bk wc4 _ _ _ from (hg6.block _ (lt_of_heap HZ3.out) (fun e => absurd (HVo.out _ e.symm) (by omega))).trans HZ3.out)
              have HY4:=Lib.hid (Bk.upto HY3.out (by omega) hb6)
              have HK4:=Lib.hid (Kp.upto HK3.out (Nat.le_refl _) hg6.size hb6)
              have HB4:=Lib.hid (HB3.out.trans (hb6.mono (by omega)))
              refine hK.out _ _ (mkS.out _ HX4.out HZ4.out) (fun hj8 => ?_)
              clear hK K hj9
              have hj9:=hj8
              clear hj8
              clear HTr hl6 hg6 hb6
              try simp only [Act.put,pS,p0,p1]
              refine tkH (i:=10) (oi:=⟨some 109,_,_,_,_,_⟩) (v:=?_) rfl (Or.inl ⟨by rfl,by (intro w hSw; (try dsimp only at hSw); go_simp; try with_reducible rfl)⟩) hj9 ?_
              try simp only [Act.put,pS,p0,p1]
              refine wpAnyH_ready (rs:=[11]) (by kernel_rfl) (by simp) ?_
              refine AllReadyH.cons (o:=⟨none,_,_,_,_,_⟩) rfl (fun K hK => ?_) ?_
              ·obtain ⟨⟨y0,y1,y2,y3⟩,z0,z1,z2,z3⟩:=bk4 HY4.out
               go_simp
               have HY5:=Lib.hid (HY4.out.set (i:=3) (.slice o6 (l.length+1) k6))
               have HL5:=Lib.hid (HL4.out.away (q:=w.heap.size+1+1+1) (by omega) 3 (.slice o6 (l.length+1) k6))
               have HX5:=Lib.hid (HX4.out.away (q:=w.heap.size+1+1+1) (by omega) 3 (.slice o6 (l.length+1) k6))
               have HZ5:=Lib.hid (HZ4.out.away (q:=w.heap.size+1+1+1) (by omega) 3 (.slice o6 (l.length+1) k6))
               have HK5:=Lib.hid (HK4.out.set 3 (.slice o6 (l.length+1) k6))
               have HB5:=Lib.hid (HB4.out.setCell (p:=⟨w.heap.size+1+1+1,3,none⟩) (by show w.heap.size≤w.heap.size+1+1+1; omega) (.slice o6 (l.length+1) k6))
               refine hK.out _ _ (mkS.out _ HX5.out HZ5.out) (fun hj8 => ?_)
               clear hK K hj9
               have hj9:=hj8
               clear hj8
               clear y0 y1 y2 y3 z0 z1 z2 z3
               try simp only [Act.put,pS,p0,p1]
               generalize (wc4.setCell ⟨w.heap.size+1+1+1,3,none⟩ (.slice o6 (l.length+1) k6))=wc5 at *
               refine wpAnyH_done (by kernel_rfl) ?_ _
               simp only [Exit.inBlock,Exit.then]
               apply_assumption
               try go_wp2
               exact ⟨⟨i+1,_,by go_num,by omega,HY5,Lib.hid (by rw [← HTK.out]; exact HL5.out),HK5,HB5⟩,by simp [intOf]; omega⟩
              ·exact AllReadyH.nil
             ·exact AllReadyH.nil
            ·exact AllReadyH.nil
           ·refine AllReadyH.cons (o:=⟨some 107,_,_,_,_,_⟩) rfl (fun K hK => ?_) ?_
            ·go_simp
             have hbn:=alloc_below wc2 (.cells #[.int .i64 3,.int .u64 0,.string ⟨#[]⟩,.slice (some ⟨g1,0,none⟩) 2 2] 81)
             have HX3:=Lib.hid (Bk.later HX2.out hbn)
             have HZ3:=Lib.hid (Bk.later HZ2.out hbn)
             have HY3:=Lib.hid (Bk.later HY2.out hbn)
             have HL3:=Lib.hid (VL.later HL2.out hbn)
             have HK3:=Lib.hid (Kp.later HK2.out hbn)
             have HT3:=Lib.hid (VInP.keep hbn.size (fun b hb' hP => ⟨hbn.block b hb',hP⟩) _ HT2.out)
             have HR3:=Lib.hid (Bk.later HR2.out hbn)
             have HB3:=Lib.hid (HB2.out.trans (hbn.mono HB2.out.size))
             have HQ3:=Lib.hid (show Bk (wc2.alloc (.cells #[.int .i64 3,.int .u64 0,.string ⟨#[]⟩,.slice (some ⟨g1,0,none⟩) 2 2] 81)) wc2.heap.size _ 81 from heap_alloc_new wc2 _)
             refine hK.out _ _ (mkS.out _ HX3.out HZ3.out) (fun hj8 => ?_)
             clear hK K hj9
             have hj9:=hj8
             clear hj8
             clear hbn
             try simp only [Act.put,pS,p0,p1]
             generalize wc2.alloc (.cells #[.int .i64 3,.int .u64 0,.string ⟨#[]⟩,.slice (some ⟨g1,0,none⟩) 2 2] 81)=wc3 at *
             generalize wc2.heap.size=g2 at *
             refine wpAnyH_ready (rs:=[1]) (by kernel_rfl) (by simp) ?_
             refine AllReadyH.cons (o:=⟨some 100,_,_,_,_,_⟩) rfl (fun K hK => ?_) ?_
             ·obtain ⟨⟨y0,y1,y2,y3⟩,z0,z1,z2,z3⟩:=bk4 HY3.out
              go_simp
              refine hK.out _ _ (mkS.out _ HX3.out HZ3.out) (fun hj8 => ?_)
              clear hK K hj9
              have hj9:=hj8
              clear hj8
              clear y0 y1 y2 y3 z0 z1 z2 z3
              try simp only [Act.put,pS,p0,p1]
              refine wpAnyH_ready (rs:=[9]) (by kernel_rfl) (by simp) ?_
              refine AllReadyH.cons (o:=⟨some 108,_,_,_,_,_⟩) rfl (fun K hK => ?_) ?_
              ·have HTr:=Lib.hid (show VInP wc3 (fun b => wo.heap.size≤b∧(Value.slice oV l.length cV).ownBlock≠some b) (rowT [strT x.name,rowT (x.e.map Ep.trv)]) (.int .i64 3) (.int .u64 0) (.string ⟨#[]⟩) (.slice (some ⟨g1,0,none⟩) 2 2) from vin_row (l:=[strT x.name,rowT (x.e.map Ep.trv)]) rfl (by simp) HR3.out ⟨HG.out.1,fun e => HG.out.2 _ e rfl⟩ (fun i hi => by
                match i,hi with
                | 0,_ => exact ⟨_,_,_,_,rfl,rfl,rfl,rfl,vin_str _ _ _ HFX.out⟩
                | 1,_ => exact ⟨_,_,_,_,rfl,rfl,rfl,rfl,VInP.keep (Nat.le_refl _) (fun b _ hP => ⟨rfl,by omega,fun e => absurd (HVo.out _ e) (by omega)⟩) _ HT3.out⟩))
               refine wp_push (.tmp 100) (.tmp 107) rfl (wo.heap.size) (Value.slice oV l.length cV) _ _ _ _ _ _ g2 rfl rfl HL3.out HQ3.out HTr.out (by have h1:=HK3.out.size; omega) (HLI.out) ?_
               intro o6 k6 wc4 hl6 hg6 hb6
               have HL4:=Lib.hid hl6
               have HX4:=Lib.hid (HL3.out.bk HX3.out (by decide) hg6)
               have HZ4:=Lib.hid (show Bk wc4 _ _ _ from (hg6.block _ (lt_of_heap HZ3.out) (fun e => absurd (HVo.out _ e.symm) (by omega))).trans HZ3.out)
               have HY4:=Lib.hid (Bk.upto HY3.out (by omega) hb6)
               have HK4:=Lib.hid (Kp.upto HK3.out (Nat.le_refl _) hg6.size hb6)
               have HB4:=Lib.hid (HB3.out.trans (hb6.mono (by omega)))
               refine hK.out _ _ (mkS.out _ HX4.out HZ4.out) (fun hj8 => ?_)
               clear hK K hj9
               have hj9:=hj8
               clear hj8
               clear HTr hl6 hg6 hb6
               try simp only [Act.put,pS,p0,p1]
               refine tkH (i:=10) (oi:=⟨some 109,_,_,_,_,_⟩) (v:=?_) rfl (Or.inl ⟨by rfl,by (intro w hSw; (try dsimp only at hSw); go_simp; try with_reducible rfl)⟩) hj9 ?_
               try simp only [Act.put,pS,p0,p1]
               refine wpAnyH_ready (rs:=[11]) (by kernel_rfl) (by simp) ?_
               refine AllReadyH.cons (o:=⟨none,_,_,_,_,_⟩) rfl (fun K hK => ?_) ?_
               ·obtain ⟨⟨y0,y1,y2,y3⟩,z0,z1,z2,z3⟩:=bk4 HY4.out
                go_simp
                have HY5:=Lib.hid (HY4.out.set (i:=3) (.slice o6 (l.length+1) k6))
                have HL5:=Lib.hid (HL4.out.away (q:=w.heap.size+1+1+1) (by omega) 3 (.slice o6 (l.length+1) k6))
                have HX5:=Lib.hid (HX4.out.away (q:=w.heap.size+1+1+1) (by omega) 3 (.slice o6 (l.length+1) k6))
                have HZ5:=Lib.hid (HZ4.out.away (q:=w.heap.size+1+1+1) (by omega) 3 (.slice o6 (l.length+1) k6))
                have HK5:=Lib.hid (HK4.out.set 3 (.slice o6 (l.length+1) k6))
                have HB5:=Lib.hid (HB4.out.setCell (p:=⟨w.heap.size+1+1+1,3,none⟩) (by show w.heap.size≤w.heap.size+1+1+1; omega) (.slice o6 (l.length+1) k6))
                refine hK.out _ _ (mkS.out _ HX5.out HZ5.out) (fun hj8 => ?_)
                clear hK K hj9
                have hj9:=hj8
                clear hj8
                clear y0 y1 y2 y3 z0 z1 z2 z3
                try simp only [Act.put,pS,p0,p1]
                generalize (wc4.setCell ⟨w.heap.size+1+1+1,3,none⟩ (.slice o6 (l.length+1) k6))=wc5 at *
                refine wpAnyH_done (by kernel_rfl) ?_ _
                simp only [Exit.inBlock,Exit.then]
                apply_assumption
                try go_wp2
                exact ⟨⟨i+1,_,by go_num,by omega,HY5,Lib.hid (by rw [← HTK.out]; exact HL5.out),HK5,HB5⟩,by simp [intOf]; omega⟩
               ·exact AllReadyH.nil
              ·exact AllReadyH.nil
             ·exact AllReadyH.nil
            ·exact AllReadyH.nil
          ·exact AllReadyH.nil
        ·exact AllReadyH.nil
    ·obtain rfl : i=c.c.length:=by omega
     have HLe:=Lib.hid (show VL wp wo.heap.size V (c.c.map Cl.trv) by have h:=HL.out; rwa [List.take_length] at h)
     obtain ⟨oQ,cQ,rfl⟩:=HLe.out.form
     have HNc : Hid ((c.c.map Cl.trv).length≤1000000):=Lib.hid (by rw [List.length_map]; exact HLEN.out.2.1)
     have hb1 : Below wp.heap.size wp wp.drew:=(Below.refl _ _).drew
     have HK1:=Lib.hid (HK.out.later hb1)
     have HX0:=Lib.hid (show Bk wp.drew w.heap.size #[.int .u64 (c.v : Int),.slice o1 c.l.length C1,.slice o3 c.c.length C3] 37 from HK1.out.bk HCl.out (by omega))
     have HZ0:=Lib.hid (show Bk wp.drew (w.heap.size+1+1) _ 81 from HK1.out.bk HYl.out (by omega))
     have HY0:=Lib.hid (show Bk wp.drew (w.heap.size+1+1+1) _ 81 from HY.out.later hb1)
     have HE0:=Lib.hid (show Bk wp.drew (w.heap.size+1) _ 81 from HK1.out.bk HDl.out (by omega))
     have HT0:=Lib.hid (show VInP wp.drew (fun b => w.heap.size+4≤b) (rowT (c.l.map Ls.tr)) _ _ _ _ from HK1.out.vin HTl.out (fun b hb => by omega))
     have HU0:=Lib.hid (show VInP wp.drew (fun b => wo.heap.size≤b) (rowT (c.c.map Cl.trv)) _ _ _ _ from (HLe.out.later hb1).whole HNc.out)
     have HB0:=Lib.hid (show Below w.heap.size w wp.drew from HB.out.trans (hb1.mono HB.out.size))
     have hq8 : ¬ ((c.c.length : Int) < (c.c.length : Int)):=by omega
     clear HY HL HK HB HLe hb1 HK1
     generalize (c.c.map Cl.trv).length=nQ at *
     go_upto_region 24 with (fail)
     have mkS : Hid (∀ wz,Bk wz (w.heap.size) #[.int .u64 (c.v : Int),.slice o1 c.l.length C1,.slice o3 c.c.length C3] 37→Bk wz (w.heap.size+1+1) #[.int .i64 3,.int .u64 0,.string ⟨#[]⟩,.slice oP nP cP] 81→Bk wz (w.heap.size+1+1+1) #[.int .i64 3,.int .u64 0,.string ⟨#[]⟩,.slice oQ nQ cQ] 81→wz.cell? ⟨w.heap.size,0,none⟩=some (.int .u64 (c.v : Int))∧wz.cell? ⟨w.heap.size,1,none⟩=some (.slice o1 c.l.length C1)∧wz.cell? ⟨w.heap.size,2,none⟩=some (.slice o3 c.c.length C3)∧wz.cell? ⟨w.heap.size+1+1,0,none⟩=some (.int .i64 3)∧wz.cell? ⟨w.heap.size+1+1,1,none⟩=some (.int .u64 0)∧wz.cell? ⟨w.heap.size+1+1,2,none⟩=some (.string ⟨#[]⟩)∧wz.cell? ⟨w.heap.size+1+1,3,none⟩=some (.slice oP nP cP)∧wz.cell? ⟨w.heap.size+1+1+1,0,none⟩=some (.int .i64 3)∧wz.cell? ⟨w.heap.size+1+1+1,1,none⟩=some (.int .u64 0)∧wz.cell? ⟨w.heap.size+1+1+1,2,none⟩=some (.string ⟨#[]⟩)∧wz.cell? ⟨w.heap.size+1+1+1,3,none⟩=some (.slice oQ nQ cQ)∧Hid True):=Lib.hid (fun wz h0 h1 h2 => ⟨(cell_of_row _ _ 0 _ _ _ h0).trans rfl,(cell_of_row _ _ 1 _ _ _ h0).trans rfl,(cell_of_row _ _ 2 _ _ _ h0).trans rfl,(cell_of_row _ _ 0 _ _ _ h1).trans rfl,(cell_of_row _ _ 1 _ _ _ h1).trans rfl,(cell_of_row _ _ 2 _ _ _ h1).trans rfl,(cell_of_row _ _ 3 _ _ _ h1).trans rfl,(cell_of_row _ _ 0 _ _ _ h2).trans rfl,(cell_of_row _ _ 1 _ _ _ h2).trans rfl,(cell_of_row _ _ 2 _ _ _ h2).trans rfl,(cell_of_row _ _ 3 _ _ _ h2).trans rfl,Lib.hid True.intro⟩)
     refine wp_region_held_drew (S:=fun wz => wz.cell? ⟨w.heap.size,0,none⟩=some (.int .u64 (c.v : Int))∧wz.cell? ⟨w.heap.size,1,none⟩=some (.slice o1 c.l.length C1)∧wz.cell? ⟨w.heap.size,2,none⟩=some (.slice o3 c.c.length C3)∧wz.cell? ⟨w.heap.size+1+1,0,none⟩=some (.int .i64 3)∧wz.cell? ⟨w.heap.size+1+1,1,none⟩=some (.int .u64 0)∧wz.cell? ⟨w.heap.size+1+1,2,none⟩=some (.string ⟨#[]⟩)∧wz.cell? ⟨w.heap.size+1+1,3,none⟩=some (.slice oP nP cP)∧wz.cell? ⟨w.heap.size+1+1+1,0,none⟩=some (.int .i64 3)∧wz.cell? ⟨w.heap.size+1+1+1,1,none⟩=some (.int .u64 0)∧wz.cell? ⟨w.heap.size+1+1+1,2,none⟩=some (.string ⟨#[]⟩)∧wz.cell? ⟨w.heap.size+1+1+1,3,none⟩=some (.slice oQ nQ cQ)∧Hid True) (by kernel_rfl) (mkS.out _ HX0.out HZ0.out HY0.out) (fun hj9 => ?_)
     generalize wp.drew=wc0 at *
     refine tkH (i:=0) (oi:=⟨some 111,_,_,_,_,_⟩) (v:=?_) rfl (Or.inl ⟨by rfl,by (intro w hSw; (try dsimp only at hSw); go_simp; try with_reducible rfl)⟩) hj9 ?_
     try simp only [Act.put,pS,p0,p1]
     refine tkH (i:=1) (oi:=⟨some 112,_,_,_,_,_⟩) (v:=?_) rfl (Or.inl ⟨by rfl,by (intro w hSw; (try dsimp only at hSw); go_simp; try with_reducible rfl)⟩) hj9 ?_
     try simp only [Act.put,pS,p0,p1]
     refine tkH (i:=3) (oi:=⟨some 114,_,_,_,_,_⟩) (v:=?_) rfl (Or.inl ⟨by rfl,by (intro w hSw; (try dsimp only at hSw); go_simp; try with_reducible rfl)⟩) hj9 ?_
     try simp only [Act.put,pS,p0,p1]
     refine tkH (i:=4) (oi:=⟨some 115,_,_,_,_,_⟩) (v:=?_) rfl (Or.inl ⟨by rfl,by (intro w hSw; (try dsimp only at hSw); go_simp; try with_reducible rfl)⟩) hj9 ?_
     try simp only [Act.put,pS,p0,p1]
     refine wpAnyH_ready (rs:=[2]) (by kernel_rfl) (by simp) ?_
     refine AllReadyH.cons (o:=⟨some 113,_,_,_,_,_⟩) rfl (fun K hK => ?_) ?_
     ·go_simp
      refine (rnum_any _ _).mono ?_
      rintro ze wc1 ⟨rfl,hbn⟩
      try go_simp
      have HX1:=Lib.hid (Bk.later HX0.out hbn)
      have HZ1:=Lib.hid (Bk.later HZ0.out hbn)
      have HY1:=Lib.hid (Bk.later HY0.out hbn)
      have HE1:=Lib.hid (Bk.later HE0.out hbn)
      have HT1:=Lib.hid (VInP.keep hbn.size (fun b hb' hP => ⟨hbn.block b hb',hP⟩) _ HT0.out)
      have HU1:=Lib.hid (VInP.keep hbn.size (fun b hb' hP => ⟨hbn.block b hb',hP⟩) _ HU0.out)
      have HB1:=Lib.hid (HB0.out.trans (hbn.mono HB0.out.size))
      refine hK.out _ _ (mkS.out _ HX1.out HZ1.out HY1.out) (fun hj8 => ?_)
      clear hK K hj9
      have hj9:=hj8
      clear hj8
      clear hbn
      try simp only [Act.put,pS,p0,p1]
      refine wpAnyH_ready (rs:=[5]) (by kernel_rfl) (by simp) ?_
      refine AllReadyH.cons (o:=⟨some 116,_,_,_,_,_⟩) rfl (fun K hK => ?_) ?_
      ·go_simp
       have hbn:=alloc_below wc1 (.cells #[.int .i64 1,.int .u64 ((c.v : Int)),.string ⟨#[]⟩,.slice none 0 0,.int .i64 3,.int .u64 0,.string ⟨#[]⟩,.slice oP nP cP,.int .i64 3,.int .u64 0,.string ⟨#[]⟩,.slice oQ nQ cQ] 81)
       have HX2:=Lib.hid (Bk.later HX1.out hbn)
       have HZ2:=Lib.hid (Bk.later HZ1.out hbn)
       have HY2:=Lib.hid (Bk.later HY1.out hbn)
       have HE2:=Lib.hid (Bk.later HE1.out hbn)
       have HT2:=Lib.hid (VInP.keep hbn.size (fun b hb' hP => ⟨hbn.block b hb',hP⟩) _ HT1.out)
       have HU2:=Lib.hid (VInP.keep hbn.size (fun b hb' hP => ⟨hbn.block b hb',hP⟩) _ HU1.out)
       have HB2:=Lib.hid (HB1.out.trans (hbn.mono HB1.out.size))
       have HG:=Lib.hid (show w.heap.size+4≤wc1.heap.size by have:=lt_of_heap HY1.out; omega)
       have HR2:=Lib.hid (show Bk (wc1.alloc (.cells #[.int .i64 1,.int .u64 ((c.v : Int)),.string ⟨#[]⟩,.slice none 0 0,.int .i64 3,.int .u64 0,.string ⟨#[]⟩,.slice oP nP cP,.int .i64 3,.int .u64 0,.string ⟨#[]⟩,.slice oQ nQ cQ] 81)) wc1.heap.size _ 81 from heap_alloc_new wc1 _)
       refine hK.out _ _ (mkS.out _ HX2.out HZ2.out HY2.out) (fun hj8 => ?_)
       clear hK K hj9
       have hj9:=hj8
       clear hj8
       clear hbn
       try simp only [Act.put,pS,p0,p1]
       generalize wc1.alloc (.cells #[.int .i64 1,.int .u64 ((c.v : Int)),.string ⟨#[]⟩,.slice none 0 0,.int .i64 3,.int .u64 0,.string ⟨#[]⟩,.slice oP nP cP,.int .i64 3,.int .u64 0,.string ⟨#[]⟩,.slice oQ nQ cQ] 81)=wc2 at *
       generalize wc1.heap.size=g1 at *
       refine tkH (i:=6) (oi:=⟨some 117,_,_,_,_,_⟩) (v:=?_) rfl (Or.inl ⟨by rfl,by (intro w hSw; (try dsimp only at hSw); go_simp; try with_reducible rfl)⟩) hj9 ?_
       try simp only [Act.put,pS,p0,p1]
       refine wpAnyH_ready (rs:=[7]) (by kernel_rfl) (by simp) ?_
       refine AllReadyH.cons (o:=⟨none,_,_,_,_,_⟩) rfl (fun K hK => ?_) ?_
       ·obtain ⟨⟨y0,y1,y2,y3⟩,z0,z1,z2,z3⟩:=bk4 HE2.out
        go_simp
        have HV:=Lib.hid (show VInP wc2 (fun b => w.heap.size+2≤b) c.trv (.int .i64 3) (.int .u64 0) (.string ⟨#[]⟩) (.slice (some ⟨g1,0,none⟩) 3 3) from vin_row (l:=[numT c.v,rowT (c.l.map Ls.tr),rowT (c.c.map Cl.trv)]) rfl (by simp) HR2.out (by have:=HG.out; omega) (fun i hi => by
         match i,hi with
         | 0,_ => exact ⟨_,_,_,_,rfl,rfl,rfl,rfl,vin_num _ _ _ HVV.out⟩
         | 1,_ => exact ⟨_,_,_,_,rfl,rfl,rfl,rfl,VInP.keep (Nat.le_refl _) (fun b _ hP => ⟨rfl,by omega⟩) _ HT2.out⟩
         | 2,_ => exact ⟨_,_,_,_,rfl,rfl,rfl,rfl,VInP.keep (Nat.le_refl _) (fun b _ hP => ⟨rfl,by omega⟩) _ HU2.out⟩))
        have HE3:=Lib.hid (put4 HE2.out (.int .i64 3) (.int .u64 0) (.string ⟨#[]⟩) (.slice (some ⟨g1,0,none⟩) 3 3))
        have HX3:=Lib.hid (Bk.other4 (g:=w.heap.size+1) HX2.out (by omega) (.int .i64 3) (.int .u64 0) (.string ⟨#[]⟩) (.slice (some ⟨g1,0,none⟩) 3 3))
        have HZ3:=Lib.hid (Bk.other4 (g:=w.heap.size+1) HZ2.out (by omega) (.int .i64 3) (.int .u64 0) (.string ⟨#[]⟩) (.slice (some ⟨g1,0,none⟩) 3 3))
        have HY3:=Lib.hid (Bk.other4 (g:=w.heap.size+1) HY2.out (by omega) (.int .i64 3) (.int .u64 0) (.string ⟨#[]⟩) (.slice (some ⟨g1,0,none⟩) 3 3))
        have HF:=Lib.hid (VInP.keep (w':=((((wc2.setCell ⟨w.heap.size+1,0,none⟩ (.int .i64 3)).setCell ⟨w.heap.size+1,1,none⟩ (.int .u64 0)).setCell ⟨w.heap.size+1,2,none⟩ (.string ⟨#[]⟩)).setCell ⟨w.heap.size+1,3,none⟩ (.slice (some ⟨g1,0,none⟩) 3 3))) (Q:=fun b => w.heap.size≤b) (by simp) (fun b _ hP => ⟨other4 (g:=w.heap.size+1) wc2 b (by omega) (.int .i64 3) (.int .u64 0) (.string ⟨#[]⟩) (.slice (some ⟨g1,0,none⟩) 3 3),by omega⟩) _ HV.out)
        have HB3:=Lib.hid (below4 (g:=w.heap.size+1) HB2.out (by omega) (.int .i64 3) (.int .u64 0) (.string ⟨#[]⟩) (.slice (some ⟨g1,0,none⟩) 3 3))
        refine hK.out _ _ (mkS.out _ HX3.out HZ3.out HY3.out) (fun hj8 => ?_)
        clear hK K hj9
        have hj9:=hj8
        clear hj8
        clear HV y0 y1 y2 y3 z0 z1 z2 z3
        try simp only [Act.put,pS,p0,p1]
        generalize ((((wc2.setCell ⟨w.heap.size+1,0,none⟩ (.int .i64 3)).setCell ⟨w.heap.size+1,1,none⟩ (.int .u64 0)).setCell ⟨w.heap.size+1,2,none⟩ (.string ⟨#[]⟩)).setCell ⟨w.heap.size+1,3,none⟩ (.slice (some ⟨g1,0,none⟩) 3 3))=wc3 at *
        refine wpAnyH_done (by kernel_rfl) ?_ _
        simp only [Exit.inBlock,Exit.then]
        apply_assumption
        obtain ⟨⟨y0,y1,y2,y3⟩,z0,z1,z2,z3⟩:=bk4 HE3.out
        try go_wp2
        refine bodyPost_ret (v:=.agg #[.int .i64 3,.int .u64 0,.string ⟨#[]⟩,.slice (some ⟨g1,0,none⟩) 3 3]) (by simp [results,Tryz.results28,go_sem, *]) rfl ⟨_,_,_,rfl,HF.out,HB3.out⟩
       ·exact AllReadyH.nil
      ·exact AllReadyH.nil
     ·exact AllReadyH.nil
end Go.Proofs.YtjfjliobencppaaGreatDoor.Cf
