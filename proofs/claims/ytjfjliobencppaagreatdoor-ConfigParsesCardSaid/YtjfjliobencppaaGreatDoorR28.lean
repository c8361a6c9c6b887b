/- config: To (the document's config). -/
import Derived.Test.YtjfjliobencppaaGreatDoorR27
set_option linter.unusedVariables false
set_option linter.unusedSimpArgs false
set_option maxRecDepth 100000
set_option maxHeartbeats 8000000
namespace Go.Proofs.YtjfjliobencppaaGreatDoor.Cf
open Go.RowKit
theorem own_form {w : World} {B t k n : Nat} {v : Value} {xs : List Value} (h : w.ownsRow B t k v n xs) : ∃ o c,v=.slice o n c:=by
 rcases h.2 with ⟨rfl,rfl⟩ | ⟨g,cap,cur,rfl,_⟩
 ·exact ⟨none,0,rfl⟩
 ·exact ⟨_,cap,rfl⟩
structure Fx (w : World) (s1 s2 : Value) (cv : Nat) (wz : World) : Prop where
 pb : Bk wz w.heap.size #[.int .u64 (cv : Int),s1,s2] 26
 rb : Bk wz (w.heap.size+1) #[.int .u64 0,.slice none 0 0,.slice none 0 0] 37
theorem Fx.later {w : World} {s1 s2 : Value} {cv : Nat} {wz wy : World} (h : Fx w s1 s2 cv wz) (hb : Below wz.heap.size wz wy) : Fx w s1 s2 cv wy:=⟨h.pb.later hb,h.rb.later hb⟩
theorem Fx.grown {w : World} {s1 s2 : Value} {cv : Nat} {wz wy : World} {B' t' k' n' : Nat} {v' : Value} {xs' : List Value} (h : Fx w s1 s2 cv wz) (h' : wz.ownsRow B' t' k' v' n' xs') (hg : wz.grownBy wy v'.ownBlock) (h1 : 26≠t') (h2 : 37≠t') : Fx w s1 s2 cv wy:=⟨h.pb.grown h' hg h1,h.rb.grown h' hg h2⟩
theorem Fx.set {w : World} {s1 s2 : Value} {cv : Nat} {wz : World} (h : Fx w s1 s2 cv wz) (j : Nat) (u : Value) : Fx w s1 s2 cv (wz.setCell ⟨w.heap.size+1+1,j,none⟩ u):=⟨h.pb.away (by omega) j u,h.rb.away (by omega) j u⟩
theorem bk7 {w : World} {g : Nat} {a0 a1 a2 a3 a4 a5 a6 : Value} {T : TypeId} (h : Bk w g #[a0,a1,a2,a3,a4,a5,a6] T) : w.cell? ⟨g,0,none⟩=some a0∧w.cell? ⟨g,1,none⟩=some a1∧w.cell? ⟨g,2,none⟩=some a2∧w.cell? ⟨g,3,none⟩=some a3∧w.cell? ⟨g,4,none⟩=some a4∧w.cell? ⟨g,5,none⟩=some a5∧w.cell? ⟨g,6,none⟩=some a6 :=
 ⟨(cell_of_row _ _ 0 _ _ _ h).trans rfl,(cell_of_row _ _ 1 _ _ _ h).trans rfl,(cell_of_row _ _ 2 _ _ _ h).trans rfl,(cell_of_row _ _ 3 _ _ _ h).trans rfl,(cell_of_row _ _ 4 _ _ _ h).trans rfl,(cell_of_row _ _ 5 _ _ _ h).trans rfl,(cell_of_row _ _ 6 _ _ _ h).trans rfl⟩
theorem bk3f1 {w : World} {g : Nat} {a0 a1 a2 : Value} {T : TypeId} (h : Bk w g #[a0,a1,a2] T) : w.cell? ⟨g,1,none⟩=some a1∧w.frozen? ⟨g,1,none⟩=false:=⟨(cell_of_row _ _ 1 _ _ _ h).trans rfl,frozen_of_row w g 1 _ _ h⟩
theorem bk3f2 {w : World} {g : Nat} {a0 a1 a2 : Value} {T : TypeId} (h : Bk w g #[a0,a1,a2] T) : w.cell? ⟨g,2,none⟩=some a2∧w.frozen? ⟨g,2,none⟩=false:=⟨(cell_of_row _ _ 2 _ _ _ h).trans rfl,frozen_of_row w g 2 _ _ h⟩
theorem bk2 {w : World} {g : Nat} {a0 a1 : Value} {T : TypeId} (h : Bk w g #[a0,a1] T) : w.cell? ⟨g,0,none⟩=some a0∧w.cell? ⟨g,1,none⟩=some a1:=⟨(cell_of_row _ _ 0 _ _ _ h).trans rfl,(cell_of_row _ _ 1 _ _ _ h).trans rfl⟩
theorem bk2f {w : World} {g : Nat} {a0 a1 : Value} {T : TypeId} (h : Bk w g #[a0,a1] T) : w.cell? ⟨g,1,none⟩=some a1∧w.frozen? ⟨g,1,none⟩=false:=⟨(cell_of_row _ _ 1 _ _ _ h).trans rfl,frozen_of_row w g 1 _ _ h⟩
theorem LlR.form {w : World} {B : Nat} {V : Value} {L : List Ls} (h : LlR w B V L) : ∃ o n c,V=.slice o n c:=by
 obtain ⟨PL,_,h2,_⟩:=h
 obtain ⟨o,c,h⟩:=own_form h2
 exact ⟨o,_,c,h⟩
theorem CcR.form {w : World} {B : Nat} {V : Value} {L : List Cl} (h : CcR w B V L) : ∃ o n c,V=.slice o n c:=by
 obtain ⟨PL,_,h2,_⟩:=h
 obtain ⟨o,c,h⟩:=own_form h2
 exact ⟨o,_,c,h⟩
theorem bk7f {w : World} {g : Nat} {a0 a1 a2 a3 a4 a5 a6 : Value} {T : TypeId} (h : Bk w g #[a0,a1,a2,a3,a4,a5,a6] T) : w.cell? ⟨g,6,none⟩=some a6∧w.frozen? ⟨g,6,none⟩=false :=
 ⟨(cell_of_row _ _ 6 _ _ _ h).trans rfl,frozen_of_row w g 6 _ _ h⟩
theorem to_any {w : World} {c0 c1 c2 : Value} {c : Co} (h : CoIn w c0 c1 c2 c) (hs : c.sized) :
  Calls Tryz.prog 11 #[.agg #[c0,c1,c2]] w fun e w' => (∃ d1 d2,e=.returned (.agg #[.int .u64 (c.v : Int),d1,d2])∧CoIn w' (.int .u64 (c.v : Int)) d1 d2 c)∧Below w.heap.size w w':=by
 have HIN:=Lib.hid h
 have HLEN:=Lib.hid (show c.l.length≤1000000∧c.c.length≤1000000∧(∀ x ∈ c.l,x.r.length≤1000000)∧∀ x ∈ c.c,x.e.length≤1000000 from ⟨hs.1,hs.2.1,fun x hx => (hs.2.2.1 x hx).2.1,fun x hx => (hs.2.2.2 x hx).2⟩)
 obtain ⟨rfl,hv,⟨o1,C1,B1,f1,rfl,ho1,hE1⟩,⟨o3,C3,B3,f3,rfl,ho3,hE3⟩⟩:=h
 have HQ1 : Hid (0 < c.l.length→o1=some ⟨B1,f1,none⟩):=Lib.hid (fun hp => (ho1 hp).1)
 have HQ9 : Hid (0 < c.c.length→o3=some ⟨B3,f3,none⟩):=Lib.hid (fun hp => (ho3 hp).1)
 have HS1 : Hid (∀ wz,Below w.heap.size w wz→∀ i (hi : i < c.l.length),True∧∃ (o : Option Addr) (cap B f : Nat),wz.cell? ⟨B1,f1+i * 7,none⟩=some (.string c.l[i].name)∧wz.cell? ⟨B1,f1+i * 7+1,none⟩=some (.int .u8 (c.l[i].p.a : Int))∧wz.cell? ⟨B1,f1+i * 7+2,none⟩=some (.int .u8 (c.l[i].p.b : Int))∧wz.cell? ⟨B1,f1+i * 7+3,none⟩=some (.int .u8 (c.l[i].p.c : Int))∧wz.cell? ⟨B1,f1+i * 7+4,none⟩=some (.int .u8 (c.l[i].p.d : Int))∧wz.cell? ⟨B1,f1+i * 7+5,none⟩=some (.int .u16 (c.l[i].p.port : Int))∧wz.cell? ⟨B1,f1+i * 7+6,none⟩=some (.slice o c.l[i].r.length cap) ∧
   (0 < c.l[i].r.length→o=some ⟨B,f,none⟩)∧c.l[i].r.length≤1000000∧∀ wy,Below w.heap.size w wy→∀ j (hj : j < c.l[i].r.length),wy.cell? ⟨B,f+j * 4,none⟩=some (.string c.l[i].r[j].host)∧wy.cell? ⟨B,f+j * 4+1,none⟩=some (.string c.l[i].r[j].path)∧wy.cell? ⟨B,f+j * 4+2,none⟩=some (.string c.l[i].r[j].cluster)∧wy.cell? ⟨B,f+j * 4+3,none⟩=some (.int .u64 (c.l[i].r[j].idle : Int))):=Lib.hid (fun wz hb i hi => by
  refine ⟨trivial,?_⟩
  obtain ⟨cs,hr,u,rfl,hn,hp,o,cap,B,f,rfl,ho,hR⟩:=hE1 i hi
  have hr:=rng_later hr hb
  refine ⟨o,cap,B,f,hr 0 _ rfl,hr 1 _ rfl,hr 2 _ rfl,hr 3 _ rfl,hr 4 _ rfl,hr 5 _ rfl,hr 6 _ rfl,fun hp => (ho hp).1,HLEN.out.2.2.1 _ (List.getElem_mem hi),fun wy hby j hj => ?_⟩
  obtain ⟨cs,hr2,hcs,hok⟩:=hR j hj
  subst hcs
  have hr2:=rng_later hr2 hby
  exact ⟨hr2 0 _ rfl,hr2 1 _ rfl,hr2 2 _ rfl,hr2 3 _ rfl⟩)
 have HS9 : Hid (∀ wz,Below w.heap.size w wz→∀ i (hi : i < c.c.length),True∧∃ (o : Option Addr) (cap B f : Nat),wz.cell? ⟨B3,f3+i * 2,none⟩=some (.string c.c[i].name)∧wz.cell? ⟨B3,f3+i * 2+1,none⟩=some (.slice o c.c[i].e.length cap) ∧
   (0 < c.c[i].e.length→o=some ⟨B,f,none⟩)∧c.c[i].e.length≤1000000∧∀ wy,Below w.heap.size w wy→∀ j (hj : j < c.c[i].e.length),wy.cell? ⟨B,f+j * 6,none⟩=some (.int .u8 (c.c[i].e[j].p.a : Int))∧wy.cell? ⟨B,f+j * 6+1,none⟩=some (.int .u8 (c.c[i].e[j].p.b : Int))∧wy.cell? ⟨B,f+j * 6+2,none⟩=some (.int .u8 (c.c[i].e[j].p.c : Int))∧wy.cell? ⟨B,f+j * 6+3,none⟩=some (.int .u8 (c.c[i].e[j].p.d : Int))∧wy.cell? ⟨B,f+j * 6+4,none⟩=some (.int .u16 (c.c[i].e[j].p.port : Int))∧wy.cell? ⟨B,f+j * 6+5,none⟩=some (.int .i64 c.c[i].e[j].w)):=Lib.hid (fun wz hb i hi => by
  refine ⟨trivial,?_⟩
  obtain ⟨cs,hr,u,rfl,hn,o,cap,B,f,rfl,ho,hR⟩:=hE3 i hi
  have hr:=rng_later hr hb
  refine ⟨o,cap,B,f,hr 0 _ rfl,hr 1 _ rfl,fun hp => (ho hp).1,HLEN.out.2.2.2 _ (List.getElem_mem hi),fun wy hby j hj => ?_⟩
  obtain ⟨cs,hr2,hcs,hok⟩:=hR j hj
  subst hcs
  have hr2:=rng_later hr2 hby
  exact ⟨hr2 0 _ rfl,hr2 1 _ rfl,hr2 2 _ rfl,hr2 3 _ rfl,hr2 4 _ rfl,hr2 5 _ rfl⟩)
 have HOKL : Hid (∀ l ∈ c.l,l.name.size≤maxLen∧l.p.ok∧∀ r ∈ l.r,r.ok):=Lib.hid (fun l hl => by
  obtain ⟨i,hi,rfl⟩:=List.getElem_of_mem hl
  obtain ⟨cs,hr,u,rfl,hn,hp,o,cap,B,f,rfl,ho,hR⟩:=hE1 i hi
  refine ⟨hn,hp,fun r hr => ?_⟩
  obtain ⟨j,hj,rfl⟩:=List.getElem_of_mem hr
  obtain ⟨cs,hr2,hcs,hok⟩:=hR j hj
  exact hok)
 have HOKC : Hid (∀ l ∈ c.c,l.name.size≤maxLen∧∀ r ∈ l.e,r.ok):=Lib.hid (fun l hl => by
  obtain ⟨i,hi,rfl⟩:=List.getElem_of_mem hl
  obtain ⟨cs,hr,u,rfl,hn,o,cap,B,f,rfl,ho,hR⟩:=hE3 i hi
  refine ⟨hn,fun r hr => ?_⟩
  obtain ⟨j,hj,rfl⟩:=List.getElem_of_mem hr
  obtain ⟨cs,hr2,hcs,hok⟩:=hR j hj
  exact hok)
 have HVV:=Lib.hid hv
 have HBp1:=Lib.hid (show Below w.heap.size w (((w.alloc (.cells #[.int .u64 (c.v : Int),.slice o1 c.l.length C1,.slice o3 c.c.length C3] 26)).alloc (.cells #[.int .u64 0,.slice none 0 0,.slice none 0 0] 37)).alloc (.cells #[.int .u64 (c.v : Int),.slice none 0 0,.slice none 0 0] 37)) from (alloc_below _ _).trans (((alloc_below _ _).mono (by simp)).trans ((alloc_below _ _).mono (by simp <;> omega))))
 have HB1:=HBp1
 have HO1:=Lib.hid (alloc_at (w:=(w.alloc (.cells #[.int .u64 (c.v : Int),.slice o1 c.l.length C1,.slice o3 c.c.length C3] 26)).alloc (.cells #[.int .u64 0,.slice none 0 0,.slice none 0 0] 37)) (g:=w.heap.size+1+1) #[.int .u64 (c.v : Int),.slice none 0 0,.slice none 0 0] 37 (by simp))
 have HF1:=Lib.hid (show Fx w (.slice o1 c.l.length C1) (.slice o3 c.c.length C3) c.v (((w.alloc (.cells #[.int .u64 (c.v : Int),.slice o1 c.l.length C1,.slice o3 c.c.length C3] 26)).alloc (.cells #[.int .u64 0,.slice none 0 0,.slice none 0 0] 37)).alloc (.cells #[.int .u64 (c.v : Int),.slice none 0 0,.slice none 0 0] 37)) from
  ⟨((alloc_at (w:=w) (g:=w.heap.size) _ _ rfl).later (alloc_below _ _)).later (alloc_below _ _),(alloc_at (w:=w.alloc (.cells #[.int .u64 (c.v : Int),.slice o1 c.l.length C1,.slice o3 c.c.length C3] 26)) (g:=w.heap.size+1) _ _ (by simp)).later (alloc_below _ _)⟩)
 clear hE1 hE3 ho1 ho3 hv hs
 go_enter Tryz.func11,Tryz.ntmps11
 go_wp2
 go_loopw [20] (fun y wz => ∃ (i : Nat) (V : Value),y=.int .i64 i∧i≤c.l.length∧Hid (Bk wz (w.heap.size+1+1) #[.int .u64 (c.v : Int),V,.slice none 0 0] 37)∧Hid (LlR wz (w.heap.size+3) V (c.l.take i))∧Hid (Fx w (.slice o1 c.l.length C1) (.slice o3 c.c.length C3) c.v wz)∧Hid (Below w.heap.size w wz)) (fun y _ => c.l.length - (intOf y).toNat)
 case atStart => exact ⟨0,_,rfl,by omega,HO1,Lib.hid (by rw [List.take_zero]; exact LlR.nil _ _),HF1,HB1⟩
 case round =>
  rename World => wo
  obtain ⟨i,V,rfl,hi,HO,HR,HF,HB⟩:=hrel
  by_cases hlt : i < c.l.length
  ·obtain ⟨hobj,hsrc⟩:=HS1.out wo HB.out i hlt
   obtain rfl:=HQ1.out (by omega)
   have hgo:=lt_of_heap HO.out
   have HGO:=Lib.hid hgo
   have HTK : Hid (c.l.take i++[c.l[i]]=c.l.take (i+1)):=Lib.hid (by rw [List.take_append_getElem])
   have HLI : Hid ((c.l.take i).length≤1000000):=Lib.hid (by rw [List.length_take]; have:=HLEN.out.1; omega)
   have q1 : (i : Int) < (c.l.length : Int):=by omega
   have q0 : (c.l.length : Int)≤1000000:=by have:=HLEN.out.1; omega
   generalize c.l[i]=x at *
   obtain ⟨o2,cap2,B2,f2,h0,h1,h2,h3,h4,h5,h6,ho2,hrl,hel⟩:=hsrc
   have HO2:=Lib.hid ho2
   have HRL:=Lib.hid hrl
   have HEL:=Lib.hid hel
   have HX1:=Lib.hid (alloc_at (w:=wo.alloc (.cells #[.string x.name,.int .u8 (x.p.a : Int),.int .u8 (x.p.b : Int),.int .u8 (x.p.c : Int),.int .u8 (x.p.d : Int),.int .u16 (x.p.port : Int),.slice o2 x.r.length cap2] 52)) (g:=wo.heap.size+1) #[.string x.name,.int .u8 (x.p.a : Int),.int .u8 (x.p.b : Int),.int .u8 (x.p.c : Int),.int .u8 (x.p.d : Int),.int .u16 (x.p.port : Int),.slice none 0 0] 85 (by simp))
   have HB1:=Lib.hid (show Below wo.heap.size wo ((wo.alloc (.cells #[.string x.name,.int .u8 (x.p.a : Int),.int .u8 (x.p.b : Int),.int .u8 (x.p.c : Int),.int .u8 (x.p.d : Int),.int .u16 (x.p.port : Int),.slice o2 x.r.length cap2] 52)).alloc (.cells #[.string x.name,.int .u8 (x.p.a : Int),.int .u8 (x.p.b : Int),.int .u8 (x.p.c : Int),.int .u8 (x.p.d : Int),.int .u16 (x.p.port : Int),.slice none 0 0] 85)) from (alloc_below _ _).trans ((alloc_below _ _).mono (by simp)))
   clear ho2 hrl hel hobj hgo
   have q2 : (x.r.length : Int)≤1000000:=by have:=HRL.out; omega
   go_wp2
   go_loopw [32] (fun y wz => ∃ (j : Nat) (v : Value),y=.int .i64 j∧j≤x.r.length∧Hid (Bk wz (wo.heap.size+1) #[.string x.name,.int .u8 (x.p.a : Int),.int .u8 (x.p.b : Int),.int .u8 (x.p.c : Int),.int .u8 (x.p.d : Int),.int .u16 (x.p.port : Int),v] 85)∧Hid (wz.ownsRow (wo.heap.size+2) 86 4 v j ((x.r.take j).flatMap Rt.cs))∧Hid (Below wo.heap.size wo wz)) (fun y _ => x.r.length - (intOf y).toNat)
   case atStart => exact ⟨0,_,rfl,by omega,HX1,Lib.hid (by rw [List.take_zero]; exact World.ownsRow_nil _ _ _ _),HB1⟩
   case round =>
    obtain ⟨j,v,rfl,hj,HX,HV,HBi⟩:=hrel
    by_cases hlj : j < x.r.length
    ·obtain rfl:=HO2.out (by omega)
     obtain ⟨e0,e1,e2,e3⟩:=HEL.out _ (HB.out.trans (HBi.out.mono HB.out.size)) j hlj
     have HTJ : Hid ((x.r.take j).flatMap Rt.cs++Rt.cs x.r[j]=(x.r.take (j+1)).flatMap Rt.cs):=Lib.hid (by rw [← List.take_append_getElem hlj,List.flatMap_append,List.flatMap_cons,List.flatMap_nil,List.append_nil])
     have HNJ:=Lib.hid (show j≤1000000 by have:=HRL.out; omega)
     have q3 : (j : Int) < (x.r.length : Int):=by omega
     have HONE:=Lib.hid (rt_one x.r[j])
     generalize x.r[j]=r at *
     have HV2:=Lib.hid (own_later (own_later HV.out (alloc_below wr (.cells #[.string r.host,.string r.path,.string r.cluster,.int .u64 (r.idle : Int)] 62))) (alloc_below (wr.alloc (.cells #[.string r.host,.string r.path,.string r.cluster,.int .u64 (r.idle : Int)] 62)) (.cells #[.string r.host,.string r.path,.string r.cluster,.int .u64 (r.idle : Int)] 86)))
     have HN2:=Lib.hid (alloc_at (w:=wr.alloc (.cells #[.string r.host,.string r.path,.string r.cluster,.int .u64 (r.idle : Int)] 62)) (g:=wr.heap.size+1) #[.string r.host,.string r.path,.string r.cluster,.int .u64 (r.idle : Int)] 86 (by simp))
     have HXa:=Lib.hid (HX.out.later (alloc_below wr (.cells #[.string r.host,.string r.path,.string r.cluster,.int .u64 (r.idle : Int)] 62)))
     obtain ⟨xv,_⟩:=bk7f HXa.out
     have HBa:=Lib.hid (show Below wo.heap.size wo ((wr.alloc (.cells #[.string r.host,.string r.path,.string r.cluster,.int .u64 (r.idle : Int)] 62)).alloc (.cells #[.string r.host,.string r.path,.string r.cluster,.int .u64 (r.idle : Int)] 86)) from (HBi.out.trans (((alloc_below wr (.cells #[.string r.host,.string r.path,.string r.cluster,.int .u64 (r.idle : Int)] 62)).trans ((alloc_below _ _).mono (by simp))).mono HBi.out.size)))
     have HXb:=Lib.hid (HXa.out.later (alloc_below _ (.cells #[.string r.host,.string r.path,.string r.cluster,.int .u64 (r.idle : Int)] 86)))
     have HGX:=Lib.hid (show wo.heap.size+2≤((wr.alloc (.cells #[.string r.host,.string r.path,.string r.cluster,.int .u64 (r.idle : Int)] 62)).alloc (.cells #[.string r.host,.string r.path,.string r.cluster,.int .u64 (r.idle : Int)] 86)).heap.size by have:=lt_of_heap HX.out; simp; omega)
     go_wp2_with (first
      | (at_builtin; go_must (refine wpList_append_one ((wr.alloc (.cells #[.string r.host,.string r.path,.string r.cluster,.int .u64 (r.idle : Int)] 62)).alloc (.cells #[.string r.host,.string r.path,.string r.cluster,.int .u64 (r.idle : Int)] 86)) rfl (.tmp 37) (.tmp 39) (e:=86) (k:=4) Tryz.underlying83 (by kernel_rfl) (by decide) rfl (wo.heap.size+2) v j ((x.r.take j).flatMap Rt.cs) [.string r.host,.string r.path,.string r.cluster,.int .u64 (r.idle : Int)] (wr.heap.size+1) rfl HV2.out rfl HN2.out rfl HONE.out HGX.out HNJ.out ?_); intro v6 w6 hv6 hg6 hb6 hn6; obtain ⟨o6,c6,hf6⟩:=own_form hv6; subst hf6; have HV6:=Lib.hid hv6; have HX6:=Lib.hid (HXb.out.grown HV2.out hg6 (by decide)); have HB6:=Lib.hid (HBa.out.trans (hb6.mono (by omega))); obtain ⟨y0,y1⟩:=bk7f HX6.out; clear hv6 hg6 hb6 hn6))
     go_roundw
     case rel => exact ⟨j+1,_,by go_num,by omega,Lib.hid (HX6.out.set (i:=6) (.slice o6 (j+1) c6)),Lib.hid (by rw [← HTJ.out]; exact own_set HV6.out HX6.out (by decide) 6 (.slice o6 (j+1) c6)),Lib.hid (HB6.out.setCell (p:=⟨wo.heap.size+1,6,none⟩) (by show wo.heap.size≤wo.heap.size+1; omega) (.slice o6 (j+1) c6))⟩
     case measure => simp [intOf]; omega
    ·obtain rfl : j=x.r.length:=by omega
     have HVe:=Lib.hid (show wr.ownsRow (wo.heap.size+2) 86 4 v x.r.length (x.r.flatMap Rt.cs) by have h:=HV.out; rwa [List.take_length] at h)
     have HOe:=Lib.hid (HO.out.later HBi.out)
     have HRe:=Lib.hid (HR.out.later HBi.out)
     have HFe:=Lib.hid (HF.out.later HBi.out)
     have HBe:=Lib.hid (HB.out.trans (HBi.out.mono HB.out.size))
     obtain ⟨PL,hPL,hown,hin⟩:=HRe.out
     have HPL:=Lib.hid hPL
     have HIN2:=Lib.hid hin
     have HWb:=Lib.hid (alloc_below wr (.cells #[.string x.name,.int .u8 (x.p.a : Int),.int .u8 (x.p.b : Int),.int .u8 (x.p.c : Int),.int .u8 (x.p.d : Int),.int .u16 (x.p.port : Int),v] 85))
     have HW1:=Lib.hid (own_later hown HWb.out)
     have HN1:=Lib.hid (alloc_at (w:=wr) (g:=wr.heap.size) #[.string x.name,.int .u8 (x.p.a : Int),.int .u8 (x.p.b : Int),.int .u8 (x.p.c : Int),.int .u8 (x.p.d : Int),.int .u16 (x.p.port : Int),v] 85 rfl)
     have HNP:=Lib.hid (show PL.length≤1000000 by have h1:=HLI.out; rw [← hPL,List.length_map] at h1; exact h1)
     have HGE:=Lib.hid (show w.heap.size+3≤(wr.alloc (.cells #[.string x.name,.int .u8 (x.p.a : Int),.int .u8 (x.p.b : Int),.int .u8 (x.p.c : Int),.int .u8 (x.p.d : Int),.int .u16 (x.p.port : Int),v] 85)).heap.size by have:=HGO.out; have:=HBi.out.size; simp; omega)
     have HONE:=Lib.hid (show ∀ u ∈ [.string x.name,.int .u8 (x.p.a : Int),.int .u8 (x.p.b : Int),.int .u8 (x.p.c : Int),.int .u8 (x.p.d : Int),.int .u16 (x.p.port : Int),v],u.oneCell'=true by intro u hu; obtain ⟨ov,cv2,hfv⟩:=own_form HVe.out; subst hfv; simp only [List.mem_cons,List.not_mem_nil,or_false] at hu; rcases hu with rfl | rfl | rfl | rfl | rfl | rfl | rfl <;> rfl)
     obtain ⟨t0,t1⟩:=bk3f1 HOe.out
     obtain ⟨s0,s1,s2,s3,s4,s5,s6⟩:=bk7 HX.out
     clear hPL hown hin
     have hq3 : ¬ ((x.r.length : Int) < (x.r.length : Int)):=by omega
     go_wp2_with (first
      | (at_builtin; go_must (refine wpList_append_one (wr.alloc (.cells #[.string x.name,.int .u8 (x.p.a : Int),.int .u8 (x.p.b : Int),.int .u8 (x.p.c : Int),.int .u8 (x.p.d : Int),.int .u16 (x.p.port : Int),v] 85)) rfl (.tmp 44) (.tmp 46) (e:=85) (k:=7) Tryz.underlying34 (by kernel_rfl) (by decide) rfl (w.heap.size+3) V PL.length (PL.flatMap llcs) [.string x.name,.int .u8 (x.p.a : Int),.int .u8 (x.p.b : Int),.int .u8 (x.p.c : Int),.int .u8 (x.p.d : Int),.int .u16 (x.p.port : Int),v] wr.heap.size rfl HW1.out rfl HN1.out rfl HONE.out HGE.out HNP.out ?_); intro v6 w6 hv6 hg6 hb6 hn6; obtain ⟨o6,c6,hf6⟩:=own_form hv6; subst hf6; have HV6:=Lib.hid hv6; have HO6:=Lib.hid ((HOe.out.later HWb.out).grown HW1.out hg6 (by decide)); have HF6:=Lib.hid ((HFe.out.later HWb.out).grown HW1.out hg6 (by decide) (by decide)); have HB6:=Lib.hid ((HBe.out.trans (HWb.out.mono HBe.out.size)).trans (hb6.mono (by omega))); have HVv:=Lib.hid (own_mono (B':=w.heap.size+3) (own_grown (own_later HVe.out HWb.out) HW1.out hg6 (by decide)) (by have:=HGO.out; omega)); have HI6:=Lib.hid (fun p hp => own_grown (own_later (HIN2.out p hp) HWb.out) HW1.out hg6 (by decide)); obtain ⟨y0,y1⟩:=bk3f1 HO6.out; clear hv6 hg6 hb6 hn6))
     go_roundw
     case rel =>
      refine ⟨i+1,_,by go_num,by omega,Lib.hid (HO6.out.set (i:=1) (.slice o6 (PL.length+1) c6)),Lib.hid ?_,Lib.hid (HF6.out.set 1 (.slice o6 (PL.length+1) c6)),Lib.hid (HB6.out.setCell (p:=⟨w.heap.size+1+1,1,none⟩) (by show w.heap.size≤w.heap.size+1+1; omega) (.slice o6 (PL.length+1) c6))⟩
      rw [← HTK.out,← HPL.out]
      refine LlR.set (q:=w.heap.size+1+1) (t':=37) ?_ HO6.out (by decide) (by decide) 1 _
      refine ⟨PL++[(x,v)],by simp,?_,fun p hp => ?_⟩
      ·rw [List.length_append,List.flatMap_append]
       exact HV6.out
      ·rcases List.mem_append.1 hp with hp | hp
       ·exact HI6.out p hp
       ·obtain rfl:=List.mem_singleton.1 hp
        exact HVv.out
     case measure => simp [intOf]; omega
  ·obtain rfl : i=c.l.length:=by omega
   have HL9:=Lib.hid (show LlR wo (w.heap.size+3) V c.l by have h:=HR.out; rwa [List.take_length] at h)
   have HO9:=HO
   have HF9:=HF
   have HB9:=HB
   obtain ⟨p0,p1⟩:=bk3f2 HF.out.pb
   have hq8 : ¬ ((c.l.length : Int) < (c.l.length : Int)):=by omega
   clear HO HF HB HR
   go_wp2
   go_loopw [53] (fun y wz => ∃ (i : Nat) (K : Value),y=.int .i64 i∧i≤c.c.length∧Hid (Bk wz (w.heap.size+1+1) #[.int .u64 (c.v : Int),V,K] 37)∧Hid (CcR wz (w.heap.size+3) K (c.c.take i))∧Hid (LlR wz (w.heap.size+3) V c.l)∧Hid (Fx w (.slice o1 c.l.length C1) (.slice o3 c.c.length C3) c.v wz)∧Hid (Below w.heap.size w wz)) (fun y _ => c.c.length - (intOf y).toNat)
   case atStart => exact ⟨0,_,rfl,by omega,HO9,Lib.hid (by rw [List.take_zero]; exact CcR.nil _ _),HL9,HF9,HB9⟩
   case round =>
    rename World => wo
    obtain ⟨i,K,rfl,hi,HO,HR,HL,HF,HB⟩:=hrel
    by_cases hlt : i < c.c.length
    ·obtain ⟨hobj,hsrc⟩:=HS9.out wo HB.out i hlt
     obtain rfl:=HQ9.out (by omega)
     have hgo:=lt_of_heap HO.out
     have HGO:=Lib.hid hgo
     have HTK : Hid (c.c.take i++[c.c[i]]=c.c.take (i+1)):=Lib.hid (by rw [List.take_append_getElem])
     have HLI : Hid ((c.c.take i).length≤1000000):=Lib.hid (by rw [List.length_take]; have:=HLEN.out.2.1; omega)
     have q1 : (i : Int) < (c.c.length : Int):=by omega
     have q0 : (c.c.length : Int)≤1000000:=by have:=HLEN.out.2.1; omega
     generalize c.c[i]=x at *
     obtain ⟨o2,cap2,B2,f2,h0,h1,ho2,hrl,hel⟩:=hsrc
     have HO2:=Lib.hid ho2
     have HRL:=Lib.hid hrl
     have HEL:=Lib.hid hel
     have HX1:=Lib.hid (alloc_at (w:=wo.alloc (.cells #[.string x.name,.slice o2 x.e.length cap2] 57)) (g:=wo.heap.size+1) #[.string x.name,.slice none 0 0] 74 (by simp))
     have HB1:=Lib.hid (show Below wo.heap.size wo ((wo.alloc (.cells #[.string x.name,.slice o2 x.e.length cap2] 57)).alloc (.cells #[.string x.name,.slice none 0 0] 74)) from (alloc_below _ _).trans ((alloc_below _ _).mono (by simp)))
     clear ho2 hrl hel hobj hgo
     have q2 : (x.e.length : Int)≤1000000:=by have:=HRL.out; omega
     go_wp2
     go_loopw [63] (fun y wz => ∃ (j : Nat) (v : Value),y=.int .i64 j∧j≤x.e.length∧Hid (Bk wz (wo.heap.size+1) #[.string x.name,v] 74)∧Hid (wz.ownsRow (wo.heap.size+2) 77 6 v j ((x.e.take j).flatMap Ep.cs))∧Hid (Below wo.heap.size wo wz)) (fun y _ => x.e.length - (intOf y).toNat)
     case atStart => exact ⟨0,_,rfl,by omega,HX1,Lib.hid (by rw [List.take_zero]; exact World.ownsRow_nil _ _ _ _),HB1⟩
     case round =>
      obtain ⟨j,v,rfl,hj,HX,HV,HBi⟩:=hrel
      by_cases hlj : j < x.e.length
      ·obtain rfl:=HO2.out (by omega)
       obtain ⟨e0,e1,e2,e3,e4,e5⟩:=HEL.out _ (HB.out.trans (HBi.out.mono HB.out.size)) j hlj
       have HTJ : Hid ((x.e.take j).flatMap Ep.cs++Ep.cs x.e[j]=(x.e.take (j+1)).flatMap Ep.cs):=Lib.hid (by rw [← List.take_append_getElem hlj,List.flatMap_append,List.flatMap_cons,List.flatMap_nil,List.append_nil])
       have HNJ:=Lib.hid (show j≤1000000 by have:=HRL.out; omega)
       have q3 : (j : Int) < (x.e.length : Int):=by omega
       have HONE:=Lib.hid (ep_one x.e[j])
       generalize x.e[j]=r at *
       have HV2:=Lib.hid (own_later (own_later HV.out (alloc_below wr (.cells #[.int .u8 (r.p.a : Int),.int .u8 (r.p.b : Int),.int .u8 (r.p.c : Int),.int .u8 (r.p.d : Int),.int .u16 (r.p.port : Int),.int .i64 r.w] 64))) (alloc_below (wr.alloc (.cells #[.int .u8 (r.p.a : Int),.int .u8 (r.p.b : Int),.int .u8 (r.p.c : Int),.int .u8 (r.p.d : Int),.int .u16 (r.p.port : Int),.int .i64 r.w] 64)) (.cells #[.int .u8 (r.p.a : Int),.int .u8 (r.p.b : Int),.int .u8 (r.p.c : Int),.int .u8 (r.p.d : Int),.int .u16 (r.p.port : Int),.int .i64 r.w] 77)))
       have HN2:=Lib.hid (alloc_at (w:=wr.alloc (.cells #[.int .u8 (r.p.a : Int),.int .u8 (r.p.b : Int),.int .u8 (r.p.c : Int),.int .u8 (r.p.d : Int),.int .u16 (r.p.port : Int),.int .i64 r.w] 64)) (g:=wr.heap.size+1) #[.int .u8 (r.p.a : Int),.int .u8 (r.p.b : Int),.int .u8 (r.p.c : Int),.int .u8 (r.p.d : Int),.int .u16 (r.p.port : Int),.int .i64 r.w] 77 (by simp))
       have HXa:=Lib.hid (HX.out.later (alloc_below wr (.cells #[.int .u8 (r.p.a : Int),.int .u8 (r.p.b : Int),.int .u8 (r.p.c : Int),.int .u8 (r.p.d : Int),.int .u16 (r.p.port : Int),.int .i64 r.w] 64)))
       obtain ⟨xv,_⟩:=bk2f HXa.out
       have HBa:=Lib.hid (show Below wo.heap.size wo ((wr.alloc (.cells #[.int .u8 (r.p.a : Int),.int .u8 (r.p.b : Int),.int .u8 (r.p.c : Int),.int .u8 (r.p.d : Int),.int .u16 (r.p.port : Int),.int .i64 r.w] 64)).alloc (.cells #[.int .u8 (r.p.a : Int),.int .u8 (r.p.b : Int),.int .u8 (r.p.c : Int),.int .u8 (r.p.d : Int),.int .u16 (r.p.port : Int),.int .i64 r.w] 77)) from (HBi.out.trans (((alloc_below wr (.cells #[.int .u8 (r.p.a : Int),.int .u8 (r.p.b : Int),.int .u8 (r.p.c : Int),.int .u8 (r.p.d : Int),.int .u16 (r.p.port : Int),.int .i64 r.w] 64)).trans ((alloc_below _ _).mono (by simp))).mono HBi.out.size)))
       have HXb:=Lib.hid (HXa.out.later (alloc_below _ (.cells #[.int .u8 (r.p.a : Int),.int .u8 (r.p.b : Int),.int .u8 (r.p.c : Int),.int .u8 (r.p.d : Int),.int .u16 (r.p.port : Int),.int .i64 r.w] 77)))
       have HGX:=Lib.hid (show wo.heap.size+2≤((wr.alloc (.cells #[.int .u8 (r.p.a : Int),.int .u8 (r.p.b : Int),.int .u8 (r.p.c : Int),.int .u8 (r.p.d : Int),.int .u16 (r.p.port : Int),.int .i64 r.w] 64)).alloc (.cells #[.int .u8 (r.p.a : Int),.int .u8 (r.p.b : Int),.int .u8 (r.p.c : Int),.int .u8 (r.p.d : Int),.int .u16 (r.p.port : Int),.int .i64 r.w] 77)).heap.size by have:=lt_of_heap HX.out; simp; omega)
       go_wp2_with (first
        | (at_builtin; go_must (refine wpList_append_one ((wr.alloc (.cells #[.int .u8 (r.p.a : Int),.int .u8 (r.p.b : Int),.int .u8 (r.p.c : Int),.int .u8 (r.p.d : Int),.int .u16 (r.p.port : Int),.int .i64 r.w] 64)).alloc (.cells #[.int .u8 (r.p.a : Int),.int .u8 (r.p.b : Int),.int .u8 (r.p.c : Int),.int .u8 (r.p.d : Int),.int .u16 (r.p.port : Int),.int .i64 r.w] 77)) rfl (.tmp 68) (.tmp 74) (e:=77) (k:=6) Tryz.underlying72 (by kernel_rfl) (by decide) rfl (wo.heap.size+2) v j ((x.e.take j).flatMap Ep.cs) [.int .u8 (r.p.a : Int),.int .u8 (r.p.b : Int),.int .u8 (r.p.c : Int),.int .u8 (r.p.d : Int),.int .u16 (r.p.port : Int),.int .i64 r.w] (wr.heap.size+1) rfl HV2.out rfl HN2.out rfl HONE.out HGX.out HNJ.out ?_); intro v6 w6 hv6 hg6 hb6 hn6; obtain ⟨o6,c6,hf6⟩:=own_form hv6; subst hf6; have HV6:=Lib.hid hv6; have HX6:=Lib.hid (HXb.out.grown HV2.out hg6 (by decide)); have HB6:=Lib.hid (HBa.out.trans (hb6.mono (by omega))); obtain ⟨y0,y1⟩:=bk2f HX6.out; clear hv6 hg6 hb6 hn6))
       go_roundw
       case rel => exact ⟨j+1,_,by go_num,by omega,Lib.hid (HX6.out.set (i:=1) (.slice o6 (j+1) c6)),Lib.hid (by rw [← HTJ.out]; exact own_set HV6.out HX6.out (by decide) 1 (.slice o6 (j+1) c6)),Lib.hid (HB6.out.setCell (p:=⟨wo.heap.size+1,1,none⟩) (by show wo.heap.size≤wo.heap.size+1; omega) (.slice o6 (j+1) c6))⟩
       case measure => simp [intOf]; omega
      ·obtain rfl : j=x.e.length:=by omega
       have HVe:=Lib.hid (show wr.ownsRow (wo.heap.size+2) 77 6 v x.e.length (x.e.flatMap Ep.cs) by have h:=HV.out; rwa [List.take_length] at h)
       have HOe:=Lib.hid (HO.out.later HBi.out)
       have HRe:=Lib.hid (HR.out.later HBi.out)
       have HFe:=Lib.hid (HF.out.later HBi.out)
       have HLe:=Lib.hid (HL.out.later HBi.out)
       have HBe:=Lib.hid (HB.out.trans (HBi.out.mono HB.out.size))
       obtain ⟨PL,hPL,hown,hin⟩:=HRe.out
       have HPL:=Lib.hid hPL
       have HIN2:=Lib.hid hin
       have HWb:=Lib.hid (alloc_below wr (.cells #[.string x.name,v] 74))
       have HW1:=Lib.hid (own_later hown HWb.out)
       have HN1:=Lib.hid (alloc_at (w:=wr) (g:=wr.heap.size) #[.string x.name,v] 74 rfl)
       have HNP:=Lib.hid (show PL.length≤1000000 by have h1:=HLI.out; rw [← hPL,List.length_map] at h1; exact h1)
       have HGE:=Lib.hid (show w.heap.size+3≤(wr.alloc (.cells #[.string x.name,v] 74)).heap.size by have:=HGO.out; have:=HBi.out.size; simp; omega)
       have HONE:=Lib.hid (show ∀ u ∈ [.string x.name,v],u.oneCell'=true by intro u hu; obtain ⟨ov,cv2,hfv⟩:=own_form HVe.out; subst hfv; simp only [List.mem_cons,List.not_mem_nil,or_false] at hu; rcases hu with rfl | rfl <;> rfl)
       obtain ⟨t0,t1⟩:=bk3f2 HOe.out
       obtain ⟨s0,s1⟩:=bk2 HX.out
       clear hPL hown hin
       have hq3 : ¬ ((x.e.length : Int) < (x.e.length : Int)):=by omega
       go_wp2_with (first
        | (at_builtin; go_must (refine wpList_append_one (wr.alloc (.cells #[.string x.name,v] 74)) rfl (.tmp 79) (.tmp 81) (e:=74) (k:=2) Tryz.underlying35 (by kernel_rfl) (by decide) rfl (w.heap.size+3) K PL.length (PL.flatMap cccs) [.string x.name,v] wr.heap.size rfl HW1.out rfl HN1.out rfl HONE.out HGE.out HNP.out ?_); intro v6 w6 hv6 hg6 hb6 hn6; obtain ⟨o6,c6,hf6⟩:=own_form hv6; subst hf6; have HV6:=Lib.hid hv6; have HO6:=Lib.hid ((HOe.out.later HWb.out).grown HW1.out hg6 (by decide)); have HF6:=Lib.hid ((HFe.out.later HWb.out).grown HW1.out hg6 (by decide) (by decide)); have HB6:=Lib.hid ((HBe.out.trans (HWb.out.mono HBe.out.size)).trans (hb6.mono (by omega))); have HVv:=Lib.hid (own_mono (B':=w.heap.size+3) (own_grown (own_later HVe.out HWb.out) HW1.out hg6 (by decide)) (by have:=HGO.out; omega)); have HI6:=Lib.hid (fun p hp => own_grown (own_later (HIN2.out p hp) HWb.out) HW1.out hg6 (by decide)); have HL6:=Lib.hid ((HLe.out.later HWb.out).grown HW1.out hg6 (by decide) (by decide)); obtain ⟨y0,y1⟩:=bk3f2 HO6.out; clear hv6 hg6 hb6 hn6))
       go_roundw
       case rel =>
        refine ⟨i+1,_,by go_num,by omega,Lib.hid (HO6.out.set (i:=2) (.slice o6 (PL.length+1) c6)),Lib.hid ?_,Lib.hid (HL6.out.set HO6.out (by decide) (by decide) 2 _),Lib.hid (HF6.out.set 2 (.slice o6 (PL.length+1) c6)),Lib.hid (HB6.out.setCell (p:=⟨w.heap.size+1+1,2,none⟩) (by show w.heap.size≤w.heap.size+1+1; omega) (.slice o6 (PL.length+1) c6))⟩
        rw [← HTK.out,← HPL.out]
        refine CcR.set (q:=w.heap.size+1+1) (t':=37) ?_ HO6.out (by decide) (by decide) 2 _
        refine ⟨PL++[(x,v)],by simp,?_,fun p hp => ?_⟩
        ·rw [List.length_append,List.flatMap_append]
         exact HV6.out
        ·rcases List.mem_append.1 hp with hp | hp
         ·exact HI6.out p hp
         ·obtain rfl:=List.mem_singleton.1 hp
          exact HVv.out
       case measure => simp [intOf]; omega
    ·obtain rfl : i=c.c.length:=by omega
     have HRz:=Lib.hid (show CcR wo (w.heap.size+3) K c.c by have h:=HR.out; rwa [List.take_length] at h)
     obtain ⟨oV,nV,cV,rfl⟩:=HL.out.form
     obtain ⟨oK,nK,cK,rfl⟩:=HRz.out.form
     obtain ⟨b0,b1⟩:=bk3f1 HO.out
     obtain ⟨b2,b3⟩:=bk3f2 HO.out
     have b4 : wo.cell? ⟨w.heap.size+1+1,0,none⟩=some (.int .u64 (c.v : Int)):=(cell_of_row _ _ 0 _ _ _ HO.out).trans rfl
     have r0 : wo.cell? ⟨w.heap.size+1,0,none⟩=some (.int .u64 0):=(cell_of_row _ _ 0 _ _ _ HF.out.rb).trans rfl
     have r3 : wo.frozen? ⟨w.heap.size+1,0,none⟩=false:=frozen_of_row _ _ 0 _ _ HF.out.rb
     obtain ⟨r1,r4⟩:=bk3f1 HF.out.rb
     obtain ⟨r2,r5⟩:=bk3f2 HF.out.rb
     have hq9 : ¬ ((c.c.length : Int) < (c.c.length : Int)):=by omega
     have HZ1:=Lib.hid (HF.out.rb.set (i:=0) (.int .u64 (c.v : Int)))
     have HZ2:=Lib.hid (HZ1.out.set (i:=1) (.slice oV nV cV))
     have HZ3:=Lib.hid (HZ2.out.set (i:=2) (.slice oK nK cK))
     have HLz:=Lib.hid (((HL.out.set HF.out.rb (by decide) (by decide) 0 (.int .u64 (c.v : Int))).set HZ1.out (by decide) (by decide) 1 (.slice oV nV cV)).set HZ2.out (by decide) (by decide) 2 (.slice oK nK cK))
     have HKz:=Lib.hid (((HRz.out.set HF.out.rb (by decide) (by decide) 0 (.int .u64 (c.v : Int))).set HZ1.out (by decide) (by decide) 1 (.slice oV nV cV)).set HZ2.out (by decide) (by decide) 2 (.slice oK nK cK))
     have HBz:=Lib.hid (((HB.out.setCell (p:=⟨w.heap.size+1,0,none⟩) (by show w.heap.size≤w.heap.size+1; omega) (.int .u64 (c.v : Int))).setCell (p:=⟨w.heap.size+1,1,none⟩) (by show w.heap.size≤w.heap.size+1; omega) (.slice oV nV cV)).setCell (p:=⟨w.heap.size+1,2,none⟩) (by show w.heap.size≤w.heap.size+1; omega) (.slice oK nK cK))
     go_wp2
     have z0:=(cell_of_row _ _ 0 _ _ _ HZ3.out).trans rfl
     have z1:=(cell_of_row _ _ 1 _ _ _ HZ3.out).trans rfl
     have z2:=(cell_of_row _ _ 2 _ _ _ HZ3.out).trans rfl
     refine bodyPost_ret (v:=.agg #[.int .u64 (c.v : Int),.slice oV nV cV,.slice oK nK cK]) (by simp [results,Tryz.results11,go_sem, *]) rfl ⟨⟨_,_,rfl,rfl,HVV.out,HLz.out.rows HOKL.out,HKz.out.rows HOKC.out⟩,HBz.out⟩
end Go.Proofs.YtjfjliobencppaaGreatDoor.Cf
