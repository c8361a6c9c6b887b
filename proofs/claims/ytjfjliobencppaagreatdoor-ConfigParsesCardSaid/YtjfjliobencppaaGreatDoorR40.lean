/- config: the document's Of: what it holds of the world, its exits.; config: the document's Of, where its value isn't a row of three; where it is, up to its loops. -/
import Derived.Test.YtjfjliobencppaaGreatDoorR38
set_option linter.unusedVariables false
set_option linter.unusedSimpArgs false
namespace Go.Proofs.YtjfjliobencppaaGreatDoor.Cf
open Go.RowKit
theorem wp_append_at {o : Oper} {a : Act} {W W' : World} {K : Act→World→Prop} {Q : Exit→Act→World→Prop} (s x : Operand) {v u v' : Value} {t : TypeId} (ho : o.op=.call { callee:=.builtin .append,args:=#[s,x],argTypes:=#[t,t] }) (hs : a.eval s=v) (hx : a.eval x=u)
  (hr : (Builtin.append_ #[t,t] o.type #[v,u]).run Tryz.prog W=.ok v' W') (h : K (a.put o.dst v') W') : o.wp Tryz.prog a W K Q:=by
 unfold Oper.wp execOp
 simp only [ho,resolve,invoke,builtin,Sem.run_bind,Sem.run_pure,Result.andThen_ok,List.map_toArray,List.map_cons,List.map_nil,hs,hx,hr]
 exact h
theorem run_one (W : World) {st e k ty : Nat} (hU : Tryz.prog.underlying st=some (.slice e)) (hT : Ty Tryz.prog e k=true) (hk0 : 0 < k) (B : Nat) (v : Value) (n : Nat) (xs cs : List Value) (gS : Nat) (hown : W.ownsRow B e k v n xs) (hu : Bk W gS cs.toArray e) (hl : cs.length=k) (h1 : ∀ v ∈ cs,v.oneCell'=true) (hB : B≤W.heap.size) (hn : n≤1000000) :
  ∃ o' c' w',(Builtin.append_ #[st,st] ty #[v,.slice (some ⟨gS,0,none⟩) 1 1]).run Tryz.prog W=.ok (.slice o' (n+1) c') w'∧w'.ownsRow B e k (.slice o' (n+1) c') (n+1) (xs++cs)∧W.grownBy w' v.ownBlock∧Below B W w':=by
 obtain ⟨i0,z,hi,hz0,hz1,hz2,hz3⟩:=Ty.parts hT
 obtain ⟨v',w',hr,r1,r2,_,_⟩:=run_append_own_at (P:=Tryz.prog) W B st ty e i0 z k i0.bytes hU hi hz0 hz1 rfl hz2 hk0 v n xs hown ⟨gS,0,none⟩ 1 1 cs (by omega) (by
  intro j u hj
  rw [Addr.add_mid,Nat.zero_add,cell_of_row _ _ _ _ _ _ hu]
  simpa using hj) h1 (by unfold maxLen; omega) (by
  have:=Nat.mul_le_mul (show n+1≤1000001 by omega) hz3
  omega) hB
 obtain ⟨o,c,rfl⟩:=own_form r1
 exact ⟨o,c,w',hr,r1,r2,(Below.refl B W).grown r2 hB (fun g hg => (hown.lt g hg).1)⟩
structure Oz (w : World) (c0 c1 c2 c3 : Value) (wz : World) : Prop where
 pb : Bk wz w.heap.size #[c0,c1,c2,c3] 81
 rb : Bk wz (w.heap.size+1) #[.int .u64 0,.slice none 0 0,.slice none 0 0] 37
 b : Below w.heap.size w wz
theorem Oz.later {w wz wy : World} {c0 c1 c2 c3 : Value} (h : Oz w c0 c1 c2 c3 wz) (hb : Below wz.heap.size wz wy) : Oz w c0 c1 c2 c3 wy:=⟨h.pb.later hb,h.rb.later hb,h.b.trans (hb.mono h.b.size)⟩
theorem Oz.grown {w wz wy : World} {c0 c1 c2 c3 : Value} {B' t' k' n' : Nat} {v' : Value} {xs' : List Value} (h : Oz w c0 c1 c2 c3 wz) (h' : wz.ownsRow B' t' k' v' n' xs') (hg : wz.grownBy wy v'.ownBlock) (h1 : 81≠t') (h2 : 37≠t') (hb : Below w.heap.size wz wy) : Oz w c0 c1 c2 c3 wy:=⟨h.pb.grown h' hg h1,h.rb.grown h' hg h2,h.b.trans hb⟩
theorem Oz.set {w wz : World} {c0 c1 c2 c3 : Value} (h : Oz w c0 c1 c2 c3 wz) {g : Nat} (hg : w.heap.size+1 < g) (j : Nat) (u : Value) : Oz w c0 c1 c2 c3 (wz.setCell ⟨g,j,none⟩ u):=⟨h.pb.away (by omega) j u,h.rb.away (by omega) j u,h.b.setCell (p:=⟨g,j,none⟩) (by show w.heap.size≤g; omega) u⟩
theorem of_bad {t : Tr} {w w' : World} {v n1 k1 n2 k2 : Nat} {o1 o2 : Option Addr} (h : wrC t=true) (hb : Below w.heap.size w w') : OfP t w (.returned (.tuple #[.agg #[.int .u64 (v : Int),.slice o1 n1 k1,.slice o2 n2 k2],.bool false])) w' :=
 ⟨v,o1,n1,k1,o2,n2,k2,by rw [h]; rfl,fun k => absurd k (by rw [h]; decide),hb⟩
theorem VT.kids {w : World} {t : Tr} {c0 c1 c2 c3 : Value} {l : List Tr} (h : VT w t c0 c1 c2 c3) (hl : Tr.tl t=l) : ∃ (o : Option Addr) (cap b off : Nat),c0=.int .i64 (Tr.tk t)∧c1=.int .u64 (Tr.tn t : Int)∧c2=.string (Tr.ts t)∧c3=.slice o l.length cap∧l.length≤1000000∧(0 < l.length→o=some ⟨b,off,none⟩) ∧
  ∀ i (h : i < l.length),∃ (o2 : Option Addr) (cap2 : Nat),(∀ wz,Below w.heap.size w wz→wz.cell? ⟨b,off+i * 4,none⟩=some (.int .i64 (Tr.tk l[i]))∧wz.cell? ⟨b,off+i * 4+1,none⟩=some (.int .u64 (Tr.tn l[i] : Int))∧wz.cell? ⟨b,off+i * 4+2,none⟩=some (.string (Tr.ts l[i]))∧wz.cell? ⟨b,off+i * 4+3,none⟩=some (.slice o2 (Tr.tl l[i]).length cap2)) ∧
   VT w l[i] (.int .i64 (Tr.tk l[i])) (.int .u64 (Tr.tn l[i] : Int)) (.string (Tr.ts l[i])) (.slice o2 (Tr.tl l[i]).length cap2):=by
 subst hl
 exact h.child
theorem wrC_at {t x0 x1 x2 : Tr} (hw : wrF 3 t=false) (hl : Tr.tl t=[x0,x1,x2]) : wrC t=(wrN x0 || wrL wrLs x1 || wrL wrCl x2)∧rdC t=⟨numR x0,(rows x1).map rdLs,(rows x2).map rdCl⟩:=by
 have e0 : fld 3 0 t=x0:=by rw [fld_eq hw (by omega)]; simp only [hl]; rfl
 have e1 : fld 3 1 t=x1:=by rw [fld_eq hw (by omega)]; simp only [hl]; rfl
 have e2 : fld 3 2 t=x2:=by rw [fld_eq hw (by omega)]; simp only [hl]; rfl
 unfold wrC rdC
 rw [e0,e1,e2,hw]
 exact ⟨by simp,rfl⟩
theorem wrLs_at {t x0 x1 x2 : Tr} (hw : wrF 3 t=false) (hl : Tr.tl t=[x0,x1,x2]) : wrLs t=(wrS x0 || wrP x1 || wrL wrR x2)∧rdLs t=⟨txtR x0,plR x1,(rows x2).map rdR⟩:=by
 have e0 : fld 3 0 t=x0:=by rw [fld_eq hw (by omega)]; simp only [hl]; rfl
 have e1 : fld 3 1 t=x1:=by rw [fld_eq hw (by omega)]; simp only [hl]; rfl
 have e2 : fld 3 2 t=x2:=by rw [fld_eq hw (by omega)]; simp only [hl]; rfl
 unfold wrLs rdLs
 rw [e0,e1,e2,hw]
 exact ⟨by simp,rfl⟩
theorem wrR_at {t x0 x1 x2 x3 : Tr} (hw : wrF 4 t=false) (hl : Tr.tl t=[x0,x1,x2,x3]) : wrR t=(wrS x0 || wrS x1 || wrS x2 || wrN x3)∧rdR t=⟨txtR x0,txtR x1,txtR x2,numR x3⟩:=by
 have e0 : fld 4 0 t=x0:=by rw [fld_eq hw (by omega)]; simp only [hl]; rfl
 have e1 : fld 4 1 t=x1:=by rw [fld_eq hw (by omega)]; simp only [hl]; rfl
 have e2 : fld 4 2 t=x2:=by rw [fld_eq hw (by omega)]; simp only [hl]; rfl
 have e3 : fld 4 3 t=x3:=by rw [fld_eq hw (by omega)]; simp only [hl]; rfl
 unfold wrR rdR
 rw [e0,e1,e2,e3,hw]
 exact ⟨by simp,rfl⟩
theorem wrCl_at {t x0 x1 : Tr} (hw : wrF 2 t=false) (hl : Tr.tl t=[x0,x1]) : wrCl t=(wrS x0 || wrL wrE x1)∧rdCl t=⟨txtR x0,(rows x1).map rdE⟩:=by
 have e0 : fld 2 0 t=x0:=by rw [fld_eq hw (by omega)]; simp only [hl]; rfl
 have e1 : fld 2 1 t=x1:=by rw [fld_eq hw (by omega)]; simp only [hl]; rfl
 unfold wrCl rdCl
 rw [e0,e1,hw]
 exact ⟨by simp,rfl⟩
theorem wrE_at {t x0 x1 : Tr} (hw : wrF 2 t=false) (hl : Tr.tl t=[x0,x1]) : wrE t=(wrP x0 || wrW x1)∧rdE t=⟨plR x0,(wgtR x1 : Int)⟩:=by
 have e0 : fld 2 0 t=x0:=by rw [fld_eq hw (by omega)]; simp only [hl]; rfl
 have e1 : fld 2 1 t=x1:=by rw [fld_eq hw (by omega)]; simp only [hl]; rfl
 unfold wrE rdE
 rw [e0,e1,hw]
 exact ⟨by simp,rfl⟩
theorem two_of {l : List Tr} (h : l.length=2) : ∃ a b,l=[a,b]:=match l,h with | [a,b],_ => ⟨a,b,rfl⟩
theorem three_of {l : List Tr} (h : l.length=3) : ∃ a b c,l=[a,b,c]:=match l,h with | [a,b,c],_ => ⟨a,b,c,rfl⟩
theorem four_of {l : List Tr} (h : l.length=4) : ∃ a b c d,l=[a,b,c,d]:=match l,h with | [a,b,c,d],_ => ⟨a,b,c,d,rfl⟩
end Go.Proofs.YtjfjliobencppaaGreatDoor.Cf

set_option maxRecDepth 100000
set_option maxHeartbeats 2000000
namespace Go.Proofs.YtjfjliobencppaaGreatDoor.Cf
open Go.RowKit
theorem of_form (t : Tr) (c0 c1 c2 c3 : Value) (w : World) (h : VT w t c0 c1 c2 c3) (hF : wrF 3 t=true) : Calls Tryz.prog 37 #[.agg #[c0,c1,c2,c3]] w (OfP t w):=by
 have KA : Hid (∀ wz,Below w.heap.size w wz→Calls Tryz.prog 81 #[.agg #[c0,c1,c2,c3],.int .i64 3,.int .i64 3] wz (TrP false wz)):=Lib.hid (fun wz hz => by
  have k:=shape_any 3 3 t _ _ _ _ wz (h.later hz)
  rw [show shp 3 3 t=!wrF 3 t from shp_row (n:=3),hF] at k
  exact k)
 have HW : Hid (wrC t=true):=Lib.hid (by unfold wrC; rw [hF]; rfl)
 obtain ⟨o,cap,b,off,rfl,rfl,rfl,rfl,hz⟩:=h.child
 clear hz h
 generalize (Tr.tl t).length=m at *
 clear hF
 have HZ0:=Lib.hid (show Oz w (.int .i64 (Tr.tk t)) (.int .u64 (Tr.tn t : Int)) (.string (Tr.ts t)) (.slice o m cap) (((w.alloc (.cells #[.int .i64 (Tr.tk t),.int .u64 (Tr.tn t : Int),.string (Tr.ts t),.slice o m cap] 81)).alloc (.cells #[.int .u64 0,.slice none 0 0,.slice none 0 0] 37)).alloc (.cells #[.int .u64 0,.slice none 0 0,.slice none 0 0] 37)) from ⟨((alloc_at (w:=w) (g:=w.heap.size) _ _ rfl).later (alloc_below _ _)).later (alloc_below _ _),(alloc_at (w:=(w.alloc (.cells #[.int .i64 (Tr.tk t),.int .u64 (Tr.tn t : Int),.string (Tr.ts t),.slice o m cap] 81))) (g:=w.heap.size+1) _ _ (by simp)).later (alloc_below _ _),(alloc_below _ _).trans (((alloc_below _ _).mono (by simp)).trans ((alloc_below _ _).mono (by simp <;> omega)))⟩)
 have HO0:=Lib.hid (alloc_at (w:=((w.alloc (.cells #[.int .i64 (Tr.tk t),.int .u64 (Tr.tn t : Int),.string (Tr.ts t),.slice o m cap] 81)).alloc (.cells #[.int .u64 0,.slice none 0 0,.slice none 0 0] 37))) (g:=w.heap.size+1+1) #[.int .u64 0,.slice none 0 0,.slice none 0 0] 37 (by simp))
 obtain ⟨w0,hw0⟩ : ∃ w0,w0=(((w.alloc (.cells #[.int .i64 (Tr.tk t),.int .u64 (Tr.tn t : Int),.string (Tr.ts t),.slice o m cap] 81)).alloc (.cells #[.int .u64 0,.slice none 0 0,.slice none 0 0] 37)).alloc (.cells #[.int .u64 0,.slice none 0 0,.slice none 0 0] 37)):=⟨_,rfl⟩
 rw [← hw0] at HZ0 HO0
 go_enter Tryz.func37,Tryz.ntmps37
 go_upto_region 2 with fail
 rw [← hw0]
 clear hw0
 obtain ⟨⟨f0,f1,f2,f3⟩,_⟩:=bk4 HZ0.out.pb
 go_wp2_with fail
 refine (KA.out _ HZ0.out.b).mono ?_
 rintro e w1 ⟨rfl,hb⟩
 have HZ1:=Lib.hid (HZ0.out.later hb)
 have HO1:=Lib.hid (HO0.out.later hb)
 clear hb f0 f1 f2 f3
 obtain ⟨k0,k1,k2⟩:=bk3 HO1.out
 have y0:=(cell_of_row _ _ 0 _ _ _ HZ1.out.rb).trans rfl
 have y1:=(cell_of_row _ _ 1 _ _ _ HZ1.out.rb).trans rfl
 have y2:=(cell_of_row _ _ 2 _ _ _ HZ1.out.rb).trans rfl
 have z0:=frozen_of_row _ _ 0 _ _ HZ1.out.rb
 have z1:=frozen_of_row _ _ 1 _ _ HZ1.out.rb
 have z2:=frozen_of_row _ _ 2 _ _ HZ1.out.rb
 go_wp2
 have hch : (((w1.setCell ⟨w.heap.size+1,0,none⟩ (.int .u64 0)).setCell ⟨w.heap.size+1,1,none⟩ (.slice none 0 0)).setCell ⟨w.heap.size+1,2,none⟩ (.slice none 0 0))=sets w1 (w.heap.size+1) 0 [.int .u64 0,.slice none 0 0,.slice none 0 0]:=rfl
 rw [hch]
 clear hch
 have HYf : Hid (Bk (sets w1 (w.heap.size+1) 0 [.int .u64 0,.slice none 0 0,.slice none 0 0]) (w.heap.size+1) #[.int .u64 0,.slice none 0 0,.slice none 0 0] 37):=Lib.hid (sets_bk [.int .u64 0,.slice none 0 0,.slice none 0 0] [.int .u64 0,.slice none 0 0,.slice none 0 0] [] rfl HZ1.out.rb)
 have HBf:=Lib.hid (sets_below [.int .u64 0,.slice none 0 0,.slice none 0 0] 0 w1 HZ1.out.b (show w.heap.size≤w.heap.size+1 by omega))
 generalize sets w1 (w.heap.size+1) 0 [.int .u64 0,.slice none 0 0,.slice none 0 0]=wf at *
 clear k0 k1 k2 y0 y1 y2 z0 z1 z2
 have y0:=(cell_of_row _ _ 0 _ _ _ HYf.out).trans rfl
 have y1:=(cell_of_row _ _ 1 _ _ _ HYf.out).trans rfl
 have y2:=(cell_of_row _ _ 2 _ _ _ HYf.out).trans rfl
 refine bodyPost_ret (v:=.tuple #[.agg #[.int .u64 0,.slice none 0 0,.slice none 0 0],.bool false]) (by simp [results,Tryz.results37,go_sem, *]) rfl ?_
 exact of_bad HW.out HBf.out
end Go.Proofs.YtjfjliobencppaaGreatDoor.Cf
