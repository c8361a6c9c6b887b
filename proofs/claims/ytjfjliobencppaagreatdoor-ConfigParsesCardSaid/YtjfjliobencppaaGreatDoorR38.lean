/- config: plain facts for ConfigFinds: trees compared, configs of one listener, rows under turns.; config: the document's Parse, over its Of; ConfigParses, over both. -/
import Derived.Test.YtjfjliobencppaaGreatDoorR37
import Derived.Test.YtjfjliobencppaaGreatDoorR31
set_option linter.unusedVariables false
set_option linter.unusedSimpArgs false
namespace Go.Proofs.YtjfjliobencppaaGreatDoor.Cf
open Go.RowKit
mutual
theorem sameT_iff : ∀ (t u : Tr),sameT t u=true↔t=u
 | .mk k n s l,.mk k' n' s' l' => by
  have ih:=sameL_iff l l'
  rw [sameT,Bool.and_eq_true,Bool.and_eq_true,Bool.and_eq_true,decide_eq_true_eq,decide_eq_true_eq,decide_eq_true_eq,ih,Tr.mk.injEq,and_assoc,and_assoc]
theorem sameL_iff : ∀ (l m : List Tr),sameL l m=true↔l=m
 | [],[] => by simp [sameL]
 | x::xs,y::ys => by
  rw [sameL,Bool.and_eq_true,sameT_iff x y,sameL_iff xs ys,List.cons.injEq]
 | [],_::_ => by simp [sameL]
 | _::_,[] => by simp [sameL]
end
theorem Ep.injv {r s : Ep} (h1 : r.ok) (h2 : s.ok) (h : r.trv=s.trv) : r=s:=by
 obtain ⟨p,t⟩:=r
 obtain ⟨p',t'⟩:=s
 simp only [Ep.trv,rowT,strT,numT,Tr.mk.injEq,List.cons.injEq,and_true,true_and] at h
 obtain ⟨e1,e2⟩:=h
 have k:=Pl.inj h1.1 h2.1 (str_inj e1)
 have a1:=h1.2
 have a2:=h2.2
 unfold Ep.u at e2
 simp only at *
 rw [k,show t=t' by omega]
theorem Cl.injv {r s : Cl} (h1 : ∀ e ∈ r.e,e.ok) (h2 : ∀ e ∈ s.e,e.ok) (h : r.trv=s.trv) : r=s:=by
 obtain ⟨n,l⟩:=r
 obtain ⟨n',l'⟩:=s
 simp only [Cl.trv,rowT,strT,numT,Tr.mk.injEq,List.cons.injEq,and_true,true_and] at h
 obtain ⟨e1,e3⟩:=h
 have k3 : l=l':=map_inj_on (P:=fun e : Ep => e.ok) (fun a b => Ep.injv) h1 h2 e3
 rw [e1,k3]
theorem Co.injv {a b : Co} (h1 : a.held) (h2 : b.held) (h : a.trv=b.trv) : a=b:=by
 obtain ⟨v,l,c⟩:=a
 obtain ⟨v',l',c'⟩:=b
 simp only [Co.trv,rowT,strT,numT,Tr.mk.injEq,List.cons.injEq,and_true,true_and] at h
 obtain ⟨e1,e2,e3⟩:=h
 have k2 : l=l':=map_inj_on (P:=fun l : Ls => l.p.ok) (fun a b => Ls.inj) (fun x hx => (h1.2.1 x hx).1) (fun x hx => (h2.2.1 x hx).1) e2
 have k3 : c=c':=map_inj_on (P:=fun x : Cl => ∀ e ∈ x.e,e.ok) (fun a b => Cl.injv) h1.2.2 h2.2.2 e3
 rw [e1,k2,k3]
theorem sameT_co {a b : Co} (ha : a.held) (hb : b.held) : sameT a.trv b.trv=decide (a=b):=by
 by_cases h : a=b
 ·subst h
  rw [decide_eq_true rfl]
  exact (sameT_iff _ _).2 rfl
 ·rw [decide_eq_false h,Bool.eq_false_iff]
  intro k
  exact h (Co.injv ha hb ((sameT_iff _ _).1 k))
theorem CoIn.cells {w : World} {c0 c1 c2 : Value} {c : Co} (h : CoIn w c0 c1 c2 c) : c0.oneCell'=true∧c1.oneCell'=true∧c2.oneCell'=true:=by
 obtain ⟨rfl,_,h1,h2⟩:=h
 obtain ⟨o,k,rfl⟩:=h1.form
 obtain ⟨o,k,rfl⟩:=h2.form
 exact ⟨rfl,rfl,rfl⟩
theorem rsame_co {w : World} {c0 c1 c2 d0 d1 d2 : Value} {a b : Co} (ha : CoIn w c0 c1 c2 a) (hb : CoIn w d0 d1 d2 b) (sa : a.sized) (sb : b.sized) :
  Calls Tryz.prog 15 #[.agg #[c0,c1,c2],.agg #[d0,d1,d2]] w (TrP (decide (a=b)) w):=by
 have h:=rsame_of a.trv b.trv (fun wz hz => value_any (ha.later hz) sa) (fun wz hz => value_any (hb.later hz) sb) ha.cells hb.cells
 rw [sameT_co ha.held hb.held] at h
 exact h
theorem same_co {w : World} {c0 c1 c2 d0 d1 d2 : Value} {a b : Co} (ha : CoIn w c0 c1 c2 a) (hb : CoIn w d0 d1 d2 b) (sa : a.sized) :
  Calls Tryz.prog 14 #[.agg #[c0,c1,c2],.agg #[d0,d1,d2]] w (TrP (decide (a=b)) w) :=
 same_any ha hb sa.1 sa.2.1 (fun x hx => (sa.2.2.1 x hx).2.1) (fun x hx => (sa.2.2.2 x hx).2)
def pLs (L : List Ls) (nm : ByteArray) (i : Nat) : Bool:=if h : i < L.length then L[i].name.toList == nm.toList else false
def pCl (L : List Cl) (nm : ByteArray) (i : Nat) : Bool:=if h : i < L.length then L[i].name.toList == nm.toList else false
def FlP (L : List Ls) (nm : ByteArray) (w : World) (e : Ending) (w' : World) : Prop:=∃ (r : Int) (x : Ls) (oo : Option Addr) (cc : Nat),e=.returned (.tuple #[.agg #[.string x.name,.int .u8 (x.p.a : Int),.int .u8 (x.p.b : Int),.int .u8 (x.p.c : Int),.int .u8 (x.p.d : Int),.int .u16 (x.p.port : Int),.slice oo x.r.length cc],.bool (decide (0≤r))])∧(FirstP L.length (pLs L nm) r∧Rw 4 RtIn w' (.slice oo x.r.length cc) x.r∧∀ k : Nat,r=(k : Int)→∃ hk : k < L.length,x=L[k])∧Below w.heap.size w w'
def FcP (L : List Cl) (nm : ByteArray) (w : World) (e : Ending) (w' : World) : Prop:=∃ (r : Int) (x : Cl) (oo : Option Addr) (cc : Nat),e=.returned (.tuple #[.agg #[.string x.name,.slice oo x.e.length cc],.bool (decide (0≤r))])∧(FirstP L.length (pCl L nm) r∧Rw 6 EpIn w' (.slice oo x.e.length cc) x.e∧∀ k : Nat,r=(k : Int)→∃ hk : k < L.length,x=L[k])∧Below w.heap.size w w'
def Cap (v : Value) : Prop:=∀ o n c,v=.slice o n c→n≤c∧c≤maxLen
def StrRow (B : Nat) (w : World) (v : Value) (n T : Nat) : Prop:=∃ o c,v=.slice o n c∧(0 < n→∃ g cur,o=some ⟨g,0,none⟩∧B≤g∧Bk w g cur 62∧∀ j,j < n→∃ s : ByteArray,cur[j * 4]?=some (.string s)∧s.size≤T)
def IntRow (B : Nat) (w : World) (v : Value) (n : Nat) : Prop:=∃ o c,v=.slice o n c∧(0 < n→∃ g cur,o=some ⟨g,0,none⟩∧B≤g∧Bk w g cur 64∧∀ j,j < n→∃ s : Int,cur[j * 6+5]?=some (.int .i64 s))
end Go.Proofs.YtjfjliobencppaaGreatDoor.Cf

set_option maxRecDepth 100000
set_option maxHeartbeats 2000000
namespace Go.Proofs.YtjfjliobencppaaGreatDoor.Cf
open Go.RowKit
def OfP (t : Tr) (w : World) (e : Ending) (w' : World) : Prop:=∃ (v : Nat) (o1 : Option Addr) (n1 k1 : Nat) (o2 : Option Addr) (n2 k2 : Nat),e=.returned (.tuple #[.agg #[.int .u64 (v : Int),.slice o1 n1 k1,.slice o2 n2 k2],.bool (!wrC t)])∧(wrC t=false→v=(rdC t).v∧LlR w' 0 (.slice o1 n1 k1) (rdC t).l∧CcR w' 0 (.slice o2 n2 k2) (rdC t).c)∧Below w.heap.size w w'
theorem LlR.sets {w : World} {B q T : Nat} {V : Value} {L : List Ls} {cs : Array Value} (h : LlR w B V L) (hq : Bk w q cs T) (h1 : 85≠T) (h2 : 86≠T) (vs : List Value) (i : Nat) : LlR (sets w q i vs) B V L:=by
 obtain ⟨PL,e1,e2,e3⟩:=h
 exact ⟨PL,e1,sets_own e2 hq h1 vs i,fun p hp => sets_own (e3 p hp) hq h2 vs i⟩
theorem CcR.sets {w : World} {B q T : Nat} {V : Value} {L : List Cl} {cs : Array Value} (h : CcR w B V L) (hq : Bk w q cs T) (h1 : 74≠T) (h2 : 77≠T) (vs : List Value) (i : Nat) : CcR (sets w q i vs) B V L:=by
 obtain ⟨PL,e1,e2,e3⟩:=h
 exact ⟨PL,e1,sets_own e2 hq h1 vs i,fun p hp => sets_own (e3 p hp) hq h2 vs i⟩
theorem of_co {t : Tr} {w : World} {v : Nat} {V K : Value} (ht : okT t) (h : v=(rdC t).v∧LlR w 0 V (rdC t).l∧CcR w 0 K (rdC t).c) : CoIn w (.int .u64 (v : Int)) V K (rdC t):=by
 have ho:=rdC_ok ht
 exact ⟨by rw [h.1],ho.1,h.2.1.rows ho.2.1,h.2.2.rows ho.2.2.1⟩
theorem ps_zero {s : ByteArray} (h : psE s≠0) : psC s=⟨0,[],[]⟩:=by unfold psC; rw [if_neg h]
theorem ps_big {s : ByteArray} (h : 8192 < s.size) : psE s=5:=by
 have e : getC s=5:=by unfold getC rdA; rw [if_pos h]; rfl
 unfold psE
 rw [if_pos (by rw [e]; decide),e]
theorem rdA_small {s : ByteArray} (h : ¬ 8192 < s.size) : rdA s=rd .v [] s.data.toList:=by unfold rdA; rw [if_neg h]
theorem ps_err {s : ByteArray} {c : Nat} (h : ¬ 8192 < s.size) (hc : c≠0) (hr : rd .v [] s.data.toList=(c,t0,[])) : psE s=c:=by
 have e : getC s=c:=by unfold getC; rw [rdA_small h,hr,if_pos hc]
 unfold psE
 rw [if_pos (by rw [e]; exact hc),e]
theorem ps_rest {s : ByteArray} {t : Tr} {l : List UInt8} (h : ¬ 8192 < s.size) (hr : rd .v [] s.data.toList=(0,t,l)) (hl : 0 < l.length) : psE s=4:=by
 have e : getC s=4:=by unfold getC; rw [rdA_small h,hr,if_neg (by simp),if_pos hl]
 unfold psE
 rw [if_pos (by rw [e]; decide),e]
theorem ps_fine {s : ByteArray} {t : Tr} (h : ¬ 8192 < s.size) (hr : rd .v [] s.data.toList=(0,t,[])) : getC s=0∧getT s=t:=by
 have e : getC s=0:=by unfold getC; rw [rdA_small h,hr,if_neg (by simp),if_neg (by simp)]
 refine ⟨e,?_⟩
 unfold getT
 rw [if_pos e,rdA_small h,hr]
theorem rparse_any (hOf : ∀ (t : Tr) (c0 c1 c2 c3 : Value) (w : World),VT w t c0 c1 c2 c3→Calls Tryz.prog 37 #[.agg #[c0,c1,c2,c3]] w (OfP t w)) (s : ByteArray) (hs : s.size≤1000000) (w : World) :
  Calls Tryz.prog 16 #[.string s] w fun e w' => (∃ c0 c1 c2,e=.returned (.tuple #[.agg #[c0,c1,c2],.int .i64 (psE s : Int)])∧CoIn w' c0 c1 c2 (psC s))∧Below w.heap.size w w':=by
 have HB0:=Lib.hid (alloc_below w (.cells #[.int .u64 0,.slice none 0 0,.slice none 0 0] 37))
 have HX0:=Lib.hid (alloc_at (w:=w) (g:=w.heap.size) #[.int .u64 0,.slice none 0 0,.slice none 0 0] 37 rfl)
 have KN:=Lib.hid (fun w => nx_any s hs s.size 0 0 (by omega) (by omega) (by omega) w)
 have KOF:=Lib.hid hOf
 have HPZ:=Lib.hid (fun h => ps_zero (s:=s) h)
 obtain ⟨E,hE0⟩ : ∃ E,psE s=E:=⟨_,rfl⟩
 obtain ⟨C,hC0⟩ : ∃ C,psC s=C:=⟨_,rfl⟩
 rw [hE0,hC0]
 have HE0:=Lib.hid hE0
 have HC0:=Lib.hid hC0
 clear hE0 hC0
 clear hOf
 go_enter Tryz.func16,Tryz.ntmps16
 go_upto_region 1 with fail
 generalize w.alloc (.cells #[.int .u64 0,.slice none 0 0,.slice none 0 0] 37)=w0 at *
 by_cases hb : 8192 < s.size
 ·have hE:=ps_big hb
  have HCC : Hid (C=⟨0,[],[]⟩):=Lib.hid (HC0.out.symm.trans (HPZ.out (by rw [hE]; decide)))
  have q1 : (8192 : Int) < (s.size : Int):=by omega
  obtain rfl : E=5:=HE0.out.symm.trans hE
  clear hE hb
  have y0:=(cell_of_row _ _ 0 _ _ _ HX0.out).trans rfl
  have y1:=(cell_of_row _ _ 1 _ _ _ HX0.out).trans rfl
  have y2:=(cell_of_row _ _ 2 _ _ _ HX0.out).trans rfl
  have z0:=frozen_of_row _ _ 0 _ _ HX0.out
  have z1:=frozen_of_row _ _ 1 _ _ HX0.out
  have z2:=frozen_of_row _ _ 2 _ _ HX0.out
  go_wp2
  have hch : (((w0.setCell ⟨w.heap.size,0,none⟩ (.int .u64 0)).setCell ⟨w.heap.size,1,none⟩ (.slice none 0 0)).setCell ⟨w.heap.size,2,none⟩ (.slice none 0 0))=sets w0 w.heap.size 0 [.int .u64 0,.slice none 0 0,.slice none 0 0]:=rfl
  rw [hch]
  clear hch
  have HYf : Hid (Bk (sets w0 w.heap.size 0 [.int .u64 0,.slice none 0 0,.slice none 0 0]) w.heap.size #[.int .u64 0,.slice none 0 0,.slice none 0 0] 37):=Lib.hid (sets_bk [.int .u64 0,.slice none 0 0,.slice none 0 0] [.int .u64 0,.slice none 0 0,.slice none 0 0] [] rfl HX0.out)
  have HBf:=Lib.hid (sets_below [.int .u64 0,.slice none 0 0,.slice none 0 0] 0 w0 HB0.out (Nat.le_refl w.heap.size))
  generalize sets w0 w.heap.size 0 [.int .u64 0,.slice none 0 0,.slice none 0 0]=wf at *
  clear y0 y1 y2 z0 z1 z2
  have y0:=(cell_of_row _ _ 0 _ _ _ HYf.out).trans rfl
  have y1:=(cell_of_row _ _ 1 _ _ _ HYf.out).trans rfl
  have y2:=(cell_of_row _ _ 2 _ _ _ HYf.out).trans rfl
  refine bodyPost_ret (v:=.tuple #[.agg #[.int .u64 0,.slice none 0 0,.slice none 0 0],.int .i64 5]) (by simp [results,Tryz.results16,go_sem, *]) rfl ?_
  exact ⟨⟨_,_,_,rfl,by rw [HCC.out]; exact CoIn.zero _⟩,HBf.out⟩
 ·have q1 : ¬ (8192 : Int) < (s.size : Int):=by omega
  have HSB:=Lib.hid hb
  clear hb
  go_wp2_with fail
  refine (KN.out _).mono ?_
  rintro e w1 ⟨hb,c,p',t,c0,c1,c2,c3,rfl,hv,herr,hok⟩
  have HX1:=Lib.hid (HX0.out.later hb)
  have HB1:=Lib.hid (HB0.out.trans (hb.mono HB0.out.size))
  have HV1 : Hid (VT w1 t c0 c1 c2 c3):=Lib.hid (VInP.keep (Nat.le_refl _) (fun _ _ _ => ⟨rfl,trivial⟩) _ hv)
  have HER:=Lib.hid (fun h => ps_err HSB.out h (by have k:=herr h [] rfl; rwa [List.drop_zero] at k))
  have HOK:=Lib.hid hok
  obtain ⟨k',n',s',o',len',cap',rfl,rfl,rfl,rfl⟩:=hv.cells
  clear hb hv herr hok
  have hbb:=alloc_below w1 (.cells #[.int .i64 k',.int .u64 (n' : Int),.string s',.slice o' len' cap'] 81)
  have HX2:=Lib.hid (HX1.out.later hbb)
  have HB2:=Lib.hid (HB1.out.trans (hbb.mono HB1.out.size))
  have HV2:=Lib.hid (HV1.out.later hbb)
  have HN2:=Lib.hid (alloc_at (w:=w1) (g:=w1.heap.size) #[.int .i64 k',.int .u64 (n' : Int),.string s',.slice o' len' cap'] 81 rfl)
  clear hbb
  go_upto_region 4 with fail
  generalize w1.alloc (.cells #[.int .i64 k',.int .u64 (n' : Int),.string s',.slice o' len' cap'] 81)=w2 at *
  by_cases hc : c=0
  ·subst hc
   obtain ⟨hp0,hp1,hrd⟩:=HOK.out rfl
   have hr : rd .v [] s.data.toList=(0,t,s.data.toList.drop p'):=by
    have k:=hrd [] rfl
    rw [List.drop_zero,rd_w_nil] at k
    exact k
   have hsl : s.data.toList.length=s.size:=rfl
   clear hrd
   by_cases hp : p' < s.size
   ·have hE:=ps_rest HSB.out hr (by rw [List.length_drop,hsl]; omega)
    have HCC : Hid (C=⟨0,[],[]⟩):=Lib.hid (HC0.out.symm.trans (HPZ.out (by rw [hE]; decide)))
    have q2 : (p' : Int) < (s.size : Int):=by omega
    obtain rfl : E=4:=HE0.out.symm.trans hE
    clear hE hr hp
    have y0:=(cell_of_row _ _ 0 _ _ _ HX2.out).trans rfl
    have y1:=(cell_of_row _ _ 1 _ _ _ HX2.out).trans rfl
    have y2:=(cell_of_row _ _ 2 _ _ _ HX2.out).trans rfl
    have z0:=frozen_of_row _ _ 0 _ _ HX2.out
    have z1:=frozen_of_row _ _ 1 _ _ HX2.out
    have z2:=frozen_of_row _ _ 2 _ _ HX2.out
    go_wp2
    have hch : (((w2.setCell ⟨w.heap.size,0,none⟩ (.int .u64 0)).setCell ⟨w.heap.size,1,none⟩ (.slice none 0 0)).setCell ⟨w.heap.size,2,none⟩ (.slice none 0 0))=sets w2 w.heap.size 0 [.int .u64 0,.slice none 0 0,.slice none 0 0]:=rfl
    rw [hch]
    clear hch
    have HYf : Hid (Bk (sets w2 w.heap.size 0 [.int .u64 0,.slice none 0 0,.slice none 0 0]) w.heap.size #[.int .u64 0,.slice none 0 0,.slice none 0 0] 37):=Lib.hid (sets_bk [.int .u64 0,.slice none 0 0,.slice none 0 0] [.int .u64 0,.slice none 0 0,.slice none 0 0] [] rfl HX2.out)
    have HBf:=Lib.hid (sets_below [.int .u64 0,.slice none 0 0,.slice none 0 0] 0 w2 HB2.out (Nat.le_refl w.heap.size))
    generalize sets w2 w.heap.size 0 [.int .u64 0,.slice none 0 0,.slice none 0 0]=wf at *
    clear y0 y1 y2 z0 z1 z2
    have y0:=(cell_of_row _ _ 0 _ _ _ HYf.out).trans rfl
    have y1:=(cell_of_row _ _ 1 _ _ _ HYf.out).trans rfl
    have y2:=(cell_of_row _ _ 2 _ _ _ HYf.out).trans rfl
    refine bodyPost_ret (v:=.tuple #[.agg #[.int .u64 0,.slice none 0 0,.slice none 0 0],.int .i64 4]) (by simp [results,Tryz.results16,go_sem, *]) rfl ?_
    exact ⟨⟨_,_,_,rfl,by rw [HCC.out]; exact CoIn.zero _⟩,HBf.out⟩
   ·have q2 : ¬ (p' : Int) < (s.size : Int):=by omega
    have hf:=ps_fine HSB.out (by rw [hr,List.drop_of_length_le (by rw [hsl]; omega)])
    have HF:=Lib.hid hf
    have HOT : Hid (okT t):=Lib.hid (okT_vin _ HV1.out)
    have hE : psE s=if wrC t then 4 else if (rdC t).many then 6 else 0:=by
     unfold psE
     rw [hf.1,hf.2,if_neg (by simp)]
    have hC : psC s=if psE s=0 then rdC t else ⟨0,[],[]⟩:=by
     unfold psC
     rw [hf.2]
    have HE:=Lib.hid hE
    have HC:=Lib.hid hC
    rw [HE0.out] at HE HC
    rw [HC0.out] at HC
    clear hE hC hf hr hp
    have KO2:=Lib.hid (KOF.out t _ _ _ _ w2 HV2.out)
    obtain ⟨⟨x0,x1,x2,x3⟩,_⟩:=bk4 HN2.out
    go_wp2_with fail
    refine (KO2.out).mono ?_
    rintro e w3 ⟨v,o1,n1,k1,o2,n2,k2,rfl,hco,hb⟩
    have HX3:=Lib.hid (HX2.out.later hb)
    have HB3:=Lib.hid (HB2.out.trans (hb.mono HB2.out.size))
    have HCO3:=Lib.hid hco
    have hbb:=alloc_below w3 (.cells #[.int .u64 (v : Int),.slice o1 n1 k1,.slice o2 n2 k2] 37)
    have HX4:=Lib.hid (HX3.out.later hbb)
    have HB4:=Lib.hid (HB3.out.trans (hbb.mono HB3.out.size))
    have HCO4:=Lib.hid (fun h => (⟨(HCO3.out h).1,(HCO3.out h).2.1.later hbb,(HCO3.out h).2.2.later hbb⟩ : v=(rdC t).v∧LlR _ 0 (.slice o1 n1 k1) (rdC t).l∧CcR _ 0 (.slice o2 n2 k2) (rdC t).c))
    have HN4:=Lib.hid (alloc_at (w:=w3) (g:=w3.heap.size) #[.int .u64 (v : Int),.slice o1 n1 k1,.slice o2 n2 k2] 37 rfl)
    clear hb hco hbb x0 x1 x2 x3
    obtain ⟨X,hX⟩ : ∃ X,wrC t=X:=⟨_,rfl⟩
    have HWR:=Lib.hid hX
    rw [hX]
    clear hX
    go_upto_region 9 with fail
    generalize w3.alloc (.cells #[.int .u64 (v : Int),.slice o1 n1 k1,.slice o2 n2 k2] 37)=w4 at *
    cases X with
    | true =>
     have HEE : Hid (E=4):=Lib.hid (by rw [HE.out,if_pos HWR.out])
     have HCC : Hid (C=⟨0,[],[]⟩):=Lib.hid (by rw [HC.out,if_neg (by rw [HEE.out]; simp)])
     have hEE:=HEE.out
     subst hEE
     have y0:=(cell_of_row _ _ 0 _ _ _ HX4.out).trans rfl
     have y1:=(cell_of_row _ _ 1 _ _ _ HX4.out).trans rfl
     have y2:=(cell_of_row _ _ 2 _ _ _ HX4.out).trans rfl
     have z0:=frozen_of_row _ _ 0 _ _ HX4.out
     have z1:=frozen_of_row _ _ 1 _ _ HX4.out
     have z2:=frozen_of_row _ _ 2 _ _ HX4.out
     go_wp2
     have hch : (((w4.setCell ⟨w.heap.size,0,none⟩ (.int .u64 0)).setCell ⟨w.heap.size,1,none⟩ (.slice none 0 0)).setCell ⟨w.heap.size,2,none⟩ (.slice none 0 0))=sets w4 w.heap.size 0 [.int .u64 0,.slice none 0 0,.slice none 0 0]:=rfl
     rw [hch]
     clear hch
     have HYf : Hid (Bk (sets w4 w.heap.size 0 [.int .u64 0,.slice none 0 0,.slice none 0 0]) w.heap.size #[.int .u64 0,.slice none 0 0,.slice none 0 0] 37):=Lib.hid (sets_bk [.int .u64 0,.slice none 0 0,.slice none 0 0] [.int .u64 0,.slice none 0 0,.slice none 0 0] [] rfl HX4.out)
     have HBf:=Lib.hid (sets_below [.int .u64 0,.slice none 0 0,.slice none 0 0] 0 w4 HB4.out (Nat.le_refl w.heap.size))
     generalize sets w4 w.heap.size 0 [.int .u64 0,.slice none 0 0,.slice none 0 0]=wf at *
     clear y0 y1 y2 z0 z1 z2
     have y0:=(cell_of_row _ _ 0 _ _ _ HYf.out).trans rfl
     have y1:=(cell_of_row _ _ 1 _ _ _ HYf.out).trans rfl
     have y2:=(cell_of_row _ _ 2 _ _ _ HYf.out).trans rfl
     refine bodyPost_ret (v:=.tuple #[.agg #[.int .u64 0,.slice none 0 0,.slice none 0 0],.int .i64 4]) (by simp [results,Tryz.results16,go_sem, *]) rfl ?_
     exact ⟨⟨_,_,_,rfl,by rw [HCC.out]; exact CoIn.zero _⟩,HBf.out⟩
    | false =>
     obtain ⟨n0,n1',n2'⟩:=bk3 HN4.out
     have KM:=Lib.hid (rmany_any (of_co HOT.out (HCO4.out HWR.out)) (rdC_ok HOT.out).2.2.2)
     go_wp2_with fail
     refine (KM.out).mono ?_
     rintro e w5 ⟨rfl,hb⟩
     have HX5:=Lib.hid (HX4.out.later hb)
     have HB5:=Lib.hid (HB4.out.trans (hb.mono HB4.out.size))
     have HN5:=Lib.hid (HN4.out.later hb)
     have HCO5:=Lib.hid (⟨(HCO4.out HWR.out).1,(HCO4.out HWR.out).2.1.later hb,(HCO4.out HWR.out).2.2.later hb⟩ : v=(rdC t).v∧LlR w5 0 (.slice o1 n1 k1) (rdC t).l∧CcR w5 0 (.slice o2 n2 k2) (rdC t).c)
     clear hb n0 n1' n2'
     obtain ⟨Y,hY⟩ : ∃ Y,(rdC t).many=Y:=⟨_,rfl⟩
     have HMM:=Lib.hid hY
     rw [hY]
     clear hY
     cases Y with
     | true =>
      have HEE : Hid (E=6):=Lib.hid (by rw [HE.out,if_neg (by rw [HWR.out]; simp),if_pos HMM.out])
      have HCC : Hid (C=⟨0,[],[]⟩):=Lib.hid (by rw [HC.out,if_neg (by rw [HEE.out]; simp)])
      have hEE:=HEE.out
      subst hEE
      have y0:=(cell_of_row _ _ 0 _ _ _ HX5.out).trans rfl
      have y1:=(cell_of_row _ _ 1 _ _ _ HX5.out).trans rfl
      have y2:=(cell_of_row _ _ 2 _ _ _ HX5.out).trans rfl
      have z0:=frozen_of_row _ _ 0 _ _ HX5.out
      have z1:=frozen_of_row _ _ 1 _ _ HX5.out
      have z2:=frozen_of_row _ _ 2 _ _ HX5.out
      go_wp2
      have hch : (((w5.setCell ⟨w.heap.size,0,none⟩ (.int .u64 0)).setCell ⟨w.heap.size,1,none⟩ (.slice none 0 0)).setCell ⟨w.heap.size,2,none⟩ (.slice none 0 0))=sets w5 w.heap.size 0 [.int .u64 0,.slice none 0 0,.slice none 0 0]:=rfl
      rw [hch]
      clear hch
      have HYf : Hid (Bk (sets w5 w.heap.size 0 [.int .u64 0,.slice none 0 0,.slice none 0 0]) w.heap.size #[.int .u64 0,.slice none 0 0,.slice none 0 0] 37):=Lib.hid (sets_bk [.int .u64 0,.slice none 0 0,.slice none 0 0] [.int .u64 0,.slice none 0 0,.slice none 0 0] [] rfl HX5.out)
      have HBf:=Lib.hid (sets_below [.int .u64 0,.slice none 0 0,.slice none 0 0] 0 w5 HB5.out (Nat.le_refl w.heap.size))
      generalize sets w5 w.heap.size 0 [.int .u64 0,.slice none 0 0,.slice none 0 0]=wf at *
      clear y0 y1 y2 z0 z1 z2
      have y0:=(cell_of_row _ _ 0 _ _ _ HYf.out).trans rfl
      have y1:=(cell_of_row _ _ 1 _ _ _ HYf.out).trans rfl
      have y2:=(cell_of_row _ _ 2 _ _ _ HYf.out).trans rfl
      refine bodyPost_ret (v:=.tuple #[.agg #[.int .u64 0,.slice none 0 0,.slice none 0 0],.int .i64 6]) (by simp [results,Tryz.results16,go_sem, *]) rfl ?_
      exact ⟨⟨_,_,_,rfl,by rw [HCC.out]; exact CoIn.zero _⟩,HBf.out⟩
     | false =>
      have HEE : Hid (E=0):=Lib.hid (by rw [HE.out,if_neg (by rw [HWR.out]; simp),if_neg (by rw [HMM.out]; simp)])
      have HCC : Hid (C=rdC t):=Lib.hid (by rw [HC.out,if_pos HEE.out])
      have hEE:=HEE.out
      subst hEE
      obtain ⟨n0,n1',n2'⟩:=bk3 HN5.out
      have y0:=(cell_of_row _ _ 0 _ _ _ HX5.out).trans rfl
      have y1:=(cell_of_row _ _ 1 _ _ _ HX5.out).trans rfl
      have y2:=(cell_of_row _ _ 2 _ _ _ HX5.out).trans rfl
      have z0:=frozen_of_row _ _ 0 _ _ HX5.out
      have z1:=frozen_of_row _ _ 1 _ _ HX5.out
      have z2:=frozen_of_row _ _ 2 _ _ HX5.out
      go_wp2
      have hch : (((w5.setCell ⟨w.heap.size,0,none⟩ (.int .u64 (v : Int))).setCell ⟨w.heap.size,1,none⟩ (.slice o1 n1 k1)).setCell ⟨w.heap.size,2,none⟩ (.slice o2 n2 k2))=sets w5 w.heap.size 0 [.int .u64 (v : Int),.slice o1 n1 k1,.slice o2 n2 k2]:=rfl
      rw [hch]
      clear hch
      have HYf : Hid (Bk (sets w5 w.heap.size 0 [.int .u64 (v : Int),.slice o1 n1 k1,.slice o2 n2 k2]) w.heap.size #[.int .u64 (v : Int),.slice o1 n1 k1,.slice o2 n2 k2] 37):=Lib.hid (sets_bk [.int .u64 (v : Int),.slice o1 n1 k1,.slice o2 n2 k2] [.int .u64 0,.slice none 0 0,.slice none 0 0] [] rfl HX5.out)
      have HBf:=Lib.hid (sets_below [.int .u64 (v : Int),.slice o1 n1 k1,.slice o2 n2 k2] 0 w5 HB5.out (Nat.le_refl w.heap.size))
      have HCf:=Lib.hid (of_co HOT.out (⟨HCO5.out.1,HCO5.out.2.1.sets HX5.out (by decide) (by decide) [.int .u64 (v : Int),.slice o1 n1 k1,.slice o2 n2 k2] 0,HCO5.out.2.2.sets HX5.out (by decide) (by decide) [.int .u64 (v : Int),.slice o1 n1 k1,.slice o2 n2 k2] 0⟩))
      generalize sets w5 w.heap.size 0 [.int .u64 (v : Int),.slice o1 n1 k1,.slice o2 n2 k2]=wf at *
      clear y0 y1 y2 z0 z1 z2
      have y0:=(cell_of_row _ _ 0 _ _ _ HYf.out).trans rfl
      have y1:=(cell_of_row _ _ 1 _ _ _ HYf.out).trans rfl
      have y2:=(cell_of_row _ _ 2 _ _ _ HYf.out).trans rfl
      refine bodyPost_ret (v:=.tuple #[.agg #[.int .u64 (v : Int),.slice o1 n1 k1,.slice o2 n2 k2],.int .i64 0]) (by simp [results,Tryz.results16,go_sem, *]) rfl ?_
      exact ⟨⟨_,_,_,rfl,by rw [HCC.out]; exact HCf.out⟩,HBf.out⟩
  ·have hE:=HER.out hc
   have HCC : Hid (C=⟨0,[],[]⟩):=Lib.hid (HC0.out.symm.trans (HPZ.out (by rw [hE]; exact hc)))
   have q2 : ((c : Int) != 0)=true:=by rw [bne_iff_ne]; omega
   have q3 : ((c : Int) == 0)=false:=by rw [beq_eq_false_iff_ne]; omega
   obtain rfl : E=c:=HE0.out.symm.trans hE
   clear hE hc
   have y0:=(cell_of_row _ _ 0 _ _ _ HX2.out).trans rfl
   have y1:=(cell_of_row _ _ 1 _ _ _ HX2.out).trans rfl
   have y2:=(cell_of_row _ _ 2 _ _ _ HX2.out).trans rfl
   have z0:=frozen_of_row _ _ 0 _ _ HX2.out
   have z1:=frozen_of_row _ _ 1 _ _ HX2.out
   have z2:=frozen_of_row _ _ 2 _ _ HX2.out
   go_wp2
   have hch : (((w2.setCell ⟨w.heap.size,0,none⟩ (.int .u64 0)).setCell ⟨w.heap.size,1,none⟩ (.slice none 0 0)).setCell ⟨w.heap.size,2,none⟩ (.slice none 0 0))=sets w2 w.heap.size 0 [.int .u64 0,.slice none 0 0,.slice none 0 0]:=rfl
   rw [hch]
   clear hch
   have HYf : Hid (Bk (sets w2 w.heap.size 0 [.int .u64 0,.slice none 0 0,.slice none 0 0]) w.heap.size #[.int .u64 0,.slice none 0 0,.slice none 0 0] 37):=Lib.hid (sets_bk [.int .u64 0,.slice none 0 0,.slice none 0 0] [.int .u64 0,.slice none 0 0,.slice none 0 0] [] rfl HX2.out)
   have HBf:=Lib.hid (sets_below [.int .u64 0,.slice none 0 0,.slice none 0 0] 0 w2 HB2.out (Nat.le_refl w.heap.size))
   generalize sets w2 w.heap.size 0 [.int .u64 0,.slice none 0 0,.slice none 0 0]=wf at *
   clear y0 y1 y2 z0 z1 z2
   have y0:=(cell_of_row _ _ 0 _ _ _ HYf.out).trans rfl
   have y1:=(cell_of_row _ _ 1 _ _ _ HYf.out).trans rfl
   have y2:=(cell_of_row _ _ 2 _ _ _ HYf.out).trans rfl
   refine bodyPost_ret (v:=.tuple #[.agg #[.int .u64 0,.slice none 0 0,.slice none 0 0],.int .i64 (E : Int)]) (by simp [results,Tryz.results16,go_sem, *]) rfl ?_
   exact ⟨⟨_,_,_,rfl,by rw [HCC.out]; exact CoIn.zero _⟩,HBf.out⟩
end Go.Proofs.YtjfjliobencppaaGreatDoor.Cf
