/- law07.To: a value made anew.; law07.To: the walk.; codec.cloned: what holds while values are made anew, and all within them.; codec.Same: slices.EqualFunc over it, and itself.; codec.cloned: the walk. -/
import Derived.Test.YtjfjliobencppaaGreatDoorR04
import Derived.Deep.RegionLaw
import Derived.Deep.RegionHeld3
set_option linter.unusedVariables false
set_option linter.unusedSimpArgs false
namespace Go.Proofs.YtjfjliobencppaaGreatDoor
open Go.RowKit
theorem step_vrow {w : World} {ops : Array Oper} {o : Oper} {a : Act} {K : Act→World→Prop} {Q : Exit→Act→World→Prop} {E : Prop} (hgd : o.guard=none) (s x : Operand) (t T : TypeId)
  (ho : o.op=.call { callee:=.builtin .append,args:=#[s,x],argTypes:=#[t,t] })
  (hu : Tryz.prog.underlying t=some (.slice T)) (hinfo : (Tryz.prog.info? T).map (fun i => (i.zero,i.size,i.bytes))=some (some (.agg #[.int .i64 0,.int .u64 0,.string ⟨#[]⟩,.slice none 0 0]),4,56))
  (g : Nat) (ρ : Option Nat) (oo : Option Addr) (cap n : Nat) (xs : List Value) (hR : VRow T ρ oo cap n xs w) (hn : n+1≤1000000000) (ad : Addr) (news : List Value) (hl : news.length=4) (hnews : ∀ j u,news[j]?=some u→w.cell? (ad.add j)=some u) (h1 : ∀ u ∈ news,u.oneCell'=true)
  (hs : a.eval s=.slice oo n cap) (hx : a.eval x=.slice (some ad) 1 1)
  (h : ∀ o' cap' w' ρ',VRow T ρ' o' cap' (n+1) (xs++news) w'→Nxt ρ ρ' w→Chg g ρ w w'→K (a.put o.dst (.slice o' (n+1) cap')) w') :
  if Region.wanted o (yielded ops a.tmps)=true then Oper.wp Tryz.prog o a w K Q else E:=by
 have hw : Region.wanted o (yielded ops a.tmps)=true:=by simp [Region.wanted,hgd]
 rw [if_pos hw]
 obtain ⟨o',cap',w',ρ',hr,h2,h3,h4⟩:=vrow_append t T o.type hu hinfo g w ρ oo cap n xs hR hn ad news hl hnews h1
 unfold Oper.wp execOp
 simp only [ho,resolve,invoke,builtin,Sem.run_bind,Sem.run_pure,Result.andThen_ok,List.map_toArray,List.map_cons,List.map_nil,hs,hx,hr]
 exact h o' cap' w' ρ' h2 h3 h4
def TOW (w : World) (a b c d : Value) (k : Int) (n : Nat) (s : ByteArray) (l : List Tr) (ρ : Option Nat) (oo : Option Addr) (cap j : Nat) (xs : List Value) (wz : World) : Prop :=
 VW w a b c d wz∧wz.heap[w.heap.size+1]?=some (.cells #[.int .i64 0,.int .u64 0,.string ⟨#[]⟩,.slice none 0 0] 81 (0,0))∧wz.heap[w.heap.size+2]?=some (.cells #[.int .i64 k,.int .u64 (n : Int),.string s,.slice oo j cap] 81 (0,0))∧VRow 81 ρ oo cap j xs wz∧(∀ r,ρ=some r→w.heap.size+3≤r) ∧
  ∀ i (h : i < l.length),i < j→∃ d0 d1 d2 d3,xs[i * 4]?=some d0∧xs[i * 4+1]?=some d1∧xs[i * 4+2]?=some d2∧xs[i * 4+3]?=some d3∧VInP wz (fun b => w.heap.size+3≤b∧ρ≠some b) l[i] d0 d1 d2 d3
end Go.Proofs.YtjfjliobencppaaGreatDoor

namespace Go.Proofs.YtjfjliobencppaaGreatDoor
open Go.RowKit
def ToP (t : Tr) (w : World) (e : Ending) (w' : World) : Prop:=∃ d0 d1 d2 d3,e=.returned (.agg #[d0,d1,d2,d3])∧VInP w' (fun b => w.heap.size≤b) t d0 d1 d2 d3∧Below w.heap.size w w'
theorem news_at (W : World) (vs : List Value) (T : TypeId) (g : Nat) (hg : g=W.heap.size) : ∀ j u,vs[j]?=some u→(W.alloc (.cells vs.toArray T)).cell? ((⟨g,0,none⟩ : Addr).add j)=some u:=by
 subst hg
 intro j u hj
 rw [plain_add,cell_of_row _ W.heap.size j _ _ _ (heap_alloc_new W _)]
 simpa using hj
end Go.Proofs.YtjfjliobencppaaGreatDoor

namespace Go.Proofs.YtjfjliobencppaaGreatDoor
open Go.RowKit
def ClW (w : World) (l : List Tr) (ρ : Option Nat) (oo : Option Addr) (cap j : Nat) (xs : List Value) (wz : World) : Prop :=
 Below w.heap.size w wz∧VRow 69 ρ oo cap j xs wz∧(∀ r,ρ=some r→w.heap.size≤r) ∧
  ∀ i (h : i < l.length),i < j→∃ d0 d1 d2 d3,xs[i * 4]?=some d0∧xs[i * 4+1]?=some d1∧xs[i * 4+2]?=some d2∧xs[i * 4+3]?=some d3∧VInP wz (fun b => w.heap.size≤b∧ρ≠some b) l[i] d0 d1 d2 d3
theorem ClW.later {w wz w1 : World} {l : List Tr} {ρ : Option Nat} {oo : Option Addr} {cap j : Nat} {xs : List Value} (h : ClW w l ρ oo cap j xs wz) (hb : Below wz.heap.size wz w1) : ClW w l ρ oo cap j xs w1:=by
 obtain ⟨h1,h4,h5,h6⟩:=h
 refine ⟨h1.trans (hb.mono h1.size),h4.keep (fun r hr => hb.block _ (h4.lt r hr)),h5,fun i hi hj => ?_⟩
 obtain ⟨d0,d1,d2,d3,x0,x1,x2,x3,hv⟩:=h6 i hi hj
 exact ⟨d0,d1,d2,d3,x0,x1,x2,x3,VInP.keep hb.size (fun b hb' hP => ⟨hb.block b hb',hP⟩) _ hv⟩
theorem clw_put {w w6 w7 : World} {l : List Tr} {ρ ρ' : Option Nat} {oo o' : Option Addr} {cap cap' j : Nat} {xs : List Value} {d0 d1 d2 d3 : Value} (hjl : j < l.length)
  (g6 : ClW w l ρ oo cap j xs w6) (hv6 : VInP w6 (fun b => w.heap.size≤b∧ρ≠some b) l[j] d0 d1 d2 d3)
  (hR : VRow 69 ρ' o' cap' (j+1) (xs++[d0,d1,d2,d3]) w7) (hn : Nxt ρ ρ' w6) (hc : Chg w6.heap.size ρ w6 w7) :
  ClW w l ρ' o' cap' (j+1) (xs++[d0,d1,d2,d3]) w7:=by
 obtain ⟨g1,g4,g5,g7⟩:=g6
 have hx : xs.length=j * 4:=g4.1
 have hnew : ∀ r,ρ'=some r→w.heap.size≤r:=by
  intro r hr
  rcases hn with rfl | ⟨q,rfl,hq⟩
  ·exact g5 r hr
  ·cases hr; have:=g1.size; omega
 have hkeep : ∀ b',b' < w6.heap.size→(w.heap.size≤b'∧ρ≠some b')→w7.heap[b']?=w6.heap[b']?∧(w.heap.size≤b'∧ρ'≠some b'):=by
  intro b' hb' hP
  refine ⟨hc.2.2.2.2 b' hb' (by omega) hP.2,hP.1,?_⟩
  rcases hn with rfl | ⟨q,rfl,hq⟩
  ·exact hP.2
  ·intro e; cases e; omega
 refine ⟨g1.trans ⟨hc.1,hc.2.1,hc.2.2.1,hc.2.2.2.1,fun q hq => hc.2.2.2.2 q (by have:=g1.size; omega) (by have:=g1.size; omega) (fun e => by have:=g5 q e; omega)⟩,hR,hnew,?_⟩
 intro i hi hij
 by_cases hlt : i < j
 ·obtain ⟨e0,e1,e2,e3,x0,x1,x2,x3,hvi⟩:=g7 i hi hlt
  refine ⟨e0,e1,e2,e3,?_,?_,?_,?_,VInP.keep hc.2.2.2.1 hkeep _ hvi⟩
  all_goals (rw [List.getElem?_append_left (by rw [hx]; omega)]; assumption)
 ·obtain rfl : i=j:=by omega
  refine ⟨d0,d1,d2,d3,?_,?_,?_,?_,VInP.keep hc.2.2.2.1 hkeep _ hv6⟩
  all_goals (rw [List.getElem?_append_right (by rw [hx]; omega),hx])
  ·rw [Nat.sub_self]; rfl
  ·rw [show i * 4+1 - i * 4=1 by omega]; rfl
  ·rw [show i * 4+2 - i * 4=2 by omega]; rfl
  ·rw [show i * 4+3 - i * 4=3 by omega]; rfl
def ClP (l : List Tr) (w : World) (e : Ending) (w' : World) : Prop :=
 ∃ (o : Option Addr) (cap r : Nat),e=.returned (.slice o l.length cap)∧(0 < l.length→o=some ⟨r,0,none⟩∧r < w'.heap.size∧w.heap.size≤r)∧VInPL w' (fun b => w.heap.size≤b) r 0 l∧Below w.heap.size w w'
theorem clw_done {w wr : World} {l : List Tr} {ρ : Option Nat} {oo : Option Addr} {cap : Nat} {xs : List Value} (h : ClW w l ρ oo cap l.length xs wr) : ClP l w (.returned (.slice oo l.length cap)) wr:=by
 obtain ⟨hB,hR,hr,hE⟩:=h
 rcases Nat.eq_zero_or_pos l.length with h0 | h0
 ·exact ⟨oo,cap,0,rfl,fun hp => absurd hp (by omega),VInPL.of (fun i hi => absurd hi (by omega)),hB⟩
 ·obtain ⟨d0,_,_,_,x0,_⟩:=hE 0 h0 h0
  obtain ⟨r,e1,e2,_⟩:=hR.cell _ _ x0
  refine ⟨oo,cap,r,rfl,fun _ => ⟨e2,hR.lt r e1,hr r e1⟩,VInPL.of (fun i hi => ?_),hB⟩
  obtain ⟨d0,d1,d2,d3,x0,x1,x2,x3,hv⟩:=hE i hi hi
  have cell : ∀ j u,xs[j]?=some u→wr.cell? ⟨r,j,none⟩=some u:=fun j u hj => by
   obtain ⟨r',q1,_,q3⟩:=hR.cell j u hj
   rw [e1] at q1
   cases q1
   exact q3
  rw [Nat.zero_add]
  exact ⟨d0,d1,d2,d3,cell _ _ x0,cell _ _ x1,cell _ _ x2,cell _ _ x3,VInP.keep (Nat.le_refl _) (fun b' _ hP => ⟨rfl,hP.1⟩) _ hv⟩
theorem vinp_mk {w w' : World} {P : Nat→Prop} {k : Int} {n : Nat} {s : ByteArray} {l : List Tr} {o : Option Addr} {cap r : Nat} (hn : n≤18446744073709551615) (hz : s.size≤1000000000∧l.length≤1000000)
  (ho : 0 < l.length→o=some ⟨r,0,none⟩∧r < w'.heap.size∧w.heap.size≤r) (hl : VInPL w' (fun b => w.heap.size≤b) r 0 l) (hP : ∀ b,w.heap.size≤b→P b) : VInP w' P (.mk k n s l) (.int .i64 k) (.int .u64 (n : Int)) (.string s) (.slice o l.length cap):=by
 unfold VInP
 refine ⟨rfl,rfl,hn,rfl,hz,o,cap,r,0,rfl,fun hp => ⟨(ho hp).1,(ho hp).2.1,hP r (ho hp).2.2⟩,VInPL.of (fun i hi => ?_)⟩
 obtain ⟨d0,d1,d2,d3,e0,e1,e2,e3,hv⟩:=hl.at i hi
 exact ⟨d0,d1,d2,d3,e0,e1,e2,e3,VInP.keep (Nat.le_refl _) (fun b' _ h => ⟨rfl,hP b' h⟩) _ hv⟩
end Go.Proofs.YtjfjliobencppaaGreatDoor

namespace Go.Proofs.YtjfjliobencppaaGreatDoor
open Go.RowKit
mutual
def sameT : Tr→Tr→Bool
 | .mk k n s l,.mk k' n' s' l' => decide (k=k') && decide (n=n') && decide (s=s') && sameL l l'
def sameL : List Tr→List Tr→Bool
 | [],[] => true
 | x::xs,y::ys => sameT x y && sameL xs ys
 | [],_::_ => false
 | _::_,[] => false
end
theorem sameL_len : ∀ (l l' : List Tr),l.length≠l'.length→sameL l l'=false
 | [],[],h => absurd rfl h
 | [],_::_,_ => by unfold sameL; rfl
 | _::_,[],_ => by unfold sameL; rfl
 | x::xs,y::ys,h => by
  unfold sameL
  rw [sameL_len xs ys (by simpa using h),Bool.and_false]
theorem sameL_iff : ∀ (l l' : List Tr),l.length=l'.length→(sameL l l'=true↔∀ i (h : i < l.length) (h' : i < l'.length),sameT l[i] l'[i]=true)
 | [],[],_ => by unfold sameL; simp
 | [],_::_,h => by simp at h
 | _::_,[],h => by simp at h
 | x::xs,y::ys,h => by
  unfold sameL
  have ih:=sameL_iff xs ys (by simpa using h)
  rw [Bool.and_eq_true,ih]
  constructor
  ·rintro ⟨h1,h2⟩ i hi hi'
   match i,hi,hi' with
   | 0,_,_ => exact h1
   | i+1,hi,hi' => exact h2 i (by simpa using hi) (by simpa using hi')
  ·intro h2
   exact ⟨h2 0 (by simp) (by simp),fun i hi hi' => h2 (i+1) (by simpa using hi) (by simpa using hi')⟩
theorem VInL.keep {w w' : World} (hb : Below w.heap.size w w') {b off : Nat} {l : List Tr} (hbl : 0 < l.length→b < w.heap.size) (h : VInL w b off l) : VInL w' b off l :=
 VInL.of (fun i hi => by
  obtain ⟨d0,d1,d2,d3,e0,e1,e2,e3,hv⟩:=h.at i hi
  have hb':=hbl (by omega)
  exact ⟨d0,d1,d2,d3,(hb.cell (p:=⟨b,_,none⟩) hb').trans e0,(hb.cell (p:=⟨b,_,none⟩) hb').trans e1,(hb.cell (p:=⟨b,_,none⟩) hb').trans e2,(hb.cell (p:=⟨b,_,none⟩) hb').trans e3,hv.later hb⟩)
end Go.Proofs.YtjfjliobencppaaGreatDoor

set_option maxRecDepth 100000
set_option maxHeartbeats 4000000
namespace Go.Proofs.YtjfjliobencppaaGreatDoor
open Go.RowKit
theorem wp_vrow {w : World} {o : Oper} {a : Act} {K : Act→World→Prop} {Q : Exit→Act→World→Prop} (s x : Operand) (t T : TypeId)
  (ho : o.op=.call { callee:=.builtin .append,args:=#[s,x],argTypes:=#[t,t] })
  (hu : Tryz.prog.underlying t=some (.slice T)) (hinfo : (Tryz.prog.info? T).map (fun i => (i.zero,i.size,i.bytes))=some (some (.agg #[.int .i64 0,.int .u64 0,.string ⟨#[]⟩,.slice none 0 0]),4,56))
  (g : Nat) (ρ : Option Nat) (oo : Option Addr) (cap n : Nat) (xs : List Value) (hR : VRow T ρ oo cap n xs w) (hn : n+1≤1000000000) (ad : Addr) (news : List Value) (hl : news.length=4) (hnews : ∀ j u,news[j]?=some u→w.cell? (ad.add j)=some u) (h1 : ∀ u ∈ news,u.oneCell'=true)
  (hs : a.eval s=.slice oo n cap) (hx : a.eval x=.slice (some ad) 1 1)
  (h : ∀ o' cap' w' ρ',VRow T ρ' o' cap' (n+1) (xs++news) w'→Nxt ρ ρ' w→Chg g ρ w w'→K (a.put o.dst (.slice o' (n+1) cap')) w') : Oper.wp Tryz.prog o a w K Q:=by
 obtain ⟨o',cap',w',ρ',hr,h2,h3,h4⟩:=vrow_append t T o.type hu hinfo g w ρ oo cap n xs hR hn ad news hl hnews h1
 unfold Oper.wp execOp
 simp only [ho,resolve,invoke,builtin,Sem.run_bind,Sem.run_pure,Result.andThen_ok,List.map_toArray,List.map_cons,List.map_nil,hs,hx,hr]
 exact h o' cap' w' ρ' h2 h3 h4
theorem VInPL.keep {w w' : World} {P Q : Nat→Prop} {b off : Nat} {l : List Tr} (hs : w.heap.size≤w'.heap.size) (hk : ∀ b,b < w.heap.size→P b→w'.heap[b]?=w.heap[b]?∧Q b) (hbl : 0 < l.length→b < w.heap.size∧P b) (h : VInPL w P b off l) : VInPL w' Q b off l :=
 VInPL.of (fun i hi => by
  obtain ⟨d0,d1,d2,d3,e0,e1,e2,e3,hv⟩:=h.at i hi
  have hb':=hbl (by omega)
  have cc:=fun j => World.cell?_of_block (a:=⟨b,j,none⟩) (hk b hb'.1 hb'.2).1
  exact ⟨d0,d1,d2,d3,(cc _).trans e0,(cc _).trans e1,(cc _).trans e2,(cc _).trans e3,VInP.keep hs hk _ hv⟩)
def Bx (X : Nat) (a b c d : Value) (wz : World) : Prop:=(wz.cell? ⟨X,0,none⟩=some a∧wz.cell? ⟨X,1,none⟩=some b∧wz.cell? ⟨X,2,none⟩=some c∧wz.cell? ⟨X,3,none⟩=some d)∧X < wz.heap.size
theorem Bx.later {X : Nat} {a b c d : Value} {wz w1 : World} (h : Bx X a b c d wz) (hb : Below wz.heap.size wz w1) : Bx X a b c d w1:=⟨four_below h.1 hb h.2,Nat.lt_of_lt_of_le h.2 hb.size⟩
theorem Bx.drew {X : Nat} {a b c d : Value} {wz : World} (h : Bx X a b c d wz) : Bx X a b c d wz.drew:=h
theorem Bx.alloc {X : Nat} {a b c d : Value} {wz : World} (h : Bx X a b c d wz) (o : Obj) : Bx X a b c d (wz.alloc o):=h.later (alloc_below _ _)
theorem Bx.chg {X g : Nat} {ρ : Option Nat} {a b c d : Value} {wz w1 : World} (h : Bx X a b c d wz) (hc : Chg g ρ wz w1) (hg : X≠g) (hr : ρ≠some X) : Bx X a b c d w1:=by
 have hb:=hc.2.2.2.2 X h.2 hg hr
 have cc:=fun j => World.cell?_of_block (a:=⟨X,j,none⟩) hb
 exact ⟨⟨(cc 0).trans h.1.1,(cc 1).trans h.1.2.1,(cc 2).trans h.1.2.2.1,(cc 3).trans h.1.2.2.2⟩,Nat.lt_of_lt_of_le h.2 hc.2.2.2.1⟩
theorem Bx.chg2 {X : Nat} {ρ : Option Nat} {a b c d : Value} {wz w1 : World} (h : Bx X a b c d wz) (hc : Chg wz.heap.size ρ wz w1) (hr : ρ≠some X) : Bx X a b c d w1:=h.chg hc (Nat.ne_of_lt h.2) hr
theorem cloned_step (l : List Tr) (o : Option Addr) (cap b off : Nat) (hlen : l.length≤1000000)
  (ih : ∀ x ∈ l,∀ k n s l2,x=Tr.mk k n s l2→l2.length≤1000000→∀ (o : Option Addr) (cap b off : Nat) (w : World),(0 < l2.length→o=some ⟨b,off,none⟩∧b < w.heap.size)→VInL w b off l2→Calls Tryz.prog 125 #[.slice o l2.length cap] w (ClP l2 w))
  (w : World) (ho : 0 < l.length→o=some ⟨b,off,none⟩∧b < w.heap.size) (hl : VInL w b off l) :
  Calls Tryz.prog 125 #[.slice o l.length cap] w (ClP l w):=by
 obtain ⟨m,hm⟩ : ∃ m,m=l.length:=⟨_,rfl⟩
 rw [← hm] at hlen ⊢
 have HM:=Lib.hid hm
 have HO:=Lib.hid ho
 have HL:=Lib.hid hl
 have IH:=Lib.hid ih
 clear ho hl ih hm
 go_enter Tryz.func125,Tryz.ntmps125
 go_wp2_with fail
 go_loopw [3,8] (fun rv iv wr => ∃ (j : Nat) (ρ : Option Nat) (oo : Option Addr) (cc : Nat) (xs : List Value),j≤m∧iv=.int .i64 (j : Int)∧rv=.slice oo j cc∧Hid (ClW w l ρ oo cc j xs wr)) (fun _ iv _ => m - (intOf iv).toNat)
 case atStart => exact ⟨0,none,none,0,[],Nat.zero_le _,rfl,rfl,Lib.hid ⟨Below.refl _ _,VRow.nil 69 _,fun r hr => (by cases hr),fun i _ h => absurd h (by omega)⟩⟩
 case round =>
  obtain ⟨j,ρ,oo,cc,xs,hj,rfl,rfl,hT⟩:=hrel
  by_cases hjm : j < m
  ·have hjl : j < l.length:=by rw [← HM.out]; exact hjm
   obtain ⟨ho',hb'⟩:=HO.out (by omega)
   subst ho'
   have hB:=Lib.hid hT.out.1
   obtain ⟨d0,d1,d2,d3,e0,e1,e2,e3,hv⟩:=HL.out.at j hjl
   obtain ⟨x,hx⟩ : ∃ x,l[j]=x:=⟨_,rfl⟩
   obtain ⟨k',n',s',l'⟩:=x
   rw [hx] at hv
   have hv2:=hv
   unfold VIn at hv2
   obtain ⟨rfl,rfl,hn',rfl,hz',o',cap',b',off',rfl,hob,hlb⟩:=hv2
   obtain ⟨q,hq⟩ : ∃ q,q=l'.length:=⟨_,rfl⟩
   rw [← hq] at e3
   have f0:=(hB.out.cell (p:=⟨b,_,none⟩) hb').trans e0
   have f1:=(hB.out.cell (p:=⟨b,_,none⟩) hb').trans e1
   have f2:=(hB.out.cell (p:=⟨b,_,none⟩) hb').trans e2
   have f3:=(hB.out.cell (p:=⟨b,_,none⟩) hb').trans e3
   have hst:=store27 wr k' n' s' o' q cap'
   have K40 : Hid (∀ wz,Below w.heap.size w wz→Calls Tryz.prog 125 #[.slice o' q cap'] wz (ClP l' wz)):=Lib.hid (fun wz hb => by
    rw [hq]
    exact IH.out l[j] (List.getElem_mem hjl) k' n' s' l' hx hz'.2 o' cap' b' off' wz (fun hp => ⟨(hob hp).1,Nat.lt_of_lt_of_le (hob hp).2 hb.size⟩) (VInL.keep hb (fun hp => (hob hp).2) hlb))
   have K39:=Lib.hid (fun w => clone_any s' w hz'.1)
   have HZ:=Lib.hid (And.intro hn' hz')
   have HXE:=Lib.hid hx
   have HQ:=Lib.hid hq
   clear e0 e1 e2 e3 hv hob hlb hn' hz' hx hq
   go_upto_region 5 with fail
   obtain ⟨wa,hwa⟩ : ∃ wa,wa=wr.alloc (.cells #[.int .i64 k',.int .u64 (n' : Int),.string s',.slice o' q cap'] 69):=⟨_,rfl⟩
   rw [← hwa]
   have HXC:=Lib.hid (show VW wr (.int .i64 k') (.int .u64 (n' : Int)) (.string s') (.slice o' q cap') wa by rw [hwa]; exact VW.new _ _ _ _ _ _)
   have HRL : Hid (∀ r,ρ=some r→r < wr.heap.size):=Lib.hid (fun r hr => hT.out.2.1.lt r hr)
   have HTD:=Lib.hid ((hT.out.later HXC.out.2.2).later (show Below wa.heap.size wa wa.drew from ((Below.refl _ _).drew)))
   have HXD:=Lib.hid (HXC.out.later (show Below wa.heap.size wa wa.drew from ((Below.refl _ _).drew)))
   clear hwa f0 f1 f2 f3 hst hT hB
   have HRX : Hid (ρ≠some wr.heap.size):=Lib.hid (fun e => Nat.lt_irrefl _ (HRL.out _ e))
   have mk : Hid (∀ wz,Bx wr.heap.size (.int .i64 k') (.int .u64 (n' : Int)) (.string s') (.slice o' q cap') wz→(wz.cell? ⟨wr.heap.size,0,none⟩=some (.int .i64 k')∧wz.cell? ⟨wr.heap.size,1,none⟩=some (.int .u64 (n' : Int))∧wz.cell? ⟨wr.heap.size,2,none⟩=some (.string s')∧wz.cell? ⟨wr.heap.size,3,none⟩=some (.slice o' q cap')∧Hid (Bx wr.heap.size (.int .i64 k') (.int .u64 (n' : Int)) (.string s') (.slice o' q cap') wz))):=Lib.hid (fun wz h => ⟨h.1.1,h.1.2.1,h.1.2.2.1,h.1.2.2.2,Lib.hid h⟩)
   have hst:=Lib.hid (show Bx wr.heap.size (.int .i64 k') (.int .u64 (n' : Int)) (.string s') (.slice o' q cap') wa.drew from ⟨HXC.out.1,HXC.out.2.1⟩)
   go_region_held3 (fun wz => wz.cell? ⟨wr.heap.size,0,none⟩=some (.int .i64 k')∧wz.cell? ⟨wr.heap.size,1,none⟩=some (.int .u64 (n' : Int))∧wz.cell? ⟨wr.heap.size,2,none⟩=some (.string s')∧wz.cell? ⟨wr.heap.size,3,none⟩=some (.slice o' q cap')∧Hid (Bx wr.heap.size (.int .i64 k') (.int .u64 (n' : Int)) (.string s') (.slice o' q cap') wz))
    (first
     | exact mk.out _ hst.out
     | (refine mk.out _ (Bx.later ?_ (by assumption)); go_split_ands; (first | (refine Hid.out ?_; assumption) | (refine Bx.undrew (Hid.out ?_); assumption)))
     | (refine mk.out _ (Bx.chg2 ?_ (by assumption) HRX.out); go_split_ands; (first | (refine Hid.out ?_; assumption) | (refine Bx.undrew (Hid.out ?_); assumption)))
     | (refine mk.out _ (Bx.drew (Bx.alloc ?_ _)); go_split_ands; (first | (refine Hid.out ?_; assumption) | (refine Bx.undrew (Hid.out ?_); assumption)))
     | (refine mk.out _ (Bx.alloc ?_ _); go_split_ands; (first | (refine Hid.out ?_; assumption) | (refine Bx.undrew (Hid.out ?_); assumption)))
     | (refine mk.out _ (Bx.drew ?_); go_split_ands; (first | (refine Hid.out ?_; assumption) | (refine Bx.undrew (Hid.out ?_); assumption)))
     | (refine mk.out _ ?_; go_split_ands; (first | (refine Hid.out ?_; assumption) | (refine Bx.undrew (Hid.out ?_); assumption))))
    (first
     | (go_at_call 83; ((with_reducible refine (K39.out _).mono ?_); rintro x w4 ⟨rfl,hb4⟩))
     | (go_at_call 125; ((with_reducible refine (K40.out _ ?_).mono ?_); exact (HTD.out.later (by assumption)).1; rintro x w5 ⟨o2,cap2,r2,rfl,ho2,hl2,hb5⟩))
     | (refine wp_vrow (.tmp 12) (.tmp 24) 67 69 rfl Tryz.underlying67 info27 (w5.alloc (.cells #[.int .i64 k',.int .u64 (n' : Int),.string s',.slice o2 l'.length cap2] 69)).heap.size ρ oo cc j xs (((HTD.out.later hb4).later hb5).later (alloc_below w5 _)).2.1 (by omega) _ [.int .i64 k',.int .u64 (n' : Int),.string s',.slice o2 l'.length cap2] rfl (news_at w5 _ 69 _ rfl) (by intro u hu; simp at hu; rcases hu with rfl | rfl | rfl | rfl <;> rfl) rfl rfl ?_; intro o7 cap7 w7 ρ7 hr7 hn7 hc7))
   all_goals
    have HTP:=Lib.hid (clw_put hjl (((HTD.out.later hb4).later hb5).later (alloc_below w5 _)) (by
     rw [HXE.out]
     exact vinp_mk (w:=w4) HZ.out.1 HZ.out.2 (fun hp => ⟨(ho2 hp).1,Nat.lt_of_lt_of_le (ho2 hp).2.1 (alloc_below w5 _).size,(ho2 hp).2.2⟩) (VInPL.keep (alloc_below w5 _).size (fun b' hb' hP => ⟨(alloc_below w5 _).block b' hb',hP⟩) (fun hp => (ho2 hp).2) hl2) (fun b' hb' => ⟨Nat.le_trans (HTD.out.later hb4).1.size hb',fun e => Nat.lt_irrefl _ (Nat.lt_of_lt_of_le ((HTD.out.later hb4).2.1.lt _ e) hb')⟩)) hr7 hn7 hc7)
    try simp only [Exit.then]
    try apply_assumption
    go_wp2
    go_roundw
    case rel => exact ⟨j+1,ρ7,o7,cap7,_,by omega,by go_num,rfl,HTP⟩
    case measure => simp [intOf]; omega
  ·have hjm' : j=m:=by omega
   subst hjm'
   rw [HM.out] at hT
   have HD:=Lib.hid (clw_done hT.out)
   rw [← HM.out] at HD
   clear hT
   go_wp2
   go_ret
   exact HD.out
theorem cloned_tree : ∀ (t : Tr),∀ k n s l,t=Tr.mk k n s l→l.length≤1000000→∀ (o : Option Addr) (cap b off : Nat) (w : World),(0 < l.length→o=some ⟨b,off,none⟩∧b < w.heap.size)→VInL w b off l→Calls Tryz.prog 125 #[.slice o l.length cap] w (ClP l w):=by
 refine Tr.ind ?_
 intro k n s l ih k' n' s' l' he hlen o cap b off w ho hl
 cases he
 exact cloned_step l o cap b off hlen ih w ho hl
theorem cloned_any (l : List Tr) (hlen : l.length≤1000000) (o : Option Addr) (cap b off : Nat) (w : World) (ho : 0 < l.length→o=some ⟨b,off,none⟩∧b < w.heap.size) (hl : VInL w b off l) : Calls Tryz.prog 125 #[.slice o l.length cap] w (ClP l w) :=
 cloned_tree (.mk 3 0 ⟨#[]⟩ l) 3 0 ⟨#[]⟩ l rfl hlen o cap b off w ho hl
theorem setfour {w : World} {X : Nat} {a b c d : Value} (q : Nat) (hq : q≠X) : ((((w.setCell ⟨X,0,none⟩ a).setCell ⟨X,1,none⟩ b).setCell ⟨X,2,none⟩ c).setCell ⟨X,3,none⟩ d).heap[q]?=w.heap[q]?:=by
 rw [heap_setCell_other _ ⟨X,3,none⟩ q _ hq,heap_setCell_other _ ⟨X,2,none⟩ q _ hq,heap_setCell_other _ ⟨X,1,none⟩ q _ hq,heap_setCell_other _ ⟨X,0,none⟩ q _ hq]
theorem list_any (l : List Tr) (hlen : l.length≤1000000) (o : Option Addr) (cap b off : Nat) (w : World) (ho : 0 < l.length→o=some ⟨b,off,none⟩∧b < w.heap.size) (hl : VInL w b off l) : Calls Tryz.prog 91 #[.slice o l.length cap] w (ToP (.mk 3 0 ⟨#[]⟩ l) w):=by
 have hbl:=alloc_below w (.cells #[.int .i64 0,.int .u64 0,.string ⟨#[]⟩,.slice none 0 0] 69)
 have K40:=Lib.hid (cloned_any l hlen o cap b off _ (fun hp => ⟨(ho hp).1,Nat.lt_of_lt_of_le (ho hp).2 hbl.size⟩) (VInL.keep hbl (fun hp => (ho hp).2) hl))
 have HBX:=Lib.hid (show Bx w.heap.size (.int .i64 0) (.int .u64 0) (.string ⟨#[]⟩) (.slice none 0 0) (w.alloc (.cells #[.int .i64 0,.int .u64 0,.string ⟨#[]⟩,.slice none 0 0] 69)) from ⟨four_new _ _ _ _ _ _,alloc_lt _ _⟩)
 have HH:=Lib.hid (heap_alloc_new w (.cells #[.int .i64 0,.int .u64 0,.string ⟨#[]⟩,.slice none 0 0] 69))
 have HL:=Lib.hid hlen
 have HBL:=Lib.hid hbl
 clear hbl ho hl hlen
 go_enter Tryz.func91,Tryz.ntmps91
 go_wp2_with fail
 refine (K40.out).mono ?_
 rintro r w1 ⟨o2,cap2,r2,rfl,ho2,hl2,hb1⟩
 obtain ⟨c0,c1,c2,c3⟩:=(HBX.out.later hb1).1
 have b1:=(hb1.block _ (lt_of_heap HH.out)).trans HH.out
 have y0:=frozen_of_row w1 w.heap.size 0 _ _ b1
 have y1:=frozen_of_row w1 w.heap.size 1 _ _ b1
 have y2:=frozen_of_row w1 w.heap.size 2 _ _ b1
 have y3:=frozen_of_row w1 w.heap.size 3 _ _ b1
 have HB:=Lib.hid (HBL.out.trans (hb1.mono HBL.out.size))
 have HR:=Lib.hid (And.intro ho2 hl2)
 have HLT:=Lib.hid (show w.heap.size < (w.alloc (.cells #[.int .i64 0,.int .u64 0,.string ⟨#[]⟩,.slice none 0 0] 69)).heap.size from alloc_lt _ _)
 obtain ⟨m,hm⟩ : ∃ m,m=l.length:=⟨_,rfl⟩
 rw [← hm]
 have HM:=Lib.hid hm
 clear b1 hb1 ho2 hl2 hm
 go_wp2
 refine bodyPost_ret (v:=.agg #[.int .i64 3,.int .u64 0,.string ⟨#[]⟩,.slice o2 m cap2]) (by simp [results,Tryz.results91,go_sem, *]) rfl ⟨_,_,_,_,rfl,?_,?_⟩
 ·rw [HM.out]
  have hlt:=HLT.out
  refine vinp_mk (w:=w.alloc (.cells #[.int .i64 0,.int .u64 0,.string ⟨#[]⟩,.slice none 0 0] 69)) (by omega) ⟨by simp [ByteArray.size],HL.out⟩ (fun hp => ⟨(HR.out.1 hp).1,by simpa using (HR.out.1 hp).2.1,(HR.out.1 hp).2.2⟩) (VInPL.keep (by simp) (fun b' hb' hP => ⟨setfour b' (by omega),hP⟩) (fun hp => (HR.out.1 hp).2) HR.out.2) (fun b' hb' => by omega)
 ·have hle : w.heap.size≤w.heap.size:=Nat.le_refl _
  exact (((HB.out.setCell (p:=⟨w.heap.size,0,none⟩) hle _).setCell (p:=⟨w.heap.size,1,none⟩) hle _).setCell (p:=⟨w.heap.size,2,none⟩) hle _).setCell (p:=⟨w.heap.size,3,none⟩) hle _
end Go.Proofs.YtjfjliobencppaaGreatDoor
