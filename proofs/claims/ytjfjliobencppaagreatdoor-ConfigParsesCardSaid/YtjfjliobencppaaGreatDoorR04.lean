/- The document's Short.; A value's writing; the document's Text and Put.; The document's Text of a text, and of a list.; The document's Put.; A box that holds bytes of the call's own: a string put behind them.; codec.Put's own 'add': parts put behind what a box holds, as long as there is room.; Values in memory, none of whose rows is another's; a row of values, one put behind. -/
import Derived.Test.YtjfjliobencppaaGreatDoorR00
import Derived.Test.YtjfjliobencppaaGreatDoorR03
import Derived.Deep.RegionHeld3
import Derived.Lib.AppendStr
set_option linter.unusedVariables false
set_option linter.unusedSimpArgs false
set_option maxRecDepth 1000000
set_option maxHeartbeats 1000000
namespace Go.Proofs.YtjfjliobencppaaGreatDoor
open Go.RowKit
theorem rshort_any (n : Nat) (hn : n≤18446744073709551615) (w : World) :
  Calls Tryz.prog 103 #[.int .u64 n] w fun e w' => e=.returned (.string (str (sh n)))∧Below w.heap.size w w':=by
 have HN:=Lib.hid hn
 clear hn
 go_enter Tryz.func103,Tryz.ntmps103
 go_wp2
 go_loopw [0,3] (fun nv sv wr => ∃ (m : Nat) (acc : List UInt8),nv=.int .u64 m∧sv=.string (str acc)∧acc++sh m=sh n∧m≤n∧Below w.heap.size w wr) (fun nv _ _ => (intOf nv).toNat)
 case atStart => exact ⟨n,[],rfl,rfl,rfl,Nat.le_refl _,Below.refl _ _⟩
 case round =>
  obtain ⟨m,acc,rfl,rfl,hacc,hmn,hb⟩:=hrel
  have hal : acc.length+1≤10:=by
   have h1:=congrArg List.length hacc
   have h2:=sh_pos m
   have h3:=sh_ten n HN.out
   simp at h1; omega
  have hbs:=hb.size
  have HA:=Lib.hid hacc
  have HM:=Lib.hid hmn
  clear hacc hmn
  by_cases hm : 127 < m
  ·obtain ⟨r,hr⟩ : ∃ r,r=m % 128:=⟨_,rfl⟩
   have hr2 : r≤127:=by omega
   have hri : (m : Int) % 128=(r : Int):=by rw [hr]; simp
   obtain ⟨q,hq⟩ : ∃ q,q=m / 128:=⟨_,rfl⟩
   have hwq : IntKind.u64.wrap ((m : Int) / 128)=(q : Int):=by
    rw [IntWalk.u64_in _ (by have:=HM.out; have:=HN.out; omega),hq]; simp
   obtain ⟨x,hx⟩ : ∃ x,x=UInt8.ofNat (r+128):=⟨_,rfl⟩
   have hsh : acc++[x]++sh q=sh n:=by
    rw [← HA.out,sh_more m hm,hx,hr,hq]; simp
   have HS:=Lib.hid hsh
   have HQ:=Lib.hid (show q≤n∧q < m by have:=HM.out; omega)
   have hcv:=run_one_byte wr ((r : Int)+128) (r+128) (by simp) (by omega)
   rw [← hx] at hcv
   have hadd:=run_str_add acc [x] (by simp; omega)
   clear hr hsh hx hq
   go_wp2
   go_roundw
   case rel => exact ⟨q,acc++[x],rfl,rfl,HS.out,HQ.out.1,hb.alloc hbs _⟩
   case measure => have:=HQ.out.2; simp [intOf]; omega
  ·obtain ⟨x,hx⟩ : ∃ x,x=UInt8.ofNat m:=⟨_,rfl⟩
   have hcv:=run_one_byte wr (m : Int) m rfl (by omega)
   rw [← hx] at hcv
   have hadd:=run_str_add acc [x] (by simp; omega)
   have hsh : acc++[x]=sh n:=by rw [← HA.out,sh_last m hm,hx]
   have HS:=Lib.hid hsh
   clear hsh hx
   go_wp2
   go_ret
   refine ⟨?_,hb.alloc hbs _⟩
   rw [← HS.out]; rfl
end Go.Proofs.YtjfjliobencppaaGreatDoor

namespace Go.Proofs.YtjfjliobencppaaGreatDoor
open Go.RowKit
mutual
def txtT : Tr→List UInt8
 | .mk k n s l => if k=1 then 1::sh n else if k=2 then 2::(sh s.size++s.data.toList) else 3::(sh l.length++txtL l)
def txtL : List Tr→List UInt8
 | [] => []
 | t::ts => txtT t++txtL ts
end
theorem txtL_flat : ∀ l : List Tr,txtL l=l.flatMap txtT
 | [] => by unfold txtL; rfl
 | t::ts => by unfold txtL; rw [List.flatMap_cons,txtL_flat ts]
def txtP (l : List Tr) (j : Nat) : List UInt8:=(l.take j).flatMap txtT
theorem txtP_0 (l : List Tr) : txtP l 0=[]:=rfl
theorem txtP_succ (l : List Tr) (j : Nat) (h : j < l.length) : txtP l (j+1)=txtP l j++txtT l[j]:=by
 unfold txtP
 rw [List.take_succ_eq_append_getElem h,List.flatMap_append]
 simp
theorem txtP_all (l : List Tr) : txtP l l.length=txtL l:=by
 unfold txtP; rw [List.take_length,txtL_flat]
theorem txtP_le (l : List Tr) (j : Nat) (h : j < l.length) : (txtP l j).length+(txtT l[j]).length≤(txtL l).length:=by
 have h1 : txtL l=txtP l (j+1)++(l.drop (j+1)).flatMap txtT:=by
  unfold txtP
  rw [← List.flatMap_append,List.take_append_drop,txtL_flat]
 rw [h1,txtP_succ l j h,List.length_append,List.length_append]
 omega
theorem gen_wp {P : Program} {c : Code} {Q : Exit→Act→World→Prop} {a : Act} {wz : World} {S : World→Prop} (h : S wz) (k : ∀ wz,S wz→c.wp P Q a wz) : c.wp P Q a wz:=k _ h
def VW (w : World) (a b c d : Value) (wz : World) : Prop:=(wz.cell? ⟨w.heap.size,0,none⟩=some a∧wz.cell? ⟨w.heap.size,1,none⟩=some b∧wz.cell? ⟨w.heap.size,2,none⟩=some c∧wz.cell? ⟨w.heap.size,3,none⟩=some d)∧w.heap.size < wz.heap.size∧Below w.heap.size w wz
theorem VW.new (w : World) (a b c d : Value) (t : Nat) : VW w a b c d (w.alloc (.cells #[a,b,c,d] t)):=⟨four_new w a b c d t,alloc_lt _ _,alloc_below _ _⟩
theorem VW.later {w wz w1 : World} {a b c d : Value} (h : VW w a b c d wz) (hb : Below wz.heap.size wz w1) : VW w a b c d w1:=⟨four_below h.1 hb h.2.1,Nat.lt_of_lt_of_le h.2.1 hb.size,h.2.2.trans (hb.mono h.2.2.size)⟩
end Go.Proofs.YtjfjliobencppaaGreatDoor

namespace Go.Proofs.YtjfjliobencppaaGreatDoor
open Go.RowKit
theorem VW.drew {w wz : World} {a b c d : Value} (h : VW w a b c d wz) : VW w a b c d wz.drew:=⟨h.1,h.2.1,⟨h.2.2.os,h.2.2.tape,h.2.2.output,h.2.2.size,h.2.2.block⟩⟩
end Go.Proofs.YtjfjliobencppaaGreatDoor

namespace Go.Proofs.YtjfjliobencppaaGreatDoor
open Go.RowKit
def putC (t : Tr) : Nat:=if sndT t=false then 10 else if 6 < deepT t then 8 else if 8192 < (txtT t).length then 5 else 0
def putS (t : Tr) : ByteArray:=if putC t=0 then str (txtT t) else ⟨#[]⟩
end Go.Proofs.YtjfjliobencppaaGreatDoor

set_option maxRecDepth 100000
namespace Go.Proofs.YtjfjliobencppaaGreatDoor
open Go.RowKit
def Chg (g : Nat) (ρ : Option Nat) (w w' : World) : Prop:=w'.os=w.os∧w'.tape=w.tape∧w'.output=w.output∧w.heap.size≤w'.heap.size∧∀ k,k < w.heap.size→k≠g→ρ≠some k→w'.heap[k]?=w.heap[k]?
def Nxt (ρ ρ' : Option Nat) (w : World) : Prop:=ρ'=ρ∨∃ k,ρ'=some k∧w.heap.size≤k
theorem Chg.refl (g : Nat) (ρ : Option Nat) (w : World) : Chg g ρ w w:=⟨rfl,rfl,rfl,Nat.le_refl _,fun _ _ _ _ => rfl⟩
theorem Chg.trans {g : Nat} {ρ ρ1 : Option Nat} {w w1 w2 : World} (h : Chg g ρ w w1) (hn : Nxt ρ ρ1 w) (h2 : Chg g ρ1 w1 w2) : Chg g ρ w w2:=by
 obtain ⟨a1,a2,a3,a4,a5⟩:=h
 obtain ⟨b1,b2,b3,b4,b5⟩:=h2
 refine ⟨b1.trans a1,b2.trans a2,b3.trans a3,Nat.le_trans a4 b4,fun k hk hg hr => (b5 k (by omega) hg ?_).trans (a5 k hk hg hr)⟩
 rcases hn with rfl | ⟨q,rfl,hq⟩
 ·exact hr
 ·intro e
  cases e
  omega
theorem Nxt.trans {ρ ρ1 ρ2 : Option Nat} {w w1 : World} (h : Nxt ρ ρ1 w) (hs : w.heap.size≤w1.heap.size) (h2 : Nxt ρ1 ρ2 w1) : Nxt ρ ρ2 w:=by
 rcases h2 with rfl | ⟨k,rfl,hk⟩
 ·exact h
 ·exact Or.inr ⟨k,rfl,Nat.le_trans hs hk⟩
theorem Chg.of_below {g : Nat} {ρ : Option Nat} {w w' : World} (h : Below w.heap.size w w') : Chg g ρ w w':=⟨h.os,h.tape,h.output,h.size,fun k hk _ _ => h.block k hk⟩
theorem Chg.below {g B : Nat} {ρ : Option Nat} {w w' : World} (h : Chg g ρ w w') (hg : B≤g) (hr : ∀ k,ρ=some k→B≤k) (hs : B≤w.heap.size) : Below B w w' :=
 ⟨h.1,h.2.1,h.2.2.1,h.2.2.2.1,fun k hk => h.2.2.2.2 k (by omega) (by omega) (fun e => by have:=hr k e; omega)⟩
def Row (ρ : Option Nat) (o : Option Addr) (cap : Nat) (L : List UInt8) (w : World) : Prop :=
 (o=none∧cap=0∧ρ=none∧L=[])∨∃ (r : Nat) (cur : Array Value),ρ=some r∧o=some ⟨r,0,none⟩∧L≠[]∧w.heap[r]?=some (.cells cur 5 (0,0))∧L.length≤cap∧cap≤maxLen∧cur.size=cap∧cur.toList.take L.length=bcells L
theorem bcells_len (l : List UInt8) : (bcells l).length=l.length:=by simp [bcells]
theorem bcells_app (a b : List UInt8) : bcells (a++b)=bcells a++bcells b:=by simp [bcells]
theorem info5 : (Tryz.prog.info? 5).map (fun i => (i.zero,i.size,i.bytes))=some (some (.int .u8 0),1,1):=by kernel_rfl
theorem grown_row (w : World) (L : List UInt8) (s : ByteArray) (old : Nat) (hne : L++s.data.toList≠[]) (hl : L.length+s.size≤100000) :
  Row (some w.heap.size) (some ⟨w.heap.size,0,none⟩) (grownCap w (L.length+s.size) old 5) (L++s.data.toList) (w.drew.alloc (.cells ((bcells L).toArray++(Lib.strCells s).toArray++Builtin.zeroCells (Value.int .u8 0).cells (grownCap w (L.length+s.size) old 5 - (L.length+s.size))) 5)):=by
 have hsl : s.data.toList.length=s.size:=by simp
 have hge:=grownCap_ge w (L.length+s.size) old 5
 have hcm : grownCap w (L.length+s.size) old 5≤maxLen:=grownCap_le_maxLen w (L.length+s.size) old 5 (by unfold maxLen; omega)
 refine Or.inr ⟨w.heap.size,_,rfl,rfl,hne,heap_alloc_new w.drew _,by rw [List.length_append,hsl]; exact hge,hcm,?_,?_⟩
 ·have hz1 : (Value.int IntKind.u8 0).cells.size=1:=rfl
  simp only [Array.size_append,List.size_toArray,size_zeroCells,hz1,bcells_len,Lib.strCells_length]
  omega
 ·have e : bcells (L++s.data.toList)=bcells L++Lib.strCells s:=bcells_app _ _
  rw [e]
  have hlen : (L++s.data.toList).length=(bcells L++Lib.strCells s).length:=by rw [List.length_append,List.length_append,bcells_len,Lib.strCells_length,hsl]
  simp only [Array.toList_append,List.append_assoc]
  rw [← List.append_assoc,hlen]
  exact List.take_left
theorem grown_chg (g : Nat) (ρ : Option Nat) (w : World) (o : Obj) : Chg g ρ w (w.drew.alloc o):=⟨rfl,rfl,rfl,by simp,fun k hk _ _ => heap_alloc_old w.drew _ hk⟩
theorem plain_add (g j : Nat) : (⟨g,0,none⟩ : Addr).add j=⟨g,j,none⟩:=by simp [Addr.add]; intro e; exact e.symm
theorem row_append (g : Nat) (w : World) (ρ : Option Nat) (o : Option Addr) (cap : Nat) (L : List UInt8) (hR : Row ρ o cap L w) (s : ByteArray) (hl : L.length+s.size≤100000) (ty : TypeId) :
  ∃ o' cap' w' ρ',(Builtin.append_ #[113,9] ty #[.slice o L.length cap,.string s]).run Tryz.prog w=.ok (.slice o' (L++s.data.toList).length cap') w'∧Row ρ' o' cap' (L++s.data.toList) w'∧Nxt ρ ρ' w∧Chg g ρ w w'∧(∀ k,w.heap.size≤k→k < w'.heap.size→ρ'=some k):=by
 obtain ⟨i,hi,hz,hsz,hby⟩:=info_parts info5
 have hsl : s.data.toList.length=s.size:=by simp
 rcases hR with ⟨rfl,rfl,rfl,rfl⟩ | ⟨r,cur,rfl,rfl,hne,hg,hlc,hcm,hcs,htk⟩
 ·by_cases hm : s.size=0
  ·have hsn : s.data.toList=[]:=List.eq_nil_of_length_eq_zero (by rw [hsl]; exact hm)
   refine ⟨none,0,w,none,?_,Or.inl ⟨rfl,rfl,rfl,by rw [hsn]; rfl⟩,Or.inl rfl,Chg.refl _ _ _,fun k h1 h2 => absurd h1 (by omega)⟩
   have hf:=Lib.run_firstCells_string (P:=Tryz.prog) w 1 s
   rw [hm] at hf
   have hn : Lib.strCells s=[]:=List.eq_nil_of_length_eq_zero (by rw [Lib.strCells_length]; exact hm)
   simp [Builtin.append_,run_underlying Tryz.underlying113,run_underlying Tryz.underlying9,sizeOf,typeInfo,hi,hsz,Builtin.lenOf,hm,hf,hsn,hn]
  ·have hr:=run_append_nil_string (P:=Tryz.prog) w 113 9 ty 5 i (.int .u8 0) Tryz.underlying113 Tryz.underlying9 hi hz s (by omega) (by omega) (by rw [hby]; omega)
   have hgr:=grown_row w [] s 0 (by intro e; apply hm; rw [← hsl]; simpa using congrArg List.length e) (by simpa using hl)
   have e1 : (s.data.map fun b => Value.int .u8 b.toNat)=(Lib.strCells s).toArray:=by
    apply Array.ext'
    simp [Lib.strCells]
   rw [e1] at hr
   simp only [List.length_nil,Nat.zero_add,List.nil_append,show bcells []=[] from rfl,Array.empty_append] at hgr ⊢
   refine ⟨_,_,_,some w.heap.size,?_,hgr,Or.inr ⟨_,rfl,Nat.le_refl _⟩,grown_chg _ _ _ _,fun k h1 h2 => ?_⟩
   ·rw [hsl]; exact hr
   ·simp at h2; congr 1; omega
 ·by_cases hroom : L.length+s.size≤cap
  ·have hr:=Lib.run_append_room_string (P:=Tryz.prog) w 113 9 ty 5 i Tryz.underlying113 Tryz.underlying9 hi hsz r L.length cap cur hg s hroom (by omega)
   refine ⟨_,_,_,some r,by rw [List.length_append,hsl]; exact hr,Or.inr ⟨r,_,rfl,rfl,by simp [hne],setRow_heap w r cur _ 5 _ hg,by rw [List.length_append,hsl]; exact hroom,hcm,?_,?_⟩,Or.inl rfl,⟨rfl,rfl,rfl,by simp,fun k _ _ hk => setRow_other w r k _ (fun e => hk (by rw [e]))⟩,fun k h1 h2 => by rw [size_setRow] at h2; omega⟩
   ·simp only [List.size_toArray,List.length_append,List.length_take,List.length_drop,Array.length_toList,Lib.strCells_length]
    omega
   ·have e : bcells (L++s.data.toList)=bcells L++Lib.strCells s:=bcells_app _ _
    have hlen : (L++s.data.toList).length=(bcells L++Lib.strCells s).length:=by rw [List.length_append,List.length_append,bcells_len,Lib.strCells_length,hsl]
    rw [e,htk,hlen]
    exact List.take_left
  ·have holds : ∀ j u,(bcells L)[j]?=some u→w.cell? ((⟨r,0,none⟩ : Addr).add j)=some u:=by
    intro j u hj
    have hjl : j < L.length:=by rw [← bcells_len]; exact (List.getElem?_eq_some_iff.1 hj).1
    rw [plain_add,cell_of_row w r j _ _ _ hg,← Array.getElem?_toList]
    have:=congrArg (fun l => l[j]?) htk
    simp only [List.getElem?_take,hjl,if_true] at this
    rw [this]; exact hj
   have hr:=Lib.run_append_grow_string (P:=Tryz.prog) w 113 9 ty 5 i (.int .u8 0) Tryz.underlying113 Tryz.underlying9 hi hz ⟨r,0,none⟩ L.length cap (bcells L) (by rw [hsz,bcells_len]; omega) holds s (by omega) (by omega) (by rw [hby]; exact growslice_fits (by omega) (by omega))
   have hgr:=grown_row w L s cap (by simp [hne]) hl
   refine ⟨_,_,_,some w.heap.size,by rw [List.length_append,hsl]; exact hr,hgr,Or.inr ⟨_,rfl,Nat.le_refl _⟩,grown_chg _ _ _ _,fun k h1 h2 => ?_⟩
   simp at h2; congr 1; omega
end Go.Proofs.YtjfjliobencppaaGreatDoor

set_option maxHeartbeats 1000000
namespace Go.Proofs.YtjfjliobencppaaGreatDoor
open Go.RowKit
def Buf (g : Nat) (ρ : Option Nat) (L : List UInt8) (w : World) : Prop:=∃ (o : Option Addr) (cap : Nat),w.heap[g]?=some (.cells #[.slice o L.length cap] 113 (0,0))∧Row ρ o cap L w∧ρ≠some g
theorem lt_of_heap {w : World} {g : Nat} {o : Obj} (h : w.heap[g]?=some o) : g < w.heap.size:=(Array.getElem?_eq_some_iff.1 h).1
theorem Row.keep {ρ : Option Nat} {o : Option Addr} {cap : Nat} {L : List UInt8} {w w' : World} (h : Row ρ o cap L w) (hk : ∀ r,ρ=some r→w'.heap[r]?=w.heap[r]?) : Row ρ o cap L w':=by
 rcases h with h | ⟨r,cur,h1,h2,h3,h4,h5⟩
 ·exact Or.inl h
 ·exact Or.inr ⟨r,cur,h1,h2,h3,(hk r h1).trans h4,h5⟩
theorem Row.lt {ρ : Option Nat} {o : Option Addr} {cap : Nat} {L : List UInt8} {w : World} (h : Row ρ o cap L w) (r : Nat) (hr : ρ=some r) : r < w.heap.size:=by
 rcases h with ⟨_,_,h,_⟩ | ⟨q,cur,h1,_,_,h4,_⟩
 ·rw [h] at hr; cases hr
 ·rw [h1] at hr; cases hr; exact lt_of_heap h4
theorem Buf.later {g : Nat} {ρ : Option Nat} {L : List UInt8} {w w' : World} (h : Buf g ρ L w) (hb : Below w.heap.size w w') : Buf g ρ L w':=by
 obtain ⟨o,cap,h1,h2,h3⟩:=h
 exact ⟨o,cap,(hb.block _ (lt_of_heap h1)).trans h1,h2.keep (fun r hr => hb.block _ (h2.lt r hr)),h3⟩
theorem Buf.apart {g : Nat} {ρ : Option Nat} {L : List UInt8} {w : World} (h : Buf g ρ L w) {pb : Nat} {v : Value} (hc : w.cell? ⟨pb,0,none⟩=some v) (hv : (∀ x,v≠.int .u8 x)∧∀ a b c,v≠.slice a b c) : pb≠g∧ρ≠some pb:=by
 obtain ⟨o,cap,h1,h2,_⟩:=h
 refine ⟨?_,?_⟩
 ·rintro rfl
  rw [cell_of_row w pb 0 _ _ _ h1] at hc
  simp at hc
  exact hv.2 _ _ _ hc.symm
 ·intro e
  rcases h2 with ⟨_,_,h,_⟩ | ⟨r,cur,k1,_,hne,k4,_,_,_,htk⟩
  ·rw [h] at e; cases e
  ·rw [k1] at e
   cases e
   rw [cell_of_row w pb 0 _ _ _ k4,← Array.getElem?_toList] at hc
   match L,hne with
   | c::L,_ =>
    have:=congrArg (fun l => l[0]?) htk
    simp [bcells] at this
    rw [Array.getElem?_toList,this] at hc
    cases hc
    exact hv.1 _ rfl
theorem wpList_row_append {w : World} {ops : Array Oper} {rest : List Oper} {o : Oper} {a : Act} {Q : Exit→Act→World→Prop} (hgd : o.guard=none) (sl x : Operand)
  (ho : o.op=.call { callee:=.builtin .append,args:=#[sl,x],argTypes:=#[113,9] })
  (g : Nat) (ρ : Option Nat) (oo : Option Addr) (cap : Nat) (L : List UInt8) (hR : Row ρ oo cap L w) (s : ByteArray) (hs : a.eval sl=.slice oo L.length cap) (hx : a.eval x=.string s) (hl : L.length+s.size≤100000)
  (h : ∀ o' cap' w' ρ',Row ρ' o' cap' (L++s.data.toList) w'→Nxt ρ ρ' w→Chg g ρ w w'→wpList Tryz.prog ops Q rest (a.put o.dst (.slice o' (L++s.data.toList).length cap')) w') : wpList Tryz.prog ops Q (o::rest) a w:=by
 refine wpList_plain hgd fun K hK => ?_
 obtain ⟨o',cap',w',ρ',hr,h2,h3,h4,_⟩:=row_append g w ρ oo cap L hR s hl o.type
 unfold Oper.wp execOp
 simp only [ho,resolve,invoke,builtin,Sem.run_bind,Sem.run_pure,Result.andThen_ok,List.map_toArray,List.map_cons,List.map_nil,hs,hx,hr]
 exact hK _ _ (h o' cap' w' ρ' h2 h3 h4)
theorem buf_put {g : Nat} {ρ ρ' : Option Nat} {L L' : List UInt8} {w w' : World} {o' : Option Addr} {cap' : Nat} (h : Buf g ρ L w) (hR : Row ρ' o' cap' L' w') (hn : Nxt ρ ρ' w) (hc : Chg w.heap.size ρ w w') :
  Buf g ρ' L' (w'.setCell ⟨g,0,none⟩ (.slice o' L'.length cap'))∧Chg g ρ w (w'.setCell ⟨g,0,none⟩ (.slice o' L'.length cap')):=by
 obtain ⟨o,cap,h1,h2,h3⟩:=h
 have hgl:=lt_of_heap h1
 have hg' : w'.heap[g]?=some (.cells #[.slice o L.length cap] 113 (0,0)):=(hc.2.2.2.2 g hgl (by omega) h3).trans h1
 have hne : ρ'≠some g:=by
  rcases hn with rfl | ⟨k,rfl,hk⟩
  ·exact h3
  ·intro e; cases e; omega
 have hs:=heap_setCell_same w' g 0 _ _ (.slice o' L'.length cap') hg'
 refine ⟨⟨o',cap',by simpa using hs,hR.keep (fun r hr => heap_setCell_other w' ⟨g,0,none⟩ r _ (by intro e; apply hne; rw [hr,e])),hne⟩,hc.1,hc.2.1,hc.2.2.1,by simpa using hc.2.2.2.1,fun k hk hkg hr => ?_⟩
 exact (heap_setCell_other w' ⟨g,0,none⟩ k _ hkg).trans (hc.2.2.2.2 k hk (by omega) hr)
def catP (ps : List ByteArray) (j : Nat) : List UInt8:=(ps.take j).flatMap (fun p => p.data.toList)
def catA (ps : List ByteArray) : List UInt8:=ps.flatMap (fun p => p.data.toList)
theorem catP_succ (ps : List ByteArray) (j : Nat) (h : j < ps.length) : catP ps (j+1)=catP ps j++ps[j].data.toList:=by
 unfold catP
 rw [List.take_succ_eq_append_getElem h,List.flatMap_append]; simp
theorem catP_all (ps : List ByteArray) : catP ps ps.length=catA ps:=by unfold catP catA; rw [List.take_length]
theorem catP_le (ps : List ByteArray) (j : Nat) (h : j < ps.length) : (catP ps j).length+ps[j].size≤(catA ps).length:=by
 have h1 : catA ps=catP ps (j+1)++(ps.drop (j+1)).flatMap (fun p => p.data.toList):=by
  unfold catP catA
  rw [← List.flatMap_append,List.take_append_drop]
 rw [h1,catP_succ ps j h,List.length_append,List.length_append]
 simp only [Array.length_toList]
 show _+ps[j].data.size≤_
 omega
def AddP (g : Nat) (ρ : Option Nat) (L : List UInt8) (ps : List ByteArray) (w : World) (e : Ending) (w' : World) : Prop :=
 Chg g ρ w w'∧((L.length+(catA ps).length≤8192∧e=.returned (.bool true)∧∃ ρ',Nxt ρ ρ' w∧Buf g ρ' (L++catA ps) w')∨(8192 < L.length+(catA ps).length∧e=.returned (.bool false)))
theorem add_any (g pb : Nat) (ps : List ByteArray) (hps : 1≤ps.length) (hp9 : ps.length≤1000) (hpz : ∀ p ∈ ps,p.size≤1000000000) (ρ : Option Nat) (L : List UInt8) (w : World) (hB : Buf g ρ L w) (hL : L.length≤8192)
  (hcell : ∀ j (h : j < ps.length),w.cell? ⟨pb,j,none⟩=some (.string ps[j])) :
  Calls Tryz.prog 55 #[.slice (some ⟨pb,0,none⟩) ps.length ps.length,.pointer (some ⟨g,0,none⟩)] w (AddP g ρ L ps w):=by
 obtain ⟨hpg,hpr⟩:=hB.apart (hcell 0 (by omega)) ⟨fun x e => (by cases e),fun a b c e => (by cases e)⟩
 have hpl : pb < w.heap.size:=World.block_lt_of_cell? w _ (hcell 0 (by omega))
 obtain ⟨r,hr⟩ : ∃ r,r=ps.length:=⟨_,rfl⟩
 rw [← hr] at hp9 ⊢
 have HR:=Lib.hid hr
 have HC:=Lib.hid hcell
 have HPZ:=Lib.hid hpz
 have HB0 : Hid (Buf g ρ (L++catP ps 0) w):=Lib.hid (by rw [show catP ps 0=[] from rfl,List.append_nil]; exact hB)
 have HL0 : Hid ((L++catP ps 0).length≤8192):=Lib.hid (by rw [show catP ps 0=[] from rfl,List.append_nil]; exact hL)
 have HAP:=Lib.hid (And.intro hpg (And.intro hpr hpl))
 clear hr hcell hpz hB hL hpg hpr hpl hps
 go_enter Tryz.func55,Tryz.ntmps55
 go_wp2_with fail
 go_loopw [8] (fun iv wr => ∃ (j : Nat) (ρ1 : Option Nat),j≤r∧iv=.int .i64 (j : Int)∧Hid (Buf g ρ1 (L++catP ps j) wr)∧Hid (Nxt ρ ρ1 w)∧Hid (Chg g ρ w wr)∧Hid ((L++catP ps j).length≤8192)) (fun iv _ => r - (intOf iv).toNat)
 case atStart => exact ⟨0,ρ,Nat.zero_le _,rfl,HB0,Lib.hid (Or.inl rfl),Lib.hid (Chg.refl _ _ _),HL0⟩
 case round =>
  clear HB0 HL0
  obtain ⟨j,ρ1,hj,rfl,hB,hN,hC,hL⟩:=hrel
  by_cases hjr : j < r
  ·have hjl : j < ps.length:=by rw [← HR.out]; exact hjr
   have hpc : wr.cell? ⟨pb,j,none⟩=some (.string ps[j]):=(World.cell?_of_block (hC.out.2.2.2.2 pb HAP.out.2.2 HAP.out.1 HAP.out.2.1)).trans (HC.out j hjl)
   obtain ⟨o,cap,b1,b2,b3⟩:=hB.out
   have bc : wr.cell? ⟨g,0,none⟩=some (.slice o (L++catP ps j).length cap):=by rw [cell_of_row wr g 0 _ _ _ b1]; rfl
   have bf : wr.frozen? ⟨g,0,none⟩=false:=frozen_of_row wr g 0 _ _ b1
   have hsz:=HPZ.out _ (List.getElem_mem hjl)
   have hcs:=catP_succ ps j hjl
   have hcl:=catP_le ps j hjl
   obtain ⟨p,hp⟩ : ∃ p,p=ps[j]:=⟨_,rfl⟩
   rw [← hp] at hpc hsz hcs hcl
   obtain ⟨M,hM⟩ : ∃ M,M=L++catP ps j:=⟨_,rfl⟩
   have hM2 : M++p.data.toList=L++catP ps (j+1):=by rw [hM,hcs,List.append_assoc]
   have hML : M.length=L.length+(catP ps j).length:=by rw [hM,List.length_append]
   have hl:=hL.out
   rw [← hM] at hl bc b2
   have HB2:=Lib.hid b2
   have HBF:=Lib.hid hB.out
   obtain ⟨n,hn⟩ : ∃ n,n=M.length:=⟨_,rfl⟩
   have bc':=bc
   rw [← hn] at bc' hl
   have HN:=Lib.hid hn
   by_cases hfit : 8192 - n < p.size
   ·have hfi : (p.size : Int) > 8192 - (n : Int):=by omega
    have hw1 : IntKind.i64.wrap (8192 - (n : Int))=8192 - (n : Int):=IntWalk.i64_in _ ⟨by omega,by omega⟩
    have HTOT : Hid (8192 < L.length+(catA ps).length):=Lib.hid (by omega)
    clear bc b1 b2 b3 hcs hcl hM hM2 hML hn hp
    go_wp2
    go_ret
    exact ⟨hC.out,Or.inr ⟨HTOT.out,rfl⟩⟩
   ·have hfi : ¬ (p.size : Int) > 8192 - (M.length : Int):=by omega
    have hw1 : IntKind.i64.wrap (8192 - (M.length : Int))=8192 - (M.length : Int):=IntWalk.i64_in _ ⟨by omega,by omega⟩
    have hlen2 : M.length+p.size≤8192:=by omega
    have hpl2 : p.data.toList.length=p.size:=by simp
    have HM2:=Lib.hid hM2
    have HLE : Hid ((L++catP ps (j+1)).length≤8192):=Lib.hid (by rw [← hM2,List.length_append]; omega)
    have HB1:=Lib.hid b1
    have HB3:=Lib.hid b3
    have HN2:=hN
    have HCC:=hC
    clear bc' b1 b2 b3 hcs hcl hM hM2 hML hp hn HN hl hsz hpl2 hN hC hB hL hfit
    go_wp2_with (first
     | (at_builtin; go_must (refine wpList_row_append rfl (.tmp 18) (.tmp 19) rfl wr.heap.size ρ1 o cap M HB2.out p rfl rfl (by omega) ?_); intro o' cap' w' ρ' hR' hn' hc'; have hg':=(hc'.2.2.2.2 g (lt_of_heap HB1.out) (Nat.ne_of_lt (lt_of_heap HB1.out)) HB3.out).trans HB1.out; have bc2:=cell_of_row w' g 0 _ _ _ hg'; have bf2:=frozen_of_row w' g 0 _ _ hg'; simp at bc2; have HRR:=Lib.hid hR'; have HNN:=Lib.hid hn'; have HCN:=Lib.hid hc'; clear hR' hn' hc' hg'))
    go_roundw
    case rel =>
     have hbp:=buf_put HBF.out HRR.out HNN.out HCN.out
     have hle : (M++p.data.toList).length=M.length+p.size:=by simp
     rw [hle,HM2.out] at hbp
     exact ⟨j+1,ρ',by omega,by go_num,Lib.hid hbp.1,Lib.hid (HN2.out.trans HCC.out.2.2.2.1 HNN.out),Lib.hid (HCC.out.trans HN2.out hbp.2),HLE⟩
    case measure => simp [intOf]; omega
  ·have ejl : j=ps.length:=by rw [← HR.out]; omega
   rw [ejl,catP_all] at hB hL
   have HTOT : Hid (L.length+(catA ps).length≤8192):=Lib.hid (by have:=hL.out; rw [List.length_append] at this; exact this)
   clear ejl hL
   go_wp2
   go_ret
   exact ⟨hC.out,Or.inl ⟨HTOT.out,rfl,ρ1,hN.out,hB.out⟩⟩
end Go.Proofs.YtjfjliobencppaaGreatDoor

namespace Go.Proofs.YtjfjliobencppaaGreatDoor
open Go.RowKit
mutual
def VInP (w : World) (P : Nat→Prop) : Tr→Value→Value→Value→Value→Prop
 | .mk k n s l,c0,c1,c2,c3 => c0=.int .i64 k∧c1=.int .u64 (n : Int)∧n≤18446744073709551615∧c2=.string s∧(s.size≤1000000000∧l.length≤1000000)∧∃ (o : Option Addr) (cap b off : Nat),c3=.slice o l.length cap∧(0 < l.length→o=some ⟨b,off,none⟩∧b < w.heap.size∧P b)∧VInPL w P b off l
def VInPL (w : World) (P : Nat→Prop) (b : Nat) : Nat→List Tr→Prop
 | _,[] => True
 | off,t::ts => (∃ c0 c1 c2 c3,w.cell? ⟨b,off,none⟩=some c0∧w.cell? ⟨b,off+1,none⟩=some c1∧w.cell? ⟨b,off+2,none⟩=some c2∧w.cell? ⟨b,off+3,none⟩=some c3∧VInP w P t c0 c1 c2 c3)∧VInPL w P b (off+4) ts
end
theorem VInPL.at {w : World} {P : Nat→Prop} {b : Nat} : ∀ {off : Nat} {l : List Tr} (i : Nat) (h : i < l.length),VInPL w P b off l→∃ c0 c1 c2 c3,w.cell? ⟨b,off+i * 4,none⟩=some c0∧w.cell? ⟨b,off+i * 4+1,none⟩=some c1∧w.cell? ⟨b,off+i * 4+2,none⟩=some c2∧w.cell? ⟨b,off+i * 4+3,none⟩=some c3∧VInP w P l[i] c0 c1 c2 c3
 | off,t::ts,0,_,h => by
  unfold VInPL at h
  simpa using h.1
 | off,t::ts,i+1,hi,h => by
  unfold VInPL at h
  have:=VInPL.at i (by simpa using hi) h.2
  rw [show off+(i+1) * 4=off+4+i * 4 by omega]
  simpa using this
theorem VInPL.of {w : World} {P : Nat→Prop} {b : Nat} : ∀ {off : Nat} {l : List Tr},(∀ (i : Nat) (h : i < l.length),∃ c0 c1 c2 c3,w.cell? ⟨b,off+i * 4,none⟩=some c0∧w.cell? ⟨b,off+i * 4+1,none⟩=some c1∧w.cell? ⟨b,off+i * 4+2,none⟩=some c2∧w.cell? ⟨b,off+i * 4+3,none⟩=some c3∧VInP w P l[i] c0 c1 c2 c3)→VInPL w P b off l
 | off,[],_ => by unfold VInPL; trivial
 | off,t::ts,h => by
  unfold VInPL
  have h0:=h 0 (by simp)
  rw [Nat.zero_mul,Nat.add_zero] at h0
  refine ⟨h0,VInPL.of (fun i hi => ?_)⟩
  have:=h (i+1) (by simpa using hi)
  rw [show off+(i+1) * 4=off+4+i * 4 by omega] at this
  simpa using this
theorem VInP.keep {w w' : World} {P Q : Nat→Prop} (hs : w.heap.size≤w'.heap.size) (hk : ∀ b,b < w.heap.size→P b→w'.heap[b]?=w.heap[b]?∧Q b) : ∀ (t : Tr) {c0 c1 c2 c3 : Value},VInP w P t c0 c1 c2 c3→VInP w' Q t c0 c1 c2 c3:=by
 refine Tr.ind ?_
 intro k n s l ih c0 c1 c2 c3 h
 unfold VInP at h ⊢
 obtain ⟨h0,h1,hn,h2,hz,o,cap,b,off,h3,ho,hl⟩:=h
 refine ⟨h0,h1,hn,h2,hz,o,cap,b,off,h3,fun hp => ⟨(ho hp).1,Nat.lt_of_lt_of_le (ho hp).2.1 hs,(hk b (ho hp).2.1 (ho hp).2.2).2⟩,VInPL.of (fun i hi => ?_)⟩
 obtain ⟨d0,d1,d2,d3,e0,e1,e2,e3,hv⟩:=hl.at i hi
 have hb:=(hk b (ho (by omega)).2.1 (ho (by omega)).2.2).1
 have cc:=fun j => World.cell?_of_block (a:=⟨b,j,none⟩) hb
 exact ⟨d0,d1,d2,d3,(cc _).trans e0,(cc _).trans e1,(cc _).trans e2,(cc _).trans e3,ih _ (List.getElem_mem hi) hv⟩
theorem VInP.plain {w : World} {P : Nat→Prop} : ∀ (t : Tr) {c0 c1 c2 c3 : Value},VInP w P t c0 c1 c2 c3→VIn w t c0 c1 c2 c3:=by
 refine Tr.ind ?_
 intro k n s l ih c0 c1 c2 c3 h
 unfold VInP at h
 unfold VIn
 obtain ⟨h0,h1,hn,h2,hz,o,cap,b,off,h3,ho,hl⟩:=h
 refine ⟨h0,h1,hn,h2,hz,o,cap,b,off,h3,fun hp => ⟨(ho hp).1,(ho hp).2.1⟩,VInL.of (fun i hi => ?_)⟩
 obtain ⟨d0,d1,d2,d3,e0,e1,e2,e3,hv⟩:=hl.at i hi
 exact ⟨d0,d1,d2,d3,e0,e1,e2,e3,ih _ (List.getElem_mem hi) hv⟩
theorem VInP.cells {w : World} {P : Nat→Prop} : ∀ {t : Tr} {c0 c1 c2 c3 : Value},VInP w P t c0 c1 c2 c3→∃ (k : Int) (n : Nat) (s : ByteArray) (o : Option Addr) (len cap : Nat),c0=.int .i64 k∧c1=.int .u64 (n : Int)∧c2=.string s∧c3=.slice o len cap
 | t,_,_,_,_,h => (VInP.plain t h).cells
def VRow (T : TypeId) (ρ : Option Nat) (o : Option Addr) (cap n : Nat) (xs : List Value) (w : World) : Prop :=
 xs.length=n * 4∧((o=none∧cap=0∧ρ=none∧n=0)∨∃ (r : Nat) (cur : Array Value),ρ=some r∧o=some ⟨r,0,none⟩∧w.heap[r]?=some (.cells cur T (0,0))∧n≤cap∧cap≤maxLen∧cur.size=cap * 4∧cur.toList.take (n * 4)=xs)
theorem VRow.nil (T : TypeId) (w : World) : VRow T none none 0 0 [] w:=⟨rfl,Or.inl ⟨rfl,rfl,rfl,rfl⟩⟩
theorem VRow.keep {T : TypeId} {ρ : Option Nat} {o : Option Addr} {cap n : Nat} {xs : List Value} {w w' : World} (h : VRow T ρ o cap n xs w) (hk : ∀ r,ρ=some r→w'.heap[r]?=w.heap[r]?) : VRow T ρ o cap n xs w':=by
 refine ⟨h.1,?_⟩
 rcases h.2 with h | ⟨r,cur,h1,h2,h4,h5⟩
 ·exact Or.inl h
 ·exact Or.inr ⟨r,cur,h1,h2,(hk r h1).trans h4,h5⟩
theorem VRow.lt {T : TypeId} {ρ : Option Nat} {o : Option Addr} {cap n : Nat} {xs : List Value} {w : World} (h : VRow T ρ o cap n xs w) (r : Nat) (hr : ρ=some r) : r < w.heap.size:=by
 rcases h.2 with ⟨_,_,h,_⟩ | ⟨q,cur,h1,_,h4,_⟩
 ·rw [h] at hr; cases hr
 ·rw [h1] at hr; cases hr; exact lt_of_heap h4
theorem VRow.cell {T : TypeId} {ρ : Option Nat} {o : Option Addr} {cap n : Nat} {xs : List Value} {w : World} (h : VRow T ρ o cap n xs w) (j : Nat) (u : Value) (hj : xs[j]?=some u) : ∃ r,ρ=some r∧o=some ⟨r,0,none⟩∧w.cell? ⟨r,j,none⟩=some u:=by
 have hjl:=(List.getElem?_eq_some_iff.1 hj).1
 rcases h.2 with ⟨_,_,_,h0⟩ | ⟨r,cur,h1,h2,h4,_,_,_,htk⟩
 ·rw [h.1,h0] at hjl; omega
 ·refine ⟨r,h1,h2,?_⟩
  rw [cell_of_row w r j _ _ _ h4,← Array.getElem?_toList]
  have:=congrArg (fun l => l[j]?) htk
  simp only [List.getElem?_take] at this
  rw [if_pos (by rw [← h.1]; exact hjl)] at this
  rw [this]; exact hj
theorem vrow_append (t T ty : TypeId) (hu : Tryz.prog.underlying t=some (.slice T)) (hinfo : (Tryz.prog.info? T).map (fun i => (i.zero,i.size,i.bytes))=some (some (.agg #[.int .i64 0,.int .u64 0,.string ⟨#[]⟩,.slice none 0 0]),4,56))
  (g : Nat) (w : World) (ρ : Option Nat) (o : Option Addr) (cap n : Nat) (xs : List Value) (hR : VRow T ρ o cap n xs w) (hn : n+1≤1000000000) (a : Addr) (news : List Value) (hl : news.length=4) (hnews : ∀ j u,news[j]?=some u→w.cell? (a.add j)=some u) (h1 : ∀ u ∈ news,u.oneCell'=true) :
  ∃ o' cap' w' ρ',(Builtin.append_ #[t,t] ty #[.slice o n cap,.slice (some a) 1 1]).run Tryz.prog w=.ok (.slice o' (n+1) cap') w'∧VRow T ρ' o' cap' (n+1) (xs++news) w'∧Nxt ρ ρ' w∧Chg g ρ w w':=by
 obtain ⟨i,hi,hz,hsz,hby⟩:=info_parts hinfo
 have hml : (n+1 : Nat)≤maxLen:=by unfold maxLen; omega
 have hnl : news.length=1 * i.size:=by rw [hl,hsz]
 have hxl : (xs++news).length=(n+1) * 4:=by rw [List.length_append,hR.1,hl]; omega
 have fresh : ∀ old,VRow T (some w.heap.size) (some ⟨w.heap.size,0,none⟩) (grownCap w (n+1) old T) (n+1) (xs++news) (w.drew.alloc (.cells (xs.toArray++news.toArray++Builtin.zeroCells (Value.agg #[.int .i64 0,.int .u64 0,.string ⟨#[]⟩,.slice none 0 0]).cells (grownCap w (n+1) old T - (n+1))) T)):=by
  intro old
  refine ⟨hxl,Or.inr ⟨w.heap.size,_,rfl,rfl,heap_alloc_new w.drew _,grownCap_ge w (n+1) old T,grownCap_le_maxLen w (n+1) old T hml,?_,?_⟩⟩
  ·have hge:=grownCap_ge w (n+1) old T
   have hz4 : (Value.agg #[.int .i64 0,.int .u64 0,.string ⟨#[]⟩,.slice none 0 0]).cells.size=4:=rfl
   simp only [Array.size_append,List.size_toArray,size_zeroCells,hz4,hR.1,hl]
   omega
  ·rw [← hxl]
   simp only [Array.toList_append]
   exact List.take_left
 rcases hR.2 with ⟨rfl,rfl,rfl,rfl⟩ | ⟨r,cur,rfl,rfl,hg,hnc,hcm,hcs,htk⟩
 ·have hx : xs=[]:=List.eq_nil_of_length_eq_zero (by simpa using hR.1)
  subst hx
  have hr:=run_append_nil (P:=Tryz.prog) w t ty T i _ hu hi hz a 1 1 news hnl hnews (by omega) (by omega) (by rw [hby]; omega)
  have hf:=fresh 0
  simp only [List.nil_append,Array.empty_append] at hf
  exact ⟨_,_,_,_,hr,hf,Or.inr ⟨_,rfl,Nat.le_refl _⟩,grown_chg _ _ _ _⟩
 ·by_cases hroom : n+1≤cap
  ·have hr:=run_append_room (P:=Tryz.prog) w t ty T i hu hi r n cap cur hg a 1 1 news hnl hnews h1 hroom (by rw [hsz,hl,hcs]; omega)
   rw [hsz] at hr
   refine ⟨_,_,_,some r,hr,⟨hxl,Or.inr ⟨r,_,rfl,rfl,setRow_heap w r cur _ T _ hg,hroom,hcm,?_,?_⟩⟩,Or.inl rfl,rfl,rfl,rfl,by simp,fun k _ _ hk => setRow_other w r k _ (fun e => hk (by rw [e]))⟩
   ·simp only [List.size_toArray,List.length_append,List.length_take,List.length_drop,Array.length_toList]
    omega
   ·rw [htk,← hxl]
    exact List.take_left
  ·have holds : ∀ j u,xs[j]?=some u→w.cell? ((⟨r,0,none⟩ : Addr).add j)=some u:=by
    intro j u hj
    obtain ⟨r2,e1,_,e3⟩:=hR.cell j u hj
    cases e1
    rw [plain_add]; exact e3
   have hr:=run_append_grow (P:=Tryz.prog) w t ty T i _ hu hi hz ⟨r,0,none⟩ n cap xs (by rw [hsz]; exact hR.1) holds a 1 1 news hnl hnews (by omega) (by omega) (by rw [hby]; exact growslice_fits (by omega) (by omega))
   exact ⟨_,_,_,_,hr,fresh cap,Or.inr ⟨_,rfl,Nat.le_refl _⟩,grown_chg _ _ _ _⟩
theorem info27 : (Tryz.prog.info? 69).map (fun i => (i.zero,i.size,i.bytes))=some (some (.agg #[.int .i64 0,.int .u64 0,.string ⟨#[]⟩,.slice none 0 0]),4,56):=by kernel_rfl
theorem info37 : (Tryz.prog.info? 81).map (fun i => (i.zero,i.size,i.bytes))=some (some (.agg #[.int .i64 0,.int .u64 0,.string ⟨#[]⟩,.slice none 0 0]),4,56):=by kernel_rfl
end Go.Proofs.YtjfjliobencppaaGreatDoor
