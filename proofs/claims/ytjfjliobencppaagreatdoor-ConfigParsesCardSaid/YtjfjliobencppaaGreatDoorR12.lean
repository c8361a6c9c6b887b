/- (*codec.row).take: one value more. -/
import Derived.Test.YtjfjliobencppaaGreatDoorR11
set_option linter.unusedVariables false
set_option linter.unusedSimpArgs false
set_option maxRecDepth 100000
set_option maxHeartbeats 4000000
namespace Go.Proofs.YtjfjliobencppaaGreatDoor
open Go.RowKit
def z4 : List Value:=[.int .i64 0,.int .u64 0,.string ⟨#[]⟩,.slice none 0 0]
theorem VRow.has {T : TypeId} {ρ : Option Nat} {o : Option Addr} {cap n : Nat} {xs : List Value} {w : World} (h : VRow T ρ o cap n xs w) (hn : 0 < n) : ∃ (r : Nat) (cur : Array Value),ρ=some r∧o=some ⟨r,0,none⟩∧w.heap[r]?=some (.cells cur T (0,0))∧n≤cap∧cap≤maxLen∧cur.size=cap * 4∧cur.toList.take (n * 4)=xs:=by
 rcases h.2 with ⟨_,_,_,h0⟩ | h
 ·omega
 ·exact h
theorem VRow.put {T : TypeId} {r cap n : Nat} {xs : List Value} {w : World} {z0 z1 z2 z3 : Value} (h : VRow T (some r) (some ⟨r,0,none⟩) cap (n+1) (xs++[z0,z1,z2,z3]) w) (d0 d1 d2 d3 : Value) :
  VRow T (some r) (some ⟨r,0,none⟩) cap (n+1) (xs++[d0,d1,d2,d3]) ((((w.setCell ⟨r,n * 4,none⟩ d0).setCell ⟨r,n * 4+1,none⟩ d1).setCell ⟨r,n * 4+2,none⟩ d2).setCell ⟨r,n * 4+3,none⟩ d3):=by
 have hx : xs.length=n * 4:=by have:=h.1; simp at this; omega
 obtain ⟨r',cur,e1,e2,hg,h5,h6,h7,h8⟩:=h.has (by omega)
 cases e1
 refine ⟨by simp [hx]; omega,Or.inr ⟨r,_,rfl,rfl,heap_setCell_same _ r (n * 4+3) _ T d3 (heap_setCell_same _ r (n * 4+2) _ T d2 (heap_setCell_same _ r (n * 4+1) _ T d1 (heap_setCell_same _ r (n * 4) _ T d0 hg))),h5,h6,by simpa using h7,?_⟩⟩
 simp only [Array.toList_setIfInBounds,List.take_set]
 rw [h8,← hx]
 rw [List.set_append_right _ _ (Nat.le_refl _),List.set_append_right _ _ (by omega),List.set_append_right _ _ (by omega),List.set_append_right _ _ (by omega)]
 rw [Nat.sub_self,show xs.length+1 - xs.length=1 by omega,show xs.length+2 - xs.length=2 by omega,show xs.length+3 - xs.length=3 by omega]
 rfl
theorem VRow.last {T : TypeId} {r cap n : Nat} {xs : List Value} {w : World} {z0 z1 z2 z3 : Value} (h : VRow T (some r) (some ⟨r,0,none⟩) cap (n+1) (xs++[z0,z1,z2,z3]) w) :
  (w.cell? ⟨r,n * 4,none⟩=some z0∧w.cell? ⟨r,n * 4+1,none⟩=some z1∧w.cell? ⟨r,n * 4+2,none⟩=some z2∧w.cell? ⟨r,n * 4+3,none⟩=some z3)∧∀ j,w.frozen? ⟨r,j,none⟩=false:=by
 have hx : xs.length=n * 4:=by have:=h.1; simp at this; omega
 obtain ⟨r',cur,e1,e2,hg,_⟩:=h.has (by omega)
 cases e1
 have cell : ∀ j u,(xs++[z0,z1,z2,z3])[j]?=some u→w.cell? ⟨r,j,none⟩=some u:=fun j u hj => by
  obtain ⟨r',q1,_,q3⟩:=h.cell j u hj
  cases q1
  exact q3
 refine ⟨⟨cell _ _ ?_,cell _ _ ?_,cell _ _ ?_,cell _ _ ?_⟩,fun j => frozen_of_row w r j _ _ hg⟩
 all_goals (rw [List.getElem?_append_right (by rw [hx]; omega),hx])
 ·rw [Nat.sub_self]; rfl
 ·rw [show n * 4+1 - n * 4=1 by omega]; rfl
 ·rw [show n * 4+2 - n * 4=2 by omega]; rfl
 ·rw [show n * 4+3 - n * 4=3 by omega]; rfl
theorem sc_os (w : World) (a : Addr) (v : Value) : (w.setCell a v).os=w.os:=rfl
theorem sc_tape (w : World) (a : Addr) (v : Value) : (w.setCell a v).tape=w.tape:=rfl
theorem sc_output (w : World) (a : Addr) (v : Value) : (w.setCell a v).output=w.output:=rfl
theorem sc_size (w : World) (a : Addr) (v : Value) : (w.setCell a v).heap.size=w.heap.size:=by simp
def TkS (w7 : World) (r7 r cap n i : Nat) (xs : List Value) (cur : Array Value) (v : Value) (A : World) : Prop :=
 VRow 69 (some r7) (some ⟨r7,0,none⟩) cap (n+1) xs A∧A.heap[r]?=some (.cells (cur.setIfInBounds (i+1) v) 169 (0,0))∧A.os=w7.os∧A.tape=w7.tape∧A.output=w7.output∧A.heap.size=w7.heap.size∧∀ q,q≠r→q≠r7→A.heap[q]?=w7.heap[q]?
theorem tk_one {w7 : World} {r7 r cap n i : Nat} {xs : List Value} {cur : Array Value} {z0 z1 z2 z3 : Value} (h : VRow 69 (some r7) (some ⟨r7,0,none⟩) cap (n+1) (xs++[z0,z1,z2,z3]) w7) (b7 : w7.heap[r]?=some (.cells cur 169 (0,0))) (hne : r7≠r) (d0 d1 d2 d3 v : Value) :
  TkS w7 r7 r cap n i (xs++[d0,d1,d2,d3]) cur v (((((w7.setCell ⟨r7,n * 4,none⟩ d0).setCell ⟨r7,n * 4+1,none⟩ d1).setCell ⟨r7,n * 4+2,none⟩ d2).setCell ⟨r7,n * 4+3,none⟩ d3).setCell ⟨r,i+1,none⟩ v):=by
 have o : ∀ q,q≠r7→((((w7.setCell ⟨r7,n * 4,none⟩ d0).setCell ⟨r7,n * 4+1,none⟩ d1).setCell ⟨r7,n * 4+2,none⟩ d2).setCell ⟨r7,n * 4+3,none⟩ d3).heap[q]?=w7.heap[q]?:=fun q hq => by
  rw [heap_setCell_other _ ⟨r7,n * 4+3,none⟩ q _ hq,heap_setCell_other _ ⟨r7,n * 4+2,none⟩ q _ hq,heap_setCell_other _ ⟨r7,n * 4+1,none⟩ q _ hq,heap_setCell_other _ ⟨r7,n * 4,none⟩ q _ hq]
 refine ⟨(h.put d0 d1 d2 d3).keep (fun q hq => ?_),heap_setCell_same _ r (i+1) _ 169 v ((o r (fun e => hne e.symm)).trans b7),by simp only [sc_os],by simp only [sc_tape],by simp only [sc_output],by simp only [sc_size],fun q hq hq7 => (heap_setCell_other _ ⟨r,i+1,none⟩ q _ hq).trans (o q hq7)⟩
 cases hq
 exact heap_setCell_other _ ⟨r,i+1,none⟩ r7 _ hne
theorem tk_two {w7 : World} {r7 r cap n i : Nat} {xs : List Value} {cur : Array Value} {z0 z1 z2 z3 : Value} (h : VRow 69 (some r7) (some ⟨r7,0,none⟩) cap (n+1) (xs++[z0,z1,z2,z3]) w7) (b7 : w7.heap[r]?=some (.cells cur 169 (0,0))) (hne : r7≠r) (d0 d1 d2 d3 v : Value) :
  TkS w7 r7 r cap n i (xs++[d0,d1,d2,d3]) cur v (((((w7.setCell ⟨r,i+1,none⟩ v).setCell ⟨r7,n * 4,none⟩ d0).setCell ⟨r7,n * 4+1,none⟩ d1).setCell ⟨r7,n * 4+2,none⟩ d2).setCell ⟨r7,n * 4+3,none⟩ d3):=by
 have o : ∀ q,q≠r7→(((((w7.setCell ⟨r,i+1,none⟩ v).setCell ⟨r7,n * 4,none⟩ d0).setCell ⟨r7,n * 4+1,none⟩ d1).setCell ⟨r7,n * 4+2,none⟩ d2).setCell ⟨r7,n * 4+3,none⟩ d3).heap[q]?=(w7.setCell ⟨r,i+1,none⟩ v).heap[q]?:=fun q hq => by
  rw [heap_setCell_other _ ⟨r7,n * 4+3,none⟩ q _ hq,heap_setCell_other _ ⟨r7,n * 4+2,none⟩ q _ hq,heap_setCell_other _ ⟨r7,n * 4+1,none⟩ q _ hq,heap_setCell_other _ ⟨r7,n * 4,none⟩ q _ hq]
 refine ⟨VRow.put (h.keep (fun q hq => ?_)) d0 d1 d2 d3,(o r (fun e => hne e.symm)).trans (heap_setCell_same _ r (i+1) _ 169 v b7),by simp only [sc_os],by simp only [sc_tape],by simp only [sc_output],by simp only [sc_size],fun q hq hq7 => (o q hq7).trans (heap_setCell_other _ ⟨r,i+1,none⟩ q _ hq)⟩
 cases hq
 exact heap_setCell_other _ ⟨r,i+1,none⟩ r7 _ hne
theorem tk_end {w w1 w7 W9 : World} {r7 r cap7 n i : Nat} {ys : List Value} {cur : Array Value} {v u : Value} {ρ : Option Nat} {A B C : Prop}
  (hx : (A∧Nxt ρ (some r7) w)∧B∧C∧Chg (w.heap.size+2) ρ w1 w7) (h9 : TkS w7 r7 r cap7 n i ys cur v W9) (h1 : Below w.heap.size w w1) (hs : w1.heap.size=w.heap.size+1) (hl : ∀ q,ρ=some q→q < w.heap.size) (hne : r≠r7) :
  VRow 69 (some r7) (some ⟨r7,0,none⟩) cap7 (n+1) ys (W9.setCell ⟨r,i,none⟩ u)∧Nxt ρ (some r7) w∧(W9.setCell ⟨r,i,none⟩ u).os=w.os∧(W9.setCell ⟨r,i,none⟩ u).tape=w.tape∧(W9.setCell ⟨r,i,none⟩ u).output=w.output∧w.heap.size≤(W9.setCell ⟨r,i,none⟩ u).heap.size ∧
   (W9.setCell ⟨r,i,none⟩ u).heap[r]?=some (.cells ((cur.setIfInBounds (i+1) v).setIfInBounds i u) 169 (0,0))∧∀ q,q < w.heap.size→q≠r→ρ≠some q→(W9.setCell ⟨r,i,none⟩ u).heap[q]?=w.heap[q]?:=by
 obtain ⟨⟨_,hn⟩,_,_,hc⟩:=hx
 obtain ⟨a1,a2,a3,a4,a5,a6,a7⟩:=h9
 have hn7 : ∀ q,q < w.heap.size→ρ≠some q→q≠r7:=by
  intro q hq hr
  rcases hn with h | ⟨k,h,hk⟩
  ·intro e; apply hr; rw [← h,e]
  ·cases h; omega
 refine ⟨a1.keep (fun q hq => ?_),hn,?_,?_,?_,?_,heap_setCell_same _ r i _ 169 u a2,fun q hq hr hρ => ?_⟩
 ·cases hq; exact heap_setCell_other _ ⟨r,i,none⟩ r7 _ (fun e => hne e.symm)
 ·rw [sc_os,a3,hc.1,h1.os]
 ·rw [sc_tape,a4,hc.2.1,h1.tape]
 ·rw [sc_output,a5,hc.2.2.1,h1.output]
 ·rw [sc_size,a6]; exact Nat.le_trans h1.size hc.2.2.2.1
 ·rw [heap_setCell_other _ ⟨r,i,none⟩ q _ hr,a7 q hr (hn7 q hq hρ),hc.2.2.2.2 q (by omega) (by omega) hρ,h1.block q hq]
theorem take_any (r i n k : Nat) (oo : Option Addr) (cap : Nat) (ρ : Option Nat) (xs : List Value) (cur : Array Value) (a : Int) (b : Nat) (s : ByteArray) (o : Option Addr) (m c : Nat) (w : World)
  (hk : 1≤k) (hk2 : k≤18446744073709551615) (hb : w.heap[r]?=some (.cells cur 169 (0,0))) (h0 : cur[i]?=some (.int .u64 (k : Int))) (h1 : cur[i+1]?=some (.slice oo n cap)) (hR : VRow 69 ρ oo cap n xs w) (hne : ρ≠some r) (hn : n+1≤1000000) :
  Calls Tryz.prog 108 #[.pointer (some ⟨r,i,none⟩),.agg #[.int .i64 a,.int .u64 (b : Int),.string s,.slice o m c]] w fun e w' => e=.returned (.tuple #[])∧∃ ρ' o' cap',VRow 69 ρ' o' cap' (n+1) (xs++[.int .i64 a,.int .u64 (b : Int),.string s,.slice o m c]) w'∧Nxt ρ ρ' w∧w'.os=w.os∧w'.tape=w.tape∧w'.output=w.output∧w.heap.size≤w'.heap.size ∧
   w'.heap[r]?=some (.cells ((cur.setIfInBounds (i+1) (.slice o' (n+1) cap')).setIfInBounds i (.int .u64 ((k - 1 : Nat) : Int))) 169 (0,0))∧∀ q,q < w.heap.size→q≠r→ρ≠some q→w'.heap[q]?=w.heap[q]?:=by
 have hst:=store27 w a b s o m c
 obtain ⟨w1,hw1⟩ : ∃ w1,w1=w.alloc (.cells #[.int .i64 a,.int .u64 (b : Int),.string s,.slice o m c] 69):=⟨_,rfl⟩
 rw [← hw1] at hst
 have HB1:=Lib.hid (show Below w.heap.size w w1 by rw [hw1]; exact alloc_below _ _)
 have HS1 : w1.heap.size=w.heap.size+1:=by rw [hw1]; simp
 obtain ⟨c0,c1,c2,c3⟩:=(show w1.cell? ⟨w.heap.size,0,none⟩=some (.int .i64 a)∧w1.cell? ⟨w.heap.size,1,none⟩=some (.int .u64 (b : Int))∧w1.cell? ⟨w.heap.size,2,none⟩=some (.string s)∧w1.cell? ⟨w.heap.size,3,none⟩=some (.slice o m c) by rw [hw1]; exact four_new _ _ _ _ _ _)
 have hrl:=lt_of_heap hb
 have b1:=(HB1.out.block r hrl).trans hb
 have g1 : w1.cell? ⟨r,i+1,none⟩=some (.slice oo n cap):=by rw [cell_of_row w1 r _ _ _ _ b1]; exact h1
 have HRZ : Hid (∀ wz,Below w1.heap.size w1 wz→VRow 69 ρ oo cap n xs wz):=Lib.hid (fun wz hz => (hR.keep (fun q hq => HB1.out.block q (hR.lt q hq))).keep (fun q hq => hz.block q (by have:=hR.lt q hq; omega)))
 have BZ : Hid (∀ wz,Below w1.heap.size w1 wz→wz.heap[r]?=some (.cells cur 169 (0,0))):=Lib.hid (fun wz hz => (hz.block r (by omega)).trans b1)
 have HL : Hid (∀ q,ρ=some q→q < w.heap.size):=Lib.hid (fun q hq => hR.lt q hq)
 have HC:=Lib.hid (And.intro h0 (And.intro h1 hne))
 have A1:=Lib.hid (show Below w1.heap.size w1 (w1.alloc (.cells #[.int .i64 0,.int .u64 0,.string ⟨#[]⟩,.slice none 0 0] 69)).drew from (alloc_below w1 _).trans ((Below.refl _ _).drew))
 have A2:=Lib.hid (show Below w1.heap.size w1 (w1.drew.alloc (.cells #[.int .i64 0,.int .u64 0,.string ⟨#[]⟩,.slice none 0 0] 69)) from (Below.refl _ _).drew.trans (alloc_below w1.drew _))
 have N1:=Lib.hid (show ∀ j u,[Value.int .i64 0,.int .u64 0,.string ⟨#[]⟩,.slice none 0 0][j]?=some u→(w1.alloc (.cells #[.int .i64 0,.int .u64 0,.string ⟨#[]⟩,.slice none 0 0] 69)).drew.cell? ((⟨w.heap.size+1,0,none⟩ : Addr).add j)=some u from news_at w1 [Value.int .i64 0,.int .u64 0,.string ⟨#[]⟩,.slice none 0 0] 69 _ HS1.symm)
 have N2:=Lib.hid (show ∀ j u,[Value.int .i64 0,.int .u64 0,.string ⟨#[]⟩,.slice none 0 0][j]?=some u→(w1.drew.alloc (.cells #[.int .i64 0,.int .u64 0,.string ⟨#[]⟩,.slice none 0 0] 69)).cell? ((⟨w.heap.size+1,0,none⟩ : Addr).add j)=some u from news_at w1.drew [Value.int .i64 0,.int .u64 0,.string ⟨#[]⟩,.slice none 0 0] 69 _ HS1.symm)
 have HT : Hid (∀ (wz : World) o7 cap7 w7 ρ7,VRow 69 ρ7 o7 cap7 (n+1) (xs++[.int .i64 0,.int .u64 0,.string ⟨#[]⟩,.slice none 0 0]) w7→Nxt ρ ρ7 wz→Below w1.heap.size w1 wz→Chg (w.heap.size+2) ρ wz w7 →
   ∃ r7,o7=some ⟨r7,0,none⟩∧ρ7=some r7∧Hid ((VRow 69 (some r7) (some ⟨r7,0,none⟩) cap7 (n+1) (xs++[.int .i64 0,.int .u64 0,.string ⟨#[]⟩,.slice none 0 0]) w7∧Nxt ρ (some r7) w)∧(w7.cell? ⟨r,i+1,none⟩=some (.slice oo n cap)∧w7.frozen? ⟨r,i+1,none⟩=false)∧w7.heap[r]?=some (.cells cur 169 (0,0))∧Chg (w.heap.size+2) ρ w1 w7) ∧
    w7.cell? ⟨r7,n * 4,none⟩=some (.int .i64 0)∧w7.cell? ⟨r7,n * 4+1,none⟩=some (.int .u64 0)∧w7.cell? ⟨r7,n * 4+2,none⟩=some (.string ⟨#[]⟩)∧w7.cell? ⟨r7,n * 4+3,none⟩=some (.slice none 0 0) ∧
    w7.frozen? ⟨r7,n * 4,none⟩=false∧w7.frozen? ⟨r7,n * 4+1,none⟩=false∧w7.frozen? ⟨r7,n * 4+2,none⟩=false∧w7.frozen? ⟨r7,n * 4+3,none⟩=false∧r7≠r∧r≠r7):=Lib.hid (by
  intro wz o7 cap7 w7 ρ7 hr7 hn7 hbz hc7
  obtain ⟨r7,cur7,rfl,rfl,hb7,_⟩:=hr7.has (by omega)
  obtain ⟨⟨e0,e1,e2,e3⟩,ef⟩:=hr7.last
  have hbr:=BZ.out wz hbz
  have hsz:=hbz.size
  have b7:=(hc7.2.2.2.2 r (lt_of_heap hbr) (by omega) hne).trans hbr
  have hnr : r7≠r:=by
   rcases hn7 with h | ⟨q,h,hq⟩
   ·intro e; apply hne; rw [← h,e]
   ·cases h; omega
  have hnw : Nxt ρ (some r7) w:=by
   rcases hn7 with h | ⟨q,h,hq⟩
   ·exact Or.inl h
   ·exact Or.inr ⟨q,h,by omega⟩
  refine ⟨r7,rfl,rfl,Lib.hid ⟨⟨hr7,hnw⟩,⟨by rw [cell_of_row w7 r _ _ _ _ b7]; exact h1,frozen_of_row w7 r _ _ _ b7⟩,b7,?_⟩,e0,e1,e2,e3,ef _,ef _,ef _,ef _,hnr,fun e => hnr e.symm⟩
  exact ⟨hc7.1.trans hbz.os,hc7.2.1.trans hbz.tape,hc7.2.2.1.trans hbz.output,Nat.le_trans hbz.size hc7.2.2.2.1,fun k hk hg hr => (hc7.2.2.2.2 k (by omega) hg hr).trans (hbz.block k hk)⟩)
 have hn1 : (n : Int) < (n : Int)+1:=by omega
 go_enter Tryz.func108,Tryz.ntmps108
 go_upto_region 1 with fail
 rw [← hw1]
 clear hst hw1 hb h0 h1 hR hne b1
 rename_i K aK
 have TAIL : Hid (∀ (x4 x5 x6 x7 x8 x9 x10 x11 x12 x13 x14 : Value) (r7 cap7 : Nat) (w7 W9 : World),r≠r7→Hid ((VRow 69 (some r7) (some ⟨r7,0,none⟩) cap7 (n+1) (xs++[.int .i64 0,.int .u64 0,.string ⟨#[]⟩,.slice none 0 0]) w7∧Nxt ρ (some r7) w)∧(w7.cell? ⟨r,i+1,none⟩=some (.slice oo n cap)∧w7.frozen? ⟨r,i+1,none⟩=false)∧w7.heap[r]?=some (.cells cur 169 (0,0))∧Chg (w.heap.size+2) ρ w1 w7) →
   Hid (TkS w7 r7 r cap7 n i (xs++[.int .i64 a,.int .u64 (b : Int),.string s,.slice o m c]) cur (.slice (some ⟨r7,0,none⟩) (n+1) cap7) W9) →
   K ⟨#[.pointer (some ⟨r,i,none⟩),.agg #[.int .i64 a,.int .u64 (b : Int),.string s,.slice o m c],undef,.pointer (some ⟨w.heap.size,0,none⟩),x4,x5,x6,x7,x8,x9,x10,x11,x12,x13,x14,undef,undef,undef,undef,undef,undef,undef],[]⟩ W9):=Lib.hid (by
  intro x4 x5 x6 x7 x8 x9 x10 x11 x12 x13 x14 r7 cap7 w7 W9 n2 HX7 H9
  apply aK
  clear aK A1 A2 N1 N2 HT HRZ BZ
  have k0 : W9.cell? ⟨r,i,none⟩=some (.int .u64 (k : Int)):=by
   rw [cell_of_row W9 r _ _ _ _ H9.out.2.1,Array.getElem?_setIfInBounds_ne (by omega)]; exact HC.out.1
  have k1:=frozen_of_row W9 r i _ _ H9.out.2.1
  have hz1 : (k : Int) - 1=((k - 1 : Nat) : Int):=by omega
  have hw : IntKind.u64.wrap ((k - 1 : Nat) : Int)=((k - 1 : Nat) : Int):=IntWalk.u64_in _ (by omega)
  clear hk hk2
  go_wp2
  refine bodyPost_end (v:=.tuple #[]) (by simp [results,Tryz.results108,go_sem]) rfl ⟨rfl,some r7,some ⟨r7,0,none⟩,cap7,?_⟩
  exact tk_end HX7.out H9.out HB1.out HS1 HL.out n2)
 clear aK
 go_region_law (first
  | (refine step_vrow rfl (.tmp 7) (.tmp 10) 67 69 rfl Tryz.underlying67 info27 (w.heap.size+2) ρ oo cap n xs (HRZ.out _ (by first | exact A1.out | exact A2.out)) (by omega) ⟨w.heap.size+1,0,none⟩ [.int .i64 0,.int .u64 0,.string ⟨#[]⟩,.slice none 0 0] rfl (by first | exact N1.out | exact N2.out) (by intro u hu; simp at hu; rcases hu with rfl | rfl | rfl | rfl <;> rfl) rfl rfl ?_; intro o7 cap7 w7 ρ7 hr7 hn7 hc7; obtain ⟨r7,m1,m2,HX7,e0,e1,e2,e3,f0,f1,f2,f3,n1,n2⟩:=HT.out _ _ _ _ _ hr7 hn7 (by first | exact A1.out | exact A2.out) hc7; subst m1; subst m2; obtain ⟨y1,y2⟩:=HX7.out.2.1; clear hr7 hn7 hc7))
 all_goals
  try simp only [Exit.then]
  refine TAIL.out _ _ _ _ _ _ _ _ _ _ _ r7 cap7 w7 _ n2 HX7 (Lib.hid ?_)
  first | (with_reducible exact tk_one HX7.out.1.1 HX7.out.2.2.1 n1 _ _ _ _ _) | (with_reducible exact tk_two HX7.out.1.1 HX7.out.2.2.1 n1 _ _ _ _ _)
end Go.Proofs.YtjfjliobencppaaGreatDoor
