/- Configs' writers, over configs in memory.; config: slices.IndexFunc, slices.ContainsFunc with config's closures.; config: has a list more elements than it may; is a weight below 0.; config: tooMany, belowNothing, Bytes.; config: Bytes of any config.; config: Same.; config: slices.Equal of routes, of endpoints. -/
import Derived.Test.YtjfjliobencppaaGreatDoorR08
import Derived.Test.YtjfjliobencppaaGreatDoorR07
import Derived.Laws.EntriesVeiled
import Derived.Laws.StructEq
import Derived.ChangeKeysEq
set_option linter.unusedVariables false
set_option linter.unusedSimpArgs false
namespace Go.Proofs.YtjfjliobencppaaGreatDoor.Cf
open Go.RowKit
def Rt.fit (r : Rt) : Prop:=r.host.size≤1000000000∧r.path.size≤1000000000∧r.cluster.size≤1000000000
def Ls.fit (l : Ls) : Prop:=l.name.size≤1000000000∧l.r.length≤1000000∧∀ r ∈ l.r,r.fit
def Cl.fit (c : Cl) : Prop:=c.name.size≤1000000000∧c.e.length≤1000000∧∀ e ∈ c.e,0≤e.w
def Co.fit (c : Co) : Prop:=c.l.length≤1000000∧c.c.length≤1000000∧(∀ l ∈ c.l,l.fit)∧∀ x ∈ c.c,x.fit
def Ls.tr (l : Ls) : Tr:=rowT [strT l.name,strT (str l.p.bytes),rowT (l.r.map Rt.tr)]
def Cl.tr (c : Cl) : Tr:=rowT [strT c.name,rowT (c.e.map Ep.tr)]
def Co.tr (c : Co) : Tr:=rowT [numT c.v,rowT (c.l.map Ls.tr),rowT (c.c.map Cl.tr)]
theorem ep_list {w : World} {v : Value} {l : List Ep} (h : Rw 6 EpIn w v l) (hl : l.length≤1000000) (hw : ∀ e ∈ l,0≤e.w) :
  ∃ o cap,v=.slice o l.length cap∧∀ wz,Below w.heap.size w wz→Calls Tryz.prog 101 #[.slice o l.length cap,.func (.func 102) #[] #[]] wz (WrP (rowT (l.map Ep.tr)) wz):=by
 obtain ⟨o,cap,b,off,rfl,ho,hE⟩:=h
 refine ⟨o,cap,rfl,fun wz hb => ?_⟩
 have hm : (l.map Ep.tr).length=l.length:=List.length_map ..
 have key:=list_end (l.map Ep.tr) o cap b off (by rw [hm]; exact hl) wz (fun hp => by rw [hm] at hp; exact ⟨(ho hp).1,Nat.lt_of_lt_of_le (ho hp).2 hb.size⟩) (fun i hi => by
  rw [hm] at hi
  obtain ⟨cs,hr,hcs,hok⟩:=hE i hi
  have hwi:=hw l[i] (List.getElem_mem hi)
  have hr2:=rng_later hr hb
  rw [List.getElem_map]
  generalize l[i]=e at *
  obtain ⟨⟨a,b2,c,d,port⟩,wt⟩:=e
  subst hcs
  exact ⟨_,_,_,_,_,_,⟨hr2 0 _ rfl,hr2 1 _ rfl,hr2 2 _ rfl,hr2 3 _ rfl,hr2 4 _ rfl,hr2 5 _ rfl,fun w2 _ => wendpoint_any a b2 c d port wt hok.1 hwi hok.2.2 w2⟩⟩)
 rw [hm] at key
 exact key
theorem rt_list {w : World} {v : Value} {l : List Rt} (h : Rw 4 RtIn w v l) (hl : l.length≤1000000) (hw : ∀ r ∈ l,r.fit) :
  ∃ o cap,v=.slice o l.length cap∧∀ wz,Below w.heap.size w wz→Calls Tryz.prog 98 #[.slice o l.length cap,.func (.func 99) #[] #[]] wz (WrP (rowT (l.map Rt.tr)) wz):=by
 obtain ⟨o,cap,b,off,rfl,ho,hE⟩:=h
 refine ⟨o,cap,rfl,fun wz hb => ?_⟩
 have hm : (l.map Rt.tr).length=l.length:=List.length_map ..
 have key:=list_rou (l.map Rt.tr) o cap b off (by rw [hm]; exact hl) wz (fun hp => by rw [hm] at hp; exact ⟨(ho hp).1,Nat.lt_of_lt_of_le (ho hp).2 hb.size⟩) (fun i hi => by
  rw [hm] at hi
  obtain ⟨cs,hr,hcs,hok⟩:=hE i hi
  have hwi:=hw l[i] (List.getElem_mem hi)
  have hr2:=rng_later hr hb
  rw [List.getElem_map]
  generalize l[i]=e at *
  obtain ⟨host,path,cluster,idle⟩:=e
  subst hcs
  exact ⟨_,_,_,_,⟨hr2 0 _ rfl,hr2 1 _ rfl,hr2 2 _ rfl,hr2 3 _ rfl,fun w2 _ => wroute_any host path cluster idle hwi.1 hwi.2.1 hwi.2.2 hok.2.2.2 w2⟩⟩)
 rw [hm] at key
 exact key
theorem cl_list {w : World} {v : Value} {l : List Cl} (h : Rw 2 ClIn w v l) (hl : l.length≤1000000) (hw : ∀ c ∈ l,c.fit) :
  ∃ o cap,v=.slice o l.length cap∧∀ wz,Below w.heap.size w wz→Calls Tryz.prog 63 #[.slice o l.length cap,.func (.func 64) #[] #[]] wz (WrP (rowT (l.map Cl.tr)) wz):=by
 obtain ⟨o,cap,b,off,rfl,ho,hE⟩:=h
 refine ⟨o,cap,rfl,fun wz hb => ?_⟩
 have hm : (l.map Cl.tr).length=l.length:=List.length_map ..
 have key:=list_clu (l.map Cl.tr) o cap b off (by rw [hm]; exact hl) wz (fun hp => by rw [hm] at hp; exact ⟨(ho hp).1,Nat.lt_of_lt_of_le (ho hp).2 hb.size⟩) (fun i hi => by
  rw [hm] at hi
  obtain ⟨cs,hr,hcs⟩:=hE i hi
  have hwi:=hw l[i] (List.getElem_mem hi)
  have hr2:=rng_later hr hb
  rw [List.getElem_map]
  generalize l[i]=e at *
  obtain ⟨name,es⟩:=e
  obtain ⟨v2,rfl,hn,hR⟩:=hcs
  have hR2:=hR.later hb fun _ _ h => h
  obtain ⟨o2,cap2,rfl,hK⟩:=ep_list hR2 hwi.2.1 hwi.2.2
  exact ⟨_,_,⟨hr2 0 _ rfl,hr2 1 _ rfl,fun w2 h2 => wcluster_any name o2 es.length cap2 (es.map Ep.tr) hwi.1 w2 (fun w3 h3 => hK w3 (h2.trans (h3.mono h2.size)))⟩⟩)
 rw [hm] at key
 exact key
theorem ls_list {w : World} {v : Value} {l : List Ls} (h : Rw 7 LsIn w v l) (hl : l.length≤1000000) (hw : ∀ c ∈ l,c.fit) :
  ∃ o cap,v=.slice o l.length cap∧∀ wz,Below w.heap.size w wz→Calls Tryz.prog 61 #[.slice o l.length cap,.func (.func 62) #[] #[]] wz (WrP (rowT (l.map Ls.tr)) wz):=by
 obtain ⟨o,cap,b,off,rfl,ho,hE⟩:=h
 refine ⟨o,cap,rfl,fun wz hb => ?_⟩
 have hm : (l.map Ls.tr).length=l.length:=List.length_map ..
 have key:=list_lis (l.map Ls.tr) o cap b off (by rw [hm]; exact hl) wz (fun hp => by rw [hm] at hp; exact ⟨(ho hp).1,Nat.lt_of_lt_of_le (ho hp).2 hb.size⟩) (fun i hi => by
  rw [hm] at hi
  obtain ⟨cs,hr,hcs⟩:=hE i hi
  have hwi:=hw l[i] (List.getElem_mem hi)
  have hr2:=rng_later hr hb
  rw [List.getElem_map]
  generalize l[i]=e at *
  obtain ⟨name,⟨a,b2,c,d,port⟩,rs⟩:=e
  obtain ⟨v2,rfl,hn,hp,hR⟩:=hcs
  have hR2:=hR.later hb fun _ _ h => h
  obtain ⟨o2,cap2,rfl,hK⟩:=rt_list hR2 hwi.2.1 hwi.2.2
  exact ⟨_,_,_,_,_,_,_,⟨hr2 0 _ rfl,hr2 1 _ rfl,hr2 2 _ rfl,hr2 3 _ rfl,hr2 4 _ rfl,hr2 5 _ rfl,hr2 6 _ rfl,fun w2 h2 => wlistener_any name a b2 c d port o2 rs.length cap2 (rs.map Rt.tr) hwi.1 hp w2 (fun w3 h3 => hK w3 (h2.trans (h3.mono h2.size)))⟩⟩)
 rw [hm] at key
 exact key
theorem co_write {w : World} {c0 c1 c2 : Value} {c : Co} (h : CoIn w c0 c1 c2 c) (hf : c.fit) : Calls Tryz.prog 25 #[.agg #[c0,c1,c2]] w (WrP c.tr w):=by
 obtain ⟨rfl,hv,hL,hC⟩:=h
 obtain ⟨o1,cap1,rfl,hK1⟩:=ls_list hL hf.1 hf.2.2.1
 obtain ⟨o2,cap2,rfl,hK2⟩:=cl_list hC hf.2.1 hf.2.2.2
 exact wconfig_any c.v o1 o2 c.l.length cap1 c.c.length cap2 (c.l.map Ls.tr) (c.c.map Cl.tr) hv w hK1 hK2
end Go.Proofs.YtjfjliobencppaaGreatDoor.Cf

set_option maxRecDepth 100000
set_option maxHeartbeats 4000000
namespace Go.Proofs.YtjfjliobencppaaGreatDoor.Cf
open Go.RowKit
theorem any_no {n : Nat} {p : Nat→Bool} (h : ∀ i,i < n→p i=false) : (List.range n).any p=false:=by
 rw [Bool.eq_false_iff]; intro h2
 obtain ⟨i,hi,hp⟩:=List.any_eq_true.1 h2
 rw [h i (List.mem_range.1 hi)] at hp
 cases hp
theorem any_yes {n k : Nat} {p : Nat→Bool} (hk : k < n) (h : p k=true) : (List.range n).any p=true:=List.any_eq_true.2 ⟨k,List.mem_range.2 hk,h⟩
theorem ix_lis (n : Nat) (p : Nat→Bool) (o : Option Addr) (cap b off : Nat) (hn : n≤1000000000) (w : World) (ho : 0 < n→o=some ⟨b,off,none⟩∧b < w.heap.size)
  (hE : ∀ i,i < n→∃ c0 c1 c2 c3 c4 c5 c6,w.cell? ⟨b,off+i * 7,none⟩=some c0∧w.cell? ⟨b,off+i * 7+1,none⟩=some c1∧w.cell? ⟨b,off+i * 7+2,none⟩=some c2∧w.cell? ⟨b,off+i * 7+3,none⟩=some c3∧w.cell? ⟨b,off+i * 7+4,none⟩=some c4∧w.cell? ⟨b,off+i * 7+5,none⟩=some c5∧w.cell? ⟨b,off+i * 7+6,none⟩=some c6∧∀ wz,Below w.heap.size w wz→Calls Tryz.prog 49 #[.agg #[c0,c1,c2,c3,c4,c5,c6]] wz fun e w' => e=.returned (.bool (p i))∧Below wz.heap.size wz w') :
  Calls Tryz.prog 38 #[.slice o n cap,(.func (.func 49) #[] #[])] w fun e w' => ∃ r : Int,e=.returned (.int .i64 r)∧((r=-1∧∀ i,i < n→p i=false)∨∃ k : Nat,r=(k : Int)∧k < n∧p k=true)∧Below w.heap.size w w':=by
 have HO:=Lib.hid ho
 have HE:=Lib.hid hE
 clear ho hE
 go_enter Tryz.func38,Tryz.ntmps38
 go_wp2_with fail
 go_loopw [5,8] (fun _ iv wr => ∃ k : Nat,k≤n∧iv=.int .i64 (k : Int)∧Hid (Below w.heap.size w wr∧∀ j,j < k→p j=false)) (fun _ iv _ => n - (intOf iv).toNat)
 case atStart => exact ⟨0,Nat.zero_le _,rfl,Lib.hid ⟨Below.refl _ _,fun j h => absurd h (by omega)⟩⟩
 case round =>
  obtain ⟨k,hk,rfl,HT⟩:=hrel
  by_cases hlt : k < n
  ·obtain ⟨ho',hb'⟩:=HO.out (by omega)
   subst ho'
   obtain ⟨c0,c1,c2,c3,c4,c5,c6,e0,e1,e2,e3,e4,e5,e6,hK⟩:=HE.out k hlt
   have f0:=(HT.out.1.cell (p:=⟨b,off+k * 7,none⟩) hb').trans e0
   have f1:=(HT.out.1.cell (p:=⟨b,off+k * 7+1,none⟩) hb').trans e1
   have f2:=(HT.out.1.cell (p:=⟨b,off+k * 7+2,none⟩) hb').trans e2
   have f3:=(HT.out.1.cell (p:=⟨b,off+k * 7+3,none⟩) hb').trans e3
   have f4:=(HT.out.1.cell (p:=⟨b,off+k * 7+4,none⟩) hb').trans e4
   have f5:=(HT.out.1.cell (p:=⟨b,off+k * 7+5,none⟩) hb').trans e5
   have f6:=(HT.out.1.cell (p:=⟨b,off+k * 7+6,none⟩) hb').trans e6
   have K1:=Lib.hid (hK wr HT.out.1)
   clear e0 e1 e2 e3 e4 e5 e6 hK
   cases hp : p k with
   | false =>
    rw [hp] at K1
    have HP:=Lib.hid hp
    clear hp
    go_wp2_with fail
    refine (K1.out).mono ?_
    rintro r w1 ⟨rfl,hb1⟩
    have HB1:=Lib.hid (HT.out.1.trans (hb1.mono HT.out.1.size))
    clear hb1
    go_wp2_with fail
    go_roundw
    case rel =>
     refine ⟨k+1,by omega,by go_num,Lib.hid ⟨HB1.out,fun j hj => ?_⟩⟩
     by_cases ej : j=k
     ·subst ej; exact HP.out
     ·exact HT.out.2 j (by omega)
    case measure => simp [intOf]; omega
   | true =>
    rw [hp] at K1
    have HP:=Lib.hid hp
    clear hp
    go_wp2_with fail
    refine (K1.out).mono ?_
    rintro r w1 ⟨rfl,hb1⟩
    have HB1:=Lib.hid (HT.out.1.trans (hb1.mono HT.out.1.size))
    clear hb1
    go_wp2_with fail
    go_ret
    exact ⟨_,rfl,Or.inr ⟨k,rfl,hlt,HP.out⟩,HB1.out⟩
  ·go_wp2_with fail
   go_ret
   exact ⟨_,rfl,Or.inl ⟨rfl,fun j hj => HT.out.2 j (by omega)⟩,HT.out.1⟩
theorem cont_lis (n : Nat) (p : Nat→Bool) (o : Option Addr) (cap b off : Nat) (hn : n≤1000000000) (w : World) (ho : 0 < n→o=some ⟨b,off,none⟩∧b < w.heap.size)
  (hE : ∀ i,i < n→∃ c0 c1 c2 c3 c4 c5 c6,w.cell? ⟨b,off+i * 7,none⟩=some c0∧w.cell? ⟨b,off+i * 7+1,none⟩=some c1∧w.cell? ⟨b,off+i * 7+2,none⟩=some c2∧w.cell? ⟨b,off+i * 7+3,none⟩=some c3∧w.cell? ⟨b,off+i * 7+4,none⟩=some c4∧w.cell? ⟨b,off+i * 7+5,none⟩=some c5∧w.cell? ⟨b,off+i * 7+6,none⟩=some c6∧∀ wz,Below w.heap.size w wz→Calls Tryz.prog 49 #[.agg #[c0,c1,c2,c3,c4,c5,c6]] wz fun e w' => e=.returned (.bool (p i))∧Below wz.heap.size wz w') :
  Calls Tryz.prog 48 #[.slice o n cap,(.func (.func 49) #[] #[])] w fun e w' => e=.returned (.bool ((List.range n).any p))∧Below w.heap.size w w':=by
 have K1:=Lib.hid (ix_lis n p o cap b off hn w ho hE)
 clear ho hE
 go_enter Tryz.func48,Tryz.ntmps48
 go_wp2_with fail
 refine (K1.out).mono ?_
 rintro e w1 ⟨r,rfl,h,hb⟩
 have HB:=Lib.hid hb
 clear hb
 rcases h with ⟨rfl,h⟩ | ⟨k,rfl,hk,h⟩
 ·have HA:=Lib.hid (any_no h)
  clear h
  go_wp2_with fail
  go_ret
  exact ⟨by rw [HA.out]; rfl,HB.out⟩
 ·have HA:=Lib.hid (any_yes hk h)
  have q : decide ((0 : Int)≤(k : Int))=true:=by rw [decide_eq_true_iff]; omega
  clear h
  go_wp2_with fail
  go_ret
  exact ⟨by rw [HA.out]; rfl,HB.out⟩
theorem ix_clu (n : Nat) (p : Nat→Bool) (o : Option Addr) (cap b off : Nat) (hn : n≤1000000000) (w : World) (ho : 0 < n→o=some ⟨b,off,none⟩∧b < w.heap.size)
  (hE : ∀ i,i < n→∃ c0 c1,w.cell? ⟨b,off+i * 2,none⟩=some c0∧w.cell? ⟨b,off+i * 2+1,none⟩=some c1∧∀ wz,Below w.heap.size w wz→Calls Tryz.prog 51 #[.agg #[c0,c1]] wz fun e w' => e=.returned (.bool (p i))∧Below wz.heap.size wz w') :
  Calls Tryz.prog 41 #[.slice o n cap,(.func (.func 51) #[] #[])] w fun e w' => ∃ r : Int,e=.returned (.int .i64 r)∧((r=-1∧∀ i,i < n→p i=false)∨∃ k : Nat,r=(k : Int)∧k < n∧p k=true)∧Below w.heap.size w w':=by
 have HO:=Lib.hid ho
 have HE:=Lib.hid hE
 clear ho hE
 go_enter Tryz.func41,Tryz.ntmps41
 go_wp2_with fail
 go_loopw [5,8] (fun _ iv wr => ∃ k : Nat,k≤n∧iv=.int .i64 (k : Int)∧Hid (Below w.heap.size w wr∧∀ j,j < k→p j=false)) (fun _ iv _ => n - (intOf iv).toNat)
 case atStart => exact ⟨0,Nat.zero_le _,rfl,Lib.hid ⟨Below.refl _ _,fun j h => absurd h (by omega)⟩⟩
 case round =>
  obtain ⟨k,hk,rfl,HT⟩:=hrel
  by_cases hlt : k < n
  ·obtain ⟨ho',hb'⟩:=HO.out (by omega)
   subst ho'
   obtain ⟨c0,c1,e0,e1,hK⟩:=HE.out k hlt
   have f0:=(HT.out.1.cell (p:=⟨b,off+k * 2,none⟩) hb').trans e0
   have f1:=(HT.out.1.cell (p:=⟨b,off+k * 2+1,none⟩) hb').trans e1
   have K1:=Lib.hid (hK wr HT.out.1)
   clear e0 e1 hK
   cases hp : p k with
   | false =>
    rw [hp] at K1
    have HP:=Lib.hid hp
    clear hp
    go_wp2_with fail
    refine (K1.out).mono ?_
    rintro r w1 ⟨rfl,hb1⟩
    have HB1:=Lib.hid (HT.out.1.trans (hb1.mono HT.out.1.size))
    clear hb1
    go_wp2_with fail
    go_roundw
    case rel =>
     refine ⟨k+1,by omega,by go_num,Lib.hid ⟨HB1.out,fun j hj => ?_⟩⟩
     by_cases ej : j=k
     ·subst ej; exact HP.out
     ·exact HT.out.2 j (by omega)
    case measure => simp [intOf]; omega
   | true =>
    rw [hp] at K1
    have HP:=Lib.hid hp
    clear hp
    go_wp2_with fail
    refine (K1.out).mono ?_
    rintro r w1 ⟨rfl,hb1⟩
    have HB1:=Lib.hid (HT.out.1.trans (hb1.mono HT.out.1.size))
    clear hb1
    go_wp2_with fail
    go_ret
    exact ⟨_,rfl,Or.inr ⟨k,rfl,hlt,HP.out⟩,HB1.out⟩
  ·go_wp2_with fail
   go_ret
   exact ⟨_,rfl,Or.inl ⟨rfl,fun j hj => HT.out.2 j (by omega)⟩,HT.out.1⟩
theorem cont_clu (n : Nat) (p : Nat→Bool) (o : Option Addr) (cap b off : Nat) (hn : n≤1000000000) (w : World) (ho : 0 < n→o=some ⟨b,off,none⟩∧b < w.heap.size)
  (hE : ∀ i,i < n→∃ c0 c1,w.cell? ⟨b,off+i * 2,none⟩=some c0∧w.cell? ⟨b,off+i * 2+1,none⟩=some c1∧∀ wz,Below w.heap.size w wz→Calls Tryz.prog 51 #[.agg #[c0,c1]] wz fun e w' => e=.returned (.bool (p i))∧Below wz.heap.size wz w') :
  Calls Tryz.prog 50 #[.slice o n cap,(.func (.func 51) #[] #[])] w fun e w' => e=.returned (.bool ((List.range n).any p))∧Below w.heap.size w w':=by
 have K1:=Lib.hid (ix_clu n p o cap b off hn w ho hE)
 clear ho hE
 go_enter Tryz.func50,Tryz.ntmps50
 go_wp2_with fail
 refine (K1.out).mono ?_
 rintro e w1 ⟨r,rfl,h,hb⟩
 have HB:=Lib.hid hb
 clear hb
 rcases h with ⟨rfl,h⟩ | ⟨k,rfl,hk,h⟩
 ·have HA:=Lib.hid (any_no h)
  clear h
  go_wp2_with fail
  go_ret
  exact ⟨by rw [HA.out]; rfl,HB.out⟩
 ·have HA:=Lib.hid (any_yes hk h)
  have q : decide ((0 : Int)≤(k : Int))=true:=by rw [decide_eq_true_iff]; omega
  clear h
  go_wp2_with fail
  go_ret
  exact ⟨by rw [HA.out]; rfl,HB.out⟩
theorem ix_bel (g : Nat) (n : Nat) (p : Nat→Bool) (o : Option Addr) (cap b off : Nat) (hn : n≤1000000000) (w : World) (ho : 0 < n→o=some ⟨b,off,none⟩∧b < w.heap.size)
  (hE : ∀ i,i < n→∃ c0 c1,w.cell? ⟨b,off+i * 2,none⟩=some c0∧w.cell? ⟨b,off+i * 2+1,none⟩=some c1∧∀ wz,Below w.heap.size w wz→Calls Tryz.prog 53 #[.agg #[c0,c1],.pointer (some ⟨g,0,none⟩)] wz fun e w' => e=.returned (.bool (p i))∧Below wz.heap.size wz w') :
  Calls Tryz.prog 41 #[.slice o n cap,(.func (.func 53) #[] #[.pointer (some ⟨g,0,none⟩)])] w fun e w' => ∃ r : Int,e=.returned (.int .i64 r)∧((r=-1∧∀ i,i < n→p i=false)∨∃ k : Nat,r=(k : Int)∧k < n∧p k=true)∧Below w.heap.size w w':=by
 have HO:=Lib.hid ho
 have HE:=Lib.hid hE
 clear ho hE
 go_enter Tryz.func41,Tryz.ntmps41
 go_wp2_with fail
 go_loopw [5,8] (fun _ iv wr => ∃ k : Nat,k≤n∧iv=.int .i64 (k : Int)∧Hid (Below w.heap.size w wr∧∀ j,j < k→p j=false)) (fun _ iv _ => n - (intOf iv).toNat)
 case atStart => exact ⟨0,Nat.zero_le _,rfl,Lib.hid ⟨Below.refl _ _,fun j h => absurd h (by omega)⟩⟩
 case round =>
  obtain ⟨k,hk,rfl,HT⟩:=hrel
  by_cases hlt : k < n
  ·obtain ⟨ho',hb'⟩:=HO.out (by omega)
   subst ho'
   obtain ⟨c0,c1,e0,e1,hK⟩:=HE.out k hlt
   have f0:=(HT.out.1.cell (p:=⟨b,off+k * 2,none⟩) hb').trans e0
   have f1:=(HT.out.1.cell (p:=⟨b,off+k * 2+1,none⟩) hb').trans e1
   have K1:=Lib.hid (hK wr HT.out.1)
   clear e0 e1 hK
   cases hp : p k with
   | false =>
    rw [hp] at K1
    have HP:=Lib.hid hp
    clear hp
    go_wp2_with fail
    refine (K1.out).mono ?_
    rintro r w1 ⟨rfl,hb1⟩
    have HB1:=Lib.hid (HT.out.1.trans (hb1.mono HT.out.1.size))
    clear hb1
    go_wp2_with fail
    go_roundw
    case rel =>
     refine ⟨k+1,by omega,by go_num,Lib.hid ⟨HB1.out,fun j hj => ?_⟩⟩
     by_cases ej : j=k
     ·subst ej; exact HP.out
     ·exact HT.out.2 j (by omega)
    case measure => simp [intOf]; omega
   | true =>
    rw [hp] at K1
    have HP:=Lib.hid hp
    clear hp
    go_wp2_with fail
    refine (K1.out).mono ?_
    rintro r w1 ⟨rfl,hb1⟩
    have HB1:=Lib.hid (HT.out.1.trans (hb1.mono HT.out.1.size))
    clear hb1
    go_wp2_with fail
    go_ret
    exact ⟨_,rfl,Or.inr ⟨k,rfl,hlt,HP.out⟩,HB1.out⟩
  ·go_wp2_with fail
   go_ret
   exact ⟨_,rfl,Or.inl ⟨rfl,fun j hj => HT.out.2 j (by omega)⟩,HT.out.1⟩
theorem cont_bel (g : Nat) (n : Nat) (p : Nat→Bool) (o : Option Addr) (cap b off : Nat) (hn : n≤1000000000) (w : World) (ho : 0 < n→o=some ⟨b,off,none⟩∧b < w.heap.size)
  (hE : ∀ i,i < n→∃ c0 c1,w.cell? ⟨b,off+i * 2,none⟩=some c0∧w.cell? ⟨b,off+i * 2+1,none⟩=some c1∧∀ wz,Below w.heap.size w wz→Calls Tryz.prog 53 #[.agg #[c0,c1],.pointer (some ⟨g,0,none⟩)] wz fun e w' => e=.returned (.bool (p i))∧Below wz.heap.size wz w') :
  Calls Tryz.prog 50 #[.slice o n cap,(.func (.func 53) #[] #[.pointer (some ⟨g,0,none⟩)])] w fun e w' => e=.returned (.bool ((List.range n).any p))∧Below w.heap.size w w':=by
 have K1:=Lib.hid (ix_bel g n p o cap b off hn w ho hE)
 clear ho hE
 go_enter Tryz.func50,Tryz.ntmps50
 go_wp2_with fail
 refine (K1.out).mono ?_
 rintro e w1 ⟨r,rfl,h,hb⟩
 have HB:=Lib.hid hb
 clear hb
 rcases h with ⟨rfl,h⟩ | ⟨k,rfl,hk,h⟩
 ·have HA:=Lib.hid (any_no h)
  clear h
  go_wp2_with fail
  go_ret
  exact ⟨by rw [HA.out]; rfl,HB.out⟩
 ·have HA:=Lib.hid (any_yes hk h)
  have q : decide ((0 : Int)≤(k : Int))=true:=by rw [decide_eq_true_iff]; omega
  clear h
  go_wp2_with fail
  go_ret
  exact ⟨by rw [HA.out]; rfl,HB.out⟩
theorem ix_end (n : Nat) (p : Nat→Bool) (o : Option Addr) (cap b off : Nat) (hn : n≤1000000000) (w : World) (ho : 0 < n→o=some ⟨b,off,none⟩∧b < w.heap.size)
  (hE : ∀ i,i < n→∃ c0 c1 c2 c3 c4 c5,w.cell? ⟨b,off+i * 6,none⟩=some c0∧w.cell? ⟨b,off+i * 6+1,none⟩=some c1∧w.cell? ⟨b,off+i * 6+2,none⟩=some c2∧w.cell? ⟨b,off+i * 6+3,none⟩=some c3∧w.cell? ⟨b,off+i * 6+4,none⟩=some c4∧w.cell? ⟨b,off+i * 6+5,none⟩=some c5∧∀ wz,Below w.heap.size w wz→Calls Tryz.prog 52 #[.agg #[c0,c1,c2,c3,c4,c5]] wz fun e w' => e=.returned (.bool (p i))∧Below wz.heap.size wz w') :
  Calls Tryz.prog 92 #[.slice o n cap,(.func (.func 52) #[] #[])] w fun e w' => ∃ r : Int,e=.returned (.int .i64 r)∧((r=-1∧∀ i,i < n→p i=false)∨∃ k : Nat,r=(k : Int)∧k < n∧p k=true)∧Below w.heap.size w w':=by
 have HO:=Lib.hid ho
 have HE:=Lib.hid hE
 clear ho hE
 go_enter Tryz.func92,Tryz.ntmps92
 go_wp2_with fail
 go_loopw [5,8] (fun _ iv wr => ∃ k : Nat,k≤n∧iv=.int .i64 (k : Int)∧Hid (Below w.heap.size w wr∧∀ j,j < k→p j=false)) (fun _ iv _ => n - (intOf iv).toNat)
 case atStart => exact ⟨0,Nat.zero_le _,rfl,Lib.hid ⟨Below.refl _ _,fun j h => absurd h (by omega)⟩⟩
 case round =>
  obtain ⟨k,hk,rfl,HT⟩:=hrel
  by_cases hlt : k < n
  ·obtain ⟨ho',hb'⟩:=HO.out (by omega)
   subst ho'
   obtain ⟨c0,c1,c2,c3,c4,c5,e0,e1,e2,e3,e4,e5,hK⟩:=HE.out k hlt
   have f0:=(HT.out.1.cell (p:=⟨b,off+k * 6,none⟩) hb').trans e0
   have f1:=(HT.out.1.cell (p:=⟨b,off+k * 6+1,none⟩) hb').trans e1
   have f2:=(HT.out.1.cell (p:=⟨b,off+k * 6+2,none⟩) hb').trans e2
   have f3:=(HT.out.1.cell (p:=⟨b,off+k * 6+3,none⟩) hb').trans e3
   have f4:=(HT.out.1.cell (p:=⟨b,off+k * 6+4,none⟩) hb').trans e4
   have f5:=(HT.out.1.cell (p:=⟨b,off+k * 6+5,none⟩) hb').trans e5
   have K1:=Lib.hid (hK wr HT.out.1)
   clear e0 e1 e2 e3 e4 e5 hK
   cases hp : p k with
   | false =>
    rw [hp] at K1
    have HP:=Lib.hid hp
    clear hp
    go_wp2_with fail
    refine (K1.out).mono ?_
    rintro r w1 ⟨rfl,hb1⟩
    have HB1:=Lib.hid (HT.out.1.trans (hb1.mono HT.out.1.size))
    clear hb1
    go_wp2_with fail
    go_roundw
    case rel =>
     refine ⟨k+1,by omega,by go_num,Lib.hid ⟨HB1.out,fun j hj => ?_⟩⟩
     by_cases ej : j=k
     ·subst ej; exact HP.out
     ·exact HT.out.2 j (by omega)
    case measure => simp [intOf]; omega
   | true =>
    rw [hp] at K1
    have HP:=Lib.hid hp
    clear hp
    go_wp2_with fail
    refine (K1.out).mono ?_
    rintro r w1 ⟨rfl,hb1⟩
    have HB1:=Lib.hid (HT.out.1.trans (hb1.mono HT.out.1.size))
    clear hb1
    go_wp2_with fail
    go_ret
    exact ⟨_,rfl,Or.inr ⟨k,rfl,hlt,HP.out⟩,HB1.out⟩
  ·go_wp2_with fail
   go_ret
   exact ⟨_,rfl,Or.inl ⟨rfl,fun j hj => HT.out.2 j (by omega)⟩,HT.out.1⟩
theorem cont_end (n : Nat) (p : Nat→Bool) (o : Option Addr) (cap b off : Nat) (hn : n≤1000000000) (w : World) (ho : 0 < n→o=some ⟨b,off,none⟩∧b < w.heap.size)
  (hE : ∀ i,i < n→∃ c0 c1 c2 c3 c4 c5,w.cell? ⟨b,off+i * 6,none⟩=some c0∧w.cell? ⟨b,off+i * 6+1,none⟩=some c1∧w.cell? ⟨b,off+i * 6+2,none⟩=some c2∧w.cell? ⟨b,off+i * 6+3,none⟩=some c3∧w.cell? ⟨b,off+i * 6+4,none⟩=some c4∧w.cell? ⟨b,off+i * 6+5,none⟩=some c5∧∀ wz,Below w.heap.size w wz→Calls Tryz.prog 52 #[.agg #[c0,c1,c2,c3,c4,c5]] wz fun e w' => e=.returned (.bool (p i))∧Below wz.heap.size wz w') :
  Calls Tryz.prog 54 #[.slice o n cap,(.func (.func 52) #[] #[])] w fun e w' => e=.returned (.bool ((List.range n).any p))∧Below w.heap.size w w':=by
 have K1:=Lib.hid (ix_end n p o cap b off hn w ho hE)
 clear ho hE
 go_enter Tryz.func54,Tryz.ntmps54
 go_wp2_with fail
 refine (K1.out).mono ?_
 rintro e w1 ⟨r,rfl,h,hb⟩
 have HB:=Lib.hid hb
 clear hb
 rcases h with ⟨rfl,h⟩ | ⟨k,rfl,hk,h⟩
 ·have HA:=Lib.hid (any_no h)
  clear h
  go_wp2_with fail
  go_ret
  exact ⟨by rw [HA.out]; rfl,HB.out⟩
 ·have HA:=Lib.hid (any_yes hk h)
  have q : decide ((0 : Int)≤(k : Int))=true:=by rw [decide_eq_true_iff]; omega
  clear h
  go_wp2_with fail
  go_ret
  exact ⟨by rw [HA.out]; rfl,HB.out⟩
theorem clo49 (c0 c1 c2 c3 c4 c5 : Value) (o : Option Addr) (n cap : Nat) (w : World) : Calls Tryz.prog 49 #[.agg #[c0,c1,c2,c3,c4,c5,.slice o n cap]] w fun e w' => e=.returned (.bool (decide (8 < n)))∧Below w.heap.size w w':=by
 have HB:=Lib.hid (alloc_below w (.cells #[c0,c1,c2,c3,c4,c5,.slice o n cap] 52))
 go_enter Tryz.func49,Tryz.ntmps49
 go_wp2
 go_ret
 exact ⟨by first | rfl | (show Ending.returned (.bool (decide ((8 : Int) < (n : Int))))=_; rw [show decide ((8 : Int) < (n : Int))=decide (8 < n) from decide_eq_decide.2 (by omega)]),HB.out⟩
theorem clo51 (c0 : Value) (o : Option Addr) (n cap : Nat) (w : World) : Calls Tryz.prog 51 #[.agg #[c0,.slice o n cap]] w fun e w' => e=.returned (.bool (decide (8 < n)))∧Below w.heap.size w w':=by
 have HB:=Lib.hid (alloc_below w (.cells #[c0,.slice o n cap] 57))
 go_enter Tryz.func51,Tryz.ntmps51
 go_wp2
 go_ret
 exact ⟨by first | rfl | (show Ending.returned (.bool (decide ((8 : Int) < (n : Int))))=_; rw [show decide ((8 : Int) < (n : Int))=decide (8 < n) from decide_eq_decide.2 (by omega)]),HB.out⟩
theorem clo52 (c0 c1 c2 c3 c4 : Value) (wt : Int) (w : World) : Calls Tryz.prog 52 #[.agg #[c0,c1,c2,c3,c4,.int .i64 wt]] w fun e w' => e=.returned (.bool (decide (wt < 0)))∧Below w.heap.size w w':=by
 have HB:=Lib.hid (alloc_below w (.cells #[c0,c1,c2,c3,c4,.int .i64 wt] 64))
 go_enter Tryz.func52,Tryz.ntmps52
 go_wp2
 go_ret
 exact ⟨by first | rfl | (show Ending.returned (.bool (decide ((8 : Int) < (n : Int))))=_; rw [show decide ((8 : Int) < (n : Int))=decide (8 < n) from decide_eq_decide.2 (by omega)]),HB.out⟩
end Go.Proofs.YtjfjliobencppaaGreatDoor.Cf

set_option maxRecDepth 100000
namespace Go.Proofs.YtjfjliobencppaaGreatDoor.Cf
open Go.RowKit
theorem any_range {α : Type} [Inhabited α] (l : List α) (q : α→Bool) : ((List.range l.length).any fun i => q (l.getD i default))=l.any q:=by
 rw [Bool.eq_iff_iff,List.any_eq_true,List.any_eq_true]
 constructor
 ·rintro ⟨i,hi,h⟩
  have hi':=List.mem_range.1 hi
  refine ⟨l[i],List.getElem_mem hi',?_⟩
  rwa [List.getD_eq_getElem?_getD,List.getElem?_eq_getElem hi',Option.getD_some] at h
 ·rintro ⟨x,hx,h⟩
  obtain ⟨i,hi,rfl⟩:=List.getElem_of_mem hx
  refine ⟨i,List.mem_range.2 hi,?_⟩
  rwa [List.getD_eq_getElem?_getD,List.getElem?_eq_getElem hi,Option.getD_some]
theorem getD_at {α : Type} [Inhabited α] (l : List α) {i : Nat} (hi : i < l.length) : l.getD i default=l[i]:=by
 rw [List.getD_eq_getElem?_getD,List.getElem?_eq_getElem hi,Option.getD_some]
def Ls.many (l : Ls) : Bool:=decide (8 < l.r.length)
def Cl.many (c : Cl) : Bool:=decide (8 < c.e.length)
def Cl.below (c : Cl) : Bool:=c.e.any fun e => decide (e.w < 0)
def Co.many (c : Co) : Bool:=decide (8 < c.l.length) || decide (8 < c.c.length) || c.l.any Ls.many || c.c.any Cl.many
def Co.below (c : Co) : Bool:=c.c.any Cl.below
def Co.short (c : Co) : Prop:=c.l.length≤1000000∧c.c.length≤1000000∧∀ x ∈ c.c,x.e.length≤1000000
def TrP (b : Bool) (w : World) (e : Ending) (w' : World) : Prop:=e=.returned (.bool b)∧Below w.heap.size w w'
theorem ls_many {w : World} {v : Value} {l : List Ls} (h : Rw 7 LsIn w v l) (hl : l.length≤1000000) :
  ∃ o cap,v=.slice o l.length cap∧∀ wz,Below w.heap.size w wz→Calls Tryz.prog 48 #[.slice o l.length cap,.func (.func 49) #[] #[]] wz (TrP (l.any Ls.many) wz):=by
 obtain ⟨o,cap,b,off,rfl,ho,hE⟩:=h
 refine ⟨o,cap,rfl,fun wz hb => ?_⟩
 rw [← any_range l Ls.many]
 exact cont_lis l.length (fun i => Ls.many (l.getD i default)) o cap b off (by omega) wz (fun hp => ⟨(ho hp).1,Nat.lt_of_lt_of_le (ho hp).2 hb.size⟩) (fun i hi => by
  obtain ⟨cs,hr,hcs⟩:=hE i hi
  have hr2:=rng_later hr hb
  simp only [getD_at l hi]
  generalize l[i]=e at *
  obtain ⟨v2,rfl,hn,hp,hR⟩:=hcs
  obtain ⟨o2,cap2,rfl⟩:=hR.form
  exact ⟨_,_,_,_,_,_,_,⟨hr2 0 _ rfl,hr2 1 _ rfl,hr2 2 _ rfl,hr2 3 _ rfl,hr2 4 _ rfl,hr2 5 _ rfl,hr2 6 _ rfl,fun w2 _ => clo49 _ _ _ _ _ _ o2 e.r.length cap2 w2⟩⟩)
theorem cl_many {w : World} {v : Value} {l : List Cl} (h : Rw 2 ClIn w v l) (hl : l.length≤1000000) :
  ∃ o cap,v=.slice o l.length cap∧∀ wz,Below w.heap.size w wz→Calls Tryz.prog 50 #[.slice o l.length cap,.func (.func 51) #[] #[]] wz (TrP (l.any Cl.many) wz):=by
 obtain ⟨o,cap,b,off,rfl,ho,hE⟩:=h
 refine ⟨o,cap,rfl,fun wz hb => ?_⟩
 rw [← any_range l Cl.many]
 exact cont_clu l.length (fun i => Cl.many (l.getD i default)) o cap b off (by omega) wz (fun hp => ⟨(ho hp).1,Nat.lt_of_lt_of_le (ho hp).2 hb.size⟩) (fun i hi => by
  obtain ⟨cs,hr,hcs⟩:=hE i hi
  have hr2:=rng_later hr hb
  simp only [getD_at l hi]
  generalize l[i]=e at *
  obtain ⟨v2,rfl,hn,hR⟩:=hcs
  obtain ⟨o2,cap2,rfl⟩:=hR.form
  exact ⟨_,_,⟨hr2 0 _ rfl,hr2 1 _ rfl,fun w2 _ => clo51 _ o2 e.e.length cap2 w2⟩⟩)
theorem ep_below {w : World} {v : Value} {l : List Ep} (h : Rw 6 EpIn w v l) (hl : l.length≤1000000) :
  ∃ o cap,v=.slice o l.length cap∧∀ wz,Below w.heap.size w wz→Calls Tryz.prog 54 #[.slice o l.length cap,.func (.func 52) #[] #[]] wz (TrP (l.any fun e => decide (e.w < 0)) wz):=by
 obtain ⟨o,cap,b,off,rfl,ho,hE⟩:=h
 refine ⟨o,cap,rfl,fun wz hb => ?_⟩
 rw [← any_range l fun e => decide (e.w < 0)]
 exact cont_end l.length (fun i => decide ((l.getD i default).w < 0)) o cap b off (by omega) wz (fun hp => ⟨(ho hp).1,Nat.lt_of_lt_of_le (ho hp).2 hb.size⟩) (fun i hi => by
  obtain ⟨cs,hr,hcs,hok⟩:=hE i hi
  have hr2:=rng_later hr hb
  simp only [getD_at l hi]
  generalize l[i]=e at *
  subst hcs
  exact ⟨_,_,_,_,_,_,⟨hr2 0 _ rfl,hr2 1 _ rfl,hr2 2 _ rfl,hr2 3 _ rfl,hr2 4 _ rfl,hr2 5 _ rfl,fun w2 _ => clo52 _ _ _ _ _ e.w w2⟩⟩)
theorem clo53 (g : Nat) (c0 : Value) (o : Option Addr) (n cap : Nat) (p : Bool) (w : World) (hg : w.cell? ⟨g,0,none⟩=some (.func (.func 52) #[] #[]))
  (hK : ∀ wz,Below w.heap.size w wz→Calls Tryz.prog 54 #[.slice o n cap,.func (.func 52) #[] #[]] wz (TrP p wz)) :
  Calls Tryz.prog 53 #[.agg #[c0,.slice o n cap],.pointer (some ⟨g,0,none⟩)] w (TrP p w):=by
 have HB0:=Lib.hid (alloc_below w (.cells #[c0,.slice o n cap] 57))
 have K1:=Lib.hid (hK _ HB0.out)
 have f1 : (w.alloc (.cells #[c0,.slice o n cap] 57)).cell? ⟨w.heap.size,1,none⟩=some (.slice o n cap):=by rw [World.cell?_alloc_new]; rfl
 have f2 : (w.alloc (.cells #[c0,.slice o n cap] 57)).cell? ⟨g,0,none⟩=some (.func (.func 52) #[] #[]):=(HB0.out.cell (p:=⟨g,0,none⟩) (World.block_lt_of_cell? w _ hg)).trans hg
 clear hK hg
 go_enter Tryz.func53,Tryz.ntmps53
 go_wp2_with fail
 refine (K1.out).mono ?_
 rintro e w1 ⟨rfl,hb⟩
 have HB:=Lib.hid (HB0.out.trans (hb.mono HB0.out.size))
 clear hb
 go_wp2_with fail
 go_ret
 exact ⟨rfl,HB.out⟩
theorem cl_below {w : World} {v : Value} {l : List Cl} (h : Rw 2 ClIn w v l) (hl : l.length≤1000000) (hs : ∀ x ∈ l,x.e.length≤1000000) :
  ∃ o cap,v=.slice o l.length cap∧∀ g wz,Below w.heap.size w wz→wz.cell? ⟨g,0,none⟩=some (.func (.func 52) #[] #[])→Calls Tryz.prog 50 #[.slice o l.length cap,.func (.func 53) #[] #[.pointer (some ⟨g,0,none⟩)]] wz (TrP (l.any Cl.below) wz):=by
 obtain ⟨o,cap,b,off,rfl,ho,hE⟩:=h
 refine ⟨o,cap,rfl,fun g wz hb hg => ?_⟩
 rw [← any_range l Cl.below]
 exact cont_bel g l.length (fun i => Cl.below (l.getD i default)) o cap b off (by omega) wz (fun hp => ⟨(ho hp).1,Nat.lt_of_lt_of_le (ho hp).2 hb.size⟩) (fun i hi => by
  obtain ⟨cs,hr,hcs⟩:=hE i hi
  have hr2:=rng_later hr hb
  have hsi:=hs l[i] (List.getElem_mem hi)
  simp only [getD_at l hi]
  generalize l[i]=e at *
  obtain ⟨v2,rfl,hn,hR⟩:=hcs
  obtain ⟨o2,cap2,rfl,hK⟩:=ep_below hR hsi
  exact ⟨_,_,⟨hr2 0 _ rfl,hr2 1 _ rfl,fun w2 h2 => clo53 g _ o2 e.e.length cap2 _ w2 ((h2.cell (p:=⟨g,0,none⟩) (World.block_lt_of_cell? wz _ hg)).trans hg) (fun w3 h3 => hK w3 ((hb.trans (h2.mono hb.size)).trans (h3.mono (Nat.le_trans hb.size h2.size))))⟩⟩)
end Go.Proofs.YtjfjliobencppaaGreatDoor.Cf

set_option maxRecDepth 100000
set_option maxHeartbeats 4000000
namespace Go.Proofs.YtjfjliobencppaaGreatDoor.Cf
open Go.RowKit
theorem bk3 {w : World} {g : Nat} {a0 a1 a2 : Value} {T : TypeId} (h : Bk w g #[a0,a1,a2] T) : w.cell? ⟨g,0,none⟩=some a0∧w.cell? ⟨g,1,none⟩=some a1∧w.cell? ⟨g,2,none⟩=some a2 :=
 ⟨(cell_of_row _ _ 0 _ _ _ h).trans rfl,(cell_of_row _ _ 1 _ _ _ h).trans rfl,(cell_of_row _ _ 2 _ _ _ h).trans rfl⟩
theorem many_walk (c0 : Value) (o1 o2 : Option Addr) (n1 cap1 n2 cap2 : Nat) (p q : Bool) (w : World)
  (h1 : ∀ wz,Below w.heap.size w wz→Calls Tryz.prog 48 #[.slice o1 n1 cap1,.func (.func 49) #[] #[]] wz (TrP p wz))
  (h2 : ∀ wz,Below w.heap.size w wz→Calls Tryz.prog 50 #[.slice o2 n2 cap2,.func (.func 51) #[] #[]] wz (TrP q wz)) :
  Calls Tryz.prog 22 #[.agg #[c0,.slice o1 n1 cap1,.slice o2 n2 cap2]] w (TrP (decide (8 < n1) || decide (8 < n2) || p || q) w):=by
 have K1:=Lib.hid h1
 have K2:=Lib.hid h2
 have HB0:=Lib.hid (alloc_below w (.cells #[c0,.slice o1 n1 cap1,.slice o2 n2 cap2] 26))
 have HX0:=Lib.hid (show Bk (w.alloc (.cells #[c0,.slice o1 n1 cap1,.slice o2 n2 cap2] 26)) w.heap.size #[c0,.slice o1 n1 cap1,.slice o2 n2 cap2] 26 from heap_alloc_new w _)
 clear h1 h2
 obtain ⟨y0,y1,y2⟩:=bk3 HX0.out
 obtain ⟨b1,hb1⟩ : ∃ b1,decide (8 < n1)=b1:=⟨_,rfl⟩
 obtain ⟨b2,hb2⟩ : ∃ b2,decide (8 < n2)=b2:=⟨_,rfl⟩
 have t1 : decide ((8 : Int) < (n1 : Int))=b1:=by rw [← hb1]; exact decide_eq_decide.2 (by omega)
 have t2 : decide ((8 : Int) < (n2 : Int))=b2:=by rw [← hb2]; exact decide_eq_decide.2 (by omega)
 rw [hb1,hb2]
 clear hb1 hb2
 go_enter Tryz.func22,Tryz.ntmps22
 cases b1 with
 | true =>
  go_wp2_with fail
  go_ret
  exact ⟨rfl,HB0.out⟩
 | false => cases b2 with
  | true =>
   go_wp2_with fail
   go_ret
   exact ⟨rfl,HB0.out⟩
  | false => cases p with
   | true =>
    go_wp2_with fail
    refine (K1.out _ HB0.out).mono ?_
    rintro e w1 ⟨rfl,hb⟩
    have HX1:=Lib.hid (Bk.later HX0.out hb)
    have HB1:=Lib.hid (HB0.out.trans (hb.mono HB0.out.size))
    clear hb y0 y1 y2
    obtain ⟨y0,y1,y2⟩:=bk3 HX1.out
    go_wp2_with fail
    go_ret
    exact ⟨rfl,HB1.out⟩
   | false =>
    go_wp2_with fail
    refine (K1.out _ HB0.out).mono ?_
    rintro e w1 ⟨rfl,hb⟩
    have HX1:=Lib.hid (Bk.later HX0.out hb)
    have HB1:=Lib.hid (HB0.out.trans (hb.mono HB0.out.size))
    clear hb y0 y1 y2
    obtain ⟨y0,y1,y2⟩:=bk3 HX1.out
    go_wp2_with fail
    refine (K2.out _ HB1.out).mono ?_
    rintro e w2 ⟨rfl,hb⟩
    have HX2:=Lib.hid (Bk.later HX1.out hb)
    have HB2:=Lib.hid (HB1.out.trans (hb.mono HB1.out.size))
    clear hb y0 y1 y2
    obtain ⟨y0,y1,y2⟩:=bk3 HX2.out
    go_wp2_with fail
    go_ret
    exact ⟨rfl,HB2.out⟩
theorem many_any {w : World} {c0 c1 c2 : Value} {c : Co} (h : CoIn w c0 c1 c2 c) (hs : c.short) : Calls Tryz.prog 22 #[.agg #[c0,c1,c2]] w (TrP c.many w):=by
 obtain ⟨rfl,hv,hL,hC⟩:=h
 obtain ⟨o1,cap1,rfl,hK1⟩:=ls_many hL hs.1
 obtain ⟨o2,cap2,rfl,hK2⟩:=cl_many hC hs.2.1
 exact many_walk _ o1 o2 _ cap1 _ cap2 _ _ w hK1 hK2
theorem below_walk (c0 c1 : Value) (o2 : Option Addr) (n2 cap2 : Nat) (q : Bool) (w : World)
  (h2 : ∀ g wz,Below w.heap.size w wz→wz.cell? ⟨g,0,none⟩=some (.func (.func 52) #[] #[])→Calls Tryz.prog 50 #[.slice o2 n2 cap2,.func (.func 53) #[] #[.pointer (some ⟨g,0,none⟩)]] wz (TrP q wz)) :
  Calls Tryz.prog 23 #[.agg #[c0,c1,.slice o2 n2 cap2]] w (TrP q w):=by
 have K1:=Lib.hid h2
 clear h2
 have HB0:=Lib.hid (alloc_below w (.cells #[c0,c1,.slice o2 n2 cap2] 26))
 have HX0:=Lib.hid (show Bk (w.alloc (.cells #[c0,c1,.slice o2 n2 cap2] 26)) w.heap.size #[c0,c1,.slice o2 n2 cap2] 26 from heap_alloc_new w _)
 obtain ⟨y0,y1,y2⟩:=bk3 HX0.out
 obtain ⟨W,hW⟩ : ∃ W,W=((w.alloc (.cells #[c0,c1,.slice o2 n2 cap2] 26)).alloc (.cells #[.func (.func 52) #[] #[]] 111)):=⟨_,rfl⟩
 have HBW:=Lib.hid (show Below w.heap.size w W by rw [hW]; exact HB0.out.trans ((alloc_below _ _).mono (by simp)))
 have HN0 : Hid (Bk W (w.heap.size+1) #[.func (.func 52) #[] #[]] 111):=Lib.hid (by
  have h:=heap_alloc_new (w.alloc (.cells #[c0,c1,.slice o2 n2 cap2] 26)) (.cells #[.func (.func 52) #[] #[]] 111)
  rw [show (w.alloc (.cells #[c0,c1,.slice o2 n2 cap2] 26)).heap.size=w.heap.size+1 by simp] at h
  rw [hW]
  exact h)
 have k0 : W.cell? ⟨w.heap.size+1,0,none⟩=some (.func (.func 52) #[] #[]):=(cell_of_row _ _ 0 _ _ _ HN0.out).trans rfl
 have HXW : Hid (Bk W w.heap.size #[c0,c1,.slice o2 n2 cap2] 26):=Lib.hid (by rw [hW]; exact Bk.later HX0.out (alloc_below _ _))
 have HWE:=Lib.hid hW
 clear hW
 go_enter Tryz.func23,Tryz.ntmps23
 go_upto_region 2 with fail
 rw [← HWE.out]
 clear y0 y1 y2 HN0 HWE
 obtain ⟨y0,y1,y2⟩:=bk3 HXW.out
 go_wp2_with fail
 refine (K1.out _ _ HBW.out k0).mono ?_
 rintro e w1 ⟨rfl,hb⟩
 have HB1:=Lib.hid (HBW.out.trans (hb.mono HBW.out.size))
 clear hb
 go_wp2_with fail
 go_ret
 exact ⟨rfl,HB1.out⟩
theorem below_any {w : World} {c0 c1 c2 : Value} {c : Co} (h : CoIn w c0 c1 c2 c) (hs : c.short) : Calls Tryz.prog 23 #[.agg #[c0,c1,c2]] w (TrP c.below w):=by
 obtain ⟨rfl,hv,hL,hC⟩:=h
 obtain ⟨o2,cap2,rfl,hK2⟩:=cl_below hC hs.2.1 hs.2.2
 exact below_walk _ _ o2 _ cap2 _ w hK2
end Go.Proofs.YtjfjliobencppaaGreatDoor.Cf

set_option maxRecDepth 100000
set_option maxHeartbeats 4000000
namespace Go.Proofs.YtjfjliobencppaaGreatDoor.Cf
open Go.RowKit
theorem deepL_le {n : Nat} : ∀ {l : List Tr},(∀ t ∈ l,deepT t≤n)→deepL l≤n
 | [],_ => Nat.zero_le _
 | t::l,h => by
  rw [deepL]
  exact Nat.max_le.2 ⟨h t (List.mem_cons_self ..),deepL_le fun u hu => h u (List.mem_cons_of_mem _ hu)⟩
theorem deep_rowT {n : Nat} {l : List Tr} (h : ∀ t ∈ l,deepT t≤n) : deepT (rowT l)≤n+1:=by
 unfold rowT; rw [deepT,if_pos rfl]; exact Nat.succ_le_succ (deepL_le h)
theorem deep_numT (n k : Nat) : deepT (numT n)≤k:=by simp [numT,deepT]
theorem deep_strT (b : ByteArray) (k : Nat) : deepT (strT b)≤k:=by simp [strT,deepT]
theorem Rt.deep (r : Rt) : deepT r.tr≤1:=deep_rowT (n:=0) (fun t ht => by
 simp only [List.mem_cons,List.not_mem_nil,or_false] at ht
 rcases ht with rfl | rfl | rfl | rfl <;> first | exact deep_strT _ _ | exact deep_numT _ _)
theorem Ep.deep (e : Ep) : deepT e.tr≤1:=deep_rowT (n:=0) (fun t ht => by
 simp only [List.mem_cons,List.not_mem_nil,or_false] at ht
 rcases ht with rfl | rfl <;> first | exact deep_strT _ _ | exact deep_numT _ _)
theorem Ls.deep (l : Ls) : deepT l.tr≤3:=deep_rowT (n:=2) (fun t ht => by
 simp only [List.mem_cons,List.not_mem_nil,or_false] at ht
 rcases ht with rfl | rfl | rfl
 ·exact deep_strT _ _
 ·exact deep_strT _ _
 ·exact deep_rowT (n:=1) (fun t ht => by obtain ⟨r,_,rfl⟩:=List.mem_map.1 ht; exact r.deep))
theorem Cl.deep (c : Cl) : deepT c.tr≤3:=deep_rowT (n:=2) (fun t ht => by
 simp only [List.mem_cons,List.not_mem_nil,or_false] at ht
 rcases ht with rfl | rfl
 ·exact deep_strT _ _
 ·exact deep_rowT (n:=1) (fun t ht => by obtain ⟨r,_,rfl⟩:=List.mem_map.1 ht; exact r.deep))
theorem Co.deep (c : Co) : deepT c.tr≤5:=deep_rowT (n:=4) (fun t ht => by
 simp only [List.mem_cons,List.not_mem_nil,or_false] at ht
 rcases ht with rfl | rfl | rfl
 ·exact deep_numT _ _
 ·exact deep_rowT (n:=3) (fun t ht => by obtain ⟨r,_,rfl⟩:=List.mem_map.1 ht; exact r.deep)
 ·exact deep_rowT (n:=3) (fun t ht => by obtain ⟨r,_,rfl⟩:=List.mem_map.1 ht; exact r.deep))
def Co.sized (c : Co) : Prop:=c.l.length≤1000000∧c.c.length≤1000000∧(∀ l ∈ c.l,l.fit)∧∀ x ∈ c.c,x.name.size≤1000000000∧x.e.length≤1000000
theorem Co.sized.short {c : Co} (h : c.sized) : c.short:=⟨h.1,h.2.1,fun x hx => (h.2.2.2 x hx).2⟩
theorem Co.sized.fit {c : Co} (h : c.sized) (hb : c.below=false) : c.fit:=by
 refine ⟨h.1,h.2.1,h.2.2.1,fun x hx => ⟨(h.2.2.2 x hx).1,(h.2.2.2 x hx).2,fun e he => ?_⟩⟩
 have h1:=List.any_eq_false.1 hb x hx
 have h2:=List.any_eq_false.1 (Bool.eq_false_iff.2 h1) e he
 have h3 : ¬ e.w < 0:=fun h => h2 (decide_eq_true h)
 omega
def Co.out (c : Co) : ByteArray:=if c.many then ⟨#[]⟩ else if c.below then ⟨#[]⟩ else putS c.tr
def Co.err (c : Co) : Nat:=if c.many then 6 else if c.below then 7 else putC c.tr
theorem bytes_any {w : World} {c0 c1 c2 : Value} {c : Co} (h : CoIn w c0 c1 c2 c) (hs : c.sized) :
  Calls Tryz.prog 9 #[.agg #[c0,c1,c2]] w fun e w' => e=.returned (.tuple #[.string c.out,.int .i64 (c.err : Nat)])∧Below w.heap.size w w':=by
 have K1 : Hid (∀ wz,Below w.heap.size w wz→Calls Tryz.prog 22 #[.agg #[c0,c1,c2]] wz (TrP c.many wz)):=Lib.hid (fun wz hb => many_any (h.later hb) hs.short)
 have K2 : Hid (∀ wz,Below w.heap.size w wz→Calls Tryz.prog 23 #[.agg #[c0,c1,c2]] wz (TrP c.below wz)):=Lib.hid (fun wz hb => below_any (h.later hb) hs.short)
 have K3 : Hid (c.below=false→∀ wz,Below w.heap.size w wz→Calls Tryz.prog 25 #[.agg #[c0,c1,c2]] wz (WrP c.tr wz)):=Lib.hid (fun hf wz hb => co_write (h.later hb) (hs.fit hf))
 have K4 : Hid (∀ wz o n cap (P : Nat→Prop),VInP wz P c.tr (.int .i64 3) (.int .u64 0) (.string ⟨#[]⟩) (.slice o n cap)→Calls Tryz.prog 24 #[.agg #[.int .i64 3,.int .u64 0,.string ⟨#[]⟩,.slice o n cap]] wz fun e w' => e=.returned (.tuple #[.string (putS c.tr),.int .i64 (putC c.tr : Nat)])∧Below wz.heap.size wz w'):=Lib.hid (fun wz o n cap P hv => put_tree c.tr _ _ _ _ wz (by have:=c.deep; omega) (VInP.plain _ hv))
 have HB0:=Lib.hid (alloc_below w (.cells #[c0,c1,c2] 26))
 have HX0:=Lib.hid (show Bk (w.alloc (.cells #[c0,c1,c2] 26)) w.heap.size #[c0,c1,c2] 26 from heap_alloc_new w _)
 have HO : Hid (c.out=if c.many then ⟨#[]⟩ else if c.below then ⟨#[]⟩ else putS c.tr):=Lib.hid rfl
 have HR : Hid (c.err=if c.many then 6 else if c.below then 7 else putC c.tr):=Lib.hid rfl
 obtain ⟨x,hx⟩ : ∃ x,c.out=x:=⟨_,rfl⟩
 obtain ⟨r,hr⟩ : ∃ r,c.err=r:=⟨_,rfl⟩
 rw [hx] at HO
 rw [hr] at HR
 rw [hx,hr]
 clear hx hr h hs
 generalize c.many=m at *
 generalize c.below=q at *
 generalize putS c.tr=S at *
 generalize putC c.tr=E at *
 obtain ⟨y0,y1,y2⟩:=bk3 HX0.out
 go_enter Tryz.func9,Tryz.ntmps9
 cases m with
 | true =>
  simp only [if_true,if_false,Bool.false_eq_true] at HO HR
  obtain rfl:=HO.out
  obtain rfl:=HR.out
  go_wp2_with fail
  refine (K1.out _ HB0.out).mono ?_
  rintro e w1 ⟨rfl,hb⟩
  have HX1:=Lib.hid (Bk.later HX0.out hb)
  have HB1:=Lib.hid (HB0.out.trans (hb.mono HB0.out.size))
  clear hb y0 y1 y2
  obtain ⟨y0,y1,y2⟩:=bk3 HX1.out
  go_wp2_with fail
  go_ret2
  exact ⟨rfl,HB1.out⟩
 | false => cases q with
  | true =>
   simp only [if_true,if_false,Bool.false_eq_true] at HO HR
   obtain rfl:=HO.out
   obtain rfl:=HR.out
   go_wp2_with fail
   refine (K1.out _ HB0.out).mono ?_
   rintro e w1 ⟨rfl,hb⟩
   have HX1:=Lib.hid (Bk.later HX0.out hb)
   have HB1:=Lib.hid (HB0.out.trans (hb.mono HB0.out.size))
   clear hb y0 y1 y2
   obtain ⟨y0,y1,y2⟩:=bk3 HX1.out
   go_wp2_with fail
   refine (K2.out _ HB1.out).mono ?_
   rintro e w2 ⟨rfl,hb⟩
   have HX2:=Lib.hid (Bk.later HX1.out hb)
   have HB2:=Lib.hid (HB1.out.trans (hb.mono HB1.out.size))
   clear hb y0 y1 y2
   obtain ⟨y0,y1,y2⟩:=bk3 HX2.out
   go_wp2_with fail
   go_ret2
   exact ⟨rfl,HB2.out⟩
  | false =>
   have K5:=Lib.hid (K3.out rfl)
   simp only [if_true,if_false,Bool.false_eq_true] at HO HR
   obtain rfl:=HO.out
   obtain rfl:=HR.out
   go_wp2_with fail
   refine (K1.out _ HB0.out).mono ?_
   rintro e w1 ⟨rfl,hb⟩
   have HX1:=Lib.hid (Bk.later HX0.out hb)
   have HB1:=Lib.hid (HB0.out.trans (hb.mono HB0.out.size))
   clear hb y0 y1 y2
   obtain ⟨y0,y1,y2⟩:=bk3 HX1.out
   go_wp2_with fail
   refine (K2.out _ HB1.out).mono ?_
   rintro e w2 ⟨rfl,hb⟩
   have HX2:=Lib.hid (Bk.later HX1.out hb)
   have HB2:=Lib.hid (HB1.out.trans (hb.mono HB1.out.size))
   clear hb y0 y1 y2
   obtain ⟨y0,y1,y2⟩:=bk3 HX2.out
   go_wp2_with fail
   refine (K5.out _ HB2.out).mono ?_
   rintro e w3 ⟨o3,n3,cap3,rfl,hv,hb⟩
   have HB3:=Lib.hid (HB2.out.trans (hb.mono HB2.out.size))
   have K6:=Lib.hid (K4.out _ _ _ _ _ hv)
   clear hb hv y0 y1 y2
   go_wp2_with fail
   refine (K6.out).mono ?_
   rintro e w4 ⟨rfl,hb⟩
   have HB4:=Lib.hid (HB3.out.trans (hb.mono HB3.out.size))
   clear hb
   go_wp2_with fail
   go_ret2
   exact ⟨rfl,HB4.out⟩
end Go.Proofs.YtjfjliobencppaaGreatDoor.Cf

set_option maxRecDepth 100000
namespace Go.Proofs.YtjfjliobencppaaGreatDoor.Cf
open Go.RowKit
theorem run_rt (a b c a' b' c' : ByteArray) (i i' : Int) (w : World) : (binOp .neq 62 (.agg #[.string a,.string b,.string c,.int .u64 i]) (.agg #[.string a',.string b',.string c',.int .u64 i'])).run Tryz.prog w=.ok (.bool (!(a.toList == a'.toList && b.toList == b'.toList && c.toList == c'.toList && i == i'))) w:=by
 go_simp
 by_cases h1 : a.toList=a'.toList <;> by_cases h2 : b.toList=b'.toList <;> by_cases h3 : c.toList=c'.toList <;> by_cases h4 : i=i' <;> simp [h1,h2,h3,h4]
theorem run_ip (n : Nat) (a b c d a' b' c' d' : Int) (w : World) : (Op.equalIn (n+2) 46 (.agg #[.int .u8 a,.int .u8 b,.int .u8 c,.int .u8 d]) (.agg #[.int .u8 a',.int .u8 b',.int .u8 c',.int .u8 d'])).run Tryz.prog w=.ok (a == a' && b == b' && c == c' && d == d') w:=by
 obtain ⟨i,hi⟩:=Option.isSome_iff_exists.1 (show (Tryz.prog.info? 5).isSome=true by kernel_rfl)
 rw [run_equalIn_array w (n+1) _ _ Tryz.underlying46 hi,show List.range 4=[0,1,2,3] from rfl,show Tryz.prog.cellsOf 5=1 by kernel_rfl]
 simp only [Op.eqItems]
 go_simp
 by_cases h1 : a=a' <;> by_cases h2 : b=b' <;> by_cases h3 : c=c' <;> by_cases h4 : d=d' <;> simp [h1,h2,h3,h4]
theorem run_ep (a b c d p t a' b' c' d' p' t' : Int) (w : World) : (binOp .neq 64 (.agg #[.int .u8 a,.int .u8 b,.int .u8 c,.int .u8 d,.int .u16 p,.int .i64 t]) (.agg #[.int .u8 a',.int .u8 b',.int .u8 c',.int .u8 d',.int .u16 p',.int .i64 t'])).run Tryz.prog w=.ok (.bool (!(a == a' && b == b' && c == c' && d == d' && p == p' && t == t'))) w:=by
 have h:=run_ip 9996 a b c d a' b' c' d' w
 go_simp
 by_cases h1 : a=a' <;> by_cases h2 : b=b' <;> by_cases h3 : c=c' <;> by_cases h4 : d=d' <;> by_cases h5 : p=p' <;> by_cases h6 : t=t' <;> simp [h1,h2,h3,h4,h5,h6]
theorem run_pl (a b c d p a' b' c' d' p' : Int) (w : World) : (binOp .eql 49 (.agg #[.int .u8 a,.int .u8 b,.int .u8 c,.int .u8 d,.int .u16 p]) (.agg #[.int .u8 a',.int .u8 b',.int .u8 c',.int .u8 d',.int .u16 p'])).run Tryz.prog w=.ok (.bool (a == a' && b == b' && c == c' && d == d' && p == p')) w:=by
 have h:=run_ip 9997 a b c d a' b' c' d' w
 go_simp
 by_cases h1 : a=a' <;> by_cases h2 : b=b' <;> by_cases h3 : c=c' <;> by_cases h4 : d=d' <;> by_cases h5 : p=p' <;> simp [h1,h2,h3,h4,h5]
end Go.Proofs.YtjfjliobencppaaGreatDoor.Cf

set_option maxRecDepth 100000
set_option maxHeartbeats 4000000
namespace Go.Proofs.YtjfjliobencppaaGreatDoor.Cf
open Go.RowKit
theorem all_no {n k : Nat} {p : Nat→Bool} (hk : k < n) (h : p k=false) : (List.range n).all p=false:=by
 rw [Bool.eq_false_iff]; intro h2
 have:=List.all_eq_true.1 h2 k (List.mem_range.2 hk)
 rw [h] at this; cases this
theorem all_yes {n : Nat} {p : Nat→Bool} (h : ∀ i,i < n→p i=true) : (List.range n).all p=true:=List.all_eq_true.2 fun i hi => h i (List.mem_range.1 hi)
theorem eq_rou_no (o o2 : Option Addr) (n n2 cap cap2 : Nat) (hne : n≠n2) (w : World) : Calls Tryz.prog 78 #[.slice o n cap,.slice o2 n2 cap2] w fun e w' => e=.returned (.bool false)∧w=w':=by
 have q1 : ((n : Int) == (n2 : Int))=false:=by rw [beq_eq_false_iff_ne]; omega
 have q2 : ((n : Int) != (n2 : Int))=true:=by rw [bne_iff_ne]; omega
 go_enter Tryz.func78,Tryz.ntmps78
 go_wp2
 go_ret
 exact ⟨rfl,rfl⟩
theorem eq_rou (n : Nat) (p : Nat→Bool) (o o2 : Option Addr) (cap b off cap2 b2 off2 : Nat) (hn : n≤1000000000) (w : World) (ho : 0 < n→o=some ⟨b,off,none⟩∧o2=some ⟨b2,off2,none⟩)
  (hE : ∀ i,i < n→∃ c0 c1 c2 c3 d0 d1 d2 d3,w.cell? ⟨b,off+i * 4,none⟩=some c0∧w.cell? ⟨b,off+i * 4+1,none⟩=some c1∧w.cell? ⟨b,off+i * 4+2,none⟩=some c2∧w.cell? ⟨b,off+i * 4+3,none⟩=some c3∧w.cell? ⟨b2,off2+i * 4,none⟩=some d0∧w.cell? ⟨b2,off2+i * 4+1,none⟩=some d1∧w.cell? ⟨b2,off2+i * 4+2,none⟩=some d2∧w.cell? ⟨b2,off2+i * 4+3,none⟩=some d3∧∀ w,(binOp .neq 62 (.agg #[c0,c1,c2,c3]) (.agg #[d0,d1,d2,d3])).run Tryz.prog w=.ok (.bool (!(p i))) w) :
  Calls Tryz.prog 78 #[.slice o n cap,.slice o2 n cap2] w fun e w' => e=.returned (.bool ((List.range n).all p))∧Below w.heap.size w w':=by
 have HO:=Lib.hid ho
 have HE:=Lib.hid hE
 have HA:=Lib.hid (fun k (hk : k < n) (h : p k=false) => all_no hk h)
 have HB:=Lib.hid (fun h : ∀ i,i < n→p i=true => all_yes h)
 clear ho hE
 generalize (List.range n).all p=r at *
 go_enter Tryz.func78,Tryz.ntmps78
 go_wp2_with fail
 go_loopw [5,13] (fun _ iv wr => ∃ k : Nat,k≤n∧iv=.int .i64 (k : Int)∧Hid (Below w.heap.size w wr∧∀ j,j < k→p j=true)) (fun _ iv _ => n - (intOf iv).toNat)
 case atStart => exact ⟨0,Nat.zero_le _,rfl,Lib.hid ⟨Below.refl _ _,fun j h => absurd h (by omega)⟩⟩
 case round =>
  obtain ⟨k,hk,rfl,HT⟩:=hrel
  by_cases hlt : k < n
  ·obtain ⟨ho',ho2'⟩:=HO.out (by omega)
   subst ho' ho2'
   obtain ⟨c0,c1,c2,c3,d0,d1,d2,d3,e0,e1,e2,e3,e4,e5,e6,e7,hq⟩:=HE.out k hlt
   have f0:=(HT.out.1.cell (World.block_lt_of_cell? w _ e0)).trans e0
   have f1:=(HT.out.1.cell (World.block_lt_of_cell? w _ e1)).trans e1
   have f2:=(HT.out.1.cell (World.block_lt_of_cell? w _ e2)).trans e2
   have f3:=(HT.out.1.cell (World.block_lt_of_cell? w _ e3)).trans e3
   have f4:=(HT.out.1.cell (World.block_lt_of_cell? w _ e4)).trans e4
   have f5:=(HT.out.1.cell (World.block_lt_of_cell? w _ e5)).trans e5
   have f6:=(HT.out.1.cell (World.block_lt_of_cell? w _ e6)).trans e6
   have f7:=(HT.out.1.cell (World.block_lt_of_cell? w _ e7)).trans e7
   have HD:=Lib.hid (HT.out.1.drew)
   clear e0 e1 e2 e3 e4 e5 e6 e7
   cases hp : p k with
   | true =>
    rw [hp] at hq
    have HP:=Lib.hid hp
    clear hp
    go_upto_region 6 with fail
    go_region
    go_wp2_with fail
    go_roundw
    case rel =>
     refine ⟨k+1,by omega,by go_num,Lib.hid ⟨HD.out,fun j hj => ?_⟩⟩
     by_cases ej : j=k
     ·subst ej; exact HP.out
     ·exact HT.out.2 j (by omega)
    case measure => simp [intOf]; omega
   | false =>
    rw [hp] at hq
    have HP:=Lib.hid hp
    clear hp
    go_upto_region 6 with fail
    go_region
    go_wp2_with fail
    go_ret
    exact ⟨by rw [HA.out k hlt HP.out]; rfl,HD.out⟩
  ·go_wp2_with fail
   go_ret
   exact ⟨by rw [HB.out (fun j hj => HT.out.2 j (by omega))]; rfl,HT.out.1⟩
theorem eq_end_no (o o2 : Option Addr) (n n2 cap cap2 : Nat) (hne : n≠n2) (w : World) : Calls Tryz.prog 79 #[.slice o n cap,.slice o2 n2 cap2] w fun e w' => e=.returned (.bool false)∧w=w':=by
 have q1 : ((n : Int) == (n2 : Int))=false:=by rw [beq_eq_false_iff_ne]; omega
 have q2 : ((n : Int) != (n2 : Int))=true:=by rw [bne_iff_ne]; omega
 go_enter Tryz.func79,Tryz.ntmps79
 go_wp2
 go_ret
 exact ⟨rfl,rfl⟩
theorem eq_end (n : Nat) (p : Nat→Bool) (o o2 : Option Addr) (cap b off cap2 b2 off2 : Nat) (hn : n≤1000000000) (w : World) (ho : 0 < n→o=some ⟨b,off,none⟩∧o2=some ⟨b2,off2,none⟩)
  (hE : ∀ i,i < n→∃ c0 c1 c2 c3 c4 c5 d0 d1 d2 d3 d4 d5,w.cell? ⟨b,off+i * 6,none⟩=some c0∧w.cell? ⟨b,off+i * 6+1,none⟩=some c1∧w.cell? ⟨b,off+i * 6+2,none⟩=some c2∧w.cell? ⟨b,off+i * 6+3,none⟩=some c3∧w.cell? ⟨b,off+i * 6+4,none⟩=some c4∧w.cell? ⟨b,off+i * 6+5,none⟩=some c5∧w.cell? ⟨b2,off2+i * 6,none⟩=some d0∧w.cell? ⟨b2,off2+i * 6+1,none⟩=some d1∧w.cell? ⟨b2,off2+i * 6+2,none⟩=some d2∧w.cell? ⟨b2,off2+i * 6+3,none⟩=some d3∧w.cell? ⟨b2,off2+i * 6+4,none⟩=some d4∧w.cell? ⟨b2,off2+i * 6+5,none⟩=some d5∧∀ w,(binOp .neq 64 (.agg #[c0,c1,c2,c3,c4,c5]) (.agg #[d0,d1,d2,d3,d4,d5])).run Tryz.prog w=.ok (.bool (!(p i))) w) :
  Calls Tryz.prog 79 #[.slice o n cap,.slice o2 n cap2] w fun e w' => e=.returned (.bool ((List.range n).all p))∧Below w.heap.size w w':=by
 have HO:=Lib.hid ho
 have HE:=Lib.hid hE
 have HA:=Lib.hid (fun k (hk : k < n) (h : p k=false) => all_no hk h)
 have HB:=Lib.hid (fun h : ∀ i,i < n→p i=true => all_yes h)
 clear ho hE
 generalize (List.range n).all p=r at *
 go_enter Tryz.func79,Tryz.ntmps79
 go_wp2_with fail
 go_loopw [5,13] (fun _ iv wr => ∃ k : Nat,k≤n∧iv=.int .i64 (k : Int)∧Hid (Below w.heap.size w wr∧∀ j,j < k→p j=true)) (fun _ iv _ => n - (intOf iv).toNat)
 case atStart => exact ⟨0,Nat.zero_le _,rfl,Lib.hid ⟨Below.refl _ _,fun j h => absurd h (by omega)⟩⟩
 case round =>
  obtain ⟨k,hk,rfl,HT⟩:=hrel
  by_cases hlt : k < n
  ·obtain ⟨ho',ho2'⟩:=HO.out (by omega)
   subst ho' ho2'
   obtain ⟨c0,c1,c2,c3,c4,c5,d0,d1,d2,d3,d4,d5,e0,e1,e2,e3,e4,e5,e6,e7,e8,e9,e10,e11,hq⟩:=HE.out k hlt
   have f0:=(HT.out.1.cell (World.block_lt_of_cell? w _ e0)).trans e0
   have f1:=(HT.out.1.cell (World.block_lt_of_cell? w _ e1)).trans e1
   have f2:=(HT.out.1.cell (World.block_lt_of_cell? w _ e2)).trans e2
   have f3:=(HT.out.1.cell (World.block_lt_of_cell? w _ e3)).trans e3
   have f4:=(HT.out.1.cell (World.block_lt_of_cell? w _ e4)).trans e4
   have f5:=(HT.out.1.cell (World.block_lt_of_cell? w _ e5)).trans e5
   have f6:=(HT.out.1.cell (World.block_lt_of_cell? w _ e6)).trans e6
   have f7:=(HT.out.1.cell (World.block_lt_of_cell? w _ e7)).trans e7
   have f8:=(HT.out.1.cell (World.block_lt_of_cell? w _ e8)).trans e8
   have f9:=(HT.out.1.cell (World.block_lt_of_cell? w _ e9)).trans e9
   have f10:=(HT.out.1.cell (World.block_lt_of_cell? w _ e10)).trans e10
   have f11:=(HT.out.1.cell (World.block_lt_of_cell? w _ e11)).trans e11
   have HD:=Lib.hid (HT.out.1.drew)
   clear e0 e1 e2 e3 e4 e5 e6 e7 e8 e9 e10 e11
   cases hp : p k with
   | true =>
    rw [hp] at hq
    have HP:=Lib.hid hp
    clear hp
    go_upto_region 6 with fail
    go_region
    go_wp2_with fail
    go_roundw
    case rel =>
     refine ⟨k+1,by omega,by go_num,Lib.hid ⟨HD.out,fun j hj => ?_⟩⟩
     by_cases ej : j=k
     ·subst ej; exact HP.out
     ·exact HT.out.2 j (by omega)
    case measure => simp [intOf]; omega
   | false =>
    rw [hp] at hq
    have HP:=Lib.hid hp
    clear hp
    go_upto_region 6 with fail
    go_region
    go_wp2_with fail
    go_ret
    exact ⟨by rw [HA.out k hlt HP.out]; rfl,HD.out⟩
  ·go_wp2_with fail
   go_ret
   exact ⟨by rw [HB.out (fun j hj => HT.out.2 j (by omega))]; rfl,HT.out.1⟩
end Go.Proofs.YtjfjliobencppaaGreatDoor.Cf
