/- spot.Parse, walked. -/
import Derived.Test.YtjfjliobencppaaGreatDoorR25
import Derived.Deep.LoopGhost
set_option linter.unusedVariables false
set_option linter.unusedSimpArgs false
set_option maxRecDepth 1000000
set_option maxHeartbeats 4000000
namespace Go.Proofs.YtjfjliobencppaaGreatDoor.Sp
open Go.RowKit
def Blk (g a b c d p : Nat) (w : World) : Prop:=w.heap[g]?=some (.cells #[.int .u8 a,.int .u8 b,.int .u8 c,.int .u8 d,.int .u16 p] 49 (0,0))
theorem Blk.cells {g a b c d p : Nat} {w : World} (h : Blk g a b c d p w) : PlAt g a b c d p w∧(∀ j,w.frozen? ⟨g,j,none⟩=false) :=
 ⟨⟨cell_of_row w g 0 _ _ _ h,cell_of_row w g 1 _ _ _ h,cell_of_row w g 2 _ _ _ h,cell_of_row w g 3 _ _ _ h,cell_of_row w g 4 _ _ _ h⟩,fun j => frozen_of_row w g j _ _ h⟩
def PW (w : World) (v : Bool) (xs : Nat→Nat) (wr : World) : Prop :=
 Below w.heap.size w wr∧Blk w.heap.size 0 0 0 0 0 wr∧Blk (w.heap.size+1) (xs 0) (xs 1) (xs 2) (xs 3) 0 wr∧wr.heap[w.heap.size+1+1]?=some (.cells #[.bool v] 4 (0,0))
theorem lt_of_some {w : World} {g : Nat} {o : Obj} (h : w.heap[g]?=some o) : g < w.heap.size:=by
 rcases Nat.lt_or_ge g w.heap.size with hlt | hge
 ·exact hlt
 ·rw [Array.getElem?_eq_none hge] at h; cases h
theorem PW.later {w wr w1 : World} {v : Bool} {xs : Nat→Nat} (h : PW w v xs wr) (hb : Below wr.heap.size wr w1) : PW w v xs w1:=by
 obtain ⟨h0,h1,h2,h3⟩:=h
 exact ⟨h0.trans (hb.mono h0.size),(hb.block _ (lt_of_some h1)).trans h1,(hb.block _ (lt_of_some h2)).trans h2,(hb.block _ (lt_of_some h3)).trans h3⟩
theorem PW.flag {w wr : World} {v : Bool} {xs : Nat→Nat} (h : PW w v xs wr) (v' : Bool) : PW w v' xs (wr.setCell ⟨w.heap.size+1+1,0,none⟩ (.bool v')):=by
 obtain ⟨h0,h1,h2,h3⟩:=h
 refine ⟨h0.setCell (show w.heap.size≤w.heap.size+1+1 by omega) _,(heap_setCell_other wr ⟨w.heap.size+1+1,0,none⟩ _ _ (show w.heap.size≠w.heap.size+1+1 by omega)).trans h1,(heap_setCell_other wr ⟨w.heap.size+1+1,0,none⟩ _ _ (by simp)).trans h2,?_⟩
 exact heap_setCell_same wr _ 0 _ _ _ h3
def upd (xs : Nat→Nat) (k n : Nat) : Nat→Nat:=fun j => if j=k then n else xs j
theorem PW.put {w wr : World} {v : Bool} {xs : Nat→Nat} (h : PW w v xs wr) (k n : Nat) (hk : k < 4) (c : Int) (hc : c=(n : Int)) : PW w v (upd xs k n) (wr.setCell ⟨w.heap.size+1,k,none⟩ (.int .u8 c)):=by
 subst hc
 obtain ⟨h0,h1,h2,h3⟩:=h
 refine ⟨h0.setCell (by simp) _,(heap_setCell_other wr ⟨w.heap.size+1,k,none⟩ _ _ (by simp)).trans h1,?_,(heap_setCell_other wr ⟨w.heap.size+1,k,none⟩ _ _ (by simp)).trans h3⟩
 have h:=heap_setCell_same wr _ k _ _ (.int .u8 (n : Int)) h2
 unfold Blk
 rw [h]
 match k,hk with
 | 0,_ => rfl
 | 1,_ => rfl
 | 2,_ => rfl
 | 3,_ => rfl
theorem PW.kept {w wr : World} {v : Bool} {xs : Nat→Nat} (h : PW w v xs wr) (k : Nat) (c : Value) : Blk w.heap.size 0 0 0 0 0 (wr.setCell ⟨w.heap.size+1,k,none⟩ c)∧Below w.heap.size w (wr.setCell ⟨w.heap.size+1,k,none⟩ c) :=
 ⟨(heap_setCell_other wr ⟨w.heap.size+1,k,none⟩ _ _ (by simp)).trans h.2.1,h.1.setCell (by simp) _⟩
theorem PW.reads {w wr : World} {v : Bool} {xs : Nat→Nat} (h : PW w v xs wr) : wr.cell? ⟨w.heap.size+1+1,0,none⟩=some (.bool v)∧wr.frozen? ⟨w.heap.size+1+1,0,none⟩=false∧(∀ k,k < 4→wr.cell? ⟨w.heap.size+1,k,none⟩=some (.int .u8 (xs k)))∧(∀ k,wr.frozen? ⟨w.heap.size+1,k,none⟩=false):=by
 obtain ⟨h0,h1,h2,h3⟩:=h
 refine ⟨cell_of_row wr _ 0 _ _ _ h3,frozen_of_row wr _ 0 _ _ h3,fun k hk => ?_,h2.cells.2⟩
 obtain ⟨c0,c1,c2,c3,_⟩:=h2.cells.1
 match k,hk with
 | 0,_ => exact c0
 | 1,_ => exact c1
 | 2,_ => exact c2
 | 3,_ => exact c3
def ParseJ (l : List UInt8) (w : World) (a' : Act) (w' : World) : Prop :=
 (¬ ∃ xs port,Dec l xs port)∧Below w.heap.size w w'∧Blk w.heap.size 0 0 0 0 0 w'∧∃ (u0 u1 u3 u4 u5 u6 u7 u8 u9 u10 u11 u12 u13 u14 u15 u16 u17 u18 u19 u20 u21 u22 u23 u24 u25 u26 u27 u28 u29 u30 u31 u32 u33 u34 u35 u36 u37 u38 u39 u40 u41 u42 u43 u44 u45 u46 u47 u48 u49 u50 u51 u52 u53 u54 u55 u56 : Value),a'={ tmps:=#[u0,u1,(.pointer (some ⟨w.heap.size,0,none⟩)),u3,u4,u5,u6,u7,u8,u9,u10,u11,u12,u13,u14,u15,u16,u17,u18,u19,u20,u21,u22,u23,u24,u25,u26,u27,u28,u29,u30,u31,u32,u33,u34,u35,u36,u37,u38,u39,u40,u41,u42,u43,u44,u45,u46,u47,u48,u49,u50,u51,u52,u53,u54,u55,u56],defers:=[] }
def ParseR (l : List UInt8) (w : World) (e : Ending) (w' : World) : Prop :=
 Below w.heap.size w w'∧((∃ xs port,Dec l xs port∧e=.returned (.tuple #[plc (xs 0) (xs 1) (xs 2) (xs 3) port,.int .i64 0]))∨((¬ ∃ xs port,Dec l xs port)∧e=.returned (.tuple #[plc 0 0 0 0 0,.int .i64 4])))
theorem pw_start (w : World) : PW w true (fun _ => 0) (((w.alloc (.cells #[.int .u8 0,.int .u8 0,.int .u8 0,.int .u8 0,.int .u16 0] 49)).alloc (.cells #[.int .u8 0,.int .u8 0,.int .u8 0,.int .u8 0,.int .u16 0] 49)).alloc (.cells #[.bool true] 4)):=by
 refine ⟨(((Below.refl _ _).alloc (Nat.le_refl _) _).alloc (by simp) _).alloc (by simp; omega) _,?_,?_,?_⟩
 ·unfold Blk
  rw [Below.heap_alloc _ _ _ (by simp; omega),Below.heap_alloc _ _ _ (by simp),heap_alloc_new]; rfl
 ·unfold Blk
  rw [Below.heap_alloc _ _ _ (by simp)]
  have h:=heap_alloc_new (w.alloc (.cells #[.int .u8 0,.int .u8 0,.int .u8 0,.int .u8 0,.int .u16 0] 49)) (.cells #[.int .u8 0,.int .u8 0,.int .u8 0,.int .u8 0,.int .u16 0] 49)
  rw [show (w.alloc (.cells #[.int .u8 0,.int .u8 0,.int .u8 0,.int .u8 0,.int .u16 0] 49)).heap.size=w.heap.size+1 by simp] at h
  exact h
 ·have h:=heap_alloc_new ((w.alloc (.cells #[.int .u8 0,.int .u8 0,.int .u8 0,.int .u8 0,.int .u16 0] 49)).alloc (.cells #[.int .u8 0,.int .u8 0,.int .u8 0,.int .u8 0,.int .u16 0] 49)) (.cells #[.bool true] 4)
  rw [show ((w.alloc (.cells #[.int .u8 0,.int .u8 0,.int .u8 0,.int .u8 0,.int .u16 0] 49)).alloc (.cells #[.int .u8 0,.int .u8 0,.int .u8 0,.int .u8 0,.int .u16 0] 49)).heap.size=w.heap.size+1+1 by simp] at h
  exact h
theorem ix_sep (k : Nat) (hk : k < 4) (w : World) : (Instr.index 186 (.agg #[.string { data:=#[46] },.string { data:=#[46] },.string { data:=#[46] },.string { data:=#[58] }]) (.int .i64 (k : Int))).run Tryz.prog w=.ok (.string ⟨#[sepAt k]⟩) w:=by
 rcases (show k=0∨k=1∨k=2∨k=3 by omega) with rfl | rfl | rfl | rfl <;> kernel_rfl
def CutR (r : List UInt8) (c : UInt8) (w : World) (e : Ending) (w' : World) : Prop :=
 ∃ (a b : List UInt8) (v : Bool),e=.returned (.tuple #[.string (str a),.string (str b),.bool v])∧a.length≤r.length∧b.length≤r.length∧(v=true→r=a++c::b∧c ∉ a)∧(v=false→c ∉ r)∧Below w.heap.size w w'
theorem cutr_any (r : List UInt8) (c : UInt8) (hr : r.length≤100) (w : World) (hl : Lay w) : Calls Tryz.prog 121 #[.string (str r),.string ⟨#[c]⟩] w (CutR r c w):=by
 obtain ⟨⟨m,hm⟩,_⟩:=hl
 refine (Tryz.z_strings_Cut (str r) ⟨#[c]⟩ m w (by rw [str_size]; omega) hm).mono ?_
 rintro e w' ⟨rfl,n,rfl⟩
 rw [str_data]
 show CutR r c w (.returned (.tuple #[.string (str (Lib.cut r [c]).1),.string (str (Lib.cut r [c]).2.1),.bool (Lib.cut r [c]).2.2])) _
 refine ⟨_,_,_,rfl,?_,?_,?_,?_,below_drewN (Below.refl _ _) n⟩
 ·rcases cut_one r c with ⟨_,h,_⟩ | ⟨h,_⟩
  ·have:=congrArg List.length h; simp at this; omega
  ·rw [h]; exact Nat.le_refl _
 ·rcases cut_one r c with ⟨_,h,_⟩ | ⟨h,_⟩
  ·have:=congrArg List.length h; simp at this; omega
  ·rw [h]; exact Nat.zero_le _
 ·intro hv
  rcases cut_one r c with ⟨_,h,hn⟩ | ⟨h,_⟩
  ·exact ⟨h,hn⟩
  ·rw [h] at hv; cases hv
 ·intro hv
  rcases cut_one r c with ⟨h,_⟩ | ⟨_,hn⟩
  ·rw [h] at hv; cases hv
  ·exact hn
theorem parse_any (s : ByteArray) (hs : s.size≤100) (w : World) (hl : Lay w) : Calls Tryz.prog 88 #[.string s] w (ParseR s.data.toList w):=by
 have HLAY:=Lib.hid hl
 clear hl
 have hmf : ∀ (fn : Fn) (first cap : Array Value) (w : World),(Instr.makeFunc fn first cap).run Tryz.prog w=.ok (.func fn first cap) w:=fun _ _ _ _ => rfl
 go_enter Tryz.func88,Tryz.ntmps88
 go_wp2
 refine wp_scope_jumps 0 (ParseJ s.data.toList w) (fun _ _ => 0) rfl ?_ ?_
 ·go_wp2
  go_loopw [6,17] (fun r i wr => ∃ (k : Nat) (l : List UInt8) (xs : Nat→Nat),k≤4∧r=.string (str l)∧i=.int .i64 k∧l.length≤100∧PW w true xs wr∧Hid (∀ ys port,Dec s.data.toList ys port↔(∀ j,j < k→ys j=xs j)∧DecT (4 - k) k l ys port)) (fun _ i _ => 4 - (intOf i).toNat)
  case atStart =>
   refine ⟨0,s.data.toList,fun _ => 0,by omega,by rw [str_of],rfl,by rw [← Lib.size_eq]; exact hs,pw_start w,Lib.hid (fun ys port => ⟨fun h => ⟨fun j hj => absurd hj (by omega),h⟩,fun h => h.2⟩)⟩
  case round =>
   obtain ⟨k,l,xs,hk,rfl,rfl,hll,hpw,hj⟩:=hrel
   by_cases hlt : k < 4
   ·have hix:=ix_sep k hlt
    have KC:=Lib.hid (cutr_any l (sepAt k) hll wr (HLAY.out.later hpw.1))
    generalize ({ data:=#[sepAt k] } : ByteArray)=z at hix KC
    go_wp2_with fail
    refine (KC.out).mono ?_
    rintro e w1 ⟨pa,pb,v,rfl,hla,hlb,hv1,hv2,hb1⟩
    have hpw1:=hpw.later hb1
    obtain ⟨r1,r2,r3,r4⟩:=hpw1.reads
    have K2:=Lib.hid (clo_any (str pa) (by rw [str_size]; omega) 255 (w.heap.size+1+1) (by decide) w1 (HLAY.out.later hpw1.1) r1 r2)
    have HV1:=Lib.hid hv1
    have HV2:=Lib.hid hv2
    have HP:=Lib.hid hpw1
    clear hv1 hv2 hpw1 r1 r2 r3 r4 hpw hb1 KC hix
    go_wp2_with fail
    refine (K2.out).mono ?_
    rintro e w3 ⟨n,fv,w2,rfl,hn,hf1,hf2,hb2,rfl⟩
    rw [str_data] at hf1 hf2
    have hpw2:=HP.out.later hb2
    have hpw3:=hpw2.flag fv
    obtain ⟨r1,r2,r3,r4⟩:=hpw3.reads
    have r3k:=r3 k hlt
    have r4k:=r4 k
    have HF1:=Lib.hid hf1
    have HF2:=Lib.hid hf2
    have HP3:=Lib.hid hpw3
    clear hf1 hf2 hb2 hpw2 hpw3 r3 r4 K2 HP
    generalize w2.setCell ⟨w.heap.size+1+1,0,none⟩ (.bool fv)=W3 at *
    cases fv
    ·have HNO : Hid (¬ ∃ ys port,Dec s.data.toList ys port):=Lib.hid (by
      rintro ⟨ys,port,hd⟩
      have:=((hj.out ys port).1 hd).2
      rw [show 4 - k=(3 - k)+1 by omega] at this
      cases v
      ·exact decT_none (HV2.out rfl) ys port this
      ·obtain ⟨e1,e2⟩:=HV1.out rfl
       rw [e1,decT_step e2] at this
       exact HF2.out rfl ⟨_,this.1⟩)
     go_wp2
     go_step3
     exact ⟨rfl,HNO.out,(HP3.out.kept k _).2,(HP3.out.kept k _).1,_,_,_,_,_,_,_,_,_,_,_,_,_,_,_,_,_,_,_,_,_,_,_,_,_,_,_,_,_,_,_,_,_,_,_,_,_,_,_,_,_,_,_,_,_,_,_,_,_,_,_,_,_,_,_,_,rfl⟩
    ·cases v
     ·have HNO : Hid (¬ ∃ ys port,Dec s.data.toList ys port):=Lib.hid (by
       rintro ⟨ys,port,hd⟩
       have:=((hj.out ys port).1 hd).2
       rw [show 4 - k=(3 - k)+1 by omega] at this
       exact decT_none (HV2.out rfl) ys port this)
      go_wp2
      go_step3
      exact ⟨rfl,HNO.out,(HP3.out.kept k _).2,(HP3.out.kept k _).1,_,_,_,_,_,_,_,_,_,_,_,_,_,_,_,_,_,_,_,_,_,_,_,_,_,_,_,_,_,_,_,_,_,_,_,_,_,_,_,_,_,_,_,_,_,_,_,_,_,_,_,_,_,_,_,_,rfl⟩
     ·have hnum:=HF1.out rfl
      have hn255 : n≤255:=hnum.2.2
      have HNUM:=Lib.hid hnum
      clear hnum
      go_wp2
      go_roundw
      case rel =>
       refine ⟨k+1,pb,upd xs k n,by omega,rfl,by go_num,by omega,HP3.out.put k n hlt _ rfl,Lib.hid (fun ys port => ?_)⟩
       obtain ⟨e1,e2⟩:=HV1.out trivial
       rw [hj.out ys port,show 4 - k=(4 - (k+1))+1 by omega,e1,decT_step e2]
       constructor
       ·rintro ⟨h1,h2,h3⟩
        refine ⟨fun j hjk => ?_,h3⟩
        unfold upd
        by_cases e : j=k
        ·subst e; rw [if_pos rfl]; exact h2.2.1.symm.trans HNUM.out.2.1
        ·rw [if_neg e]; exact h1 j (by omega)
       ·rintro ⟨h1,h3⟩
        refine ⟨fun j hjk => ?_,?_,h3⟩
        ·have:=h1 j (by omega)
         unfold upd at this
         rwa [if_neg (by omega)] at this
        ·have:=h1 k (by omega)
         unfold upd at this
         rw [if_pos rfl] at this
         rw [this]; exact HNUM.out
      case measure => simp [intOf] <;> omega
   ·obtain rfl : k=4:=by omega
    have K2:=Lib.hid (clo_any (str l) (by rw [str_size]; omega) 65535 (w.heap.size+1+1) (by decide) wr (HLAY.out.later hpw.1) hpw.reads.1 hpw.reads.2.1)
    have HP:=Lib.hid hpw
    clear hpw
    go_wp2_with fail
    refine (K2.out).mono ?_
    rintro e w3 ⟨n,fv,w2,rfl,hn,hf1,hf2,hb2,rfl⟩
    rw [str_data] at hf1 hf2
    have hpw2:=HP.out.later hb2
    have hpw3:=hpw2.flag fv
    obtain ⟨r1,r2,_,_⟩:=hpw3.reads
    have HF1:=Lib.hid hf1
    have HF2:=Lib.hid hf2
    have HP3:=Lib.hid hpw3
    clear hf1 hf2 hb2 hpw2 hpw3 K2 HP
    generalize w2.setCell ⟨w.heap.size+1+1,0,none⟩ (.bool fv)=W3 at *
    have hno : ¬ (fv=true∧n≠0)→Hid (¬ ∃ ys port,Dec s.data.toList ys port):=fun h => Lib.hid (by
     rintro ⟨ys,port,hd⟩
     obtain ⟨_,h2,h3⟩:=(hj.out ys port).1 hd
     cases fv
     ·exact HF2.out rfl ⟨_,h2⟩
     ·have:=(HF1.out rfl).2.1
      have h4:=h2.2.1
      exact h ⟨rfl,by omega⟩)
    cases fv
    ·have HNO:=hno (by rintro ⟨h,_⟩; cases h)
     clear hno
     go_wp2
     go_step3
     exact ⟨rfl,HNO.out,HP3.out.1,HP3.out.2.1,_,_,_,_,_,_,_,_,_,_,_,_,_,_,_,_,_,_,_,_,_,_,_,_,_,_,_,_,_,_,_,_,_,_,_,_,_,_,_,_,_,_,_,_,_,_,_,_,_,_,_,_,_,_,_,_,rfl⟩
    ·by_cases hn0 : n=0
     ·have HNO:=hno (by rintro ⟨_,h⟩; exact h hn0)
      subst hn0
      clear hno
      go_wp2
      go_step3
      exact ⟨rfl,HNO.out,HP3.out.1,HP3.out.2.1,_,_,_,_,_,_,_,_,_,_,_,_,_,_,_,_,_,_,_,_,_,_,_,_,_,_,_,_,_,_,_,_,_,_,_,_,_,_,_,_,_,_,_,_,_,_,_,_,_,_,_,_,_,_,_,_,rfl⟩
     ·have q0 : ((n : Int) == 0)=false:=neq_int hn0
      have hnum:=HF1.out rfl
      have hn6 : n≤65535:=hnum.2.2
      have HYES : Hid (Dec s.data.toList xs n):=Lib.hid ((hj.out xs n).2 ⟨fun _ _ => rfl,hnum,by omega⟩)
      obtain ⟨⟨p0,p1,p2,p3,p4⟩,pf⟩:=HP3.out.2.2.1.cells
      obtain ⟨⟨c0,c1,c2,c3,c4⟩,cf⟩:=HP3.out.2.1.cells
      have pf4:=pf 4
      have f0:=cf 0
      have f1:=cf 1
      have f2:=cf 2
      have f3:=cf 3
      have f4:=cf 4
      clear hno hnum pf cf HF1 HF2
      go_wp2
      simp only [Exit.jump]
      refine bodyPost_ret (v:=.tuple #[plc (xs 0) (xs 1) (xs 2) (xs 3) n,.int .i64 0]) (by simp [results,Tryz.results88,go_sem,plc, *]) rfl ⟨?_,Or.inl ⟨xs,n,HYES.out,rfl⟩⟩
      exact (((((HP3.out.1.setCell (show w.heap.size≤w.heap.size+1 by omega) _).setCell (Nat.le_refl _) _).setCell (Nat.le_refl _) _).setCell (Nat.le_refl _) _).setCell (Nat.le_refl _) _).setCell (Nat.le_refl _) _
 ·rintro a' w' ⟨hr,hb,hR,u0,u1,u3,u4,u5,u6,u7,u8,u9,u10,u11,u12,u13,u14,u15,u16,u17,u18,u19,u20,u21,u22,u23,u24,u25,u26,u27,u28,u29,u30,u31,u32,u33,u34,u35,u36,u37,u38,u39,u40,u41,u42,u43,u44,u45,u46,u47,u48,u49,u50,u51,u52,u53,u54,u55,u56,rfl⟩
  have HNO:=Lib.hid hr
  clear hr
  obtain ⟨⟨c0,c1,c2,c3,c4⟩,hf⟩:=hR.cells
  have f0:=hf 0
  have f1:=hf 1
  have f2:=hf 2
  have f3:=hf 3
  have f4:=hf 4
  have HR:=Lib.hid hR
  clear hf hR
  go_wp2
  refine bodyPost_ret (v:=.tuple #[plc 0 0 0 0 0,.int .i64 4]) (by simp [results,Tryz.results88,go_sem,plc, *]) rfl ⟨?_,Or.inr ⟨HNO.out,rfl⟩⟩
  exact ((((hb.setCell (Nat.le_refl _) _).setCell (Nat.le_refl _) _).setCell (Nat.le_refl _) _).setCell (Nat.le_refl _) _).setCell (Nat.le_refl _) _
end Go.Proofs.YtjfjliobencppaaGreatDoor.Sp
