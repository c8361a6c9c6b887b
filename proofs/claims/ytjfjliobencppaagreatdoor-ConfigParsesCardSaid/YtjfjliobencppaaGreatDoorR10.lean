/- config: sameListener, sameCluster.; config: slices.EqualFunc of listeners, of clusters.; config: Same of any two.; config: Same of any two configs.; config: what Light lets through.; word.Long of any text.; codec.Get, out of what codec.read answers. -/
import Derived.Test.YtjfjliobencppaaGreatDoorR09
import Derived.Test.YtjfjliobencppaaGreatDoorR00
import Derived.Test.YtjfjliobencppaaGreatDoorR07
set_option linter.unusedVariables false
set_option linter.unusedSimpArgs false
set_option maxRecDepth 100000
set_option maxHeartbeats 4000000
namespace Go.Proofs.YtjfjliobencppaaGreatDoor.Cf
open Go.RowKit
theorem same_cl (s s2 : ByteArray) (o o2 : Option Addr) (n cap n2 cap2 : Nat) (r : Bool) (w : World) (hK : ∀ wz,Below w.heap.size w wz→Calls Tryz.prog 79 #[.slice o n cap,.slice o2 n2 cap2] wz (TrP r wz)) :
  Calls Tryz.prog 34 #[.agg #[.string s,.slice o n cap],.agg #[.string s2,.slice o2 n2 cap2]] w (TrP ((s.toList == s2.toList) && r) w):=by
 have HB0:=Lib.hid (show Below w.heap.size w ((w.alloc (.cells #[.string s,.slice o n cap] 57)).alloc (.cells #[.string s2,.slice o2 n2 cap2] 57)) from (alloc_below _ _).trans ((alloc_below _ _).mono (by simp)))
 have HX0:=Lib.hid (show Bk ((w.alloc (.cells #[.string s,.slice o n cap] 57)).alloc (.cells #[.string s2,.slice o2 n2 cap2] 57)) w.heap.size #[.string s,.slice o n cap] 57 from ((alloc_below _ _).block _ (by simp)).trans (heap_alloc_new w _))
 have HY0 : Hid (Bk ((w.alloc (.cells #[.string s,.slice o n cap] 57)).alloc (.cells #[.string s2,.slice o2 n2 cap2] 57)) (w.heap.size+1) #[.string s2,.slice o2 n2 cap2] 57):=Lib.hid (by
  have h:=heap_alloc_new (w.alloc (.cells #[.string s,.slice o n cap] 57)) (.cells #[.string s2,.slice o2 n2 cap2] 57)
  rw [show (w.alloc (.cells #[.string s,.slice o n cap] 57)).heap.size=w.heap.size+1 by simp] at h
  exact h)
 obtain ⟨w0,hw0⟩ : ∃ w0,w0=((w.alloc (.cells #[.string s,.slice o n cap] 57)).alloc (.cells #[.string s2,.slice o2 n2 cap2] 57)):=⟨_,rfl⟩
 rw [← hw0] at HB0 HX0 HY0
 have f0 : w0.cell? ⟨w.heap.size,0,none⟩=some (.string s):=(cell_of_row _ _ 0 _ _ _ HX0.out).trans rfl
 have f1 : w0.cell? ⟨w.heap.size,1,none⟩=some (.slice o n cap):=(cell_of_row _ _ 1 _ _ _ HX0.out).trans rfl
 have g0 : w0.cell? ⟨w.heap.size+1,0,none⟩=some (.string s2):=(cell_of_row _ _ 0 _ _ _ HY0.out).trans rfl
 have g1 : w0.cell? ⟨w.heap.size+1,1,none⟩=some (.slice o2 n2 cap2):=(cell_of_row _ _ 1 _ _ _ HY0.out).trans rfl
 have K1:=Lib.hid (hK _ HB0.out)
 obtain ⟨b1,hb1⟩ : ∃ b1,(s.toList == s2.toList)=b1:=⟨_,rfl⟩
 rw [hb1]
 clear hK
 go_enter Tryz.func34,Tryz.ntmps34
 go_upto_region 1 with fail
 rw [← hw0]
 clear hw0
 cases b1 with
 | false =>
  have hb1' : s.toList≠s2.toList:=by rwa [beq_eq_false_iff_ne] at hb1
  go_wp2_with fail
  go_ret
  exact ⟨rfl,HB0.out⟩
 | true =>
  have hb1' : s.toList=s2.toList:=by rwa [beq_iff_eq] at hb1
  go_wp2_with fail
  refine (K1.out).mono ?_
  rintro e w1 ⟨rfl,hb⟩
  have HB1:=Lib.hid (HB0.out.trans (hb.mono HB0.out.size))
  clear hb
  go_wp2_with fail
  go_ret
  exact ⟨rfl,HB1.out⟩
theorem same_ls (s s2 : ByteArray) (a b c d p a2 b2 c2 d2 p2 : Int) (o o2 : Option Addr) (n cap n2 cap2 : Nat) (r : Bool) (w : World) (hK : ∀ wz,Below w.heap.size w wz→Calls Tryz.prog 78 #[.slice o n cap,.slice o2 n2 cap2] wz (TrP r wz)) :
  Calls Tryz.prog 32 #[.agg #[.string s,.int .u8 (a : Int),.int .u8 (b : Int),.int .u8 (c : Int),.int .u8 (d : Int),.int .u16 (p : Int),.slice o n cap],.agg #[.string s2,.int .u8 (a2 : Int),.int .u8 (b2 : Int),.int .u8 (c2 : Int),.int .u8 (d2 : Int),.int .u16 (p2 : Int),.slice o2 n2 cap2]] w (TrP ((s.toList == s2.toList) && (a == a2 && b == b2 && c == c2 && d == d2 && p == p2) && r) w):=by
 have HB0:=Lib.hid (show Below w.heap.size w ((w.alloc (.cells #[.string s,.int .u8 (a : Int),.int .u8 (b : Int),.int .u8 (c : Int),.int .u8 (d : Int),.int .u16 (p : Int),.slice o n cap] 52)).alloc (.cells #[.string s2,.int .u8 (a2 : Int),.int .u8 (b2 : Int),.int .u8 (c2 : Int),.int .u8 (d2 : Int),.int .u16 (p2 : Int),.slice o2 n2 cap2] 52)) from (alloc_below _ _).trans ((alloc_below _ _).mono (by simp)))
 have HX0:=Lib.hid (show Bk ((w.alloc (.cells #[.string s,.int .u8 (a : Int),.int .u8 (b : Int),.int .u8 (c : Int),.int .u8 (d : Int),.int .u16 (p : Int),.slice o n cap] 52)).alloc (.cells #[.string s2,.int .u8 (a2 : Int),.int .u8 (b2 : Int),.int .u8 (c2 : Int),.int .u8 (d2 : Int),.int .u16 (p2 : Int),.slice o2 n2 cap2] 52)) w.heap.size #[.string s,.int .u8 (a : Int),.int .u8 (b : Int),.int .u8 (c : Int),.int .u8 (d : Int),.int .u16 (p : Int),.slice o n cap] 52 from ((alloc_below _ _).block _ (by simp)).trans (heap_alloc_new w _))
 have HY0 : Hid (Bk ((w.alloc (.cells #[.string s,.int .u8 (a : Int),.int .u8 (b : Int),.int .u8 (c : Int),.int .u8 (d : Int),.int .u16 (p : Int),.slice o n cap] 52)).alloc (.cells #[.string s2,.int .u8 (a2 : Int),.int .u8 (b2 : Int),.int .u8 (c2 : Int),.int .u8 (d2 : Int),.int .u16 (p2 : Int),.slice o2 n2 cap2] 52)) (w.heap.size+1) #[.string s2,.int .u8 (a2 : Int),.int .u8 (b2 : Int),.int .u8 (c2 : Int),.int .u8 (d2 : Int),.int .u16 (p2 : Int),.slice o2 n2 cap2] 52):=Lib.hid (by
  have h:=heap_alloc_new (w.alloc (.cells #[.string s,.int .u8 (a : Int),.int .u8 (b : Int),.int .u8 (c : Int),.int .u8 (d : Int),.int .u16 (p : Int),.slice o n cap] 52)) (.cells #[.string s2,.int .u8 (a2 : Int),.int .u8 (b2 : Int),.int .u8 (c2 : Int),.int .u8 (d2 : Int),.int .u16 (p2 : Int),.slice o2 n2 cap2] 52)
  rw [show (w.alloc (.cells #[.string s,.int .u8 (a : Int),.int .u8 (b : Int),.int .u8 (c : Int),.int .u8 (d : Int),.int .u16 (p : Int),.slice o n cap] 52)).heap.size=w.heap.size+1 by simp] at h
  exact h)
 obtain ⟨w0,hw0⟩ : ∃ w0,w0=((w.alloc (.cells #[.string s,.int .u8 (a : Int),.int .u8 (b : Int),.int .u8 (c : Int),.int .u8 (d : Int),.int .u16 (p : Int),.slice o n cap] 52)).alloc (.cells #[.string s2,.int .u8 (a2 : Int),.int .u8 (b2 : Int),.int .u8 (c2 : Int),.int .u8 (d2 : Int),.int .u16 (p2 : Int),.slice o2 n2 cap2] 52)):=⟨_,rfl⟩
 rw [← hw0] at HB0 HX0 HY0
 have f0 : w0.cell? ⟨w.heap.size,0,none⟩=some (.string s):=(cell_of_row _ _ 0 _ _ _ HX0.out).trans rfl
 have f1 : w0.cell? ⟨w.heap.size,1,none⟩=some (.int .u8 (a : Int)):=(cell_of_row _ _ 1 _ _ _ HX0.out).trans rfl
 have f2 : w0.cell? ⟨w.heap.size,2,none⟩=some (.int .u8 (b : Int)):=(cell_of_row _ _ 2 _ _ _ HX0.out).trans rfl
 have f3 : w0.cell? ⟨w.heap.size,3,none⟩=some (.int .u8 (c : Int)):=(cell_of_row _ _ 3 _ _ _ HX0.out).trans rfl
 have f4 : w0.cell? ⟨w.heap.size,4,none⟩=some (.int .u8 (d : Int)):=(cell_of_row _ _ 4 _ _ _ HX0.out).trans rfl
 have f5 : w0.cell? ⟨w.heap.size,5,none⟩=some (.int .u16 (p : Int)):=(cell_of_row _ _ 5 _ _ _ HX0.out).trans rfl
 have f6 : w0.cell? ⟨w.heap.size,6,none⟩=some (.slice o n cap):=(cell_of_row _ _ 6 _ _ _ HX0.out).trans rfl
 have g0 : w0.cell? ⟨w.heap.size+1,0,none⟩=some (.string s2):=(cell_of_row _ _ 0 _ _ _ HY0.out).trans rfl
 have g1 : w0.cell? ⟨w.heap.size+1,1,none⟩=some (.int .u8 (a2 : Int)):=(cell_of_row _ _ 1 _ _ _ HY0.out).trans rfl
 have g2 : w0.cell? ⟨w.heap.size+1,2,none⟩=some (.int .u8 (b2 : Int)):=(cell_of_row _ _ 2 _ _ _ HY0.out).trans rfl
 have g3 : w0.cell? ⟨w.heap.size+1,3,none⟩=some (.int .u8 (c2 : Int)):=(cell_of_row _ _ 3 _ _ _ HY0.out).trans rfl
 have g4 : w0.cell? ⟨w.heap.size+1,4,none⟩=some (.int .u8 (d2 : Int)):=(cell_of_row _ _ 4 _ _ _ HY0.out).trans rfl
 have g5 : w0.cell? ⟨w.heap.size+1,5,none⟩=some (.int .u16 (p2 : Int)):=(cell_of_row _ _ 5 _ _ _ HY0.out).trans rfl
 have g6 : w0.cell? ⟨w.heap.size+1,6,none⟩=some (.slice o2 n2 cap2):=(cell_of_row _ _ 6 _ _ _ HY0.out).trans rfl
 have K1:=Lib.hid (hK _ HB0.out)
 obtain ⟨b1,hb1⟩ : ∃ b1,(s.toList == s2.toList)=b1:=⟨_,rfl⟩
 have hpl:=run_pl a b c d p a2 b2 c2 d2 p2
 rw [hb1]
 obtain ⟨q,hq⟩ : ∃ q,(a == a2 && b == b2 && c == c2 && d == d2 && p == p2)=q:=⟨_,rfl⟩
 rw [hq] at hpl ⊢
 clear hK hq
 go_enter Tryz.func32,Tryz.ntmps32
 go_upto_region 1 with fail
 rw [← hw0]
 clear hw0
 cases b1 with
 | false =>
  have hb1' : s.toList≠s2.toList:=by rwa [beq_eq_false_iff_ne] at hb1
  go_wp2_with fail
  go_ret
  exact ⟨rfl,HB0.out⟩
 | true =>
  have hb1' : s.toList=s2.toList:=by rwa [beq_iff_eq] at hb1
  cases q with
  | false =>
   go_wp2_with fail
   go_ret
   exact ⟨rfl,HB0.out⟩
  | true =>
   go_wp2_with fail
   refine (K1.out).mono ?_
   rintro e w1 ⟨rfl,hb⟩
   have HB1:=Lib.hid (HB0.out.trans (hb.mono HB0.out.size))
   clear hb
   go_wp2_with fail
   go_ret
   exact ⟨rfl,HB1.out⟩
end Go.Proofs.YtjfjliobencppaaGreatDoor.Cf

set_option maxRecDepth 100000
set_option maxHeartbeats 4000000
namespace Go.Proofs.YtjfjliobencppaaGreatDoor.Cf
open Go.RowKit
theorem ef_ls_no (O O2 : Option Addr) (m m2 C C2 : Nat) (hne : m≠m2) (w : World) : Calls Tryz.prog 31 #[.slice O m C,.slice O2 m2 C2,(.func (.func 32) #[] #[])] w (TrP false w):=by
 have q1 : ((m : Int) == (m2 : Int))=false:=by rw [beq_eq_false_iff_ne]; omega
 have q2 : ((m : Int) != (m2 : Int))=true:=by rw [bne_iff_ne]; omega
 go_enter Tryz.func31,Tryz.ntmps31
 go_wp2
 go_ret
 exact ⟨rfl,Below.refl _ _⟩
theorem ef_ls (m : Nat) (q : Nat→Bool) (O O2 : Option Addr) (C B off C2 B2 off2 : Nat) (hn : m≤1000000000) (w : World) (ho : 0 < m→O=some ⟨B,off,none⟩∧O2=some ⟨B2,off2,none⟩)
  (hE : ∀ i,i < m→∃ (s : ByteArray) (a : Int) (b : Int) (c : Int) (d : Int) (p : Int) (o : Option Addr) (n : Nat) (cap : Nat) (s2 : ByteArray) (a2 : Int) (b2 : Int) (c2 : Int) (d2 : Int) (p2 : Int) (o2 : Option Addr) (n2 : Nat) (cap2 : Nat),w.cell? ⟨B,off+i * 7,none⟩=some (.string s)∧w.cell? ⟨B,off+i * 7+1,none⟩=some (.int .u8 a)∧w.cell? ⟨B,off+i * 7+2,none⟩=some (.int .u8 b)∧w.cell? ⟨B,off+i * 7+3,none⟩=some (.int .u8 c)∧w.cell? ⟨B,off+i * 7+4,none⟩=some (.int .u8 d)∧w.cell? ⟨B,off+i * 7+5,none⟩=some (.int .u16 p)∧w.cell? ⟨B,off+i * 7+6,none⟩=some (.slice o n cap)∧w.cell? ⟨B2,off2+i * 7,none⟩=some (.string s2)∧w.cell? ⟨B2,off2+i * 7+1,none⟩=some (.int .u8 a2)∧w.cell? ⟨B2,off2+i * 7+2,none⟩=some (.int .u8 b2)∧w.cell? ⟨B2,off2+i * 7+3,none⟩=some (.int .u8 c2)∧w.cell? ⟨B2,off2+i * 7+4,none⟩=some (.int .u8 d2)∧w.cell? ⟨B2,off2+i * 7+5,none⟩=some (.int .u16 p2)∧w.cell? ⟨B2,off2+i * 7+6,none⟩=some (.slice o2 n2 cap2)∧∀ wz,Below w.heap.size w wz→Calls Tryz.prog 32 #[.agg #[.string s,.int .u8 a,.int .u8 b,.int .u8 c,.int .u8 d,.int .u16 p,.slice o n cap],.agg #[.string s2,.int .u8 a2,.int .u8 b2,.int .u8 c2,.int .u8 d2,.int .u16 p2,.slice o2 n2 cap2]] wz (TrP (q i) wz)) :
  Calls Tryz.prog 31 #[.slice O m C,.slice O2 m C2,(.func (.func 32) #[] #[])] w (TrP ((List.range m).all q) w):=by
 have HO:=Lib.hid ho
 have HE:=Lib.hid hE
 have HA:=Lib.hid (fun k (hk : k < m) (h : q k=false) => all_no hk h)
 have HB:=Lib.hid (fun h : ∀ i,i < m→q i=true => all_yes h)
 clear ho hE
 generalize (List.range m).all q=res at *
 go_enter Tryz.func31,Tryz.ntmps31
 go_wp2_with fail
 go_loopw [7,8,9,17] (fun _ _ _ iv wr => ∃ k : Nat,k≤m∧iv=.int .i64 (k : Int)∧Hid (Below w.heap.size w wr∧∀ j,j < k→q j=true)) (fun _ _ _ iv _ => m - (intOf iv).toNat)
 case atStart => exact ⟨0,Nat.zero_le _,rfl,Lib.hid ⟨Below.refl _ _,fun j h => absurd h (by omega)⟩⟩
 case round =>
  obtain ⟨k,hk,rfl,HT⟩:=hrel
  by_cases hlt : k < m
  ·obtain ⟨ho',ho2'⟩:=HO.out (by omega)
   subst ho' ho2'
   obtain ⟨s,a,b,c,d,p,o,n,cap,s2,a2,b2,c2,d2,p2,o2,n2,cap2,e0,e1,e2,e3,e4,e5,e6,e7,e8,e9,e10,e11,e12,e13,hK⟩:=HE.out k hlt
   have HW2:=Lib.hid (show Below wr.heap.size wr ((wr.alloc (.cells #[.string s,.int .u8 a,.int .u8 b,.int .u8 c,.int .u8 d,.int .u16 p,.slice o n cap] 52)).alloc (.cells #[.string s2,.int .u8 a2,.int .u8 b2,.int .u8 c2,.int .u8 d2,.int .u16 p2,.slice o2 n2 cap2] 52)) from (alloc_below _ _).trans ((alloc_below _ _).mono (by simp)))
   have HW1:=Lib.hid (alloc_below wr (.cells #[.string s,.int .u8 a,.int .u8 b,.int .u8 c,.int .u8 d,.int .u16 p,.slice o n cap] 52))
   have f0:=(HT.out.1.cell (World.block_lt_of_cell? w _ e0)).trans e0
   have f1:=(HT.out.1.cell (World.block_lt_of_cell? w _ e1)).trans e1
   have f2:=(HT.out.1.cell (World.block_lt_of_cell? w _ e2)).trans e2
   have f3:=(HT.out.1.cell (World.block_lt_of_cell? w _ e3)).trans e3
   have f4:=(HT.out.1.cell (World.block_lt_of_cell? w _ e4)).trans e4
   have f5:=(HT.out.1.cell (World.block_lt_of_cell? w _ e5)).trans e5
   have f6:=(HT.out.1.cell (World.block_lt_of_cell? w _ e6)).trans e6
   have f7:=(HT.out.1.cell (World.block_lt_of_cell? w _ e7)).trans e7
   have f8:=(HT.out.1.cell (World.block_lt_of_cell? w _ e8)).trans e8
   have f9:=(HT.out.1.cell (World.block_lt_of_cell? w _ e9)).trans e9
   have f10:=(HT.out.1.cell (World.block_lt_of_cell? w _ e10)).trans e10
   have f11:=(HT.out.1.cell (World.block_lt_of_cell? w _ e11)).trans e11
   have f12:=(HT.out.1.cell (World.block_lt_of_cell? w _ e12)).trans e12
   have f13:=(HT.out.1.cell (World.block_lt_of_cell? w _ e13)).trans e13
   have g7:=(HW1.out.cell (World.block_lt_of_cell? wr _ f7)).trans f7
   have g8:=(HW1.out.cell (World.block_lt_of_cell? wr _ f8)).trans f8
   have g9:=(HW1.out.cell (World.block_lt_of_cell? wr _ f9)).trans f9
   have g10:=(HW1.out.cell (World.block_lt_of_cell? wr _ f10)).trans f10
   have g11:=(HW1.out.cell (World.block_lt_of_cell? wr _ f11)).trans f11
   have g12:=(HW1.out.cell (World.block_lt_of_cell? wr _ f12)).trans f12
   have g13:=(HW1.out.cell (World.block_lt_of_cell? wr _ f13)).trans f13
   have HD:=Lib.hid (HT.out.1.trans (HW2.out.mono HT.out.1.size))
   have K1:=Lib.hid (hK _ HD.out)
   clear e0 e1 e2 e3 e4 e5 e6 e7 e8 e9 e10 e11 e12 e13 hK
   cases hp : q k with
   | true =>
    rw [hp] at K1
    have HP:=Lib.hid hp
    clear hp
    go_wp2_with fail
    refine (K1.out).mono ?_
    rintro e w1 ⟨rfl,hb⟩
    have HF:=Lib.hid (HD.out.trans (hb.mono HD.out.size))
    clear hb
    go_wp2_with fail
    go_roundw
    case rel =>
     refine ⟨k+1,by omega,by go_num,Lib.hid ⟨HF.out,fun j hj => ?_⟩⟩
     by_cases ej : j=k
     ·subst ej; exact HP.out
     ·exact HT.out.2 j (by omega)
    case measure => simp [intOf]; omega
   | false =>
    rw [hp] at K1
    have HP:=Lib.hid hp
    clear hp
    go_wp2_with fail
    refine (K1.out).mono ?_
    rintro e w1 ⟨rfl,hb⟩
    have HF:=Lib.hid (HD.out.trans (hb.mono HD.out.size))
    clear hb
    go_wp2_with fail
    go_ret
    exact ⟨by rw [HA.out k hlt HP.out]; rfl,HF.out⟩
  ·go_wp2_with fail
   go_ret
   exact ⟨by rw [HB.out (fun j hj => HT.out.2 j (by omega))]; rfl,HT.out.1⟩
theorem ef_cl_no (O O2 : Option Addr) (m m2 C C2 : Nat) (hne : m≠m2) (w : World) : Calls Tryz.prog 33 #[.slice O m C,.slice O2 m2 C2,(.func (.func 34) #[] #[])] w (TrP false w):=by
 have q1 : ((m : Int) == (m2 : Int))=false:=by rw [beq_eq_false_iff_ne]; omega
 have q2 : ((m : Int) != (m2 : Int))=true:=by rw [bne_iff_ne]; omega
 go_enter Tryz.func33,Tryz.ntmps33
 go_wp2
 go_ret
 exact ⟨rfl,Below.refl _ _⟩
theorem ef_cl (m : Nat) (q : Nat→Bool) (O O2 : Option Addr) (C B off C2 B2 off2 : Nat) (hn : m≤1000000000) (w : World) (ho : 0 < m→O=some ⟨B,off,none⟩∧O2=some ⟨B2,off2,none⟩)
  (hE : ∀ i,i < m→∃ (s : ByteArray) (o : Option Addr) (n : Nat) (cap : Nat) (s2 : ByteArray) (o2 : Option Addr) (n2 : Nat) (cap2 : Nat),w.cell? ⟨B,off+i * 2,none⟩=some (.string s)∧w.cell? ⟨B,off+i * 2+1,none⟩=some (.slice o n cap)∧w.cell? ⟨B2,off2+i * 2,none⟩=some (.string s2)∧w.cell? ⟨B2,off2+i * 2+1,none⟩=some (.slice o2 n2 cap2)∧∀ wz,Below w.heap.size w wz→Calls Tryz.prog 34 #[.agg #[.string s,.slice o n cap],.agg #[.string s2,.slice o2 n2 cap2]] wz (TrP (q i) wz)) :
  Calls Tryz.prog 33 #[.slice O m C,.slice O2 m C2,(.func (.func 34) #[] #[])] w (TrP ((List.range m).all q) w):=by
 have HO:=Lib.hid ho
 have HE:=Lib.hid hE
 have HA:=Lib.hid (fun k (hk : k < m) (h : q k=false) => all_no hk h)
 have HB:=Lib.hid (fun h : ∀ i,i < m→q i=true => all_yes h)
 clear ho hE
 generalize (List.range m).all q=res at *
 go_enter Tryz.func33,Tryz.ntmps33
 go_wp2_with fail
 go_loopw [7,8,9,17] (fun _ _ _ iv wr => ∃ k : Nat,k≤m∧iv=.int .i64 (k : Int)∧Hid (Below w.heap.size w wr∧∀ j,j < k→q j=true)) (fun _ _ _ iv _ => m - (intOf iv).toNat)
 case atStart => exact ⟨0,Nat.zero_le _,rfl,Lib.hid ⟨Below.refl _ _,fun j h => absurd h (by omega)⟩⟩
 case round =>
  obtain ⟨k,hk,rfl,HT⟩:=hrel
  by_cases hlt : k < m
  ·obtain ⟨ho',ho2'⟩:=HO.out (by omega)
   subst ho' ho2'
   obtain ⟨s,o,n,cap,s2,o2,n2,cap2,e0,e1,e2,e3,hK⟩:=HE.out k hlt
   have HW2:=Lib.hid (show Below wr.heap.size wr ((wr.alloc (.cells #[.string s,.slice o n cap] 57)).alloc (.cells #[.string s2,.slice o2 n2 cap2] 57)) from (alloc_below _ _).trans ((alloc_below _ _).mono (by simp)))
   have HW1:=Lib.hid (alloc_below wr (.cells #[.string s,.slice o n cap] 57))
   have f0:=(HT.out.1.cell (World.block_lt_of_cell? w _ e0)).trans e0
   have f1:=(HT.out.1.cell (World.block_lt_of_cell? w _ e1)).trans e1
   have f2:=(HT.out.1.cell (World.block_lt_of_cell? w _ e2)).trans e2
   have f3:=(HT.out.1.cell (World.block_lt_of_cell? w _ e3)).trans e3
   have g2:=(HW1.out.cell (World.block_lt_of_cell? wr _ f2)).trans f2
   have g3:=(HW1.out.cell (World.block_lt_of_cell? wr _ f3)).trans f3
   have HD:=Lib.hid (HT.out.1.trans (HW2.out.mono HT.out.1.size))
   have K1:=Lib.hid (hK _ HD.out)
   clear e0 e1 e2 e3 hK
   cases hp : q k with
   | true =>
    rw [hp] at K1
    have HP:=Lib.hid hp
    clear hp
    go_wp2_with fail
    refine (K1.out).mono ?_
    rintro e w1 ⟨rfl,hb⟩
    have HF:=Lib.hid (HD.out.trans (hb.mono HD.out.size))
    clear hb
    go_wp2_with fail
    go_roundw
    case rel =>
     refine ⟨k+1,by omega,by go_num,Lib.hid ⟨HF.out,fun j hj => ?_⟩⟩
     by_cases ej : j=k
     ·subst ej; exact HP.out
     ·exact HT.out.2 j (by omega)
    case measure => simp [intOf]; omega
   | false =>
    rw [hp] at K1
    have HP:=Lib.hid hp
    clear hp
    go_wp2_with fail
    refine (K1.out).mono ?_
    rintro e w1 ⟨rfl,hb⟩
    have HF:=Lib.hid (HD.out.trans (hb.mono HD.out.size))
    clear hb
    go_wp2_with fail
    go_ret
    exact ⟨by rw [HA.out k hlt HP.out]; rfl,HF.out⟩
  ·go_wp2_with fail
   go_ret
   exact ⟨by rw [HB.out (fun j hj => HT.out.2 j (by omega))]; rfl,HT.out.1⟩
end Go.Proofs.YtjfjliobencppaaGreatDoor.Cf

namespace Go.Proofs.YtjfjliobencppaaGreatDoor.Cf
open Go.RowKit
deriving instance DecidableEq for Pl
deriving instance DecidableEq for Rt
deriving instance DecidableEq for Ep
deriving instance DecidableEq for Ls
deriving instance DecidableEq for Cl
deriving instance DecidableEq for Co
theorem all_same {α : Type} [Inhabited α] [DecidableEq α] (l l' : List α) (h : l.length=l'.length) : ((List.range l.length).all fun i => decide (l.getD i default=l'.getD i default))=decide (l=l'):=by
 rw [Bool.eq_iff_iff,List.all_eq_true,decide_eq_true_iff]
 constructor
 ·intro hh
  refine List.ext_getElem h fun i h1 h2 => ?_
  have:=of_decide_eq_true (hh i (List.mem_range.2 h1))
  rwa [getD_at l h1,getD_at l' h2] at this
 ·rintro rfl i _
  exact decide_eq_true rfl
theorem toList_data (a : ByteArray) : a.toList=a.data.toList:=by
 have h:=ByteArray.toList_mk a.data.toList
 exact h
theorem bytes_same (a b : ByteArray) : (a.toList == b.toList)=decide (a=b):=by
 rw [Bool.eq_iff_iff,beq_iff_eq,decide_eq_true_iff,toList_data,toList_data]
 exact ⟨fun h => Go.WideShapes.bytes_inj h,fun h => by rw [h]⟩
theorem nat_same (a b : Nat) : ((a : Int) == (b : Int))=decide (a=b):=by
 rw [Bool.eq_iff_iff,beq_iff_eq,decide_eq_true_iff]; omega
theorem int_same (a b : Int) : (a == b)=decide (a=b):=by
 rw [Bool.eq_iff_iff,beq_iff_eq,decide_eq_true_iff]
theorem rt_eq {w : World} {v v' : Value} {l l' : List Rt} (h : Rw 4 RtIn w v l) (h' : Rw 4 RtIn w v' l') (hl : l.length≤1000000) :
  ∃ o cap o' cap',v=.slice o l.length cap∧v'=.slice o' l'.length cap'∧∀ wz,Below w.heap.size w wz→Calls Tryz.prog 78 #[.slice o l.length cap,.slice o' l'.length cap'] wz (TrP (decide (l=l')) wz):=by
 obtain ⟨o,cap,b,off,rfl,ho,hE⟩:=h
 obtain ⟨o',cap',b',off',rfl,ho',hE'⟩:=h'
 refine ⟨o,cap,o',cap',rfl,rfl,fun wz hb => ?_⟩
 by_cases hn : l.length=l'.length
 ·rw [← all_same l l' hn,← hn]
  refine eq_rou l.length _ o o' cap b off cap' b' off' (by omega) wz (fun hp => ⟨(ho hp).1,(ho' (by omega)).1⟩) (fun i hi => ?_)
  obtain ⟨cs,hr,hcs,hok⟩:=hE i hi
  obtain ⟨cs',hr',hcs',hok'⟩:=hE' i (by omega)
  have g:=rng_later hr hb
  have g':=rng_later hr' hb
  simp only [getD_at l hi,getD_at l' (show i < l'.length by omega)]
  generalize l[i]=e at *
  generalize l'[i]=e' at *
  obtain ⟨x,y,z,n⟩:=e
  obtain ⟨x',y',z',n'⟩:=e'
  subst hcs hcs'
  refine ⟨_,_,_,_,_,_,_,_,⟨g 0 _ rfl,g 1 _ rfl,g 2 _ rfl,g 3 _ rfl,g' 0 _ rfl,g' 1 _ rfl,g' 2 _ rfl,g' 3 _ rfl,fun w2 => ?_⟩⟩
  rw [run_rt,bytes_same,bytes_same,bytes_same,nat_same]
  congr 4
  rw [Bool.eq_iff_iff]; simp [and_assoc]
 ·have : decide (l=l')=false:=decide_eq_false (fun e => hn (by rw [e]))
  rw [this]
  exact (eq_rou_no o o' _ _ cap cap' hn wz).mono fun e w2 h => ⟨h.1,h.2 ▸ Below.refl _ _⟩
theorem ep_eq {w : World} {v v' : Value} {l l' : List Ep} (h : Rw 6 EpIn w v l) (h' : Rw 6 EpIn w v' l') (hl : l.length≤1000000) :
  ∃ o cap o' cap',v=.slice o l.length cap∧v'=.slice o' l'.length cap'∧∀ wz,Below w.heap.size w wz→Calls Tryz.prog 79 #[.slice o l.length cap,.slice o' l'.length cap'] wz (TrP (decide (l=l')) wz):=by
 obtain ⟨o,cap,b,off,rfl,ho,hE⟩:=h
 obtain ⟨o',cap',b',off',rfl,ho',hE'⟩:=h'
 refine ⟨o,cap,o',cap',rfl,rfl,fun wz hb => ?_⟩
 by_cases hn : l.length=l'.length
 ·rw [← all_same l l' hn,← hn]
  refine eq_end l.length _ o o' cap b off cap' b' off' (by omega) wz (fun hp => ⟨(ho hp).1,(ho' (by omega)).1⟩) (fun i hi => ?_)
  obtain ⟨cs,hr,hcs,hok⟩:=hE i hi
  obtain ⟨cs',hr',hcs',hok'⟩:=hE' i (by omega)
  have g:=rng_later hr hb
  have g':=rng_later hr' hb
  simp only [getD_at l hi,getD_at l' (show i < l'.length by omega)]
  generalize l[i]=e at *
  generalize l'[i]=e' at *
  obtain ⟨⟨a1,a2,a3,a4,a5⟩,t⟩:=e
  obtain ⟨⟨b1,b2,b3,b4,b5⟩,t'⟩:=e'
  subst hcs hcs'
  refine ⟨_,_,_,_,_,_,_,_,_,_,_,_,⟨g 0 _ rfl,g 1 _ rfl,g 2 _ rfl,g 3 _ rfl,g 4 _ rfl,g 5 _ rfl,g' 0 _ rfl,g' 1 _ rfl,g' 2 _ rfl,g' 3 _ rfl,g' 4 _ rfl,g' 5 _ rfl,fun w2 => ?_⟩⟩
  rw [run_ep,nat_same,nat_same,nat_same,nat_same,nat_same,int_same]
  congr 4
  rw [Bool.eq_iff_iff]; simp [and_assoc]
 ·have : decide (l=l')=false:=decide_eq_false (fun e => hn (by rw [e]))
  rw [this]
  exact (eq_end_no o o' _ _ cap cap' hn wz).mono fun e w2 h => ⟨h.1,h.2 ▸ Below.refl _ _⟩
theorem cl_eq {w : World} {v v' : Value} {l l' : List Cl} (h : Rw 2 ClIn w v l) (h' : Rw 2 ClIn w v' l') (hl : l.length≤1000000) (hs : ∀ x ∈ l,x.e.length≤1000000) :
  ∃ o cap o' cap',v=.slice o l.length cap∧v'=.slice o' l'.length cap'∧∀ wz,Below w.heap.size w wz→Calls Tryz.prog 33 #[.slice o l.length cap,.slice o' l'.length cap',.func (.func 34) #[] #[]] wz (TrP (decide (l=l')) wz):=by
 obtain ⟨o,cap,b,off,rfl,ho,hE⟩:=h
 obtain ⟨o',cap',b',off',rfl,ho',hE'⟩:=h'
 refine ⟨o,cap,o',cap',rfl,rfl,fun wz hb => ?_⟩
 by_cases hn : l.length=l'.length
 ·rw [← all_same l l' hn,← hn]
  refine ef_cl l.length _ o o' cap b off cap' b' off' (by omega) wz (fun hp => ⟨(ho hp).1,(ho' (by omega)).1⟩) (fun i hi => ?_)
  obtain ⟨cs,hr,hcs⟩:=hE i hi
  obtain ⟨cs',hr',hcs'⟩:=hE' i (by omega)
  have g:=rng_later hr hb
  have g':=rng_later hr' hb
  have hsi:=hs l[i] (List.getElem_mem hi)
  simp only [getD_at l hi,getD_at l' (show i < l'.length by omega)]
  generalize l[i]=e at *
  generalize l'[i]=e' at *
  obtain ⟨s,es⟩:=e
  obtain ⟨s2,es2⟩:=e'
  obtain ⟨u,rfl,_,hR⟩:=hcs
  obtain ⟨u',rfl,_,hR'⟩:=hcs'
  obtain ⟨o1,cap1,o2,cap2,rfl,rfl,hK⟩:=ep_eq hR hR' hsi
  refine ⟨_,_,_,_,_,_,_,_,⟨g 0 _ rfl,g 1 _ rfl,g' 0 _ rfl,g' 1 _ rfl,fun w2 h2 => ?_⟩⟩
  have key:=same_cl s s2 o1 o2 es.length cap1 es2.length cap2 _ w2 (fun w3 h3 => hK w3 ((hb.trans (h2.mono hb.size)).trans (h3.mono (Nat.le_trans hb.size h2.size))))
  rw [bytes_same] at key
  rw [show decide (Cl.mk s es=Cl.mk s2 es2)=(decide (s=s2) && decide (es=es2)) by rw [Bool.eq_iff_iff]; simp]
  exact key
 ·have : decide (l=l')=false:=decide_eq_false (fun e => hn (by rw [e]))
  rw [this]
  exact ef_cl_no o o' _ _ cap cap' hn wz
theorem ls_eq {w : World} {v v' : Value} {l l' : List Ls} (h : Rw 7 LsIn w v l) (h' : Rw 7 LsIn w v' l') (hl : l.length≤1000000) (hs : ∀ x ∈ l,x.r.length≤1000000) :
  ∃ o cap o' cap',v=.slice o l.length cap∧v'=.slice o' l'.length cap'∧∀ wz,Below w.heap.size w wz→Calls Tryz.prog 31 #[.slice o l.length cap,.slice o' l'.length cap',.func (.func 32) #[] #[]] wz (TrP (decide (l=l')) wz):=by
 obtain ⟨o,cap,b,off,rfl,ho,hE⟩:=h
 obtain ⟨o',cap',b',off',rfl,ho',hE'⟩:=h'
 refine ⟨o,cap,o',cap',rfl,rfl,fun wz hb => ?_⟩
 by_cases hn : l.length=l'.length
 ·rw [← all_same l l' hn,← hn]
  refine ef_ls l.length _ o o' cap b off cap' b' off' (by omega) wz (fun hp => ⟨(ho hp).1,(ho' (by omega)).1⟩) (fun i hi => ?_)
  obtain ⟨cs,hr,hcs⟩:=hE i hi
  obtain ⟨cs',hr',hcs'⟩:=hE' i (by omega)
  have g:=rng_later hr hb
  have g':=rng_later hr' hb
  have hsi:=hs l[i] (List.getElem_mem hi)
  simp only [getD_at l hi,getD_at l' (show i < l'.length by omega)]
  generalize l[i]=e at *
  generalize l'[i]=e' at *
  obtain ⟨s,⟨a1,a2,a3,a4,a5⟩,es⟩:=e
  obtain ⟨s2,⟨b1,b2,b3,b4,b5⟩,es2⟩:=e'
  obtain ⟨u,rfl,_,_,hR⟩:=hcs
  obtain ⟨u',rfl,_,_,hR'⟩:=hcs'
  obtain ⟨o1,cap1,o2,cap2,rfl,rfl,hK⟩:=rt_eq hR hR' hsi
  refine ⟨_,_,_,_,_,_,_,_,_,_,_,_,_,_,_,_,_,_,⟨g 0 _ rfl,g 1 _ rfl,g 2 _ rfl,g 3 _ rfl,g 4 _ rfl,g 5 _ rfl,g 6 _ rfl,g' 0 _ rfl,g' 1 _ rfl,g' 2 _ rfl,g' 3 _ rfl,g' 4 _ rfl,g' 5 _ rfl,g' 6 _ rfl,fun w2 h2 => ?_⟩⟩
  have key:=same_ls s s2 a1 a2 a3 a4 a5 b1 b2 b3 b4 b5 o1 o2 es.length cap1 es2.length cap2 _ w2 (fun w3 h3 => hK w3 ((hb.trans (h2.mono hb.size)).trans (h3.mono (Nat.le_trans hb.size h2.size))))
  rw [bytes_same,nat_same,nat_same,nat_same,nat_same,nat_same] at key
  rw [show decide (Ls.mk s ⟨a1,a2,a3,a4,a5⟩ es=Ls.mk s2 ⟨b1,b2,b3,b4,b5⟩ es2)=(decide (s=s2) && (decide (a1=b1) && decide (a2=b2) && decide (a3=b3) && decide (a4=b4) && decide (a5=b5)) && decide (es=es2)) by rw [Bool.eq_iff_iff]; simp [and_assoc]]
  exact key
 ·have : decide (l=l')=false:=decide_eq_false (fun e => hn (by rw [e]))
  rw [this]
  exact ef_ls_no o o' _ _ cap cap' hn wz
end Go.Proofs.YtjfjliobencppaaGreatDoor.Cf

set_option maxRecDepth 100000
set_option maxHeartbeats 4000000
namespace Go.Proofs.YtjfjliobencppaaGreatDoor.Cf
open Go.RowKit
theorem same_walk (v v2 : Nat) (o o2 k k2 : Option Addr) (n cap n2 cap2 m C m2 C2 : Nat) (p q : Bool) (w : World)
  (h1 : ∀ wz,Below w.heap.size w wz→Calls Tryz.prog 31 #[.slice o n cap,.slice o2 n2 cap2,.func (.func 32) #[] #[]] wz (TrP p wz))
  (h2 : ∀ wz,Below w.heap.size w wz→Calls Tryz.prog 33 #[.slice k m C,.slice k2 m2 C2,.func (.func 34) #[] #[]] wz (TrP q wz)) :
  Calls Tryz.prog 14 #[.agg #[.int .u64 (v : Int),.slice o n cap,.slice k m C],.agg #[.int .u64 (v2 : Int),.slice o2 n2 cap2,.slice k2 m2 C2]] w (TrP (decide (v=v2) && p && q) w):=by
 have HB0:=Lib.hid (show Below w.heap.size w ((w.alloc (.cells #[.int .u64 (v : Int),.slice o n cap,.slice k m C] 26)).alloc (.cells #[.int .u64 (v2 : Int),.slice o2 n2 cap2,.slice k2 m2 C2] 26)) from (alloc_below _ _).trans ((alloc_below _ _).mono (by simp)))
 have HX0:=Lib.hid (show Bk ((w.alloc (.cells #[.int .u64 (v : Int),.slice o n cap,.slice k m C] 26)).alloc (.cells #[.int .u64 (v2 : Int),.slice o2 n2 cap2,.slice k2 m2 C2] 26)) w.heap.size #[.int .u64 (v : Int),.slice o n cap,.slice k m C] 26 from ((alloc_below _ _).block _ (by simp)).trans (heap_alloc_new w _))
 have HY0 : Hid (Bk ((w.alloc (.cells #[.int .u64 (v : Int),.slice o n cap,.slice k m C] 26)).alloc (.cells #[.int .u64 (v2 : Int),.slice o2 n2 cap2,.slice k2 m2 C2] 26)) (w.heap.size+1) #[.int .u64 (v2 : Int),.slice o2 n2 cap2,.slice k2 m2 C2] 26):=Lib.hid (by
  have h:=heap_alloc_new (w.alloc (.cells #[.int .u64 (v : Int),.slice o n cap,.slice k m C] 26)) (.cells #[.int .u64 (v2 : Int),.slice o2 n2 cap2,.slice k2 m2 C2] 26)
  rw [show (w.alloc (.cells #[.int .u64 (v : Int),.slice o n cap,.slice k m C] 26)).heap.size=w.heap.size+1 by simp] at h
  exact h)
 obtain ⟨w0,hw0⟩ : ∃ w0,w0=((w.alloc (.cells #[.int .u64 (v : Int),.slice o n cap,.slice k m C] 26)).alloc (.cells #[.int .u64 (v2 : Int),.slice o2 n2 cap2,.slice k2 m2 C2] 26)):=⟨_,rfl⟩
 rw [← hw0] at HB0 HX0 HY0
 have f0 : w0.cell? ⟨w.heap.size,0,none⟩=some (.int .u64 (v : Int)):=(cell_of_row _ _ 0 _ _ _ HX0.out).trans rfl
 have f1 : w0.cell? ⟨w.heap.size,1,none⟩=some (.slice o n cap):=(cell_of_row _ _ 1 _ _ _ HX0.out).trans rfl
 have f2 : w0.cell? ⟨w.heap.size,2,none⟩=some (.slice k m C):=(cell_of_row _ _ 2 _ _ _ HX0.out).trans rfl
 have g0 : w0.cell? ⟨w.heap.size+1,0,none⟩=some (.int .u64 (v2 : Int)):=(cell_of_row _ _ 0 _ _ _ HY0.out).trans rfl
 have g1 : w0.cell? ⟨w.heap.size+1,1,none⟩=some (.slice o2 n2 cap2):=(cell_of_row _ _ 1 _ _ _ HY0.out).trans rfl
 have g2 : w0.cell? ⟨w.heap.size+1,2,none⟩=some (.slice k2 m2 C2):=(cell_of_row _ _ 2 _ _ _ HY0.out).trans rfl
 have K1:=Lib.hid h1
 have K2:=Lib.hid h2
 obtain ⟨b1,hb1⟩ : ∃ b1,decide (v=v2)=b1:=⟨_,rfl⟩
 have t1 : ((v : Int) == (v2 : Int))=b1:=by rw [nat_same]; exact hb1
 rw [hb1]
 clear h1 h2
 go_enter Tryz.func14,Tryz.ntmps14
 go_upto_region 1 with fail
 rw [← hw0]
 clear hw0
 cases b1 with
 | false =>
  clear hb1
  go_wp2_with fail
  go_ret
  exact ⟨rfl,HB0.out⟩
 | true =>
  have hb1' : v=v2:=of_decide_eq_true hb1
  clear hb1
  cases p with
  | false =>
   go_wp2_with fail
   refine (K1.out _ HB0.out).mono ?_
   rintro e w1 ⟨rfl,hb⟩
   have HX1:=Lib.hid (Bk.later HX0.out hb)
   have HY1:=Lib.hid (Bk.later HY0.out hb)
   have HB1:=Lib.hid (HB0.out.trans (hb.mono HB0.out.size))
   clear hb f0 f1 f2 g0 g1 g2
   obtain ⟨f0,f1,f2⟩:=bk3 HX1.out
   obtain ⟨g0,g1,g2⟩:=bk3 HY1.out
   go_wp2_with fail
   go_ret
   exact ⟨rfl,HB1.out⟩
  | true =>
   go_wp2_with fail
   refine (K1.out _ HB0.out).mono ?_
   rintro e w1 ⟨rfl,hb⟩
   have HX1:=Lib.hid (Bk.later HX0.out hb)
   have HY1:=Lib.hid (Bk.later HY0.out hb)
   have HB1:=Lib.hid (HB0.out.trans (hb.mono HB0.out.size))
   clear hb f0 f1 f2 g0 g1 g2
   obtain ⟨f0,f1,f2⟩:=bk3 HX1.out
   obtain ⟨g0,g1,g2⟩:=bk3 HY1.out
   go_wp2_with fail
   refine (K2.out _ HB1.out).mono ?_
   rintro e w2 ⟨rfl,hb⟩
   have HX2:=Lib.hid (Bk.later HX1.out hb)
   have HY2:=Lib.hid (Bk.later HY1.out hb)
   have HB2:=Lib.hid (HB1.out.trans (hb.mono HB1.out.size))
   clear hb f0 f1 f2 g0 g1 g2
   obtain ⟨f0,f1,f2⟩:=bk3 HX2.out
   obtain ⟨g0,g1,g2⟩:=bk3 HY2.out
   go_wp2_with fail
   go_ret
   exact ⟨rfl,HB2.out⟩
theorem same_any {w : World} {c0 c1 c2 d0 d1 d2 : Value} {a b : Co} (ha : CoIn w c0 c1 c2 a) (hb : CoIn w d0 d1 d2 b) (hl : a.l.length≤1000000) (hc : a.c.length≤1000000) (hr : ∀ x ∈ a.l,x.r.length≤1000000) (he : ∀ x ∈ a.c,x.e.length≤1000000) :
  Calls Tryz.prog 14 #[.agg #[c0,c1,c2],.agg #[d0,d1,d2]] w (TrP (decide (a=b)) w):=by
 obtain ⟨rfl,_,hL,hC⟩:=ha
 obtain ⟨rfl,_,hL',hC'⟩:=hb
 obtain ⟨o,cap,o2,cap2,rfl,rfl,K1⟩:=ls_eq hL hL' hl hr
 obtain ⟨k,C,k2,C2,rfl,rfl,K2⟩:=cl_eq hC hC' hc he
 have key:=same_walk a.v b.v o o2 k k2 _ cap _ cap2 _ C _ C2 _ _ w K1 K2
 rw [show decide (a=b)=(decide (a.v=b.v) && decide (a.l=b.l) && decide (a.c=b.c)) by
  obtain ⟨_,_,_⟩:=a
  obtain ⟨_,_,_⟩:=b
  rw [Bool.eq_iff_iff]; simp [and_assoc]]
 exact key
end Go.Proofs.YtjfjliobencppaaGreatDoor.Cf

namespace Go.Proofs.YtjfjliobencppaaGreatDoor.Cf
open Go.RowKit
def LiP (G : Prop) (w : World) (e : Ending) (w' : World) : Prop:=∃ b : Bool,e=.returned (.bool b)∧(b=true→G)∧Below w.heap.size w w'
def Co.lit (c : Co) : Prop:=c.l.length≤12∧c.c.length≤12∧(∀ l ∈ c.l,l.name.size≤300∧l.r.length≤12∧∀ r ∈ l.r,r.host.size≤300∧r.path.size≤300∧r.cluster.size≤300)∧∀ x ∈ c.c,x.name.size≤300∧x.e.length≤12
end Go.Proofs.YtjfjliobencppaaGreatDoor.Cf

set_option maxRecDepth 1000000
set_option maxHeartbeats 1000000
namespace Go.Proofs.YtjfjliobencppaaGreatDoor
open Go.RowKit
def lngA (acc j : Nat) : List UInt8→Nat × Nat × Nat
 | [] => if j=10 then (0,0,4) else (0,0,3)
 | c::cs => if j=10 then (0,0,4) else if 128≤c.toNat then lngA (acc+128 ^ j * (c.toNat % 128)) (j+1) cs else if 0 < j∧c.toNat=0 then (0,0,4) else if j=9∧1 < c.toNat then (0,0,4) else (acc+128 ^ j * c.toNat,j+1,0)
theorem lngA_at (s : ByteArray) (j acc : Nat) (h : j < s.size) : lngA acc j (s.data.toList.drop j)=if j=10 then (0,0,4) else if 128≤s[j].toNat then lngA (acc+128 ^ j * (s[j].toNat % 128)) (j+1) (s.data.toList.drop (j+1)) else if 0 < j∧s[j].toNat=0 then (0,0,4) else if j=9∧1 < s[j].toNat then (0,0,4) else (acc+128 ^ j * s[j].toNat,j+1,0):=by
 have hl : j < s.data.toList.length:=by simpa using h
 rw [List.drop_eq_getElem_cons hl,lngA]
 rfl
theorem lngA_ten (l : List UInt8) (acc : Nat) : lngA acc 10 l=(0,0,4):=by
 cases l <;> (rw [lngA]; simp)
theorem lngA_nil (j acc : Nat) (h : j≠10) : lngA acc j []=(0,0,3):=by rw [lngA,if_neg h]
def LongK (s : ByteArray) (R : Nat × Nat × Nat) (w : World) (a' : Act) (w' : World) : Prop :=
 w'=w∧∃ (j acc : Nat) (z : Int) (u1 u2 u3 u4 u7 u8 u9 u10 u11 u12 u13 u14 u15 u16 u17 u18 u19 u20 u21 u22 u23 u24 u25 u26 u27 u28 u29 u30 u31 u32 u33 u34 u35 u36 u37 u38 u39 u40 u41 u42 : Value),
  a'={ tmps:=#[.string s,u1,u2,u3,u4,.int .u64 z,.int .i64 j,u7,u8,u9,u10,u11,u12,u13,u14,u15,u16,u17,u18,u19,u20,u21,u22,u23,u24,u25,u26,u27,u28,u29,u30,u31,u32,u33,u34,u35,u36,u37,u38,u39,u40,u41,u42],defers:=[] } ∧
  1≤j∧j≤10∧j≤s.size∧(j≤9→z=(acc : Int)∧acc < 128 ^ j)∧lngA acc j (s.data.toList.drop j)=R
def lonV (R : Nat × Nat × Nat) : Value:=.tuple #[.int .u64 (R.1 : Int),.int .i64 (R.2.1 : Int),.int .i64 (R.2.2 : Int)]
theorem long_next (j acc c : Nat) (hj : j≤8) (hacc : acc < 128 ^ j) (hc : c < 256) :
  bits BinOp.or IntKind.u64 (acc : Int) (IntKind.u64.wrap (((c % 128 : Nat) : Int) * 2 ^ (7 * j)))=((acc+128 ^ j * (c % 128) : Nat) : Int)∧acc+128 ^ j * (c % 128) < 128 ^ (j+1):=by
 have h1 : 128 ^ j * (c % 128)≤128 ^ j * 127:=Nat.mul_le_mul_left _ (by omega)
 have h2 : (128 : Nat) ^ j≤128 ^ 8:=Nat.pow_le_pow_right (by omega) hj
 have h3 : (128 : Nat) ^ 8=72057594037927936:=by rfl
 have hs:=long_step (acc+128 ^ j * (c % 128)) j (c % 128) acc (c % 128) (by omega) rfl hacc (by omega)
 rw [hs.1,hs.2]
 exact ⟨rfl,by rw [Nat.pow_succ]; omega⟩
theorem long_any (s : ByteArray) (hmax : s.size≤1000000000) (w : World) : Calls Tryz.prog 106 #[.string s] w fun e w' => e=.returned (lonV (lngA 0 0 s.data.toList))∧w=w':=by
 obtain ⟨R,hR⟩ : ∃ R,lngA 0 0 s.data.toList=R:=⟨_,rfl⟩
 rw [hR]
 have HR:=Lib.hid hR
 have HM:=Lib.hid hmax
 clear hR
 go_enter Tryz.func106,Tryz.ntmps106
 go_wp2
 refine wp_scope_jumps 0 (LongK s R w) (fun a' _ => 20 - (intOf (a'.tmps.getD 6 undef)).toNat) rfl ?_ ?_
 ·by_cases h0 : s.size=0
  ·have hz : ((0 : Int) == (s.size : Int))=true:=by rw [beq_iff_eq]; omega
   have hz2 : ((s.size : Int) == 0)=true:=by rw [beq_iff_eq]; omega
   have hl : s.data.toList=[]:=List.eq_nil_of_length_eq_zero (by simpa using h0)
   have hr : R=(0,0,3):=by rw [← HR.out,hl]; rfl
   have HRR:=Lib.hid hr
   clear hl hr h0
   go_wp2
   go_step3
   go_wp2
   simp only [Exit.jump]
   refine bodyPost_ret (v:=.tuple #[.int .u64 0,.int .i64 0,.int .i64 3]) (by simp [results,Tryz.results106,go_sem]) rfl ⟨?_,rfl⟩
   rw [HRR.out]; rfl
  ·have hz : ((s.size : Int) == 0)=false:=by rw [beq_eq_false_iff_ne]; omega
   have hz2 : ((0 : Int) == (s.size : Int))=false:=by rw [beq_eq_false_iff_ne]; omega
   have hat:=lngA_at s 0 0 (by omega)
   rw [List.drop_zero,HR.out,if_neg (by omega)] at hat
   have f1 : bits BinOp.and IntKind.u8 (s[0].toNat : Int) 127=((s[0].toNat % 128 : Nat) : Int):=mask_byte _ s[0].toNat_lt
   have f2 : IntKind.u64.wrap ((s[0].toNat % 128 : Nat) : Int)=((s[0].toNat % 128 : Nat) : Int):=IntWalk.u64_in _ (by omega)
   have f5 : bits BinOp.or IntKind.u64 0 ((s[0].toNat % 128 : Nat) : Int)=((s[0].toNat % 128 : Nat) : Int):=by
    have:=u64_or_nat 0 (s[0].toNat % 128) (by omega) (by omega)
    rw [Nat.zero_or] at this
    exact this
   have h0' : 0 < s.size:=by omega
   obtain ⟨c,hc⟩ : ∃ c,s[0].toNat=c:=⟨_,rfl⟩
   have hc256 : c < 256:=by rw [← hc]; exact s[0].toNat_lt
   obtain ⟨r,hr⟩ : ∃ r,r=c % 128:=⟨_,rfl⟩
   rw [hc,← hr] at f1 f2 f5
   rw [hc] at hat
   have HRC:=Lib.hid hr
   by_cases h128 : 128≤c
   ·have g1 : (128 : Int)≤(c : Int):=by omega
    rw [if_pos h128] at hat
    have HAT:=Lib.hid hat
    have HS:=Lib.hid (show 1≤s.size by omega)
    clear hat hr
    go_wp2
    go_step3
    go_wp2
    go_step3
    refine ⟨rfl,rfl,1,r,(r : Int),_,_,_,_,_,_,_,_,_,_,_,_,_,_,_,_,_,_,_,_,_,_,_,_,_,_,_,_,_,_,_,_,_,_,_,_,_,_,_,_,rfl,Nat.le_refl _,by omega,HS.out,fun _ => ⟨rfl,?_⟩,?_⟩
    ·rw [Nat.pow_one,HRC.out]; omega
    ·rw [HAT.out,HRC.out]; simp
   ·have g1 : ¬ (128 : Int)≤(c : Int):=by omega
    rw [if_neg h128,if_neg (by omega),if_neg (by omega)] at hat
    have hrc : r=c:=by omega
    rw [hrc] at f1 f2 f5
    have HRR : Hid (R=(c,1,0)):=Lib.hid (by rw [hat]; simp)
    clear hat hr hrc
    go_wp2
    go_step3
    go_wp2
    simp only [Exit.jump]
    refine bodyPost_ret (v:=.tuple #[.int .u64 c,.int .i64 1,.int .i64 0]) (by simp [results,Tryz.results106,go_sem]) rfl ⟨?_,rfl⟩
    rw [HRR.out]; rfl
 ·rintro a' w' ⟨rfl,j,acc,z,u1,u2,u3,u4,u7,u8,u9,u10,u11,u12,u13,u14,u15,u16,u17,u18,u19,u20,u21,u22,u23,u24,u25,u26,u27,u28,u29,u30,u31,u32,u33,u34,u35,u36,u37,u38,u39,u40,u41,u42,rfl,hj1,hj10,hjs,hz,hl⟩
  by_cases h10 : j=10
  ·subst h10
   have hr : R=(0,0,4):=by rw [← hl,lngA_ten]
   have HRR:=Lib.hid hr
   clear hr hl hz
   go_wp2
   simp only [Exit.jump]
   refine bodyPost_ret (v:=.tuple #[.int .u64 0,.int .i64 0,.int .i64 4]) (by simp [results,Tryz.results106,go_sem]) rfl ⟨?_,rfl⟩
   rw [HRR.out]; rfl
  ·have hj10' : ((j : Int) == 10)=false:=by rw [beq_eq_false_iff_ne]; omega
   obtain ⟨rfl,hacc⟩:=hz (by omega)
   by_cases hend : j=s.size
   ·have he : ((j : Int) == (s.size : Int))=true:=by rw [beq_iff_eq]; omega
    have hr : R=(0,0,3):=by
     rw [← hl,List.drop_of_length_le (by simp; omega),lngA_nil _ _ h10]
    have HRR:=Lib.hid hr
    clear hr hl hz hend
    go_wp2
    simp only [Exit.jump]
    refine bodyPost_ret (v:=.tuple #[.int .u64 0,.int .i64 0,.int .i64 3]) (by simp [results,Tryz.results106,go_sem]) rfl ⟨?_,rfl⟩
    rw [HRR.out]; rfl
   ·have hlt : j < s.size:=by omega
    have he : ((j : Int) == (s.size : Int))=false:=by rw [beq_eq_false_iff_ne]; omega
    have ij : (j : Int) < (s.size : Int):=by omega
    have ij9 : (j : Int)≤9:=by omega
    have hat:=lngA_at s j acc hlt
    rw [hl,if_neg h10] at hat
    have f1 : bits BinOp.and IntKind.u8 (s[j].toNat : Int) 127=((s[j].toNat % 128 : Nat) : Int):=mask_byte _ s[j].toNat_lt
    have f2 : IntKind.u64.wrap ((s[j].toNat % 128 : Nat) : Int)=((s[j].toNat % 128 : Nat) : Int):=IntWalk.u64_in _ (by omega)
    have hc256 : s[j].toNat < 256:=s[j].toNat_lt
    obtain ⟨c,hc⟩ : ∃ c,s[j].toNat=c:=⟨_,rfl⟩
    rw [hc] at f1 f2 hc256 hat
    obtain ⟨r,hr⟩ : ∃ r,r=c % 128:=⟨_,rfl⟩
    rw [← hr] at f1 f2
    obtain ⟨Z1,q3⟩ : ∃ z,IntKind.u64.wrap ((r : Int) * 2 ^ (7 * j))=z:=⟨_,rfl⟩
    obtain ⟨Z2,q4⟩ : ∃ z,bits BinOp.or IntKind.u64 (acc : Int) Z1=z:=⟨_,rfl⟩
    have HQ : Hid (j≤8→Z2=((acc+128 ^ j * r : Nat) : Int)∧acc+128 ^ j * r < 128 ^ (j+1)):=Lib.hid (fun h8 => by
     have:=long_next j acc c h8 hacc hc256
     rw [← hr,q3,q4] at this
     exact this)
    have HZ9 : Hid (j=9→c≤1→Z2=((acc+128 ^ j * c : Nat) : Int)):=Lib.hid (fun h9 h1 => by
     have h3 : (128 : Nat) ^ 9=9223372036854775808:=by rfl
     have h4 : 128 ^ 9 * c≤128 ^ 9 * 1:=Nat.mul_le_mul_left _ h1
     have:=long_step (acc+128 ^ j * c) j c acc r (by rw [h9] at hacc ⊢; omega) rfl hacc hr
     rw [q3,show r=c by omega] at this
     rw [← q4,this.1,this.2])
    have HRC:=Lib.hid hr
    have HLT:=Lib.hid hlt
    clear hl hz hacc
    by_cases h128 : 128≤c
    ·have g1 : (128 : Int)≤(c : Int):=by omega
     rw [if_pos h128] at hat
     have HAT:=Lib.hid hat
     clear hat hr
     go_wp2
     go_step3
     refine ⟨rfl,⟨rfl,j+1,acc+128 ^ j * r,Z2,_,_,_,_,_,_,_,_,_,_,_,_,_,_,_,_,_,_,_,_,_,_,_,_,_,_,_,_,_,_,_,_,_,_,_,_,_,_,_,_,rfl,by omega,by omega,HLT.out,fun h => HQ.out (by omega),?_⟩,?_⟩
     ·rw [HAT.out,HRC.out]
     ·simp [intOf]; omega
    ·have g1 : ¬ (128 : Int)≤(c : Int):=by omega
     rw [if_neg h128] at hat
     by_cases h0 : c=0
     ·have g2 : ((c : Int) == 0)=true:=by rw [beq_iff_eq]; omega
      rw [if_pos ⟨hj1,h0⟩] at hat
      have HRR:=Lib.hid hat
      clear hat hr h0
      go_wp2
      simp only [Exit.jump]
      refine bodyPost_ret (v:=.tuple #[.int .u64 0,.int .i64 0,.int .i64 4]) (by simp [results,Tryz.results106,go_sem]) rfl ⟨?_,rfl⟩
      rw [HRR.out]; rfl
     ·have g2 : ((c : Int) == 0)=false:=by rw [beq_eq_false_iff_ne]; omega
      rw [if_neg (fun h => h0 h.2)] at hat
      by_cases h9 : j=9
      ·have hj1' : ((j : Int)+1 == 10)=true:=by rw [beq_iff_eq]; omega
       by_cases h1 : 1 < c
       ·have g3 : (1 : Int) < (c : Int):=by omega
        rw [if_pos ⟨h9,h1⟩] at hat
        have HRR:=Lib.hid hat
        clear hat hr h9
        go_wp2
        simp only [Exit.jump]
        refine bodyPost_ret (v:=.tuple #[.int .u64 0,.int .i64 0,.int .i64 4]) (by simp [results,Tryz.results106,go_sem]) rfl ⟨?_,rfl⟩
        rw [HRR.out]; rfl
       ·have g3 : ¬ (1 : Int) < (c : Int):=by omega
        rw [if_neg (fun h => h1 h.2)] at hat
        have HRR:=Lib.hid hat
        have hzz:=HZ9.out h9 (by omega)
        have HZZ:=Lib.hid hzz
        clear hat hr h9 hzz
        go_wp2
        simp only [Exit.jump]
        refine bodyPost_ret (v:=.tuple #[.int .u64 Z2,.int .i64 ((j : Int)+1),.int .i64 0]) (by simp [results,Tryz.results106,go_sem]) rfl ⟨?_,rfl⟩
        rw [HRR.out,HZZ.out]; rfl
      ·have hj1' : ((j : Int)+1 == 10)=false:=by rw [beq_eq_false_iff_ne]; omega
       rw [if_neg (fun h => h9 h.1)] at hat
       have HRR:=Lib.hid hat
       have hrc : r=c:=by omega
       have hzz:=(HQ.out (by omega)).1
       rw [hrc] at hzz
       have HZZ:=Lib.hid hzz
       clear hat hr h9 hzz hrc
       go_wp2
       simp only [Exit.jump]
       refine bodyPost_ret (v:=.tuple #[.int .u64 Z2,.int .i64 ((j : Int)+1),.int .i64 0]) (by simp [results,Tryz.results106,go_sem]) rfl ⟨?_,rfl⟩
       rw [HRR.out,HZZ.out]; rfl
end Go.Proofs.YtjfjliobencppaaGreatDoor

set_option maxRecDepth 100000
set_option maxHeartbeats 1000000
namespace Go.Proofs.YtjfjliobencppaaGreatDoor
open Go.RowKit
def crV (a b c d : Value) (r : ByteArray) (e : Nat) : Value:=.tuple #[.agg #[a,b,c,d],.string r,.int .i64 (e : Int)]
def cgV (a b c d : Value) (e : Nat) : Value:=.tuple #[.agg #[a,b,c,d],.int .i64 (e : Int)]
def Zx (w wz : World) : Prop:=wz.heap[w.heap.size]?=some (.cells #[.int .i64 0,.int .u64 0,.string ⟨#[]⟩,.slice none 0 0] 69 (0,0))∧Below w.heap.size w wz
theorem Zx.new (w : World) : Zx w (w.alloc (.cells #[.int .i64 0,.int .u64 0,.string ⟨#[]⟩,.slice none 0 0] 69)):=⟨heap_alloc_new w _,alloc_below _ _⟩
theorem Zx.later {w wz w1 : World} (h : Zx w wz) (hb : Below wz.heap.size wz w1) : Zx w w1:=⟨(hb.block _ (lt_of_heap h.1)).trans h.1,h.2.trans (hb.mono h.2.size)⟩
theorem Zx.cells {w wz : World} (h : Zx w wz) : wz.cell? ⟨w.heap.size,0,none⟩=some (.int .i64 0)∧wz.cell? ⟨w.heap.size,1,none⟩=some (.int .u64 0)∧wz.cell? ⟨w.heap.size,2,none⟩=some (.string ⟨#[]⟩)∧wz.cell? ⟨w.heap.size,3,none⟩=some (.slice none 0 0)∧wz.frozen? ⟨w.heap.size,0,none⟩=false∧wz.frozen? ⟨w.heap.size,1,none⟩=false∧wz.frozen? ⟨w.heap.size,2,none⟩=false∧wz.frozen? ⟨w.heap.size,3,none⟩=false:=by
 refine ⟨?_,?_,?_,?_,frozen_of_row wz _ 0 _ _ h.1,frozen_of_row wz _ 1 _ _ h.1,frozen_of_row wz _ 2 _ _ h.1,frozen_of_row wz _ 3 _ _ h.1⟩
 all_goals (rw [cell_of_row wz w.heap.size _ _ _ _ h.1]; rfl)
theorem Zx.put {w wz : World} (h : Below w.heap.size w wz) (a b c d : Value) : Below w.heap.size w ((((wz.setCell ⟨w.heap.size,0,none⟩ a).setCell ⟨w.heap.size,1,none⟩ b).setCell ⟨w.heap.size,2,none⟩ c).setCell ⟨w.heap.size,3,none⟩ d) :=
 have hle : w.heap.size≤w.heap.size:=Nat.le_refl _
 (((h.setCell (p:=⟨w.heap.size,0,none⟩) hle _).setCell (p:=⟨w.heap.size,1,none⟩) hle _).setCell (p:=⟨w.heap.size,2,none⟩) hle _).setCell (p:=⟨w.heap.size,3,none⟩) hle _
theorem get_bad (s : ByteArray) (c : Nat) (hc0 : c≠0)
  (h : ∀ w,Calls Tryz.prog 71 #[.string s] w fun x w' => x=.returned (crV (.int .i64 0) (.int .u64 0) (.string ⟨#[]⟩) (.slice none 0 0) ⟨#[]⟩ c)∧Below w.heap.size w w') (w : World) :
  Calls Tryz.prog 29 #[.string s] w fun x w' => x=.returned (cgV (.int .i64 0) (.int .u64 0) (.string ⟨#[]⟩) (.slice none 0 0) c)∧Below w.heap.size w w':=by
 have hq : ((c : Int) != 0)=true:=by rw [bne_iff_ne]; omega
 have K1:=Lib.hid h
 have Z0:=Lib.hid (Zx.new w)
 clear h hc0
 go_enter Tryz.func29,Tryz.ntmps29
 go_wp2_with fail
 refine (K1.out _).mono ?_
 rintro x w2 ⟨rfl,hb2⟩
 have Z2:=Lib.hid ((Z0.out.later hb2).later (alloc_below w2 (.cells #[.int .i64 0,.int .u64 0,.string ⟨#[]⟩,.slice none 0 0] 69)))
 obtain ⟨c0,c1,c2,c3,f0,f1,f2,f3⟩:=Z2.out.cells
 have hst:=store27 w2 0 0 ⟨#[]⟩ none 0 0
 clear hb2
 unfold crV
 go_wp2
 refine bodyPost_ret (v:=cgV (.int .i64 0) (.int .u64 0) (.string ⟨#[]⟩) (.slice none 0 0) c) (by simp [results,Tryz.results29,go_sem,cgV, *]) rfl ⟨rfl,?_⟩
 exact Zx.put Z2.out.2 _ _ _ _
theorem get_fine (s : ByteArray) (t : Tr)
  (h : ∀ w,Calls Tryz.prog 71 #[.string s] w fun x w' => ∃ d0 d1 d2 d3,x=.returned (crV d0 d1 d2 d3 ⟨#[]⟩ 0)∧VInP w' (fun b => w.heap.size≤b) t d0 d1 d2 d3∧Below w.heap.size w w') (w : World) :
  Calls Tryz.prog 29 #[.string s] w fun x w' => ∃ d0 d1 d2 d3,x=.returned (cgV d0 d1 d2 d3 0)∧VInP w' (fun b => w.heap.size≤b) t d0 d1 d2 d3∧Below w.heap.size w w':=by
 have K1:=Lib.hid h
 have Z0:=Lib.hid (Zx.new w)
 have HLT:=Lib.hid (alloc_lt w (.cells #[.int .i64 0,.int .u64 0,.string ⟨#[]⟩,.slice none 0 0] 69))
 clear h
 go_enter Tryz.func29,Tryz.ntmps29
 go_wp2_with fail
 refine (K1.out _).mono ?_
 rintro x w2 ⟨d0,d1,d2,d3,rfl,hv,hb2⟩
 obtain ⟨k,n,v,o,len,cap,rfl,rfl,rfl,rfl⟩:=hv.cells
 have Z2:=Lib.hid ((Z0.out.later hb2).later (alloc_below w2 (.cells #[.int .i64 k,.int .u64 (n : Int),.string v,.slice o len cap] 69)))
 obtain ⟨c0,c1,c2,c3,f0,f1,f2,f3⟩:=Z2.out.cells
 obtain ⟨e0,e1,e2,e3⟩:=four_new w2 (.int .i64 k) (.int .u64 (n : Int)) (.string v) (.slice o len cap) 69
 have hst:=store27 w2 k n v o len cap
 have HV:=Lib.hid hv
 have HB2:=Lib.hid hb2
 clear hb2 hv
 unfold crV
 go_wp2
 refine bodyPost_ret (v:=cgV (.int .i64 k) (.int .u64 (n : Int)) (.string v) (.slice o len cap) 0) (by simp [results,Tryz.results29,go_sem,cgV, *]) rfl ⟨_,_,_,_,rfl,?_,?_⟩
 ·refine VInP.keep (by simp) (fun b' hb' hP => ⟨?_,?_⟩) _ HV.out
  ·have hne : b'≠w.heap.size:=by have:=HLT.out; omega
   rw [setfour b' hne]
   exact (alloc_below w2 _).block b' hb'
  ·have:=HLT.out; omega
 ·exact Zx.put Z2.out.2 _ _ _ _
theorem get_form (s r : ByteArray) (hr : 1≤r.size)
  (h : ∀ w,Calls Tryz.prog 71 #[.string s] w fun x w' => ∃ (k : Int) (n : Nat) (v : ByteArray) (o : Option Addr) (len cap : Nat),x=.returned (crV (.int .i64 k) (.int .u64 (n : Int)) (.string v) (.slice o len cap) r 0)∧Below w.heap.size w w') (w : World) :
  Calls Tryz.prog 29 #[.string s] w fun x w' => x=.returned (cgV (.int .i64 0) (.int .u64 0) (.string ⟨#[]⟩) (.slice none 0 0) 4)∧Below w.heap.size w w':=by
 have hq:=empty_no r hr
 have hq2 : (!r.toList.isEmpty)=true:=by rw [hq]; rfl
 have K1:=Lib.hid h
 have Z0:=Lib.hid (Zx.new w)
 clear h hr
 go_enter Tryz.func29,Tryz.ntmps29
 go_wp2_with fail
 refine (K1.out _).mono ?_
 rintro x w2 ⟨k,n,v,o,len,cap,rfl,hb2⟩
 have Z2:=Lib.hid ((Z0.out.later hb2).later (alloc_below w2 (.cells #[.int .i64 k,.int .u64 (n : Int),.string v,.slice o len cap] 69)))
 obtain ⟨c0,c1,c2,c3,f0,f1,f2,f3⟩:=Z2.out.cells
 have hst:=store27 w2 k n v o len cap
 clear hb2
 unfold crV
 go_wp2
 refine bodyPost_ret (v:=cgV (.int .i64 0) (.int .u64 0) (.string ⟨#[]⟩) (.slice none 0 0) 4) (by simp [results,Tryz.results29,go_sem,cgV, *]) rfl ⟨rfl,?_⟩
 exact Zx.put Z2.out.2 _ _ _ _
end Go.Proofs.YtjfjliobencppaaGreatDoor
