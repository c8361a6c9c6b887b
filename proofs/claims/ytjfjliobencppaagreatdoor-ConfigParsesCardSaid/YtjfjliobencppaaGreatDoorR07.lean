/- codec.write of a list, and of any value.; codec.Put of any value.; codec.Text, codec.Num; law07's awake.; Configs' writers: a place's bytes, a text, a row.; Configs' writers: a route, an endpoint.; Configs' writers: each element of a list, written. -/
import Derived.Test.YtjfjliobencppaaGreatDoorR06
import Derived.Test.YtjfjliobencppaaGreatDoorR05
import Derived.Test.YtjfjliobencppaaGreatDoorR00
set_option linter.unusedVariables false
set_option linter.unusedSimpArgs false
set_option maxRecDepth 100000
set_option maxHeartbeats 1000000
namespace Go.Proofs.YtjfjliobencppaaGreatDoor
open Go.RowKit
def Apt (B : Nat) (g : Nat) (ρ : Option Nat) : Prop:=B≤g∧∀ k,ρ=some k→B≤k
theorem Apt.next {B g : Nat} {ρ ρ1 : Option Nat} {w : World} (h : Apt B g ρ) (hn : Nxt ρ ρ1 w) (hs : B≤w.heap.size) : Apt B g ρ1:=by
 refine ⟨h.1,fun k hk => ?_⟩
 rcases hn with rfl | ⟨q,rfl,hq⟩
 ·exact h.2 k hk
 ·cases hk; omega
theorem write_three (n : Int) (s : ByteArray) (l : List Tr) (o : Option Addr) (cap b off : Nat) (hlen : l.length≤1000000) (w0 : World) (g : Nat) (ρ : Option Nat) (hap : Apt w0.heap.size g ρ) (L : List UInt8) (hL : L.length≤8192)
  (ih : ∀ x ∈ l,∀ (c0 c1 c2 c3 : Value) (w : World) (ρ : Option Nat) (L : List UInt8),VIn w0 x c0 c1 c2 c3→Below w0.heap.size w0 w→Apt w0.heap.size g ρ→Buf g ρ L w→L.length≤8192→Calls Tryz.prog 58 #[.agg #[c0,c1,c2,c3],.func (Fn.func 55) #[] #[.pointer (some ⟨g,0,none⟩)]] w (WrP g ρ L (txtT x) w))
  (w : World) (hw0 : Below w0.heap.size w0 w) (hB : Buf g ρ L w) (ho : 0 < l.length→o=some ⟨b,off,none⟩∧b < w0.heap.size) (hl : VInL w0 b off l) :
  Calls Tryz.prog 58 #[.agg #[.int .i64 3,.int .u64 n,.string s,.slice o l.length cap],.func (Fn.func 55) #[] #[.pointer (some ⟨g,0,none⟩)]] w (WrP g ρ L (3::(sh l.length++txtL l)) w):=by
 obtain ⟨m,hm⟩ : ∃ m,m=l.length:=⟨_,rfl⟩
 have HDA:=Lib.hid (txtP_all l)
 have HLE:=Lib.hid (fun j h => txtP_le l j h)
 obtain ⟨D,hD⟩ : ∃ D,D=txtL l:=⟨_,rfl⟩
 rw [← hD] at HDA HLE ⊢
 rw [← hm] at hlen ⊢
 have HM:=Lib.hid hm
 have HO:=Lib.hid ho
 have HL:=Lib.hid hl
 have IH:=Lib.hid ih
 have HAP:=Lib.hid hap
 have HW0:=Lib.hid hw0
 have K1:=Lib.hid (put_one 3 (by omega))
 rw [show UInt8.ofNat 3=3 from rfl] at K1
 have KS:=Lib.hid (fun w => short_any m (by omega) w)
 have hsl:=sh_ten m (by omega)
 have hwr : IntKind.u64.wrap (m : Int)=(m : Int):=IntWalk.u64_in _ (by omega)
 obtain ⟨hd,hhd⟩ : ∃ hd,hd=3::sh m:=⟨_,rfl⟩
 have hT : (3::(sh m++D))=hd++D:=by rw [hhd]; rfl
 rw [hT]
 have KA : Hid (∀ w,Buf g ρ L w→Calls Tryz.prog 55 #[.slice (some ⟨w.heap.size,0,none⟩) 2 2,.pointer (some ⟨g,0,none⟩)] (w.alloc (.cells #[.string (str [3]),.string (str (sh m))] 9)) fun e w' => ∃ ok,e=.returned (.bool ok)∧AddQ g ρ L hd w ok w') :=
  Lib.hid (fun w h => by
   have:=add_two g ρ L hL (str [3]) (str (sh m)) (by rw [size_str]; simp) (by rw [size_str]; omega) w h
   rw [hhd]
   exact this)
 generalize str [3]=S1 at *
 generalize str (sh m)=S2 at *
 clear hsl ho hl ih hm hD hhd hT hap hw0
 have H0:=Lib.hid (VW.new w (.int .i64 3) (.int .u64 n) (.string s) (.slice o m cap) 69)
 have HB0:=Lib.hid (hB.later (alloc_below w (.cells #[.int .i64 3,.int .u64 n,.string s,.slice o m cap] 69)))
 obtain ⟨c0,c1,c2,c3⟩:=H0.out.1
 clear hB
 go_enter Tryz.func58,Tryz.ntmps58
 go_wp2_with fail
 refine (K1.out _).mono ?_
 rintro r w1 ⟨rfl,hb1⟩
 have H1:=Lib.hid (H0.out.later hb1)
 have HB1:=Lib.hid (HB0.out.later hb1)
 clear c0 c1 c2 c3 hb1
 obtain ⟨c0,c1,c2,c3⟩:=H1.out.1
 go_wp2_with fail
 refine (KS.out _).mono ?_
 rintro r w2 ⟨rfl,hb2⟩
 have H2:=Lib.hid (H1.out.later hb2)
 have HB2:=Lib.hid (HB1.out.later hb2)
 clear c0 c1 c2 c3 hb2
 obtain ⟨hpg,hpr⟩:=HB2.out.apart H2.out.1.1 ⟨fun x e => (by cases e),fun a b c e => (by cases e)⟩
 have HPG:=Lib.hid (And.intro hpg hpr)
 clear hpg hpr
 go_wp2_with fail
 refine (KA.out w2 HB2.out).mono ?_
 rintro r w3 ⟨ok,rfl,hq⟩
 have HQ:=Lib.hid (AddQ.pre H2.out.2.2 hq)
 have hbk : w3.heap[w.heap.size]?=w2.heap[w.heap.size]?:=hq.1.2.2.2.2 _ H2.out.2.1 HPG.out.1 HPG.out.2
 have cc:=fun j => World.cell?_of_block (a:=⟨w.heap.size,j,none⟩) hbk
 obtain ⟨c0',c1',c2',c3'⟩:=H2.out.1
 have c0:=(cc 0).trans c0'
 have c1:=(cc 1).trans c1'
 have c2:=(cc 2).trans c2'
 have c3:=(cc 3).trans c3'
 clear hq hbk cc c0' c1' c2' c3' HB0 HB1
 cases ok
 ·have HQ2 : Hid (AddQ g ρ L (hd++D) w false w3):=Lib.hid ⟨HQ.out.1,fun e => (by cases e),fun _ => by
   have:=HQ.out.2.2 rfl
   rw [List.length_append]; omega⟩
  clear c0 c1 c2 c3
  go_wp2
  go_ret
  exact ⟨false,rfl,HQ2.out⟩
 ·obtain ⟨hsum,ρ0,hn0,hbuf0⟩:=HQ.out.2.1 rfl
  have HB4 : Hid (Buf g ρ0 (L++(hd++txtP l 0)) w3):=Lib.hid (by rw [txtP_0,List.append_nil]; exact hbuf0)
  have HS4 : Hid (L.length+(hd++txtP l 0).length≤8192):=Lib.hid (by rw [txtP_0,List.append_nil]; exact hsum)
  have HN4:=Lib.hid hn0
  have HC4:=Lib.hid HQ.out.1
  clear hsum hn0 hbuf0 HQ
  go_wp2_with fail
  clear c0 c1 c2 c3
  go_loopw [49] (fun iv wr => ∃ (j : Nat) (ρ1 : Option Nat),j≤m∧iv=.int .i64 (j : Int)∧Hid (Buf g ρ1 (L++(hd++txtP l j)) wr)∧Hid (Nxt ρ ρ1 w)∧Hid (Chg g ρ w wr)∧Hid (L.length+(hd++txtP l j).length≤8192)) (fun iv _ => m - (intOf iv).toNat)
  case atStart => exact ⟨0,ρ0,Nat.zero_le _,rfl,HB4,HN4,HC4,HS4⟩
  case round =>
   clear HB4 HS4 HN4 HC4
   obtain ⟨j,ρ1,hj,rfl,hB,hN,hC,hS⟩:=hrel
   have HBW:=Lib.hid (HW0.out.trans (hC.out.below HAP.out.1 HAP.out.2 HW0.out.size))
   by_cases hjm : j < m
   ·have hjl : j < l.length:=by rw [← HM.out]; exact hjm
    obtain ⟨ho',hb'⟩:=HO.out (by omega)
    subst ho'
    obtain ⟨d0,d1,d2,d3,e0,e1,e2,e3,hv⟩:=HL.out.at j hjl
    obtain ⟨k',n',s',o',len',cap',rfl,rfl,rfl,rfl⟩:=hv.cells
    have f0:=(HBW.out.cell (p:=⟨b,_,none⟩) hb').trans e0
    have f1:=(HBW.out.cell (p:=⟨b,_,none⟩) hb').trans e1
    have f2:=(HBW.out.cell (p:=⟨b,_,none⟩) hb').trans e2
    have f3:=(HBW.out.cell (p:=⟨b,_,none⟩) hb').trans e3
    have hst:=store27 wr k' n' s' o' len' cap'
    have HV:=Lib.hid hv
    have hle:=HLE.out j hjl
    have hsu : hd++txtP l (j+1)=(hd++txtP l j)++txtT l[j]:=by rw [txtP_succ l j hjl,List.append_assoc]
    have HSU:=Lib.hid hsu
    have HLEN:=Lib.hid hle
    have IHJ:=Lib.hid (IH.out l[j] (List.getElem_mem hjl))
    have HAP1:=Lib.hid (HAP.out.next hN.out HW0.out.size)
    obtain ⟨A,hA⟩ : ∃ A,A=hd++txtP l j:=⟨_,rfl⟩
    rw [← hA] at hB hS HSU
    have HAL : Hid (A.length+(txtT l[j]).length≤(hd++D).length):=Lib.hid (by rw [hA,List.length_append,List.length_append]; omega)
    clear e0 e1 e2 e3 hv hle hsu hA
    go_wp2_with fail
    obtain ⟨wa,hwa⟩ : ∃ wa,wa=wr.alloc (.cells #[.int .i64 k',.int .u64 (n' : Int),.string s',.slice o' len' cap'] 69):=⟨_,rfl⟩
    rw [← hwa]
    have HBA:=Lib.hid (show Below wr.heap.size wr wa by rw [hwa]; exact alloc_below _ _)
    clear hwa f0 f1 f2 f3 hst
    refine (IHJ.out _ _ _ _ wa ρ1 (L++A) HV.out (HBW.out.trans (HBA.out.mono HBW.out.size)) HAP1.out (hB.out.later HBA.out) (by rw [List.length_append]; exact hS.out)).mono ?_
    rintro r w5 ⟨ok,rfl,hq⟩
    have HQ:=Lib.hid (AddQ.pre HBA.out hq)
    clear hq
    cases ok
    ·have HQ2 : Hid (AddQ g ρ L (hd++D) w false w5):=Lib.hid ⟨hC.out.trans hN.out HQ.out.1,fun e => (by cases e),fun _ => by
      have h1:=HQ.out.2.2 rfl
      have h2:=HAL.out
      rw [List.length_append] at h1
      omega⟩
     go_wp2
     go_ret
     exact ⟨false,rfl,HQ2.out⟩
    ·obtain ⟨hsum,ρ2,hn2,hbuf2⟩:=HQ.out.2.1 rfl
     have HB5 : Hid (Buf g ρ2 (L++(hd++txtP l (j+1))) w5):=Lib.hid (by rw [HSU.out,← List.append_assoc]; exact hbuf2)
     have HS5 : Hid (L.length+(hd++txtP l (j+1)).length≤8192):=Lib.hid (by
      rw [List.length_append] at hsum
      rw [HSU.out,List.length_append]; omega)
     have HN5:=Lib.hid (hN.out.trans hC.out.2.2.2.1 hn2)
     have HC5:=Lib.hid (hC.out.trans hN.out HQ.out.1)
     clear hsum hn2 hbuf2
     go_wp2
     go_roundw
     case rel => exact ⟨j+1,ρ2,by omega,by go_num,HB5,HN5,HC5,HS5⟩
     case measure => simp [intOf]; omega
   ·have ejm : j=l.length:=by rw [← HM.out]; omega
    have hpd : txtP l j=D:=by rw [ejm]; exact HDA.out
    rw [hpd] at hB hS
    have HQ2 : Hid (AddQ g ρ L (hd++D) w true wr):=Lib.hid ⟨hC.out,fun _ => ⟨hS.out,ρ1,hN.out,hB.out⟩,fun e => (by cases e)⟩
    clear hpd ejm
    go_wp2
    go_ret
    exact ⟨true,rfl,HQ2.out⟩
theorem write_any (w0 : World) (g : Nat) : ∀ (t : Tr),sndT t=true→∀ (c0 c1 c2 c3 : Value) (w : World) (ρ : Option Nat) (L : List UInt8),VIn w0 t c0 c1 c2 c3→Below w0.heap.size w0 w→Apt w0.heap.size g ρ→Buf g ρ L w→L.length≤8192→Calls Tryz.prog 58 #[.agg #[c0,c1,c2,c3],.func (Fn.func 55) #[] #[.pointer (some ⟨g,0,none⟩)]] w (WrP g ρ L (txtT t) w):=by
 refine Tr.ind ?_
 intro k n s l ih hsn c0 c1 c2 c3 w ρ L h hw hap hB hL
 unfold VIn at h
 obtain ⟨rfl,rfl,hn,rfl,⟨hsz,hlen⟩,o,cap,b,off,rfl,ho,hl⟩:=h
 unfold sndT at hsn
 simp only [Bool.and_eq_true,decide_eq_true_eq,sndL_all,List.all_eq_true] at hsn
 obtain ⟨⟨⟨⟨⟨k1,k3⟩,_⟩,_⟩,_⟩,hall⟩:=hsn
 unfold txtT
 rcases (show k=1∨k=2∨k=3 by omega) with rfl | rfl | rfl
 ·exact write_one n hn s o l.length cap g ρ L hL w hB
 ·simp only [show ¬ (2 : Int)=1 by omega,if_false,if_true]
  exact write_two n s hsz o l.length cap g ρ L hL w hB
 ·simp only [show ¬ (3 : Int)=1 by omega,show ¬ (3 : Int)=2 by omega,if_false]
  exact write_three n s l o cap b off hlen w0 g ρ hap L hL (fun x hx c0 c1 c2 c3 w ρ L hv => ih x hx (hall x hx) c0 c1 c2 c3 w ρ L hv) w hw hB ho hl
end Go.Proofs.YtjfjliobencppaaGreatDoor

set_option maxRecDepth 100000
namespace Go.Proofs.YtjfjliobencppaaGreatDoor
open Go.RowKit
theorem row_string {ρ : Option Nat} {o : Option Addr} {cap : Nat} {L : List UInt8} {w : World} (h : Row ρ o cap L w) (hne : L≠[]) : (convert 113 9 (.slice o L.length cap)).run Tryz.prog w=.ok (.string (str L)) w:=by
 rcases h with ⟨_,_,_,h⟩ | ⟨r,cur,rfl,rfl,_,hg,hlc,hcm,hcs,htk⟩
 ·exact absurd h hne
 ·refine run_convert_bytes_back (P:=Tryz.prog) w 113 9 5 ⟨r,0,none⟩ cap L Tryz.underlying113 Tryz.underlying5 Tryz.underlying9 ?_
  intro j hj
  rw [plain_add,cell_of_row w r j _ _ _ hg,← Array.getElem?_toList]
  have:=congrArg (fun l => l[j]?) htk
  simp only [List.getElem?_take,hj,if_true] at this
  rw [this]
  simp [bcells,hj]
theorem txtT_ne : ∀ t : Tr,txtT t≠[]
 | .mk k n s l => by
  unfold txtT
  split
  ·simp
  ·split <;> simp
theorem buf_new (w : World) (A : Obj) : Buf (w.heap.size+1) none [] ((w.alloc A).alloc (.cells #[.slice none 0 0] 113)):=by
 have h:=heap_alloc_new (w.alloc A) (.cells #[.slice none 0 0] 113)
 rw [show (w.alloc A).heap.size=w.heap.size+1 by simp] at h
 exact ⟨none,0,h,Or.inl ⟨rfl,rfl,rfl,rfl⟩,by simp⟩
theorem Buf.cell {g : Nat} {ρ : Option Nat} {L : List UInt8} {w : World} (h : Buf g ρ L w) (hne : L≠[]) : ∃ o cap,w.cell? ⟨g,0,none⟩=some (.slice o L.length cap)∧(convert 113 9 (.slice o L.length cap)).run Tryz.prog w=.ok (.string (str L)) w:=by
 obtain ⟨o,cap,h1,h2,_⟩:=h
 exact ⟨o,cap,by rw [cell_of_row w g 0 _ _ _ h1]; rfl,row_string h2 hne⟩
theorem put_value (t : Tr) (a : Int) (b : Nat) (s : ByteArray) (o : Option Addr) (m cap : Nat) (w : World) (hd : deepT t≤1000000000) (hv : VIn w t (.int .i64 a) (.int .u64 (b : Int)) (.string s) (.slice o m cap)) :
  Calls Tryz.prog 24 #[.agg #[.int .i64 a,.int .u64 (b : Int),.string s,.slice o m cap]] w fun e w' => e=.returned (.tuple #[.string (putS t),.int .i64 (putC t : Nat)])∧Below w.heap.size w w':=by
 have H00:=Lib.hid (And.intro ((VW.new w (.int .i64 a) (.int .u64 (b : Int)) (.string s) (.slice o m cap) 69).later (alloc_below _ (.cells #[.slice none 0 0] 113))) (buf_new w (.cells #[.int .i64 a,.int .u64 (b : Int),.string s,.slice o m cap] 69)))
 have K1 : Hid (∀ wz,Below w.heap.size w wz→Calls Tryz.prog 56 #[.agg #[.int .i64 a,.int .u64 (b : Int),.string s,.slice o m cap]] wz fun e w' => e=.returned (.bool (sndT t))∧Below wz.heap.size wz w'):=Lib.hid (fun wz hb => sound_any t _ _ _ _ wz (hv.later hb))
 have K2 : Hid (∀ wz,Below w.heap.size w wz→Calls Tryz.prog 57 #[.agg #[.int .i64 a,.int .u64 (b : Int),.string s,.slice o m cap]] wz fun e w' => e=.returned (.int .i64 (deepT t : Nat))∧Below wz.heap.size wz w'):=Lib.hid (fun wz hb => deep_any t _ _ _ _ wz hd (hv.later hb))
 by_cases h1 : sndT t=false
 ·have e1 : putC t=10:=by unfold putC; rw [if_pos h1]
  have e2 : putS t=⟨#[]⟩:=by unfold putS; rw [if_neg (by omega)]
  rw [e1,e2]
  rw [h1] at K1
  clear e1 e2 K2 h1 hd hv
  go_enter Tryz.func24,Tryz.ntmps24
  go_upto_region 3 with fail
  refine gen_wp (S:=fun wz => Hid (VW w (.int .i64 a) (.int .u64 (b : Int)) (.string s) (.slice o m cap) wz∧Buf (w.heap.size+1) none [] wz)) H00 ?_
  intro W1 H1
  obtain ⟨c0,c1,c2,c3⟩:=H1.out.1.1
  clear H00
  go_wp2_with fail
  refine (K1.out _ H1.out.1.2.2).mono ?_
  rintro r w1 ⟨rfl,hb1⟩
  have HE:=Lib.hid (H1.out.1.2.2.trans (hb1.mono H1.out.1.2.2.size))
  clear hb1 c0 c1 c2 c3
  go_wp2
  go_ret2
  exact ⟨rfl,HE.out⟩
 ·have h1' : sndT t=true:=by simpa using h1
  rw [h1'] at K1
  by_cases h2 : 6 < deepT t
  ·have e1 : putC t=8:=by unfold putC; rw [if_neg h1,if_pos h2]
   have e2 : putS t=⟨#[]⟩:=by unfold putS; rw [if_neg (by omega)]
   rw [e1,e2]
   have h2' : ((deepT t : Nat) : Int) > 6:=by omega
   generalize deepT t=dd at *
   clear e1 e2 h1 h1' hv h2 hd
   go_enter Tryz.func24,Tryz.ntmps24
   go_upto_region 3 with fail
   refine gen_wp (S:=fun wz => Hid (VW w (.int .i64 a) (.int .u64 (b : Int)) (.string s) (.slice o m cap) wz∧Buf (w.heap.size+1) none [] wz)) H00 ?_
   intro W1 H1
   obtain ⟨c0,c1,c2,c3⟩:=H1.out.1.1
   clear H00
   go_wp2_with fail
   refine (K1.out _ H1.out.1.2.2).mono ?_
   rintro r w1 ⟨rfl,hb1⟩
   have H2:=Lib.hid (H1.out.1.later hb1)
   clear hb1 c0 c1 c2 c3
   obtain ⟨c0,c1,c2,c3⟩:=H2.out.1
   go_wp2_with fail
   refine (K2.out _ H2.out.2.2).mono ?_
   rintro r w2 ⟨rfl,hb2⟩
   have HE:=Lib.hid (H2.out.2.2.trans (hb2.mono H2.out.2.2.size))
   clear hb2 c0 c1 c2 c3
   go_wp2
   go_ret2
   exact ⟨rfl,HE.out⟩
  ·have KW : Hid (∀ wz,Below w.heap.size w wz→Buf (w.heap.size+1) none [] wz→Calls Tryz.prog 58 #[.agg #[.int .i64 a,.int .u64 (b : Int),.string s,.slice o m cap],.func (Fn.func 55) #[] #[.pointer (some ⟨w.heap.size+1,0,none⟩)]] wz (WrP (w.heap.size+1) none [] (txtT t) wz)):=Lib.hid (fun wz hb hB => write_any w (w.heap.size+1) t h1' _ _ _ _ wz none [] hv hb ⟨by omega,fun k hk => by cases hk⟩ hB (by simp))
   have h2' : ¬ ((deepT t : Nat) : Int) > 6:=by omega
   have HPC : Hid (putC t=if 8192 < (txtT t).length then 5 else 0):=Lib.hid (by unfold putC; rw [if_neg h1,if_neg h2])
   have HNE:=Lib.hid (txtT_ne t)
   have HPS : Hid (putC t=0→putS t=str (txtT t)):=Lib.hid (fun h => by unfold putS; rw [if_pos h])
   have HPS2 : Hid (putC t≠0→putS t=⟨#[]⟩):=Lib.hid (fun h => by unfold putS; rw [if_neg h])
   generalize deepT t=dd at *
   generalize txtT t=T at *
   generalize putC t=pc at *
   generalize putS t=ps at *
   clear h1 h1' hv h2 hd
   go_enter Tryz.func24,Tryz.ntmps24
   go_upto_region 3 with fail
   refine gen_wp (S:=fun wz => Hid (VW w (.int .i64 a) (.int .u64 (b : Int)) (.string s) (.slice o m cap) wz∧Buf (w.heap.size+1) none [] wz)) H00 ?_
   intro W1 H1
   obtain ⟨c0,c1,c2,c3⟩:=H1.out.1.1
   have HB1:=Lib.hid H1.out.2
   clear H00
   go_wp2_with fail
   refine (K1.out _ H1.out.1.2.2).mono ?_
   rintro r w1 ⟨rfl,hb1⟩
   have H2:=Lib.hid (H1.out.1.later hb1)
   have HB2:=Lib.hid (HB1.out.later hb1)
   clear hb1 c0 c1 c2 c3
   obtain ⟨c0,c1,c2,c3⟩:=H2.out.1
   go_wp2_with fail
   refine (K2.out _ H2.out.2.2).mono ?_
   rintro r w2 ⟨rfl,hb2⟩
   have H3:=Lib.hid (H2.out.later hb2)
   have HB3:=Lib.hid (HB2.out.later hb2)
   clear hb2 c0 c1 c2 c3
   obtain ⟨c0,c1,c2,c3⟩:=H3.out.1
   go_wp2_with fail
   refine (KW.out _ H3.out.2.2 HB3.out).mono ?_
   rintro r w3 ⟨ok,rfl,hq⟩
   have HE:=Lib.hid (H3.out.2.2.trans (hq.1.below (B:=w.heap.size) (by omega) (fun k hk => by cases hk) H3.out.2.2.size))
   clear c0 c1 c2 c3
   cases ok
   ·have h5:=hq.2.2 rfl
    have e1 : pc=5:=by rw [HPC.out,if_pos (by simpa using h5)]
    have e2 : ps=⟨#[]⟩:=HPS2.out (by omega)
    have E1:=Lib.hid e1
    have E2:=Lib.hid e2
    clear hq h5 e1 e2 HPC HPS HPS2
    go_wp2
    go_ret2
    exact ⟨by rw [E1.out,E2.out]; rfl,HE.out⟩
   ·obtain ⟨h5,ρ',_,hbuf⟩:=hq.2.1 rfl
    have e1 : pc=0:=by rw [HPC.out,if_neg (by simp at h5; omega)]
    have e2 : ps=str T:=HPS.out e1
    have E1:=Lib.hid e1
    have E2:=Lib.hid e2
    rw [List.nil_append] at hbuf
    obtain ⟨oo,cc,k0,kc⟩:=hbuf.cell HNE.out
    clear hq h5 e1 e2 HPC HPS HPS2 hbuf
    go_wp2
    go_ret2
    exact ⟨by rw [E1.out,E2.out]; rfl,HE.out⟩
theorem put_tree (t : Tr) (c0 c1 c2 c3 : Value) (w : World) (hd : deepT t≤1000000000) (hv : VIn w t c0 c1 c2 c3) :
  Calls Tryz.prog 24 #[.agg #[c0,c1,c2,c3]] w fun e w' => e=.returned (.tuple #[.string (putS t),.int .i64 (putC t : Nat)])∧Below w.heap.size w w':=by
 obtain ⟨a,b,s,o,m,cap,rfl,rfl,rfl,rfl⟩:=hv.cells
 exact put_value t a b s o m cap w hd hv
end Go.Proofs.YtjfjliobencppaaGreatDoor

set_option maxRecDepth 100000
namespace Go.Proofs.YtjfjliobencppaaGreatDoor
open Go.RowKit
theorem text_any (s : ByteArray) (hs : s.size≤1000000000) (w : World) : Calls Tryz.prog 107 #[.string s] w fun e w' => e=.returned (.agg #[.int .i64 2,.int .u64 0,.string s,.slice none 0 0])∧Below w.heap.size w w':=by
 have K39:=Lib.hid (fun w => clone_any s w hs)
 have HBX:=Lib.hid (show Bx w.heap.size (.int .i64 0) (.int .u64 0) (.string ⟨#[]⟩) (.slice none 0 0) (w.alloc (.cells #[.int .i64 0,.int .u64 0,.string ⟨#[]⟩,.slice none 0 0] 69)) from ⟨four_new _ _ _ _ _ _,alloc_lt _ _⟩)
 have HH:=Lib.hid (heap_alloc_new w (.cells #[.int .i64 0,.int .u64 0,.string ⟨#[]⟩,.slice none 0 0] 69))
 have HBL:=Lib.hid (alloc_below w (.cells #[.int .i64 0,.int .u64 0,.string ⟨#[]⟩,.slice none 0 0] 69))
 clear hs
 go_enter Tryz.func107,Tryz.ntmps107
 go_wp2_with fail
 refine (K39.out _).mono ?_
 rintro r w1 ⟨rfl,hb1⟩
 obtain ⟨c0,c1,c2,c3⟩:=(HBX.out.later hb1).1
 have b1:=(hb1.block _ (lt_of_heap HH.out)).trans HH.out
 have y0:=frozen_of_row w1 w.heap.size 0 _ _ b1
 have y1:=frozen_of_row w1 w.heap.size 1 _ _ b1
 have y2:=frozen_of_row w1 w.heap.size 2 _ _ b1
 have y3:=frozen_of_row w1 w.heap.size 3 _ _ b1
 have HB:=Lib.hid (HBL.out.trans (hb1.mono HBL.out.size))
 clear b1 hb1
 go_wp2
 refine bodyPost_ret (v:=.agg #[.int .i64 2,.int .u64 0,.string s,.slice none 0 0]) (by simp [results,Tryz.results107,go_sem, *]) rfl ⟨rfl,?_⟩
 have hle : w.heap.size≤w.heap.size:=Nat.le_refl _
 exact (((HB.out.setCell (p:=⟨w.heap.size,0,none⟩) hle _).setCell (p:=⟨w.heap.size,1,none⟩) hle _).setCell (p:=⟨w.heap.size,2,none⟩) hle _).setCell (p:=⟨w.heap.size,3,none⟩) hle _
theorem num_any (n : Nat) (w : World) : Calls Tryz.prog 60 #[.int .u64 (n : Int)] w fun e w' => e=.returned (.agg #[.int .i64 1,.int .u64 (n : Int),.string ⟨#[]⟩,.slice none 0 0])∧Below w.heap.size w w':=by
 go_enter Tryz.func60,Tryz.ntmps60
 go_wp2
 refine bodyPost_ret (v:=.agg #[.int .i64 1,.int .u64 (n : Int),.string ⟨#[]⟩,.slice none 0 0]) (by simp [results,Tryz.results60,go_sem, *]) rfl ⟨rfl,?_⟩
 exact (Below.refl _ _).alloc (Nat.le_refl _) _
def t5 : Tr:=.mk 3 0 ⟨#[]⟩ [.mk 1 5 ⟨#[]⟩ []]
theorem sh_small (n : Nat) (h : n < 128) : sh n=[UInt8.ofNat n]:=by rw [sh]; simp; omega
theorem t5_put : putC t5=0∧putS t5=⟨#[3,1,1,5]⟩:=by
 have h1 : sndT t5=true:=by simp [t5,sndT,sndL,ByteArray.size]
 have h2 : deepT t5=1:=by simp [t5,deepT,deepL]
 have h3 : txtT t5=[3,1,1,5]:=by simp [t5,txtT,txtL,sh_small]
 have h4 : putC t5=0:=by unfold putC; rw [h1,h2,h3]; rfl
 refine ⟨h4,?_⟩
 unfold putS
 rw [if_pos h4,h3]
 rfl
theorem t5_deep : deepT t5≤1000000000:=by
 have h2 : deepT t5=1:=by simp [t5,deepT,deepL]
 omega
theorem t5_in (w : World) : VInL (w.alloc (.cells #[.int .i64 1,.int .u64 5,.string ⟨#[]⟩,.slice none 0 0] 69)) w.heap.size 0 [.mk 1 5 ⟨#[]⟩ []]:=by
 unfold VInL
 obtain ⟨c0,c1,c2,c3⟩:=four_new w (.int .i64 1) (.int .u64 5) (.string ⟨#[]⟩) (.slice none 0 0) 69
 refine ⟨⟨_,_,_,_,c0,c1,c2,c3,?_⟩,by unfold VInL; trivial⟩
 unfold VIn
 exact ⟨rfl,rfl,by omega,rfl,⟨by simp [ByteArray.size],by simp⟩,none,0,0,0,rfl,fun h => absurd h (by simp),by unfold VInL; trivial⟩
theorem awake7_any (w : World) : Calls Tryz.prog 47 #[] w fun e w' => e=.returned (.bool true)∧Below w.heap.size w w':=by
 have K1:=Lib.hid (fun w => num_any 5 w)
 have K2 : Hid (∀ W : World,Calls Tryz.prog 91 #[.slice (some ⟨W.heap.size,0,none⟩) 1 1] (W.alloc (.cells #[.int .i64 1,.int .u64 5,.string ⟨#[]⟩,.slice none 0 0] 69)) (ToP t5 (W.alloc (.cells #[.int .i64 1,.int .u64 5,.string ⟨#[]⟩,.slice none 0 0] 69)))) :=
  Lib.hid (fun W => list_any [.mk 1 5 ⟨#[]⟩ []] (by simp) _ 1 W.heap.size 0 _ (fun _ => ⟨rfl,alloc_lt _ _⟩) (t5_in W))
 have K3 : Hid (∀ (w : World) (c0 c1 c2 c3 : Value),VIn w t5 c0 c1 c2 c3→Calls Tryz.prog 24 #[.agg #[c0,c1,c2,c3]] w fun e w' => e=.returned (.tuple #[.string ⟨#[3,1,1,5]⟩,.int .i64 0])∧Below w.heap.size w w'):=Lib.hid (fun w c0 c1 c2 c3 h => by
  have h2:=put_tree t5 c0 c1 c2 c3 w t5_deep h
  rw [t5_put.1,t5_put.2] at h2
  exact h2)
 go_enter Tryz.func47,Tryz.ntmps47
 go_wp2_with fail
 refine (K1.out _).mono ?_
 rintro r w1 ⟨rfl,hb1⟩
 go_wp2_with fail
 refine (K2.out w1).mono ?_
 rintro r w2 ⟨d0,d1,d2,d3,rfl,hv,hb2⟩
 have HB2:=Lib.hid ((hb1.alloc hb1.size (.cells #[.int .i64 1,.int .u64 5,.string ⟨#[]⟩,.slice none 0 0] 69)).trans (hb2.mono (Nat.le_trans hb1.size (by simp))))
 have HV:=Lib.hid hv.plain
 clear hb1 hb2 hv
 go_wp2_with fail
 refine (K3.out _ _ _ _ _ HV.out).mono ?_
 rintro r w3 ⟨rfl,hb3⟩
 have HB3:=Lib.hid (HB2.out.trans (hb3.mono HB2.out.size))
 clear hb3
 go_wp2_with fail
 refine (awake1_any _).mono ?_
 rintro r w4 ⟨rfl,hb4⟩
 go_wp2
 go_ret
 exact ⟨rfl,HB3.out.trans (hb4.mono HB3.out.size)⟩
end Go.Proofs.YtjfjliobencppaaGreatDoor

set_option maxRecDepth 1000000
set_option maxHeartbeats 1000000
namespace Go.Proofs.YtjfjliobencppaaGreatDoor.Cf
open Go.RowKit
theorem str_size (l : List UInt8) : (str l).size=l.length:=by rw [← ByteArray.size_data]; show (str l).data.size=_; unfold str; simp
def Pl.bytes (p : Pl) : List UInt8:=[UInt8.ofNat p.a,UInt8.ofNat p.b,UInt8.ofNat p.c,UInt8.ofNat p.d]++be p.port 2
theorem run_ip_string (a b c d : Nat) (ha : a < 256) (hb : b < 256) (hc : c < 256) (hd : d < 256) (g : Nat) (w : World)
  (h0 : w.cell? ⟨g,0,none⟩=some (.int .u8 a)) (h1 : w.cell? ⟨g,1,none⟩=some (.int .u8 b)) (h2 : w.cell? ⟨g,2,none⟩=some (.int .u8 c)) (h3 : w.cell? ⟨g,3,none⟩=some (.int .u8 d)) :
  (convert 113 9 (.slice (some ⟨g,0,none⟩) 4 4)).run Tryz.prog w=.ok (.string (str [UInt8.ofNat a,UInt8.ofNat b,UInt8.ofNat c,UInt8.ofNat d])) w:=by
 have h:=run_convert_bytes_back (P:=Tryz.prog) w 113 9 5 ⟨g,0,none⟩ 4 [UInt8.ofNat a,UInt8.ofNat b,UInt8.ofNat c,UInt8.ofNat d] Tryz.underlying113 Tryz.underlying5 Tryz.underlying9 (fun j hj => by
  match j,hj with
  | 0,_ => simpa [Addr.add,Nat.mod_eq_of_lt ha] using h0
  | 1,_ => simpa [Addr.add,Nat.mod_eq_of_lt hb] using h1
  | 2,_ => simpa [Addr.add,Nat.mod_eq_of_lt hc] using h2
  | 3,_ => simpa [Addr.add,Nat.mod_eq_of_lt hd] using h3)
 exact h
theorem pbytes_any (a b c d p : Nat) (ha : a < 256) (hb : b < 256) (hc : c < 256) (hd : d < 256) (hp : p < 65536) (w : World) :
  Calls Tryz.prog 97 #[.agg #[.int .u8 (a : Int),.int .u8 (b : Int),.int .u8 (c : Int),.int .u8 (d : Int),.int .u16 (p : Int)]] w fun e w' => e=.returned (.string (str (Pl.bytes ⟨a,b,c,d,p⟩)))∧Below w.heap.size w w':=by
 have K1 : Hid (∀ w,Calls Tryz.prog 93 #[.int .u64 (IntKind.u64.wrap (p : Int)),.int .i64 2] w fun e w' => e=.returned (.string (str (be p 2)))∧Below w.heap.size w w'):=Lib.hid (fun w => by
  rw [IntWalk.u64_in _ (by omega)]; exact put_any p 2 (by omega) w)
 obtain ⟨x,hx⟩ : ∃ x,str [UInt8.ofNat a,UInt8.ofNat b,UInt8.ofNat c,UInt8.ofNat d]=x:=⟨_,rfl⟩
 obtain ⟨y,hy⟩ : ∃ y,str (be p 2)=y:=⟨_,rfl⟩
 have hadd : ∀ w,(Op.stringOp .add x y).run Tryz.prog w=.ok (.string (str (Pl.bytes ⟨a,b,c,d,p⟩))) w:=fun w => by
  rw [← hx,← hy,run_string_add_sum w _ _ (by rw [str_size,str_size,be_length]; simp)]
  rfl
 have hcv : ∀ w' : World,w'.cell? ⟨w.heap.size,0,none⟩=some (.int .u8 a)→w'.cell? ⟨w.heap.size,1,none⟩=some (.int .u8 b)→w'.cell? ⟨w.heap.size,2,none⟩=some (.int .u8 c)→w'.cell? ⟨w.heap.size,3,none⟩=some (.int .u8 d) →
   (convert 113 9 (.slice (some ⟨w.heap.size,0,none⟩) 4 4)).run Tryz.prog w'=.ok (.string x) w':=fun w' h0 h1 h2 h3 => by
  rw [← hx]; exact run_ip_string a b c d ha hb hc hd _ w' h0 h1 h2 h3
 rw [hy] at K1
 generalize str (Pl.bytes ⟨a,b,c,d,p⟩)=z at *
 clear hx hy ha hb hc hd
 have g0 : (w.alloc (.cells #[.int .u8 a,.int .u8 b,.int .u8 c,.int .u8 d,.int .u16 p] 49)).cell? ⟨w.heap.size,0,none⟩=some (.int .u8 a):=by rw [World.cell?_alloc_new]; rfl
 have g1 : (w.alloc (.cells #[.int .u8 a,.int .u8 b,.int .u8 c,.int .u8 d,.int .u16 p] 49)).cell? ⟨w.heap.size,1,none⟩=some (.int .u8 b):=by rw [World.cell?_alloc_new]; rfl
 have g2 : (w.alloc (.cells #[.int .u8 a,.int .u8 b,.int .u8 c,.int .u8 d,.int .u16 p] 49)).cell? ⟨w.heap.size,2,none⟩=some (.int .u8 c):=by rw [World.cell?_alloc_new]; rfl
 have g3 : (w.alloc (.cells #[.int .u8 a,.int .u8 b,.int .u8 c,.int .u8 d,.int .u16 p] 49)).cell? ⟨w.heap.size,3,none⟩=some (.int .u8 d):=by rw [World.cell?_alloc_new]; rfl
 have g4 : (w.alloc (.cells #[.int .u8 a,.int .u8 b,.int .u8 c,.int .u8 d,.int .u16 p] 49)).cell? ⟨w.heap.size,4,none⟩=some (.int .u16 p):=by rw [World.cell?_alloc_new]; rfl
 have g5 : w.heap.size < (w.alloc (.cells #[.int .u8 a,.int .u8 b,.int .u8 c,.int .u8 d,.int .u16 p] 49)).heap.size:=by simp
 have g6 : Below w.heap.size w (w.alloc (.cells #[.int .u8 a,.int .u8 b,.int .u8 c,.int .u8 d,.int .u16 p] 49)):=(Below.refl _ _).alloc (Nat.le_refl _) _
 go_enter Tryz.func97,Tryz.ntmps97
 go_wp2
 generalize w.alloc (.cells #[.int .u8 a,.int .u8 b,.int .u8 c,.int .u8 d,.int .u16 p] 49)=W at *
 go_region_held3 (fun w' => w'.cell? ⟨w.heap.size,0,none⟩=some (.int .u8 a)∧w'.cell? ⟨w.heap.size,1,none⟩=some (.int .u8 b)∧w'.cell? ⟨w.heap.size,2,none⟩=some (.int .u8 c)∧w'.cell? ⟨w.heap.size,3,none⟩=some (.int .u8 d)∧w'.cell? ⟨w.heap.size,4,none⟩=some (.int .u16 p)∧w.heap.size < w'.heap.size∧Below w.heap.size w w')
  (first
   | exact ⟨g0,g1,g2,g3,g4,g5,g6.drew⟩
   | (
     go_split_ands
     refine ⟨?_,?_,?_,?_,?_,?_,?_⟩
     ·(rw [hb1.cell (p:=⟨w.heap.size,0,none⟩) (by assumption)]; assumption)
     ·(rw [hb1.cell (p:=⟨w.heap.size,1,none⟩) (by assumption)]; assumption)
     ·(rw [hb1.cell (p:=⟨w.heap.size,2,none⟩) (by assumption)]; assumption)
     ·(rw [hb1.cell (p:=⟨w.heap.size,3,none⟩) (by assumption)]; assumption)
     ·(rw [hb1.cell (p:=⟨w.heap.size,4,none⟩) (by assumption)]; assumption)
     ·exact Nat.lt_of_lt_of_le (by assumption) hb1.size
     ·exact Below.trans (by assumption) (hb1.mono (Nat.le_of_lt (by assumption))))
   | go_keep)
  (first | (go_at_call 93; ((with_reducible refine (K1.out _).mono ?_); rintro e w1 ⟨rfl,hb1⟩)))
 all_goals go_wp2
 all_goals go_ret
 all_goals
  refine ⟨rfl,?_⟩
  rename_i hS
  exact hS.2.2.2.2.2.2
theorem ctext_any (s : ByteArray) (w : World) : Calls Tryz.prog 96 #[.string s] w fun e w' => e=.returned (.agg #[.int .i64 2,.int .u64 0,.string s,.slice none 0 0])∧Below w.heap.size w w':=by
 have HB:=Lib.hid (alloc_below w (.cells #[.int .i64 2,.int .u64 0,.string s,.slice none 0 0] 69))
 go_enter Tryz.func96,Tryz.ntmps96
 go_wp2
 refine bodyPost_ret (v:=.agg #[.int .i64 2,.int .u64 0,.string s,.slice none 0 0]) (by simp [results,Tryz.results96,go_sem, *]) rfl ⟨rfl,?_⟩
 exact HB.out
theorem crow_any (o : Option Addr) (n c : Nat) (w : World) : Calls Tryz.prog 59 #[.slice o n c] w fun e w' => e=.returned (.agg #[.int .i64 3,.int .u64 0,.string ⟨#[]⟩,.slice o n c])∧Below w.heap.size w w':=by
 have HB:=Lib.hid (alloc_below w (.cells #[.int .i64 3,.int .u64 0,.string ⟨#[]⟩,.slice o n c] 69))
 go_enter Tryz.func59,Tryz.ntmps59
 go_wp2
 refine bodyPost_ret (v:=.agg #[.int .i64 3,.int .u64 0,.string ⟨#[]⟩,.slice o n c]) (by simp [results,Tryz.results59,go_sem, *]) rfl ⟨rfl,?_⟩
 exact HB.out
end Go.Proofs.YtjfjliobencppaaGreatDoor.Cf

set_option maxRecDepth 100000
set_option maxHeartbeats 4000000
namespace Go.Proofs.YtjfjliobencppaaGreatDoor.Cf
open Go.RowKit
def Bk (w : World) (g : Nat) (cs : Array Value) (T : TypeId) : Prop:=w.heap[g]?=some (.cells cs T (0,0))
theorem Bk.later {w w' : World} {g : Nat} {cs : Array Value} {T : TypeId} (h : Bk w g cs T) (hb : Below w.heap.size w w') : Bk w' g cs T:=(hb.block _ (lt_of_heap h)).trans h
theorem bk4 {w : World} {g : Nat} {a0 a1 a2 a3 : Value} {T : TypeId} (h : Bk w g #[a0,a1,a2,a3] T) : (w.cell? ⟨g,0,none⟩=some a0∧w.cell? ⟨g,1,none⟩=some a1∧w.cell? ⟨g,2,none⟩=some a2∧w.cell? ⟨g,3,none⟩=some a3)∧(w.frozen? ⟨g,0,none⟩=false∧w.frozen? ⟨g,1,none⟩=false∧w.frozen? ⟨g,2,none⟩=false∧w.frozen? ⟨g,3,none⟩=false) :=
 ⟨⟨(cell_of_row _ _ 0 _ _ _ h).trans rfl,(cell_of_row _ _ 1 _ _ _ h).trans rfl,(cell_of_row _ _ 2 _ _ _ h).trans rfl,(cell_of_row _ _ 3 _ _ _ h).trans rfl⟩,frozen_of_row w g 0 _ _ h,frozen_of_row w g 1 _ _ h,frozen_of_row w g 2 _ _ h,frozen_of_row w g 3 _ _ h⟩
theorem other4 {g : Nat} (w : World) (b : Nat) (hb : b≠g) (a0 a1 a2 a3 : Value) : ((((w.setCell ⟨g,0,none⟩ a0).setCell ⟨g,1,none⟩ a1).setCell ⟨g,2,none⟩ a2).setCell ⟨g,3,none⟩ a3).heap[b]?=w.heap[b]?:=by
 rw [heap_setCell_other _ ⟨g,3,none⟩ b _ hb,heap_setCell_other _ ⟨g,2,none⟩ b _ hb,heap_setCell_other _ ⟨g,1,none⟩ b _ hb,heap_setCell_other _ ⟨g,0,none⟩ b _ hb]
theorem Bk.other4 {w : World} {g q : Nat} {cs : Array Value} {T : TypeId} (h : Bk w q cs T) (hq : q≠g) (a0 a1 a2 a3 : Value) : Bk ((((w.setCell ⟨g,0,none⟩ a0).setCell ⟨g,1,none⟩ a1).setCell ⟨g,2,none⟩ a2).setCell ⟨g,3,none⟩ a3) q cs T:=(Cf.other4 w q hq a0 a1 a2 a3).trans h
theorem put4 {w : World} {g : Nat} {o0 o1 o2 o3 : Value} {T : TypeId} (h : Bk w g #[o0,o1,o2,o3] T) (a0 a1 a2 a3 : Value) : Bk ((((w.setCell ⟨g,0,none⟩ a0).setCell ⟨g,1,none⟩ a1).setCell ⟨g,2,none⟩ a2).setCell ⟨g,3,none⟩ a3) g #[a0,a1,a2,a3] T:=by
 have s0 : _=some (Obj.cells #[a0,o1,o2,o3] T (0,0)):=heap_setCell_same w g 0 _ T a0 h
 have s1 : _=some (Obj.cells #[a0,a1,o2,o3] T (0,0)):=heap_setCell_same _ g 1 _ T a1 s0
 have s2 : _=some (Obj.cells #[a0,a1,a2,o3] T (0,0)):=heap_setCell_same _ g 2 _ T a2 s1
 exact heap_setCell_same _ g 3 _ T a3 s2
theorem below4 {w wz : World} {g : Nat} (h : Below w.heap.size w wz) (hg : w.heap.size≤g) (a b c d : Value) : Below w.heap.size w ((((wz.setCell ⟨g,0,none⟩ a).setCell ⟨g,1,none⟩ b).setCell ⟨g,2,none⟩ c).setCell ⟨g,3,none⟩ d) :=
 (((h.setCell (p:=⟨g,0,none⟩) hg _).setCell (p:=⟨g,1,none⟩) hg _).setCell (p:=⟨g,2,none⟩) hg _).setCell (p:=⟨g,3,none⟩) hg _
def numT (n : Nat) : Tr:=.mk 1 n ⟨#[]⟩ []
def strT (b : ByteArray) : Tr:=.mk 2 0 b []
def rowT (l : List Tr) : Tr:=.mk 3 0 ⟨#[]⟩ l
theorem vin_num (w : World) (P : Nat→Prop) (n : Nat) (h : n≤18446744073709551615) : VInP w P (numT n) (.int .i64 1) (.int .u64 (n : Int)) (.string ⟨#[]⟩) (.slice none 0 0):=by
 unfold numT VInP
 exact ⟨rfl,rfl,h,rfl,⟨by simp [ByteArray.size],by simp⟩,none,0,0,0,rfl,fun h => absurd h (by simp),by unfold VInPL; trivial⟩
theorem vin_str (w : World) (P : Nat→Prop) (b : ByteArray) (h : b.size≤1000000000) : VInP w P (strT b) (.int .i64 2) (.int .u64 (0 : Int)) (.string b) (.slice none 0 0):=by
 unfold strT VInP
 exact ⟨rfl,rfl,by omega,rfl,⟨h,by simp⟩,none,0,0,0,rfl,fun h => absurd h (by simp),by unfold VInPL; trivial⟩
theorem vin_row {w : World} {P : Nat→Prop} {g n : Nat} {cs : Array Value} {T : TypeId} {l : List Tr} (hn : n=l.length) (hl : l.length≤1000000) (hk : Bk w g cs T) (hP : P g)
  (hE : ∀ i (h : i < l.length),∃ d0 d1 d2 d3,cs[i * 4]?=some d0∧cs[i * 4+1]?=some d1∧cs[i * 4+2]?=some d2∧cs[i * 4+3]?=some d3∧VInP w P l[i] d0 d1 d2 d3) :
  VInP w P (rowT l) (.int .i64 3) (.int .u64 0) (.string ⟨#[]⟩) (.slice (some ⟨g,0,none⟩) n n):=by
 subst hn
 unfold rowT VInP
 refine ⟨rfl,rfl,by omega,rfl,⟨by decide,hl⟩,some ⟨g,0,none⟩,l.length,g,0,rfl,fun _ => ⟨rfl,lt_of_heap hk,hP⟩,VInPL.of (fun i hi => ?_)⟩
 obtain ⟨d0,d1,d2,d3,e0,e1,e2,e3,hv⟩:=hE i hi
 rw [Nat.zero_add]
 exact ⟨d0,d1,d2,d3,(cell_of_row _ _ _ _ _ _ hk).trans e0,(cell_of_row _ _ _ _ _ _ hk).trans e1,(cell_of_row _ _ _ _ _ _ hk).trans e2,(cell_of_row _ _ _ _ _ _ hk).trans e3,hv⟩
def WrP (t : Tr) (w : World) (e : Ending) (w' : World) : Prop :=
 ∃ o n c,e=.returned (.agg #[.int .i64 3,.int .u64 0,.string ⟨#[]⟩,.slice o n c])∧VInP w' (fun b => w.heap.size≤b) t (.int .i64 3) (.int .u64 0) (.string ⟨#[]⟩) (.slice o n c)∧Below w.heap.size w w'
theorem vlater {w w' : World} {B : Nat} {t : Tr} {c0 c1 c2 c3 : Value} (h : VInP w (fun b => B≤b) t c0 c1 c2 c3) (hb : Below w.heap.size w w') : VInP w' (fun b => B≤b) t c0 c1 c2 c3:=VInP.keep hb.size (fun b hb' hP => ⟨hb.block b hb',hP⟩) _ h
def Rt.tr (r : Rt) : Tr:=rowT [strT r.host,strT r.path,strT r.cluster,numT r.idle]
def Ep.tr (e : Ep) : Tr:=rowT [strT (str e.p.bytes),numT e.w.toNat]
theorem wroute_any (host path cluster : ByteArray) (idle : Nat) (hh : host.size≤1000000000) (hp : path.size≤1000000000) (hc : cluster.size≤1000000000) (hi : idle≤18446744073709551615) (w : World) : Calls Tryz.prog 99 #[.agg #[.string host,.string path,.string cluster,.int .u64 (idle : Int)]] w (WrP (Rt.tr ⟨host,path,cluster,idle⟩) w):=by
 have HBs:=Lib.hid (show Below w.heap.size w ((w.alloc (.cells #[.string host,.string path,.string cluster,.int .u64 (idle : Int)] 62)).alloc (.cells #[.int .i64 0,.int .u64 0,.string ⟨#[]⟩,.slice none 0 0] 69)) from (alloc_below _ _).trans ((alloc_below _ _).mono (by simp)))
 have HXs:=Lib.hid (show Bk ((w.alloc (.cells #[.string host,.string path,.string cluster,.int .u64 (idle : Int)] 62)).alloc (.cells #[.int .i64 0,.int .u64 0,.string ⟨#[]⟩,.slice none 0 0] 69)) w.heap.size #[.string host,.string path,.string cluster,.int .u64 (idle : Int)] 62 from ((alloc_below _ _).block _ (by simp)).trans (heap_alloc_new w _))
 have HYs : Hid (Bk ((w.alloc (.cells #[.string host,.string path,.string cluster,.int .u64 (idle : Int)] 62)).alloc (.cells #[.int .i64 0,.int .u64 0,.string ⟨#[]⟩,.slice none 0 0] 69)) (w.heap.size+1) #[.int .i64 0,.int .u64 0,.string ⟨#[]⟩,.slice none 0 0] 69):=Lib.hid (by
  have h:=heap_alloc_new (w.alloc (.cells #[.string host,.string path,.string cluster,.int .u64 (idle : Int)] 62)) (.cells #[.int .i64 0,.int .u64 0,.string ⟨#[]⟩,.slice none 0 0] 69)
  rw [show (w.alloc (.cells #[.string host,.string path,.string cluster,.int .u64 (idle : Int)] 62)).heap.size=w.heap.size+1 by simp] at h
  exact h)
 have KR:=Lib.hid (fun o n c w => crow_any o n c w)
 have K1:=Lib.hid (fun w => ctext_any (host) w)
 have K2:=Lib.hid (fun w => ctext_any (path) w)
 have K3:=Lib.hid (fun w => ctext_any (cluster) w)
 have K4:=Lib.hid (fun w => num_any idle w)
 have HOK:=Lib.hid (And.intro hh (And.intro hp (And.intro hc hi)))
 clear hh hp hc hi
 obtain ⟨W0,hW0⟩ : ∃ W0,W0=((w.alloc (.cells #[.string host,.string path,.string cluster,.int .u64 (idle : Int)] 62)).alloc (.cells #[.int .i64 0,.int .u64 0,.string ⟨#[]⟩,.slice none 0 0] 69)):=⟨_,rfl⟩
 rw [← hW0] at HBs HXs HYs
 go_enter Tryz.func99,Tryz.ntmps99
 go_upto_region 1 with (fail)
 rw [← hW0]
 clear hW0
 have HB0:=Lib.hid (show Below w.heap.size w W0.drew from HBs.out.drew)
 have HX0:=Lib.hid (show Bk W0.drew w.heap.size #[.string host,.string path,.string cluster,.int .u64 (idle : Int)] 62 from HXs.out)
 have HY0:=Lib.hid (show Bk W0.drew (w.heap.size+1) #[.int .i64 0,.int .u64 0,.string ⟨#[]⟩,.slice none 0 0] 69 from HYs.out)
 have mkS : Hid (∀ wz,Bk wz w.heap.size #[.string host,.string path,.string cluster,.int .u64 (idle : Int)] 62→wz.cell? ⟨w.heap.size,0,none⟩=some (.string host)∧wz.cell? ⟨w.heap.size,1,none⟩=some (.string path)∧wz.cell? ⟨w.heap.size,2,none⟩=some (.string cluster)∧wz.cell? ⟨w.heap.size,3,none⟩=some (.int .u64 (idle : Int))∧Hid True):=Lib.hid (fun wz h => ⟨(cell_of_row _ _ 0 _ _ _ h).trans rfl,(cell_of_row _ _ 1 _ _ _ h).trans rfl,(cell_of_row _ _ 2 _ _ _ h).trans rfl,(cell_of_row _ _ 3 _ _ _ h).trans rfl,Lib.hid True.intro⟩)
 refine wp_region_held_drew (S:=fun wz => wz.cell? ⟨w.heap.size,0,none⟩=some (.string host)∧wz.cell? ⟨w.heap.size,1,none⟩=some (.string path)∧wz.cell? ⟨w.heap.size,2,none⟩=some (.string cluster)∧wz.cell? ⟨w.heap.size,3,none⟩=some (.int .u64 (idle : Int))∧Hid True) (by kernel_rfl) (mkS.out _ HX0.out) (fun hj9 => ?_)
 generalize W0.drew=wc0 at *
 refine tkH (i:=0) (oi:=⟨some 3,_,_,_,_,_⟩) (v:=?_) rfl (Or.inl ⟨by rfl,by (intro w hSw; (try dsimp only at hSw); go_simp; try with_reducible rfl)⟩) hj9 ?_
 try simp only [Act.put,pS,p0,p1]
 refine tkH (i:=1) (oi:=⟨some 4,_,_,_,_,_⟩) (v:=?_) rfl (Or.inl ⟨by rfl,by (intro w hSw; (try dsimp only at hSw); go_simp; try with_reducible rfl)⟩) hj9 ?_
 try simp only [Act.put,pS,p0,p1]
 refine tkH (i:=3) (oi:=⟨some 6,_,_,_,_,_⟩) (v:=?_) rfl (Or.inl ⟨by rfl,by (intro w hSw; (try dsimp only at hSw); go_simp; try with_reducible rfl)⟩) hj9 ?_
 try simp only [Act.put,pS,p0,p1]
 refine tkH (i:=4) (oi:=⟨some 7,_,_,_,_,_⟩) (v:=?_) rfl (Or.inl ⟨by rfl,by (intro w hSw; (try dsimp only at hSw); go_simp; try with_reducible rfl)⟩) hj9 ?_
 try simp only [Act.put,pS,p0,p1]
 refine tkH (i:=6) (oi:=⟨some 9,_,_,_,_,_⟩) (v:=?_) rfl (Or.inl ⟨by rfl,by (intro w hSw; (try dsimp only at hSw); go_simp; try with_reducible rfl)⟩) hj9 ?_
 try simp only [Act.put,pS,p0,p1]
 refine tkH (i:=7) (oi:=⟨some 10,_,_,_,_,_⟩) (v:=?_) rfl (Or.inl ⟨by rfl,by (intro w hSw; (try dsimp only at hSw); go_simp; try with_reducible rfl)⟩) hj9 ?_
 try simp only [Act.put,pS,p0,p1]
 refine tkH (i:=9) (oi:=⟨some 12,_,_,_,_,_⟩) (v:=?_) rfl (Or.inl ⟨by rfl,by (intro w hSw; (try dsimp only at hSw); go_simp; try with_reducible rfl)⟩) hj9 ?_
 try simp only [Act.put,pS,p0,p1]
 refine tkH (i:=10) (oi:=⟨some 13,_,_,_,_,_⟩) (v:=?_) rfl (Or.inl ⟨by rfl,by (intro w hSw; (try dsimp only at hSw); go_simp; try with_reducible rfl)⟩) hj9 ?_
 try simp only [Act.put,pS,p0,p1]
 refine wpAnyH_ready (rs:=[2]) (by kernel_rfl) (by simp) ?_
 refine AllReadyH.cons (o:=⟨some 5,_,_,_,_,_⟩) rfl (fun K hK => ?_) ?_
 ·go_simp
  refine (K1.out _).mono ?_
  rintro ze wc1 ⟨rfl,hbn⟩
  try go_simp
  have HX1:=Lib.hid (Bk.later HX0.out hbn)
  have HY1:=Lib.hid (Bk.later HY0.out hbn)
  have HB1:=Lib.hid (HB0.out.trans (hbn.mono HB0.out.size))
  refine hK.out _ _ (mkS.out _ HX1.out) (fun hj8 => ?_)
  clear hK K hj9
  have hj9:=hj8
  clear hj8
  clear hbn
  try simp only [Act.put,pS,p0,p1]
  refine wpAnyH_ready (rs:=[5]) (by kernel_rfl) (by simp) ?_
  refine AllReadyH.cons (o:=⟨some 8,_,_,_,_,_⟩) rfl (fun K hK => ?_) ?_
  ·go_simp
   refine (K2.out _).mono ?_
   rintro ze wc2 ⟨rfl,hbn⟩
   try go_simp
   have HX2:=Lib.hid (Bk.later HX1.out hbn)
   have HY2:=Lib.hid (Bk.later HY1.out hbn)
   have HB2:=Lib.hid (HB1.out.trans (hbn.mono HB1.out.size))
   refine hK.out _ _ (mkS.out _ HX2.out) (fun hj8 => ?_)
   clear hK K hj9
   have hj9:=hj8
   clear hj8
   clear hbn
   try simp only [Act.put,pS,p0,p1]
   refine wpAnyH_ready (rs:=[8]) (by kernel_rfl) (by simp) ?_
   refine AllReadyH.cons (o:=⟨some 11,_,_,_,_,_⟩) rfl (fun K hK => ?_) ?_
   ·go_simp
    refine (K3.out _).mono ?_
    rintro ze wc3 ⟨rfl,hbn⟩
    try go_simp
    have HX3:=Lib.hid (Bk.later HX2.out hbn)
    have HY3:=Lib.hid (Bk.later HY2.out hbn)
    have HB3:=Lib.hid (HB2.out.trans (hbn.mono HB2.out.size))
    refine hK.out _ _ (mkS.out _ HX3.out) (fun hj8 => ?_)
    clear hK K hj9
    have hj9:=hj8
    clear hj8
    clear hbn
    try simp only [Act.put,pS,p0,p1]
    refine wpAnyH_ready (rs:=[11]) (by kernel_rfl) (by simp) ?_
    refine AllReadyH.cons (o:=⟨some 14,_,_,_,_,_⟩) rfl (fun K hK => ?_) ?_
    ·go_simp
     refine (K4.out _).mono ?_
     rintro ze wc4 ⟨rfl,hbn⟩
     try go_simp
     have HX4:=Lib.hid (Bk.later HX3.out hbn)
     have HY4:=Lib.hid (Bk.later HY3.out hbn)
     have HB4:=Lib.hid (HB3.out.trans (hbn.mono HB3.out.size))
     refine hK.out _ _ (mkS.out _ HX4.out) (fun hj8 => ?_)
     clear hK K hj9
     have hj9:=hj8
     clear hj8
     clear hbn
     try simp only [Act.put,pS,p0,p1]
     refine wpAnyH_ready (rs:=[12]) (by kernel_rfl) (by simp) ?_
     refine AllReadyH.cons (o:=⟨some 15,_,_,_,_,_⟩) rfl (fun K hK => ?_) ?_
     ·go_simp
      have hbn:=alloc_below wc4 (.cells #[.int .i64 2,.int .u64 0,.string host,.slice none 0 0,.int .i64 2,.int .u64 0,.string path,.slice none 0 0,.int .i64 2,.int .u64 0,.string cluster,.slice none 0 0,.int .i64 1,.int .u64 (idle : Int),.string ⟨#[]⟩,.slice none 0 0] 69)
      have HX5:=Lib.hid (Bk.later HX4.out hbn)
      have HY5:=Lib.hid (Bk.later HY4.out hbn)
      have HB5:=Lib.hid (HB4.out.trans (hbn.mono HB4.out.size))
      have HR5:=Lib.hid (show Bk (wc4.alloc (.cells #[.int .i64 2,.int .u64 0,.string host,.slice none 0 0,.int .i64 2,.int .u64 0,.string path,.slice none 0 0,.int .i64 2,.int .u64 0,.string cluster,.slice none 0 0,.int .i64 1,.int .u64 (idle : Int),.string ⟨#[]⟩,.slice none 0 0] 69)) wc4.heap.size _ 69 from heap_alloc_new wc4 _)
      have HGX:=Lib.hid (show w.heap.size+1 < wc4.heap.size from lt_of_heap HY4.out)
      have HGR:=Lib.hid HB4.out.size
      refine hK.out _ _ (mkS.out _ HX5.out) (fun hj8 => ?_)
      clear hK K hj9
      have hj9:=hj8
      clear hj8
      clear hbn
      try simp only [Act.put,pS,p0,p1]
      generalize wc4.alloc (.cells #[.int .i64 2,.int .u64 0,.string host,.slice none 0 0,.int .i64 2,.int .u64 0,.string path,.slice none 0 0,.int .i64 2,.int .u64 0,.string cluster,.slice none 0 0,.int .i64 1,.int .u64 (idle : Int),.string ⟨#[]⟩,.slice none 0 0] 69)=wc5 at *
      generalize wc4.heap.size=gS at *
      refine wpAnyH_ready (rs:=[13]) (by kernel_rfl) (by simp) ?_
      refine AllReadyH.cons (o:=⟨some 16,_,_,_,_,_⟩) rfl (fun K hK => ?_) ?_
      ·go_simp
       refine (KR.out _ _ _ _).mono ?_
       rintro ze wc6 ⟨rfl,hbn⟩
       try go_simp
       have HX6:=Lib.hid (Bk.later HX5.out hbn)
       have HY6:=Lib.hid (Bk.later HY5.out hbn)
       have HB6:=Lib.hid (HB5.out.trans (hbn.mono HB5.out.size))
       have HR6:=Lib.hid (Bk.later HR5.out hbn)
       refine hK.out _ _ (mkS.out _ HX6.out) (fun hj8 => ?_)
       clear hK K hj9
       have hj9:=hj8
       clear hj8
       clear hbn
       try simp only [Act.put,pS,p0,p1]
       refine wpAnyH_ready (rs:=[14]) (by kernel_rfl) (by simp) ?_
       refine AllReadyH.cons (o:=⟨none,_,_,_,_,_⟩) rfl (fun K hK => ?_) ?_
       ·obtain ⟨⟨y0,y1,y2,y3⟩,z0,z1,z2,z3⟩:=bk4 HY6.out
        go_simp
        have HZ:=Lib.hid (put4 HY6.out (.int .i64 3) (.int .u64 0) (.string ⟨#[]⟩) (.slice (some ⟨gS,0,none⟩) 4 4))
        have HX7:=Lib.hid (Bk.other4 (g:=w.heap.size+1) HX6.out (by omega) (.int .i64 3) (.int .u64 0) (.string ⟨#[]⟩) (.slice (some ⟨gS,0,none⟩) 4 4))
        have HKE:=Lib.hid (fun b (hb : b≠w.heap.size+1) => other4 (g:=w.heap.size+1) wc6 b hb (.int .i64 3) (.int .u64 0) (.string ⟨#[]⟩) (.slice (some ⟨gS,0,none⟩) 4 4))
        have HB7:=Lib.hid (below4 (g:=w.heap.size+1) HB6.out (by omega) (.int .i64 3) (.int .u64 0) (.string ⟨#[]⟩) (.slice (some ⟨gS,0,none⟩) 4 4))
        refine hK.out _ _ (mkS.out _ HX7.out) (fun hj8 => ?_)
        clear hK K hj9
        have hj9:=hj8
        clear hj8
        clear y0 y1 y2 y3 z0 z1 z2 z3
        try simp only [Act.put,pS,p0,p1]
        generalize ((((wc6.setCell ⟨w.heap.size+1,0,none⟩ (.int .i64 3)).setCell ⟨w.heap.size+1,1,none⟩ (.int .u64 0)).setCell ⟨w.heap.size+1,2,none⟩ (.string ⟨#[]⟩)).setCell ⟨w.heap.size+1,3,none⟩ (.slice (some ⟨gS,0,none⟩) 4 4))=wc7 at *
        refine wpAnyH_done (by kernel_rfl) ?_ _
        simp only [Exit.then]
        apply_assumption
        obtain ⟨⟨y0,y1,y2,y3⟩,z0,z1,z2,z3⟩:=bk4 HZ.out
        have HF:=Lib.hid HB7.out
        have HRF:=Lib.hid HR6.out
        have HBm:=Lib.hid HB6.out
        try go_wp2
        refine bodyPost_ret (v:=.agg #[.int .i64 3,.int .u64 0,.string ⟨#[]⟩,.slice (some ⟨gS,0,none⟩) 4 4]) (by simp [results,Tryz.results99,go_sem, *]) rfl ⟨_,_,_,rfl,?_,HF.out⟩
        have hg : w.heap.size+1 < gS:=HGX.out
        have hrk:=(HKE.out gS (by omega)).trans HRF.out
        refine vin_row (l:=[strT host,strT path,strT cluster,numT idle]) rfl (by simp) hrk (by omega) (fun i hi => ?_)
        match i,hi with
        | 0,_ => exact ⟨_,_,_,_,rfl,rfl,rfl,rfl,vin_str _ _ _ HOK.out.1⟩
        | 1,_ => exact ⟨_,_,_,_,rfl,rfl,rfl,rfl,vin_str _ _ _ HOK.out.2.1⟩
        | 2,_ => exact ⟨_,_,_,_,rfl,rfl,rfl,rfl,vin_str _ _ _ HOK.out.2.2.1⟩
        | 3,_ => exact ⟨_,_,_,_,rfl,rfl,rfl,rfl,vin_num _ _ _ HOK.out.2.2.2⟩
       ·exact AllReadyH.nil
      ·exact AllReadyH.nil
     ·exact AllReadyH.nil
    ·exact AllReadyH.nil
   ·exact AllReadyH.nil
  ·exact AllReadyH.nil
 ·exact AllReadyH.nil
theorem wendpoint_any (a b c d port : Nat) (wt : Int) (hok : Pl.ok ⟨a,b,c,d,port⟩) (h0 : 0≤wt) (h1 : wt≤9223372036854775807) (w : World) : Calls Tryz.prog 102 #[.agg #[.int .u8 (a : Int),.int .u8 (b : Int),.int .u8 (c : Int),.int .u8 (d : Int),.int .u16 (port : Int),.int .i64 wt]] w (WrP (Ep.tr ⟨⟨a,b,c,d,port⟩,wt⟩) w):=by
 have HBs:=Lib.hid (show Below w.heap.size w ((w.alloc (.cells #[.int .u8 (a : Int),.int .u8 (b : Int),.int .u8 (c : Int),.int .u8 (d : Int),.int .u16 (port : Int),.int .i64 wt] 64)).alloc (.cells #[.int .i64 0,.int .u64 0,.string ⟨#[]⟩,.slice none 0 0] 69)) from (alloc_below _ _).trans ((alloc_below _ _).mono (by simp)))
 have HXs:=Lib.hid (show Bk ((w.alloc (.cells #[.int .u8 (a : Int),.int .u8 (b : Int),.int .u8 (c : Int),.int .u8 (d : Int),.int .u16 (port : Int),.int .i64 wt] 64)).alloc (.cells #[.int .i64 0,.int .u64 0,.string ⟨#[]⟩,.slice none 0 0] 69)) w.heap.size #[.int .u8 (a : Int),.int .u8 (b : Int),.int .u8 (c : Int),.int .u8 (d : Int),.int .u16 (port : Int),.int .i64 wt] 64 from ((alloc_below _ _).block _ (by simp)).trans (heap_alloc_new w _))
 have HYs : Hid (Bk ((w.alloc (.cells #[.int .u8 (a : Int),.int .u8 (b : Int),.int .u8 (c : Int),.int .u8 (d : Int),.int .u16 (port : Int),.int .i64 wt] 64)).alloc (.cells #[.int .i64 0,.int .u64 0,.string ⟨#[]⟩,.slice none 0 0] 69)) (w.heap.size+1) #[.int .i64 0,.int .u64 0,.string ⟨#[]⟩,.slice none 0 0] 69):=Lib.hid (by
  have h:=heap_alloc_new (w.alloc (.cells #[.int .u8 (a : Int),.int .u8 (b : Int),.int .u8 (c : Int),.int .u8 (d : Int),.int .u16 (port : Int),.int .i64 wt] 64)) (.cells #[.int .i64 0,.int .u64 0,.string ⟨#[]⟩,.slice none 0 0] 69)
  rw [show (w.alloc (.cells #[.int .u8 (a : Int),.int .u8 (b : Int),.int .u8 (c : Int),.int .u8 (d : Int),.int .u16 (port : Int),.int .i64 wt] 64)).heap.size=w.heap.size+1 by simp] at h
  exact h)
 have KR:=Lib.hid (fun o n c w => crow_any o n c w)
 have K1:=Lib.hid (fun w => pbytes_any a b c d port (by have:=hok.1; simp only at this; omega) (by have:=hok.2.1; simp only at this; omega) (by have:=hok.2.2.1; simp only at this; omega) (by have:=hok.2.2.2.1; simp only at this; omega) (by have:=hok.2.2.2.2; simp only at this; omega) w)
 obtain ⟨u,rfl⟩ : ∃ u : Nat,wt=(u : Int):=⟨wt.toNat,by omega⟩
 have K3 : Hid (∀ w,Calls Tryz.prog 60 #[.int .u64 (IntKind.u64.wrap (u : Int))] w fun e w' => e=.returned (.agg #[.int .i64 1,.int .u64 (u : Int),.string ⟨#[]⟩,.slice none 0 0])∧Below w.heap.size w w'):=Lib.hid (fun w => by rw [IntWalk.u64_in _ (by omega)]; exact num_any u w)
 have HS : Hid ((str (Pl.bytes ⟨a,b,c,d,port⟩)).size≤1000000000):=Lib.hid (by rw [str_size]; unfold Pl.bytes; simp [be_length])
 have HU : Hid (u≤18446744073709551615):=Lib.hid (by omega)
 have HTR : Hid (Ep.tr ⟨⟨a,b,c,d,port⟩,(u : Int)⟩=rowT [strT (str (Pl.bytes ⟨a,b,c,d,port⟩)),numT u]):=Lib.hid rfl
 rw [HTR.out]
 clear hok h0 h1 HTR
 generalize str (Pl.bytes ⟨a,b,c,d,port⟩)=S at *
 have K2:=Lib.hid (fun w => ctext_any S w)
 obtain ⟨W0,hW0⟩ : ∃ W0,W0=((w.alloc (.cells #[.int .u8 (a : Int),.int .u8 (b : Int),.int .u8 (c : Int),.int .u8 (d : Int),.int .u16 (port : Int),.int .i64 (u : Int)] 64)).alloc (.cells #[.int .i64 0,.int .u64 0,.string ⟨#[]⟩,.slice none 0 0] 69)):=⟨_,rfl⟩
 rw [← hW0] at HBs HXs HYs
 go_enter Tryz.func102,Tryz.ntmps102
 go_upto_region 1 with (fail)
 rw [← hW0]
 clear hW0
 have HB0:=Lib.hid (show Below w.heap.size w W0.drew from HBs.out.drew)
 have HX0:=Lib.hid (show Bk W0.drew w.heap.size #[.int .u8 (a : Int),.int .u8 (b : Int),.int .u8 (c : Int),.int .u8 (d : Int),.int .u16 (port : Int),.int .i64 (u : Int)] 64 from HXs.out)
 have HY0:=Lib.hid (show Bk W0.drew (w.heap.size+1) #[.int .i64 0,.int .u64 0,.string ⟨#[]⟩,.slice none 0 0] 69 from HYs.out)
 have mkS : Hid (∀ wz,Bk wz w.heap.size #[.int .u8 (a : Int),.int .u8 (b : Int),.int .u8 (c : Int),.int .u8 (d : Int),.int .u16 (port : Int),.int .i64 (u : Int)] 64→wz.cell? ⟨w.heap.size,0,none⟩=some (.int .u8 (a : Int))∧wz.cell? ⟨w.heap.size,1,none⟩=some (.int .u8 (b : Int))∧wz.cell? ⟨w.heap.size,2,none⟩=some (.int .u8 (c : Int))∧wz.cell? ⟨w.heap.size,3,none⟩=some (.int .u8 (d : Int))∧wz.cell? ⟨w.heap.size,4,none⟩=some (.int .u16 (port : Int))∧wz.cell? ⟨w.heap.size,5,none⟩=some (.int .i64 (u : Int))∧Hid True):=Lib.hid (fun wz h => ⟨(cell_of_row _ _ 0 _ _ _ h).trans rfl,(cell_of_row _ _ 1 _ _ _ h).trans rfl,(cell_of_row _ _ 2 _ _ _ h).trans rfl,(cell_of_row _ _ 3 _ _ _ h).trans rfl,(cell_of_row _ _ 4 _ _ _ h).trans rfl,(cell_of_row _ _ 5 _ _ _ h).trans rfl,Lib.hid True.intro⟩)
 refine wp_region_held_drew (S:=fun wz => wz.cell? ⟨w.heap.size,0,none⟩=some (.int .u8 (a : Int))∧wz.cell? ⟨w.heap.size,1,none⟩=some (.int .u8 (b : Int))∧wz.cell? ⟨w.heap.size,2,none⟩=some (.int .u8 (c : Int))∧wz.cell? ⟨w.heap.size,3,none⟩=some (.int .u8 (d : Int))∧wz.cell? ⟨w.heap.size,4,none⟩=some (.int .u16 (port : Int))∧wz.cell? ⟨w.heap.size,5,none⟩=some (.int .i64 (u : Int))∧Hid True) (by kernel_rfl) (mkS.out _ HX0.out) (fun hj9 => ?_)
 generalize W0.drew=wc0 at *
 refine tkH (i:=0) (oi:=⟨some 3,_,_,_,_,_⟩) (v:=?_) rfl (Or.inl ⟨by rfl,by (intro w hSw; (try dsimp only at hSw); go_simp; try with_reducible rfl)⟩) hj9 ?_
 try simp only [Act.put,pS,p0,p1]
 refine tkH (i:=1) (oi:=⟨some 4,_,_,_,_,_⟩) (v:=?_) rfl (Or.inl ⟨by rfl,by (intro w hSw; (try dsimp only at hSw); go_simp; try with_reducible rfl)⟩) hj9 ?_
 try simp only [Act.put,pS,p0,p1]
 refine tkH (i:=4) (oi:=⟨some 7,_,_,_,_,_⟩) (v:=?_) rfl (Or.inl ⟨by rfl,by (intro w hSw; (try dsimp only at hSw); go_simp; try with_reducible rfl)⟩) hj9 ?_
 try simp only [Act.put,pS,p0,p1]
 refine tkH (i:=5) (oi:=⟨some 8,_,_,_,_,_⟩) (v:=?_) rfl (Or.inl ⟨by rfl,by (intro w hSw; (try dsimp only at hSw); go_simp; try with_reducible rfl)⟩) hj9 ?_
 try simp only [Act.put,pS,p0,p1]
 refine tkH (i:=6) (oi:=⟨some 9,_,_,_,_,_⟩) (v:=?_) rfl (Or.inl ⟨by rfl,by (intro w hSw; (try dsimp only at hSw); go_simp; try with_reducible rfl)⟩) hj9 ?_
 try simp only [Act.put,pS,p0,p1]
 refine wpAnyH_ready (rs:=[2]) (by kernel_rfl) (by simp) ?_
 refine AllReadyH.cons (o:=⟨some 5,_,_,_,_,_⟩) rfl (fun K hK => ?_) ?_
 ·go_simp
  refine (K1.out _).mono ?_
  rintro ze wc1 ⟨rfl,hbn⟩
  try go_simp
  have HX1:=Lib.hid (Bk.later HX0.out hbn)
  have HY1:=Lib.hid (Bk.later HY0.out hbn)
  have HB1:=Lib.hid (HB0.out.trans (hbn.mono HB0.out.size))
  refine hK.out _ _ (mkS.out _ HX1.out) (fun hj8 => ?_)
  clear hK K hj9
  have hj9:=hj8
  clear hj8
  clear hbn
  try simp only [Act.put,pS,p0,p1]
  refine wpAnyH_ready (rs:=[3]) (by kernel_rfl) (by simp) ?_
  refine AllReadyH.cons (o:=⟨some 6,_,_,_,_,_⟩) rfl (fun K hK => ?_) ?_
  ·go_simp
   refine (K2.out _).mono ?_
   rintro ze wc2 ⟨rfl,hbn⟩
   try go_simp
   have HX2:=Lib.hid (Bk.later HX1.out hbn)
   have HY2:=Lib.hid (Bk.later HY1.out hbn)
   have HB2:=Lib.hid (HB1.out.trans (hbn.mono HB1.out.size))
   refine hK.out _ _ (mkS.out _ HX2.out) (fun hj8 => ?_)
   clear hK K hj9
   have hj9:=hj8
   clear hj8
   clear hbn
   try simp only [Act.put,pS,p0,p1]
   refine wpAnyH_ready (rs:=[7]) (by kernel_rfl) (by simp) ?_
   refine AllReadyH.cons (o:=⟨some 10,_,_,_,_,_⟩) rfl (fun K hK => ?_) ?_
   ·go_simp
    refine (K3.out _).mono ?_
    rintro ze wc3 ⟨rfl,hbn⟩
    try go_simp
    have HX3:=Lib.hid (Bk.later HX2.out hbn)
    have HY3:=Lib.hid (Bk.later HY2.out hbn)
    have HB3:=Lib.hid (HB2.out.trans (hbn.mono HB2.out.size))
    refine hK.out _ _ (mkS.out _ HX3.out) (fun hj8 => ?_)
    clear hK K hj9
    have hj9:=hj8
    clear hj8
    clear hbn
    try simp only [Act.put,pS,p0,p1]
    refine wpAnyH_ready (rs:=[8]) (by kernel_rfl) (by simp) ?_
    refine AllReadyH.cons (o:=⟨some 11,_,_,_,_,_⟩) rfl (fun K hK => ?_) ?_
    ·go_simp
     have hbn:=alloc_below wc3 (.cells #[.int .i64 2,.int .u64 0,.string S,.slice none 0 0,.int .i64 1,.int .u64 (u : Int),.string ⟨#[]⟩,.slice none 0 0] 69)
     have HX4:=Lib.hid (Bk.later HX3.out hbn)
     have HY4:=Lib.hid (Bk.later HY3.out hbn)
     have HB4:=Lib.hid (HB3.out.trans (hbn.mono HB3.out.size))
     have HR4:=Lib.hid (show Bk (wc3.alloc (.cells #[.int .i64 2,.int .u64 0,.string S,.slice none 0 0,.int .i64 1,.int .u64 (u : Int),.string ⟨#[]⟩,.slice none 0 0] 69)) wc3.heap.size _ 69 from heap_alloc_new wc3 _)
     have HGX:=Lib.hid (show w.heap.size+1 < wc3.heap.size from lt_of_heap HY3.out)
     have HGR:=Lib.hid HB3.out.size
     refine hK.out _ _ (mkS.out _ HX4.out) (fun hj8 => ?_)
     clear hK K hj9
     have hj9:=hj8
     clear hj8
     clear hbn
     try simp only [Act.put,pS,p0,p1]
     generalize wc3.alloc (.cells #[.int .i64 2,.int .u64 0,.string S,.slice none 0 0,.int .i64 1,.int .u64 (u : Int),.string ⟨#[]⟩,.slice none 0 0] 69)=wc4 at *
     generalize wc3.heap.size=gS at *
     refine wpAnyH_ready (rs:=[9]) (by kernel_rfl) (by simp) ?_
     refine AllReadyH.cons (o:=⟨some 12,_,_,_,_,_⟩) rfl (fun K hK => ?_) ?_
     ·go_simp
      refine (KR.out _ _ _ _).mono ?_
      rintro ze wc5 ⟨rfl,hbn⟩
      try go_simp
      have HX5:=Lib.hid (Bk.later HX4.out hbn)
      have HY5:=Lib.hid (Bk.later HY4.out hbn)
      have HB5:=Lib.hid (HB4.out.trans (hbn.mono HB4.out.size))
      have HR5:=Lib.hid (Bk.later HR4.out hbn)
      refine hK.out _ _ (mkS.out _ HX5.out) (fun hj8 => ?_)
      clear hK K hj9
      have hj9:=hj8
      clear hj8
      clear hbn
      try simp only [Act.put,pS,p0,p1]
      refine wpAnyH_ready (rs:=[10]) (by kernel_rfl) (by simp) ?_
      refine AllReadyH.cons (o:=⟨none,_,_,_,_,_⟩) rfl (fun K hK => ?_) ?_
      ·obtain ⟨⟨y0,y1,y2,y3⟩,z0,z1,z2,z3⟩:=bk4 HY5.out
       go_simp
       have HZ:=Lib.hid (put4 HY5.out (.int .i64 3) (.int .u64 0) (.string ⟨#[]⟩) (.slice (some ⟨gS,0,none⟩) 2 2))
       have HX6:=Lib.hid (Bk.other4 (g:=w.heap.size+1) HX5.out (by omega) (.int .i64 3) (.int .u64 0) (.string ⟨#[]⟩) (.slice (some ⟨gS,0,none⟩) 2 2))
       have HKE:=Lib.hid (fun b (hb : b≠w.heap.size+1) => other4 (g:=w.heap.size+1) wc5 b hb (.int .i64 3) (.int .u64 0) (.string ⟨#[]⟩) (.slice (some ⟨gS,0,none⟩) 2 2))
       have HB6:=Lib.hid (below4 (g:=w.heap.size+1) HB5.out (by omega) (.int .i64 3) (.int .u64 0) (.string ⟨#[]⟩) (.slice (some ⟨gS,0,none⟩) 2 2))
       refine hK.out _ _ (mkS.out _ HX6.out) (fun hj8 => ?_)
       clear hK K hj9
       have hj9:=hj8
       clear hj8
       clear y0 y1 y2 y3 z0 z1 z2 z3
       try simp only [Act.put,pS,p0,p1]
       generalize ((((wc5.setCell ⟨w.heap.size+1,0,none⟩ (.int .i64 3)).setCell ⟨w.heap.size+1,1,none⟩ (.int .u64 0)).setCell ⟨w.heap.size+1,2,none⟩ (.string ⟨#[]⟩)).setCell ⟨w.heap.size+1,3,none⟩ (.slice (some ⟨gS,0,none⟩) 2 2))=wc6 at *
       refine wpAnyH_done (by kernel_rfl) ?_ _
       simp only [Exit.then]
       apply_assumption
       obtain ⟨⟨y0,y1,y2,y3⟩,z0,z1,z2,z3⟩:=bk4 HZ.out
       have HF:=Lib.hid HB6.out
       have HRF:=Lib.hid HR5.out
       have HBm:=Lib.hid HB5.out
       try go_wp2
       refine bodyPost_ret (v:=.agg #[.int .i64 3,.int .u64 0,.string ⟨#[]⟩,.slice (some ⟨gS,0,none⟩) 2 2]) (by simp [results,Tryz.results102,go_sem, *]) rfl ⟨_,_,_,rfl,?_,HF.out⟩
       have hg : w.heap.size+1 < gS:=HGX.out
       have hrk:=(HKE.out gS (by omega)).trans HRF.out
       refine vin_row (l:=[strT S,numT u]) rfl (by simp) hrk (by omega) (fun i hi => ?_)
       match i,hi with
       | 0,_ => exact ⟨_,_,_,_,rfl,rfl,rfl,rfl,vin_str _ _ _ HS.out⟩
       | 1,_ => exact ⟨_,_,_,_,rfl,rfl,rfl,rfl,vin_num _ _ _ HU.out⟩
      ·exact AllReadyH.nil
     ·exact AllReadyH.nil
    ·exact AllReadyH.nil
   ·exact AllReadyH.nil
  ·exact AllReadyH.nil
 ·exact AllReadyH.nil
end Go.Proofs.YtjfjliobencppaaGreatDoor.Cf

set_option maxRecDepth 100000
set_option maxHeartbeats 4000000
namespace Go.Proofs.YtjfjliobencppaaGreatDoor.Cf
open Go.RowKit
def slen : Value→Nat | .slice _ n _ => n | _ => 0
def EachJ (ts : List Tr) (v f : Value) (w : World) (a' : Act) (w' : World) : Prop :=
 ∃ (j : Nat) (ρ : Option Nat) (oo : Option Addr) (cc : Nat) (xs : List Value) (u2 u3 u4 u6 u7 u8 u9 u10 u11 u12 u13 u14 u15 u16 u17 u18 u19 u20 u21 : Value),j≤ts.length∧a'={ tmps:=#[v,f,u2,u3,u4,.slice oo j cc,u6,u7,u8,u9,u10,u11,u12,u13,u14,u15,u16,u17,u18,u19,u20,u21],defers:=[] }∧Hid (ClW w ts ρ oo cc j xs w')
theorem wp_scope_again {P : Program} {R X : Code} {a : Act} {w : World} {Q : Exit→Act→World→Prop} (l : Nat) (J : Act→World→Prop) (μ : Act→World→Nat) (hR : findLabel R l=none)
  (h0 : ∀ (K : Act→World→Prop) (Qe : Exit→Act→World→Prop),(∀ a w,J a w→K a w)→R.wp P (Exit.then K Qe) a w)
  (pass : ∀ a w,J a w→X.wp P (Exit.jump l (fun a' w' => J a' w'∧μ a' w' < μ a w) Q) a w) : (Code.scope (.seq R (.seq (.label l) X))).wp P Q a w :=
 wp_scope_jumps l J μ (rest:=.seq .skip X) (by simp [findLabel,hR]) (wp_seq (h0 _ _ fun a w h => wp_seq (wp_label (wp_mono (pass a w h) (by
  intro e a w h
  cases e with
  | goto l' => exact ⟨h.1,h.2.1⟩
  | _ => exact h))))) (fun a w h => wp_seq (wp_skip (pass a w h)))
theorem wpList_vrow {w : World} {ops : Array Oper} {rest : List Oper} {o : Oper} {a : Act} {Q : Exit→Act→World→Prop} (s x : Operand) (t T : TypeId) (hgd : o.guard=none)
  (ho : o.op=.call { callee:=.builtin .append,args:=#[s,x],argTypes:=#[t,t] })
  (hu : Tryz.prog.underlying t=some (.slice T)) (hinfo : (Tryz.prog.info? T).map (fun i => (i.zero,i.size,i.bytes))=some (some (.agg #[.int .i64 0,.int .u64 0,.string ⟨#[]⟩,.slice none 0 0]),4,56))
  (g : Nat) (ρ : Option Nat) (oo : Option Addr) (cap n : Nat) (xs : List Value) (hR : VRow T ρ oo cap n xs w) (hn : n+1≤1000000000) (ad : Addr) (news : List Value) (hl : news.length=4) (hnews : ∀ j u,news[j]?=some u→w.cell? (ad.add j)=some u) (h1 : ∀ u ∈ news,u.oneCell'=true)
  (hs : a.eval s=.slice oo n cap) (hx : a.eval x=.slice (some ad) 1 1)
  (h : ∀ o' cap' w' ρ',VRow T ρ' o' cap' (n+1) (xs++news) w'→Nxt ρ ρ' w→Chg g ρ w w'→wpList Tryz.prog ops Q rest (a.put o.dst (.slice o' (n+1) cap')) w') : wpList Tryz.prog ops Q (o::rest) a w:=by
 refine wpList_plain hgd fun K' hK' => ?_
 obtain ⟨o',cap',w',ρ',hr,h2,h3,h4⟩:=vrow_append t T o.type hu hinfo g w ρ oo cap n xs hR hn ad news hl hnews h1
 unfold Oper.wp execOp
 simp only [ho,resolve,invoke,builtin,Sem.run_bind,Sem.run_pure,Result.andThen_ok,List.map_toArray,List.map_cons,List.map_nil,hs,hx,hr]
 exact hK' _ _ (h o' cap' w' ρ' h2 h3 h4)
theorem vin_apart {w wr w5 : World} {ts : List Tr} {ρ : Option Nat} {oo : Option Addr} {cc j : Nat} {xs : List Value} {t : Tr} {c0 c1 c2 c3 : Value} (hT : ClW w ts ρ oo cc j xs wr) (hv : VInP w5 (fun b => wr.heap.size≤b) t c0 c1 c2 c3) (o : Obj) : VInP (w5.alloc o) (fun b => w.heap.size≤b∧ρ≠some b) t c0 c1 c2 c3 :=
 VInP.keep (alloc_below w5 o).size (fun b hb hP => ⟨(alloc_below w5 o).block b hb,Nat.le_trans hT.1.size hP,fun e => Nat.lt_irrefl _ (Nat.lt_of_lt_of_le (hT.2.1.lt b e) hP)⟩) _ hv
theorem each_end (ts : List Tr) (o : Option Addr) (cap b off : Nat) (hlen : ts.length≤1000000) (w : World) (ho : 0 < ts.length→o=some ⟨b,off,none⟩∧b < w.heap.size)
  (hE : ∀ i (h : i < ts.length),∃ c0 c1 c2 c3 c4 c5,w.cell? ⟨b,off+i * 6,none⟩=some c0∧w.cell? ⟨b,off+i * 6+1,none⟩=some c1∧w.cell? ⟨b,off+i * 6+2,none⟩=some c2∧w.cell? ⟨b,off+i * 6+3,none⟩=some c3∧w.cell? ⟨b,off+i * 6+4,none⟩=some c4∧w.cell? ⟨b,off+i * 6+5,none⟩=some c5∧∀ wz,Below w.heap.size w wz→Calls Tryz.prog 102 #[.agg #[c0,c1,c2,c3,c4,c5]] wz (WrP ts[i] wz)) :
  Calls Tryz.prog 127 #[.slice o ts.length cap,(.func (.func 102) #[] #[])] w (ClP ts w):=by
 obtain ⟨m,hm⟩ : ∃ m,m=ts.length:=⟨_,rfl⟩
 rw [← hm] at hlen ⊢
 have HM:=Lib.hid hm
 have HO:=Lib.hid ho
 have HE:=Lib.hid hE
 clear ho hE hm
 go_enter Tryz.func127,Tryz.ntmps127
 go_wp2
 refine wp_scope_again 0 (EachJ ts (.slice o m cap) (.func (.func 102) #[] #[]) w) (fun a' _ => m - slen (a'.tmps.getD 5 undef)) rfl ?_ ?_
 ·intro K Qe hK
  go_wp2
  first | exact hK _ _ ⟨0,none,none,0,[],_,_,_,_,_,_,_,_,_,_,_,_,_,_,_,_,_,_,_,Nat.zero_le _,rfl,Lib.hid ⟨Below.refl _ _,VRow.nil 69 _,fun r hr => (by cases hr),fun i _ h => absurd h (by omega)⟩⟩ | exact ⟨0,none,none,0,[],_,_,_,_,_,_,_,_,_,_,_,_,_,_,_,_,_,_,_,Nat.zero_le _,rfl,Lib.hid ⟨Below.refl _ _,VRow.nil 69 _,fun r hr => (by cases hr),fun i _ h => absurd h (by omega)⟩⟩
 ·rintro a' wr ⟨j,ρ,oo,cc,xs,u2,u3,u4,u6,u7,u8,u9,u10,u11,u12,u13,u14,u15,u16,u17,u18,u19,u20,u21,hj,rfl,hT⟩
  rw [← HM.out] at hj
  by_cases hjm : j < m
  ·have hjl : j < ts.length:=by rw [← HM.out]; exact hjm
   obtain ⟨ho',hb'⟩:=HO.out (by omega)
   subst ho'
   obtain ⟨c0,c1,c2,c3,c4,c5,e0,e1,e2,e3,e4,e5,hK⟩:=HE.out j hjl
   have f0:=(hT.out.1.cell (p:=⟨b,off+j * 6,none⟩) hb').trans e0
   have f1:=(hT.out.1.cell (p:=⟨b,off+j * 6+1,none⟩) hb').trans e1
   have f2:=(hT.out.1.cell (p:=⟨b,off+j * 6+2,none⟩) hb').trans e2
   have f3:=(hT.out.1.cell (p:=⟨b,off+j * 6+3,none⟩) hb').trans e3
   have f4:=(hT.out.1.cell (p:=⟨b,off+j * 6+4,none⟩) hb').trans e4
   have f5:=(hT.out.1.cell (p:=⟨b,off+j * 6+5,none⟩) hb').trans e5
   have K1:=Lib.hid (hK wr hT.out.1)
   have HJL:=Lib.hid hjl
   clear e0 e1 e2 e3 e4 e5 hK
   go_wp2_with fail
   refine (K1.out).mono ?_
   rintro r w5 ⟨o2,n2,c2,rfl,hv5,hb5⟩
   have HT5:=Lib.hid ((hT.out.later hb5).later (alloc_below w5 (.cells #[.int .i64 3,.int .u64 0,.string ⟨#[]⟩,.slice o2 n2 c2] 69)))
   have HV5:=Lib.hid (vin_apart hT.out hv5 (.cells #[.int .i64 3,.int .u64 0,.string ⟨#[]⟩,.slice o2 n2 c2] 69))
   clear hv5 hb5
   go_wp2_with (first
    | (at_builtin; go_must (refine wpList_vrow (.tmp 11) (.tmp 19) 67 69 rfl rfl Tryz.underlying67 info27 (w5.alloc (.cells #[.int .i64 3,.int .u64 0,.string ⟨#[]⟩,.slice o2 n2 c2] 69)).heap.size ρ oo cc j xs HT5.out.2.1 (by omega) _ [.int .i64 3,.int .u64 0,.string ⟨#[]⟩,.slice o2 n2 c2] rfl (news_at w5 _ 69 _ rfl) (by intro u hu; simp at hu; rcases hu with rfl | rfl | rfl | rfl <;> rfl) rfl rfl ?_); intro o7 cap7 w7 ρ7 hr7 hn7 hc7; have HTP:=Lib.hid (clw_put HJL.out HT5.out HV5.out hr7 hn7 hc7); clear hr7 hn7 hc7))
   go_step3
   refine ⟨rfl,⟨j+1,ρ7,o7,cap7,_,_,_,_,_,_,_,_,_,_,_,_,_,_,_,_,_,_,_,_,HJL.out,rfl,HTP⟩,?_⟩
   have HJM:=HJL.out
   rw [← HM.out] at HJM
   simp [slen]
   omega
  ·have hjm' : j=m:=by omega
   have HX:=Lib.hid (show ClP ts w (.returned (.slice oo j cc)) wr by
    have h:=hT.out
    rw [hjm',HM.out] at h ⊢
    exact clw_done h)
   clear hT hjm'
   go_wp2
   try simp only [Exit.jump]
   go_ret
   exact HX.out
theorem list_end (ts : List Tr) (o : Option Addr) (cap b off : Nat) (hlen : ts.length≤1000000) (w : World) (ho : 0 < ts.length→o=some ⟨b,off,none⟩∧b < w.heap.size)
  (hE : ∀ i (h : i < ts.length),∃ c0 c1 c2 c3 c4 c5,w.cell? ⟨b,off+i * 6,none⟩=some c0∧w.cell? ⟨b,off+i * 6+1,none⟩=some c1∧w.cell? ⟨b,off+i * 6+2,none⟩=some c2∧w.cell? ⟨b,off+i * 6+3,none⟩=some c3∧w.cell? ⟨b,off+i * 6+4,none⟩=some c4∧w.cell? ⟨b,off+i * 6+5,none⟩=some c5∧∀ wz,Below w.heap.size w wz→Calls Tryz.prog 102 #[.agg #[c0,c1,c2,c3,c4,c5]] wz (WrP ts[i] wz)) :
  Calls Tryz.prog 101 #[.slice o ts.length cap,(.func (.func 102) #[] #[])] w (WrP (rowT ts) w):=by
 have HB0:=Lib.hid (alloc_below w (.cells #[.int .i64 0,.int .u64 0,.string ⟨#[]⟩,.slice none 0 0] 69))
 have HY0 : Hid (Bk (w.alloc (.cells #[.int .i64 0,.int .u64 0,.string ⟨#[]⟩,.slice none 0 0] 69)) w.heap.size #[.int .i64 0,.int .u64 0,.string ⟨#[]⟩,.slice none 0 0] 69):=Lib.hid (heap_alloc_new w _)
 have HE:=Lib.hid hE
 have K1 : Hid (Calls Tryz.prog 127 #[.slice o ts.length cap,(.func (.func 102) #[] #[])] (w.alloc (.cells #[.int .i64 0,.int .u64 0,.string ⟨#[]⟩,.slice none 0 0] 69)) (ClP ts (w.alloc (.cells #[.int .i64 0,.int .u64 0,.string ⟨#[]⟩,.slice none 0 0] 69)))):=Lib.hid (each_end ts o cap b off hlen _ (fun hp => ⟨(ho hp).1,Nat.lt_of_lt_of_le (ho hp).2 HB0.out.size⟩) (fun i hi => by
  obtain ⟨c0,c1,c2,c3,c4,c5,e0,e1,e2,e3,e4,e5,hK⟩:=hE i hi
  have hb:=(ho (Nat.lt_of_le_of_lt (Nat.zero_le _) hi)).2
  exact ⟨c0,c1,c2,c3,c4,c5,(HB0.out.cell (p:=⟨b,off+i * 6,none⟩) hb).trans e0,(HB0.out.cell (p:=⟨b,off+i * 6+1,none⟩) hb).trans e1,(HB0.out.cell (p:=⟨b,off+i * 6+2,none⟩) hb).trans e2,(HB0.out.cell (p:=⟨b,off+i * 6+3,none⟩) hb).trans e3,(HB0.out.cell (p:=⟨b,off+i * 6+4,none⟩) hb).trans e4,(HB0.out.cell (p:=⟨b,off+i * 6+5,none⟩) hb).trans e5,fun wz hz => hK wz (HB0.out.trans (hz.mono HB0.out.size))⟩))
 have HS:=Lib.hid (lt_of_heap HY0.out)
 have KR:=Lib.hid (fun o n c w => crow_any o n c w)
 obtain ⟨m,hm⟩ : ∃ m,m=ts.length:=⟨_,rfl⟩
 have HM:=Lib.hid hm
 have HL:=Lib.hid hlen
 rw [← hm] at K1 ⊢
 clear ho hE hlen hm
 go_enter Tryz.func101,Tryz.ntmps101
 go_wp2_with fail
 generalize w.alloc (.cells #[.int .i64 0,.int .u64 0,.string ⟨#[]⟩,.slice none 0 0] 69)=w0 at *
 refine (K1.out).mono ?_
 rintro r w1 ⟨o1,c1,b1,rfl,ho1,hl1,hb1⟩
 have HY1:=Lib.hid (Bk.later HY0.out hb1)
 have HB1:=Lib.hid (HB0.out.trans (hb1.mono HB0.out.size))
 have HV1:=Lib.hid (show VInP w1 (fun b => w0.heap.size≤b) (rowT ts) (.int .i64 3) (.int .u64 ((0 : Nat) : Int)) (.string ⟨#[]⟩) (.slice o1 ts.length c1) from vinp_mk (w:=w0) (Nat.zero_le _) ⟨by decide,HL.out⟩ ho1 hl1 (fun b hb => hb))
 rw [← HM.out] at HV1
 rw [← HM.out]
 clear ho1 hl1 hb1
 go_wp2_with fail
 refine (KR.out _ _ _ _).mono ?_
 rintro r w2 ⟨rfl,hb2⟩
 have HY2:=Lib.hid (Bk.later HY1.out hb2)
 have HB2:=Lib.hid (HB1.out.trans (hb2.mono HB1.out.size))
 have HV2:=Lib.hid (vlater HV1.out hb2)
 clear hb2
 obtain ⟨⟨y0,y1,y2,y3⟩,z0,z1,z2,z3⟩:=bk4 HY2.out
 have HZ:=Lib.hid (put4 HY2.out (.int .i64 3) (.int .u64 0) (.string ⟨#[]⟩) (.slice o1 m c1))
 have HB3:=Lib.hid (below4 (g:=w.heap.size) HB2.out (Nat.le_refl _) (.int .i64 3) (.int .u64 0) (.string ⟨#[]⟩) (.slice o1 m c1))
 have HV3 : Hid (VInP ((((w2.setCell ⟨w.heap.size,0,none⟩ (.int .i64 3)).setCell ⟨w.heap.size,1,none⟩ (.int .u64 0)).setCell ⟨w.heap.size,2,none⟩ (.string ⟨#[]⟩)).setCell ⟨w.heap.size,3,none⟩ (.slice o1 m c1)) (fun b => w.heap.size≤b) (rowT ts) (.int .i64 3) (.int .u64 0) (.string ⟨#[]⟩) (.slice o1 m c1)):=Lib.hid (by
  have hs:=HS.out
  exact VInP.keep (by simp) (fun q _ hP => ⟨other4 w2 q (by omega) _ _ _ _,by omega⟩) _ HV2.out)
 go_wp2
 obtain ⟨⟨y0,y1,y2,y3⟩,z0,z1,z2,z3⟩:=bk4 HZ.out
 refine bodyPost_ret (v:=.agg #[.int .i64 3,.int .u64 0,.string ⟨#[]⟩,.slice o1 m c1]) (by simp [results,Tryz.results101,go_sem, *]) rfl ⟨_,_,_,rfl,HV3.out,HB3.out⟩
theorem each_rou (ts : List Tr) (o : Option Addr) (cap b off : Nat) (hlen : ts.length≤1000000) (w : World) (ho : 0 < ts.length→o=some ⟨b,off,none⟩∧b < w.heap.size)
  (hE : ∀ i (h : i < ts.length),∃ c0 c1 c2 c3,w.cell? ⟨b,off+i * 4,none⟩=some c0∧w.cell? ⟨b,off+i * 4+1,none⟩=some c1∧w.cell? ⟨b,off+i * 4+2,none⟩=some c2∧w.cell? ⟨b,off+i * 4+3,none⟩=some c3∧∀ wz,Below w.heap.size w wz→Calls Tryz.prog 99 #[.agg #[c0,c1,c2,c3]] wz (WrP ts[i] wz)) :
  Calls Tryz.prog 126 #[.slice o ts.length cap,(.func (.func 99) #[] #[])] w (ClP ts w):=by
 obtain ⟨m,hm⟩ : ∃ m,m=ts.length:=⟨_,rfl⟩
 rw [← hm] at hlen ⊢
 have HM:=Lib.hid hm
 have HO:=Lib.hid ho
 have HE:=Lib.hid hE
 clear ho hE hm
 go_enter Tryz.func126,Tryz.ntmps126
 go_wp2
 refine wp_scope_again 0 (EachJ ts (.slice o m cap) (.func (.func 99) #[] #[]) w) (fun a' _ => m - slen (a'.tmps.getD 5 undef)) rfl ?_ ?_
 ·intro K Qe hK
  go_wp2
  first | exact hK _ _ ⟨0,none,none,0,[],_,_,_,_,_,_,_,_,_,_,_,_,_,_,_,_,_,_,_,Nat.zero_le _,rfl,Lib.hid ⟨Below.refl _ _,VRow.nil 69 _,fun r hr => (by cases hr),fun i _ h => absurd h (by omega)⟩⟩ | exact ⟨0,none,none,0,[],_,_,_,_,_,_,_,_,_,_,_,_,_,_,_,_,_,_,_,Nat.zero_le _,rfl,Lib.hid ⟨Below.refl _ _,VRow.nil 69 _,fun r hr => (by cases hr),fun i _ h => absurd h (by omega)⟩⟩
 ·rintro a' wr ⟨j,ρ,oo,cc,xs,u2,u3,u4,u6,u7,u8,u9,u10,u11,u12,u13,u14,u15,u16,u17,u18,u19,u20,u21,hj,rfl,hT⟩
  rw [← HM.out] at hj
  by_cases hjm : j < m
  ·have hjl : j < ts.length:=by rw [← HM.out]; exact hjm
   obtain ⟨ho',hb'⟩:=HO.out (by omega)
   subst ho'
   obtain ⟨c0,c1,c2,c3,e0,e1,e2,e3,hK⟩:=HE.out j hjl
   have f0:=(hT.out.1.cell (p:=⟨b,off+j * 4,none⟩) hb').trans e0
   have f1:=(hT.out.1.cell (p:=⟨b,off+j * 4+1,none⟩) hb').trans e1
   have f2:=(hT.out.1.cell (p:=⟨b,off+j * 4+2,none⟩) hb').trans e2
   have f3:=(hT.out.1.cell (p:=⟨b,off+j * 4+3,none⟩) hb').trans e3
   have K1:=Lib.hid (hK wr hT.out.1)
   have HJL:=Lib.hid hjl
   clear e0 e1 e2 e3 hK
   go_wp2_with fail
   refine (K1.out).mono ?_
   rintro r w5 ⟨o2,n2,c2,rfl,hv5,hb5⟩
   have HT5:=Lib.hid ((hT.out.later hb5).later (alloc_below w5 (.cells #[.int .i64 3,.int .u64 0,.string ⟨#[]⟩,.slice o2 n2 c2] 69)))
   have HV5:=Lib.hid (vin_apart hT.out hv5 (.cells #[.int .i64 3,.int .u64 0,.string ⟨#[]⟩,.slice o2 n2 c2] 69))
   clear hv5 hb5
   go_wp2_with (first
    | (at_builtin; go_must (refine wpList_vrow (.tmp 11) (.tmp 19) 67 69 rfl rfl Tryz.underlying67 info27 (w5.alloc (.cells #[.int .i64 3,.int .u64 0,.string ⟨#[]⟩,.slice o2 n2 c2] 69)).heap.size ρ oo cc j xs HT5.out.2.1 (by omega) _ [.int .i64 3,.int .u64 0,.string ⟨#[]⟩,.slice o2 n2 c2] rfl (news_at w5 _ 69 _ rfl) (by intro u hu; simp at hu; rcases hu with rfl | rfl | rfl | rfl <;> rfl) rfl rfl ?_); intro o7 cap7 w7 ρ7 hr7 hn7 hc7; have HTP:=Lib.hid (clw_put HJL.out HT5.out HV5.out hr7 hn7 hc7); clear hr7 hn7 hc7))
   go_step3
   refine ⟨rfl,⟨j+1,ρ7,o7,cap7,_,_,_,_,_,_,_,_,_,_,_,_,_,_,_,_,_,_,_,_,HJL.out,rfl,HTP⟩,?_⟩
   have HJM:=HJL.out
   rw [← HM.out] at HJM
   simp [slen]
   omega
  ·have hjm' : j=m:=by omega
   have HX:=Lib.hid (show ClP ts w (.returned (.slice oo j cc)) wr by
    have h:=hT.out
    rw [hjm',HM.out] at h ⊢
    exact clw_done h)
   clear hT hjm'
   go_wp2
   try simp only [Exit.jump]
   go_ret
   exact HX.out
theorem list_rou (ts : List Tr) (o : Option Addr) (cap b off : Nat) (hlen : ts.length≤1000000) (w : World) (ho : 0 < ts.length→o=some ⟨b,off,none⟩∧b < w.heap.size)
  (hE : ∀ i (h : i < ts.length),∃ c0 c1 c2 c3,w.cell? ⟨b,off+i * 4,none⟩=some c0∧w.cell? ⟨b,off+i * 4+1,none⟩=some c1∧w.cell? ⟨b,off+i * 4+2,none⟩=some c2∧w.cell? ⟨b,off+i * 4+3,none⟩=some c3∧∀ wz,Below w.heap.size w wz→Calls Tryz.prog 99 #[.agg #[c0,c1,c2,c3]] wz (WrP ts[i] wz)) :
  Calls Tryz.prog 98 #[.slice o ts.length cap,(.func (.func 99) #[] #[])] w (WrP (rowT ts) w):=by
 have HB0:=Lib.hid (alloc_below w (.cells #[.int .i64 0,.int .u64 0,.string ⟨#[]⟩,.slice none 0 0] 69))
 have HY0 : Hid (Bk (w.alloc (.cells #[.int .i64 0,.int .u64 0,.string ⟨#[]⟩,.slice none 0 0] 69)) w.heap.size #[.int .i64 0,.int .u64 0,.string ⟨#[]⟩,.slice none 0 0] 69):=Lib.hid (heap_alloc_new w _)
 have HE:=Lib.hid hE
 have K1 : Hid (Calls Tryz.prog 126 #[.slice o ts.length cap,(.func (.func 99) #[] #[])] (w.alloc (.cells #[.int .i64 0,.int .u64 0,.string ⟨#[]⟩,.slice none 0 0] 69)) (ClP ts (w.alloc (.cells #[.int .i64 0,.int .u64 0,.string ⟨#[]⟩,.slice none 0 0] 69)))):=Lib.hid (each_rou ts o cap b off hlen _ (fun hp => ⟨(ho hp).1,Nat.lt_of_lt_of_le (ho hp).2 HB0.out.size⟩) (fun i hi => by
  obtain ⟨c0,c1,c2,c3,e0,e1,e2,e3,hK⟩:=hE i hi
  have hb:=(ho (Nat.lt_of_le_of_lt (Nat.zero_le _) hi)).2
  exact ⟨c0,c1,c2,c3,(HB0.out.cell (p:=⟨b,off+i * 4,none⟩) hb).trans e0,(HB0.out.cell (p:=⟨b,off+i * 4+1,none⟩) hb).trans e1,(HB0.out.cell (p:=⟨b,off+i * 4+2,none⟩) hb).trans e2,(HB0.out.cell (p:=⟨b,off+i * 4+3,none⟩) hb).trans e3,fun wz hz => hK wz (HB0.out.trans (hz.mono HB0.out.size))⟩))
 have HS:=Lib.hid (lt_of_heap HY0.out)
 have KR:=Lib.hid (fun o n c w => crow_any o n c w)
 obtain ⟨m,hm⟩ : ∃ m,m=ts.length:=⟨_,rfl⟩
 have HM:=Lib.hid hm
 have HL:=Lib.hid hlen
 rw [← hm] at K1 ⊢
 clear ho hE hlen hm
 go_enter Tryz.func98,Tryz.ntmps98
 go_wp2_with fail
 generalize w.alloc (.cells #[.int .i64 0,.int .u64 0,.string ⟨#[]⟩,.slice none 0 0] 69)=w0 at *
 refine (K1.out).mono ?_
 rintro r w1 ⟨o1,c1,b1,rfl,ho1,hl1,hb1⟩
 have HY1:=Lib.hid (Bk.later HY0.out hb1)
 have HB1:=Lib.hid (HB0.out.trans (hb1.mono HB0.out.size))
 have HV1:=Lib.hid (show VInP w1 (fun b => w0.heap.size≤b) (rowT ts) (.int .i64 3) (.int .u64 ((0 : Nat) : Int)) (.string ⟨#[]⟩) (.slice o1 ts.length c1) from vinp_mk (w:=w0) (Nat.zero_le _) ⟨by decide,HL.out⟩ ho1 hl1 (fun b hb => hb))
 rw [← HM.out] at HV1
 rw [← HM.out]
 clear ho1 hl1 hb1
 go_wp2_with fail
 refine (KR.out _ _ _ _).mono ?_
 rintro r w2 ⟨rfl,hb2⟩
 have HY2:=Lib.hid (Bk.later HY1.out hb2)
 have HB2:=Lib.hid (HB1.out.trans (hb2.mono HB1.out.size))
 have HV2:=Lib.hid (vlater HV1.out hb2)
 clear hb2
 obtain ⟨⟨y0,y1,y2,y3⟩,z0,z1,z2,z3⟩:=bk4 HY2.out
 have HZ:=Lib.hid (put4 HY2.out (.int .i64 3) (.int .u64 0) (.string ⟨#[]⟩) (.slice o1 m c1))
 have HB3:=Lib.hid (below4 (g:=w.heap.size) HB2.out (Nat.le_refl _) (.int .i64 3) (.int .u64 0) (.string ⟨#[]⟩) (.slice o1 m c1))
 have HV3 : Hid (VInP ((((w2.setCell ⟨w.heap.size,0,none⟩ (.int .i64 3)).setCell ⟨w.heap.size,1,none⟩ (.int .u64 0)).setCell ⟨w.heap.size,2,none⟩ (.string ⟨#[]⟩)).setCell ⟨w.heap.size,3,none⟩ (.slice o1 m c1)) (fun b => w.heap.size≤b) (rowT ts) (.int .i64 3) (.int .u64 0) (.string ⟨#[]⟩) (.slice o1 m c1)):=Lib.hid (by
  have hs:=HS.out
  exact VInP.keep (by simp) (fun q _ hP => ⟨other4 w2 q (by omega) _ _ _ _,by omega⟩) _ HV2.out)
 go_wp2
 obtain ⟨⟨y0,y1,y2,y3⟩,z0,z1,z2,z3⟩:=bk4 HZ.out
 refine bodyPost_ret (v:=.agg #[.int .i64 3,.int .u64 0,.string ⟨#[]⟩,.slice o1 m c1]) (by simp [results,Tryz.results98,go_sem, *]) rfl ⟨_,_,_,rfl,HV3.out,HB3.out⟩
theorem each_clu (ts : List Tr) (o : Option Addr) (cap b off : Nat) (hlen : ts.length≤1000000) (w : World) (ho : 0 < ts.length→o=some ⟨b,off,none⟩∧b < w.heap.size)
  (hE : ∀ i (h : i < ts.length),∃ c0 c1,w.cell? ⟨b,off+i * 2,none⟩=some c0∧w.cell? ⟨b,off+i * 2+1,none⟩=some c1∧∀ wz,Below w.heap.size w wz→Calls Tryz.prog 64 #[.agg #[c0,c1]] wz (WrP ts[i] wz)) :
  Calls Tryz.prog 100 #[.slice o ts.length cap,(.func (.func 64) #[] #[])] w (ClP ts w):=by
 obtain ⟨m,hm⟩ : ∃ m,m=ts.length:=⟨_,rfl⟩
 rw [← hm] at hlen ⊢
 have HM:=Lib.hid hm
 have HO:=Lib.hid ho
 have HE:=Lib.hid hE
 clear ho hE hm
 go_enter Tryz.func100,Tryz.ntmps100
 go_wp2
 refine wp_scope_again 0 (EachJ ts (.slice o m cap) (.func (.func 64) #[] #[]) w) (fun a' _ => m - slen (a'.tmps.getD 5 undef)) rfl ?_ ?_
 ·intro K Qe hK
  go_wp2
  first | exact hK _ _ ⟨0,none,none,0,[],_,_,_,_,_,_,_,_,_,_,_,_,_,_,_,_,_,_,_,Nat.zero_le _,rfl,Lib.hid ⟨Below.refl _ _,VRow.nil 69 _,fun r hr => (by cases hr),fun i _ h => absurd h (by omega)⟩⟩ | exact ⟨0,none,none,0,[],_,_,_,_,_,_,_,_,_,_,_,_,_,_,_,_,_,_,_,Nat.zero_le _,rfl,Lib.hid ⟨Below.refl _ _,VRow.nil 69 _,fun r hr => (by cases hr),fun i _ h => absurd h (by omega)⟩⟩
 ·rintro a' wr ⟨j,ρ,oo,cc,xs,u2,u3,u4,u6,u7,u8,u9,u10,u11,u12,u13,u14,u15,u16,u17,u18,u19,u20,u21,hj,rfl,hT⟩
  rw [← HM.out] at hj
  by_cases hjm : j < m
  ·have hjl : j < ts.length:=by rw [← HM.out]; exact hjm
   obtain ⟨ho',hb'⟩:=HO.out (by omega)
   subst ho'
   obtain ⟨c0,c1,e0,e1,hK⟩:=HE.out j hjl
   have f0:=(hT.out.1.cell (p:=⟨b,off+j * 2,none⟩) hb').trans e0
   have f1:=(hT.out.1.cell (p:=⟨b,off+j * 2+1,none⟩) hb').trans e1
   have K1:=Lib.hid (hK wr hT.out.1)
   have HJL:=Lib.hid hjl
   clear e0 e1 hK
   go_wp2_with fail
   refine (K1.out).mono ?_
   rintro r w5 ⟨o2,n2,c2,rfl,hv5,hb5⟩
   have HT5:=Lib.hid ((hT.out.later hb5).later (alloc_below w5 (.cells #[.int .i64 3,.int .u64 0,.string ⟨#[]⟩,.slice o2 n2 c2] 69)))
   have HV5:=Lib.hid (vin_apart hT.out hv5 (.cells #[.int .i64 3,.int .u64 0,.string ⟨#[]⟩,.slice o2 n2 c2] 69))
   clear hv5 hb5
   go_wp2_with (first
    | (at_builtin; go_must (refine wpList_vrow (.tmp 11) (.tmp 19) 67 69 rfl rfl Tryz.underlying67 info27 (w5.alloc (.cells #[.int .i64 3,.int .u64 0,.string ⟨#[]⟩,.slice o2 n2 c2] 69)).heap.size ρ oo cc j xs HT5.out.2.1 (by omega) _ [.int .i64 3,.int .u64 0,.string ⟨#[]⟩,.slice o2 n2 c2] rfl (news_at w5 _ 69 _ rfl) (by intro u hu; simp at hu; rcases hu with rfl | rfl | rfl | rfl <;> rfl) rfl rfl ?_); intro o7 cap7 w7 ρ7 hr7 hn7 hc7; have HTP:=Lib.hid (clw_put HJL.out HT5.out HV5.out hr7 hn7 hc7); clear hr7 hn7 hc7))
   go_step3
   refine ⟨rfl,⟨j+1,ρ7,o7,cap7,_,_,_,_,_,_,_,_,_,_,_,_,_,_,_,_,_,_,_,_,HJL.out,rfl,HTP⟩,?_⟩
   have HJM:=HJL.out
   rw [← HM.out] at HJM
   simp [slen]
   omega
  ·have hjm' : j=m:=by omega
   have HX:=Lib.hid (show ClP ts w (.returned (.slice oo j cc)) wr by
    have h:=hT.out
    rw [hjm',HM.out] at h ⊢
    exact clw_done h)
   clear hT hjm'
   go_wp2
   try simp only [Exit.jump]
   go_ret
   exact HX.out
theorem list_clu (ts : List Tr) (o : Option Addr) (cap b off : Nat) (hlen : ts.length≤1000000) (w : World) (ho : 0 < ts.length→o=some ⟨b,off,none⟩∧b < w.heap.size)
  (hE : ∀ i (h : i < ts.length),∃ c0 c1,w.cell? ⟨b,off+i * 2,none⟩=some c0∧w.cell? ⟨b,off+i * 2+1,none⟩=some c1∧∀ wz,Below w.heap.size w wz→Calls Tryz.prog 64 #[.agg #[c0,c1]] wz (WrP ts[i] wz)) :
  Calls Tryz.prog 63 #[.slice o ts.length cap,(.func (.func 64) #[] #[])] w (WrP (rowT ts) w):=by
 have HB0:=Lib.hid (alloc_below w (.cells #[.int .i64 0,.int .u64 0,.string ⟨#[]⟩,.slice none 0 0] 69))
 have HY0 : Hid (Bk (w.alloc (.cells #[.int .i64 0,.int .u64 0,.string ⟨#[]⟩,.slice none 0 0] 69)) w.heap.size #[.int .i64 0,.int .u64 0,.string ⟨#[]⟩,.slice none 0 0] 69):=Lib.hid (heap_alloc_new w _)
 have HE:=Lib.hid hE
 have K1 : Hid (Calls Tryz.prog 100 #[.slice o ts.length cap,(.func (.func 64) #[] #[])] (w.alloc (.cells #[.int .i64 0,.int .u64 0,.string ⟨#[]⟩,.slice none 0 0] 69)) (ClP ts (w.alloc (.cells #[.int .i64 0,.int .u64 0,.string ⟨#[]⟩,.slice none 0 0] 69)))):=Lib.hid (each_clu ts o cap b off hlen _ (fun hp => ⟨(ho hp).1,Nat.lt_of_lt_of_le (ho hp).2 HB0.out.size⟩) (fun i hi => by
  obtain ⟨c0,c1,e0,e1,hK⟩:=hE i hi
  have hb:=(ho (Nat.lt_of_le_of_lt (Nat.zero_le _) hi)).2
  exact ⟨c0,c1,(HB0.out.cell (p:=⟨b,off+i * 2,none⟩) hb).trans e0,(HB0.out.cell (p:=⟨b,off+i * 2+1,none⟩) hb).trans e1,fun wz hz => hK wz (HB0.out.trans (hz.mono HB0.out.size))⟩))
 have HS:=Lib.hid (lt_of_heap HY0.out)
 have KR:=Lib.hid (fun o n c w => crow_any o n c w)
 obtain ⟨m,hm⟩ : ∃ m,m=ts.length:=⟨_,rfl⟩
 have HM:=Lib.hid hm
 have HL:=Lib.hid hlen
 rw [← hm] at K1 ⊢
 clear ho hE hlen hm
 go_enter Tryz.func63,Tryz.ntmps63
 go_wp2_with fail
 generalize w.alloc (.cells #[.int .i64 0,.int .u64 0,.string ⟨#[]⟩,.slice none 0 0] 69)=w0 at *
 refine (K1.out).mono ?_
 rintro r w1 ⟨o1,c1,b1,rfl,ho1,hl1,hb1⟩
 have HY1:=Lib.hid (Bk.later HY0.out hb1)
 have HB1:=Lib.hid (HB0.out.trans (hb1.mono HB0.out.size))
 have HV1:=Lib.hid (show VInP w1 (fun b => w0.heap.size≤b) (rowT ts) (.int .i64 3) (.int .u64 ((0 : Nat) : Int)) (.string ⟨#[]⟩) (.slice o1 ts.length c1) from vinp_mk (w:=w0) (Nat.zero_le _) ⟨by decide,HL.out⟩ ho1 hl1 (fun b hb => hb))
 rw [← HM.out] at HV1
 rw [← HM.out]
 clear ho1 hl1 hb1
 go_wp2_with fail
 refine (KR.out _ _ _ _).mono ?_
 rintro r w2 ⟨rfl,hb2⟩
 have HY2:=Lib.hid (Bk.later HY1.out hb2)
 have HB2:=Lib.hid (HB1.out.trans (hb2.mono HB1.out.size))
 have HV2:=Lib.hid (vlater HV1.out hb2)
 clear hb2
 obtain ⟨⟨y0,y1,y2,y3⟩,z0,z1,z2,z3⟩:=bk4 HY2.out
 have HZ:=Lib.hid (put4 HY2.out (.int .i64 3) (.int .u64 0) (.string ⟨#[]⟩) (.slice o1 m c1))
 have HB3:=Lib.hid (below4 (g:=w.heap.size) HB2.out (Nat.le_refl _) (.int .i64 3) (.int .u64 0) (.string ⟨#[]⟩) (.slice o1 m c1))
 have HV3 : Hid (VInP ((((w2.setCell ⟨w.heap.size,0,none⟩ (.int .i64 3)).setCell ⟨w.heap.size,1,none⟩ (.int .u64 0)).setCell ⟨w.heap.size,2,none⟩ (.string ⟨#[]⟩)).setCell ⟨w.heap.size,3,none⟩ (.slice o1 m c1)) (fun b => w.heap.size≤b) (rowT ts) (.int .i64 3) (.int .u64 0) (.string ⟨#[]⟩) (.slice o1 m c1)):=Lib.hid (by
  have hs:=HS.out
  exact VInP.keep (by simp) (fun q _ hP => ⟨other4 w2 q (by omega) _ _ _ _,by omega⟩) _ HV2.out)
 go_wp2
 obtain ⟨⟨y0,y1,y2,y3⟩,z0,z1,z2,z3⟩:=bk4 HZ.out
 refine bodyPost_ret (v:=.agg #[.int .i64 3,.int .u64 0,.string ⟨#[]⟩,.slice o1 m c1]) (by simp [results,Tryz.results63,go_sem, *]) rfl ⟨_,_,_,rfl,HV3.out,HB3.out⟩
theorem each_lis (ts : List Tr) (o : Option Addr) (cap b off : Nat) (hlen : ts.length≤1000000) (w : World) (ho : 0 < ts.length→o=some ⟨b,off,none⟩∧b < w.heap.size)
  (hE : ∀ i (h : i < ts.length),∃ c0 c1 c2 c3 c4 c5 c6,w.cell? ⟨b,off+i * 7,none⟩=some c0∧w.cell? ⟨b,off+i * 7+1,none⟩=some c1∧w.cell? ⟨b,off+i * 7+2,none⟩=some c2∧w.cell? ⟨b,off+i * 7+3,none⟩=some c3∧w.cell? ⟨b,off+i * 7+4,none⟩=some c4∧w.cell? ⟨b,off+i * 7+5,none⟩=some c5∧w.cell? ⟨b,off+i * 7+6,none⟩=some c6∧∀ wz,Below w.heap.size w wz→Calls Tryz.prog 62 #[.agg #[c0,c1,c2,c3,c4,c5,c6]] wz (WrP ts[i] wz)) :
  Calls Tryz.prog 95 #[.slice o ts.length cap,(.func (.func 62) #[] #[])] w (ClP ts w):=by
 obtain ⟨m,hm⟩ : ∃ m,m=ts.length:=⟨_,rfl⟩
 rw [← hm] at hlen ⊢
 have HM:=Lib.hid hm
 have HO:=Lib.hid ho
 have HE:=Lib.hid hE
 clear ho hE hm
 go_enter Tryz.func95,Tryz.ntmps95
 go_wp2
 refine wp_scope_again 0 (EachJ ts (.slice o m cap) (.func (.func 62) #[] #[]) w) (fun a' _ => m - slen (a'.tmps.getD 5 undef)) rfl ?_ ?_
 ·intro K Qe hK
  go_wp2
  first | exact hK _ _ ⟨0,none,none,0,[],_,_,_,_,_,_,_,_,_,_,_,_,_,_,_,_,_,_,_,Nat.zero_le _,rfl,Lib.hid ⟨Below.refl _ _,VRow.nil 69 _,fun r hr => (by cases hr),fun i _ h => absurd h (by omega)⟩⟩ | exact ⟨0,none,none,0,[],_,_,_,_,_,_,_,_,_,_,_,_,_,_,_,_,_,_,_,Nat.zero_le _,rfl,Lib.hid ⟨Below.refl _ _,VRow.nil 69 _,fun r hr => (by cases hr),fun i _ h => absurd h (by omega)⟩⟩
 ·rintro a' wr ⟨j,ρ,oo,cc,xs,u2,u3,u4,u6,u7,u8,u9,u10,u11,u12,u13,u14,u15,u16,u17,u18,u19,u20,u21,hj,rfl,hT⟩
  rw [← HM.out] at hj
  by_cases hjm : j < m
  ·have hjl : j < ts.length:=by rw [← HM.out]; exact hjm
   obtain ⟨ho',hb'⟩:=HO.out (by omega)
   subst ho'
   obtain ⟨c0,c1,c2,c3,c4,c5,c6,e0,e1,e2,e3,e4,e5,e6,hK⟩:=HE.out j hjl
   have f0:=(hT.out.1.cell (p:=⟨b,off+j * 7,none⟩) hb').trans e0
   have f1:=(hT.out.1.cell (p:=⟨b,off+j * 7+1,none⟩) hb').trans e1
   have f2:=(hT.out.1.cell (p:=⟨b,off+j * 7+2,none⟩) hb').trans e2
   have f3:=(hT.out.1.cell (p:=⟨b,off+j * 7+3,none⟩) hb').trans e3
   have f4:=(hT.out.1.cell (p:=⟨b,off+j * 7+4,none⟩) hb').trans e4
   have f5:=(hT.out.1.cell (p:=⟨b,off+j * 7+5,none⟩) hb').trans e5
   have f6:=(hT.out.1.cell (p:=⟨b,off+j * 7+6,none⟩) hb').trans e6
   have K1:=Lib.hid (hK wr hT.out.1)
   have HJL:=Lib.hid hjl
   clear e0 e1 e2 e3 e4 e5 e6 hK
   go_wp2_with fail
   refine (K1.out).mono ?_
   rintro r w5 ⟨o2,n2,c2,rfl,hv5,hb5⟩
   have HT5:=Lib.hid ((hT.out.later hb5).later (alloc_below w5 (.cells #[.int .i64 3,.int .u64 0,.string ⟨#[]⟩,.slice o2 n2 c2] 69)))
   have HV5:=Lib.hid (vin_apart hT.out hv5 (.cells #[.int .i64 3,.int .u64 0,.string ⟨#[]⟩,.slice o2 n2 c2] 69))
   clear hv5 hb5
   go_wp2_with (first
    | (at_builtin; go_must (refine wpList_vrow (.tmp 11) (.tmp 19) 67 69 rfl rfl Tryz.underlying67 info27 (w5.alloc (.cells #[.int .i64 3,.int .u64 0,.string ⟨#[]⟩,.slice o2 n2 c2] 69)).heap.size ρ oo cc j xs HT5.out.2.1 (by omega) _ [.int .i64 3,.int .u64 0,.string ⟨#[]⟩,.slice o2 n2 c2] rfl (news_at w5 _ 69 _ rfl) (by intro u hu; simp at hu; rcases hu with rfl | rfl | rfl | rfl <;> rfl) rfl rfl ?_); intro o7 cap7 w7 ρ7 hr7 hn7 hc7; have HTP:=Lib.hid (clw_put HJL.out HT5.out HV5.out hr7 hn7 hc7); clear hr7 hn7 hc7))
   go_step3
   refine ⟨rfl,⟨j+1,ρ7,o7,cap7,_,_,_,_,_,_,_,_,_,_,_,_,_,_,_,_,_,_,_,_,HJL.out,rfl,HTP⟩,?_⟩
   have HJM:=HJL.out
   rw [← HM.out] at HJM
   simp [slen]
   omega
  ·have hjm' : j=m:=by omega
   have HX:=Lib.hid (show ClP ts w (.returned (.slice oo j cc)) wr by
    have h:=hT.out
    rw [hjm',HM.out] at h ⊢
    exact clw_done h)
   clear hT hjm'
   go_wp2
   try simp only [Exit.jump]
   go_ret
   exact HX.out
theorem list_lis (ts : List Tr) (o : Option Addr) (cap b off : Nat) (hlen : ts.length≤1000000) (w : World) (ho : 0 < ts.length→o=some ⟨b,off,none⟩∧b < w.heap.size)
  (hE : ∀ i (h : i < ts.length),∃ c0 c1 c2 c3 c4 c5 c6,w.cell? ⟨b,off+i * 7,none⟩=some c0∧w.cell? ⟨b,off+i * 7+1,none⟩=some c1∧w.cell? ⟨b,off+i * 7+2,none⟩=some c2∧w.cell? ⟨b,off+i * 7+3,none⟩=some c3∧w.cell? ⟨b,off+i * 7+4,none⟩=some c4∧w.cell? ⟨b,off+i * 7+5,none⟩=some c5∧w.cell? ⟨b,off+i * 7+6,none⟩=some c6∧∀ wz,Below w.heap.size w wz→Calls Tryz.prog 62 #[.agg #[c0,c1,c2,c3,c4,c5,c6]] wz (WrP ts[i] wz)) :
  Calls Tryz.prog 61 #[.slice o ts.length cap,(.func (.func 62) #[] #[])] w (WrP (rowT ts) w):=by
 have HB0:=Lib.hid (alloc_below w (.cells #[.int .i64 0,.int .u64 0,.string ⟨#[]⟩,.slice none 0 0] 69))
 have HY0 : Hid (Bk (w.alloc (.cells #[.int .i64 0,.int .u64 0,.string ⟨#[]⟩,.slice none 0 0] 69)) w.heap.size #[.int .i64 0,.int .u64 0,.string ⟨#[]⟩,.slice none 0 0] 69):=Lib.hid (heap_alloc_new w _)
 have HE:=Lib.hid hE
 have K1 : Hid (Calls Tryz.prog 95 #[.slice o ts.length cap,(.func (.func 62) #[] #[])] (w.alloc (.cells #[.int .i64 0,.int .u64 0,.string ⟨#[]⟩,.slice none 0 0] 69)) (ClP ts (w.alloc (.cells #[.int .i64 0,.int .u64 0,.string ⟨#[]⟩,.slice none 0 0] 69)))):=Lib.hid (each_lis ts o cap b off hlen _ (fun hp => ⟨(ho hp).1,Nat.lt_of_lt_of_le (ho hp).2 HB0.out.size⟩) (fun i hi => by
  obtain ⟨c0,c1,c2,c3,c4,c5,c6,e0,e1,e2,e3,e4,e5,e6,hK⟩:=hE i hi
  have hb:=(ho (Nat.lt_of_le_of_lt (Nat.zero_le _) hi)).2
  exact ⟨c0,c1,c2,c3,c4,c5,c6,(HB0.out.cell (p:=⟨b,off+i * 7,none⟩) hb).trans e0,(HB0.out.cell (p:=⟨b,off+i * 7+1,none⟩) hb).trans e1,(HB0.out.cell (p:=⟨b,off+i * 7+2,none⟩) hb).trans e2,(HB0.out.cell (p:=⟨b,off+i * 7+3,none⟩) hb).trans e3,(HB0.out.cell (p:=⟨b,off+i * 7+4,none⟩) hb).trans e4,(HB0.out.cell (p:=⟨b,off+i * 7+5,none⟩) hb).trans e5,(HB0.out.cell (p:=⟨b,off+i * 7+6,none⟩) hb).trans e6,fun wz hz => hK wz (HB0.out.trans (hz.mono HB0.out.size))⟩))
 have HS:=Lib.hid (lt_of_heap HY0.out)
 have KR:=Lib.hid (fun o n c w => crow_any o n c w)
 obtain ⟨m,hm⟩ : ∃ m,m=ts.length:=⟨_,rfl⟩
 have HM:=Lib.hid hm
 have HL:=Lib.hid hlen
 rw [← hm] at K1 ⊢
 clear ho hE hlen hm
 go_enter Tryz.func61,Tryz.ntmps61
 go_wp2_with fail
 generalize w.alloc (.cells #[.int .i64 0,.int .u64 0,.string ⟨#[]⟩,.slice none 0 0] 69)=w0 at *
 refine (K1.out).mono ?_
 rintro r w1 ⟨o1,c1,b1,rfl,ho1,hl1,hb1⟩
 have HY1:=Lib.hid (Bk.later HY0.out hb1)
 have HB1:=Lib.hid (HB0.out.trans (hb1.mono HB0.out.size))
 have HV1:=Lib.hid (show VInP w1 (fun b => w0.heap.size≤b) (rowT ts) (.int .i64 3) (.int .u64 ((0 : Nat) : Int)) (.string ⟨#[]⟩) (.slice o1 ts.length c1) from vinp_mk (w:=w0) (Nat.zero_le _) ⟨by decide,HL.out⟩ ho1 hl1 (fun b hb => hb))
 rw [← HM.out] at HV1
 rw [← HM.out]
 clear ho1 hl1 hb1
 go_wp2_with fail
 refine (KR.out _ _ _ _).mono ?_
 rintro r w2 ⟨rfl,hb2⟩
 have HY2:=Lib.hid (Bk.later HY1.out hb2)
 have HB2:=Lib.hid (HB1.out.trans (hb2.mono HB1.out.size))
 have HV2:=Lib.hid (vlater HV1.out hb2)
 clear hb2
 obtain ⟨⟨y0,y1,y2,y3⟩,z0,z1,z2,z3⟩:=bk4 HY2.out
 have HZ:=Lib.hid (put4 HY2.out (.int .i64 3) (.int .u64 0) (.string ⟨#[]⟩) (.slice o1 m c1))
 have HB3:=Lib.hid (below4 (g:=w.heap.size) HB2.out (Nat.le_refl _) (.int .i64 3) (.int .u64 0) (.string ⟨#[]⟩) (.slice o1 m c1))
 have HV3 : Hid (VInP ((((w2.setCell ⟨w.heap.size,0,none⟩ (.int .i64 3)).setCell ⟨w.heap.size,1,none⟩ (.int .u64 0)).setCell ⟨w.heap.size,2,none⟩ (.string ⟨#[]⟩)).setCell ⟨w.heap.size,3,none⟩ (.slice o1 m c1)) (fun b => w.heap.size≤b) (rowT ts) (.int .i64 3) (.int .u64 0) (.string ⟨#[]⟩) (.slice o1 m c1)):=Lib.hid (by
  have hs:=HS.out
  exact VInP.keep (by simp) (fun q _ hP => ⟨other4 w2 q (by omega) _ _ _ _,by omega⟩) _ HV2.out)
 go_wp2
 obtain ⟨⟨y0,y1,y2,y3⟩,z0,z1,z2,z3⟩:=bk4 HZ.out
 refine bodyPost_ret (v:=.agg #[.int .i64 3,.int .u64 0,.string ⟨#[]⟩,.slice o1 m c1]) (by simp [results,Tryz.results61,go_sem, *]) rfl ⟨_,_,_,rfl,HV3.out,HB3.out⟩
end Go.Proofs.YtjfjliobencppaaGreatDoor.Cf
