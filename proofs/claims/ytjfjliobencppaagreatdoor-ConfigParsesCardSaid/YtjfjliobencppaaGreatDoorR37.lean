/- The document's Next of values: lists; of any text.; What is read is what was written, and nothing else; a message by the document's reading and by the program's.; config: what is read whole is sound, and its own writing; a config that is read is its tree.; config: the first listener, cluster of a name; a clone.; codec.Same.; The document's Same.; config: the document's Same. -/
import Derived.Test.YtjfjliobencppaaGreatDoorR36
import Derived.Test.YtjfjliobencppaaGreatDoorR07
import Derived.Test.YtjfjliobencppaaGreatDoorR29
import Derived.Test.YtjfjliobencppaaGreatDoorR05
import Derived.Test.YtjfjliobencppaaGreatDoorR04
import Derived.StillTailTactics
import Derived.Test.YtjfjliobencppaaGreatDoorR00
import Derived.Test.YtjfjliobencppaaGreatDoorR30
set_option linter.unusedVariables false
set_option linter.unusedSimpArgs false
set_option maxRecDepth 1000000
set_option maxHeartbeats 4000000
namespace Go.Proofs.YtjfjliobencppaaGreatDoor
open Go.RowKit
theorem nx_list (s : ByteArray) (hmax : s.size≤1000000) (p d : Nat) (hp : p < s.size) (hk : s[p].toNat=3) (n j : Nat) (hL : lngA 0 0 (s.data.toList.drop (p+1))=(n,j,0)) (hd : d < 6)
  (IH : ∀ q,p < q→q≤s.size→∀ w,Calls Tryz.prog 36 #[.string s,.int .i64 (q : Int),.int .i64 ((d+1 : Nat) : Int)] w fun e w' => NxR s q (d+1) w e w') (w : World) : Calls Tryz.prog 36 #[.string s,.int .i64 (p : Int),.int .i64 (d : Int)] w fun e w' => NxR s p d w e w':=by
 have K52:=Lib.hid (long_behind s (by omega) p hp n j 0 hL)
 obtain ⟨hn,hj,hj0,_⟩:=lng_facts s p hp n j 0 hL
 obtain ⟨a,ha⟩ : ∃ a,a=p+1+j:=⟨_,rfl⟩
 have hai : (p : Int)+1+(j : Int)=(a : Int):=by omega
 have has : a≤s.size:=by omega
 have hwa : IntKind.i64.wrap ((p : Int)+1+(j : Int))=(a : Int):=by rw [IntWalk.i64_in _ (by omega),hai]
 have hwb : IntKind.i64.wrap (a : Int)=(a : Int):=IntWalk.i64_in _ (by omega)
 have h0q : (0 : Int)≤(p : Int)+1:=by omega
 have h1q : (p : Int)+1≤(s.size : Int):=by omega
 have hd6 : ((d : Int) == 6)=false:=by rw [beq_eq_false_iff_ne]; omega
 obtain ⟨d1,hd1⟩ : ∃ d1,d1=d+1:=⟨_,rfl⟩
 rw [← hd1] at IH
 have hdi : (d : Int)+1=(d1 : Int):=by omega
 have hwd : IntKind.i64.wrap (d1 : Int)=(d1 : Int):=IntWalk.i64_in _ (by omega)
 have HIH:=Lib.hid IH
 have HBAD : Hid (∀ (w' : World) (c : Nat),c≠0→Below w.heap.size w w'→(∀ st,st.length=d→rd .v st (s.data.toList.drop p)=(c,t0,[]))→NxR s p d w (.returned (.tuple #[.agg #[.int .i64 0,.int .u64 0,.string ⟨#[]⟩,.slice none 0 0],.int .i64 0,.int .i64 (c : Int)])) w'):=Lib.hid (fun w' c hc hb h => NxR.bad c hc hb h)
 have HOPEN : Hid (∀ st,st.length=d→rd .v st (s.data.toList.drop p)=rd .n ((n,[])::st) (s.data.toList.drop a)):=Lib.hid (fun st hst => by
  rw [drop_one s p hp,rd_open st _ _ hk (by rw [hL]) (by omega),hL,List.drop_drop,ha])
 have HPA : Hid (p < a):=Lib.hid (by omega)
 have HD1:=Lib.hid hd1
 have HMX:=Lib.hid hmax
 have HAS:=Lib.hid has
 clear hL ha hj hj0 IH hd hd1
 go_enter Tryz.func36,Tryz.ntmps36
 go_upto_region 7 with (first
  | (go_at_call 80; ((with_reducible refine (K52.out _).mono ?_); rintro z w5 ⟨rfl,hb5⟩; have HF:=Lib.hid ((F2.new w _ _ _ _).later hb5); clear hb5)))
 have HLI : Hid (LI s p d a n w w.heap.size (w.heap.size+1) a 0 [] none none 0 [] w5):=Lib.hid ⟨rfl,Nat.zero_le _,⟨Nat.le_refl _,HAS.out⟩,HOPEN.out,HF.out,CT.nil _ _⟩
 obtain ⟨⟨z0,z1,z2,z3⟩,y0,y1,y2,y3⟩:=four_of HF.out.z
 obtain ⟨⟨x0,x1,x2,x3⟩,v0,v1,v2,v3⟩:=four_of HF.out.v
 go_wp2
 clear z0 z1 z2 z3 y0 y1 y2 y3 x0 x1 x2 x3 v0 v1 v2 v3 HF HOPEN K52
 go_loopw [1,13,14,15,16] (fun x1 x13 _ _ _ wz => ∃ (q i : Nat) (h : List Tr) (ρ : Option Nat) (oo : Option Addr) (cap : Nat) (xs : List Value),x1=.int .i64 q∧x13=.int .u64 i∧Hid (LI s p d a n w w.heap.size (w.heap.size+1) q i h ρ oo cap xs wz)) (fun _ x13 _ _ _ _ => n - (intOf x13).toNat)
 case atStart => exact ⟨a,0,[],none,none,0,[],rfl,rfl,HLI⟩
 case round =>
  obtain ⟨q,i,h,ρ,oo,cap,xs,rfl,rfl,HL⟩:=hrel
  have hle:=HL.out.le
  have hat:=HL.out.at_
  have has2:=HAS.out
  have hmx:=HMX.out
  by_cases hlt : i < n
  ·have K29:=Lib.hid (HIH.out q (by have:=HPA.out; omega) hat.2 wr)
   have hi1 : (i : Int) < (n : Int):=by omega
   have hiw : i+1≤1000000000:=by omega
   go_upto_region 24 with (first
    | (go_at_call 36; ((with_reducible refine (K29.out).mono ?_); rintro e w4 ⟨hb4,c,p',t,c0,c1,c2,c3,rfl,hv,hbad,hok⟩; obtain ⟨k5,n5,s5,o5,l5,cap5,rfl,rfl,rfl,rfl⟩:=hv.cells; have HV:=Lib.hid hv; have HBD:=Lib.hid hbad; have HOK:=Lib.hid hok; have HB4:=Lib.hid hb4; clear hv hbad hok hb4)))
   have HF5:=Lib.hid (HL.out.f.later (HB4.out.trans ((alloc_below w4 (.cells #[.int .i64 k5,.int .u64 (n5 : Int),.string s5,.slice o5 l5 cap5] 81)).mono HB4.out.size)))
   obtain ⟨⟨z0,z1,z2,z3⟩,y0,y1,y2,y3⟩:=four_of HF5.out.z
   obtain ⟨⟨x0,x1,x2,x3⟩,v0,v1,v2,v3⟩:=four_of HF5.out.v
   by_cases hc : c=0
   ·subst hc
    obtain ⟨hq1,hq2,hrd⟩:=HOK.out rfl
    have HQ:=Lib.hid (And.intro hq1 hq2)
    have HRD:=Lib.hid hrd
    have hq3 : p'≤1000000:=by omega
    clear hrd
    go_wp2_with (first
     | (refine Cf.wpList_vrow (.tmp 106) (.tmp 108) 79 81 rfl rfl Tryz.underlying79 info37 ((w4.alloc (.cells #[.int .i64 k5,.int .u64 (n5 : Int),.string s5,.slice o5 l5 cap5] 81)).alloc (.cells #[.int .i64 k5,.int .u64 (n5 : Int),.string s5,.slice o5 l5 cap5] 81)).heap.size ρ oo cap i xs (((HL.out.c.later HB4.out).later (alloc_below w4 _)).later (alloc_below _ _)).1 hiw _ [.int .i64 k5,.int .u64 (n5 : Int),.string s5,.slice o5 l5 cap5] rfl (news_at (w4.alloc (.cells #[.int .i64 k5,.int .u64 (n5 : Int),.string s5,.slice o5 l5 cap5] 81)) _ 81 _ (by simp)) (by intro u hu; simp at hu; rcases hu with rfl | rfl | rfl | rfl <;> rfl) rfl rfl ?_; intro o7 cap7 w7 ρ7 hr7 hn7 hc7; have HN:=Lib.hid (LI.next HL.out hlt HB4.out HV.out HQ.out (fun st hst => HRD.out st (hst.trans HD1.out.symm)) _ _ hr7 hn7 hc7); have HF7:=Lib.hid (nx_pre HL.out HB4.out _ _ hc7); obtain ⟨t3c,t3f⟩:=HF7.out; clear hr7 hn7 hc7 z0 z1 z2 z3 y0 y1 y2 y3 x0 x1 x2 x3 v0 v1 v2 v3))
    go_roundw
    case rel => exact ⟨p',i+1,h++[t],ρ7,o7,cap7,_,rfl,by go_num,HN⟩
    case measure => simp [intOf]; omega
   ·have hcn : ((c : Int) == 0)=false:=by rw [beq_eq_false_iff_ne]; omega
    have HRE:=Lib.hid (HBAD.out · c hc · (fun st hst => by
     have e : n - i=(n - (i+1))+1:=by omega
     rw [HL.out.rd st hst,e,rd_more,HBD.out hc _ (by simp [hst]; exact HD1.out.symm)]))
    clear HL hle hat
    go_wp2
    refine bodyPost_ret (v:=.tuple #[.agg #[.int .i64 0,.int .u64 0,.string ⟨#[]⟩,.slice none 0 0],.int .i64 0,.int .i64 (c : Int)]) (by simp [results,Tryz.results36,go_sem,z0,z1,z2,z3,y0,y1,y2,y3,x0,x1,x2,x3,v0,v1,v2,v3]) rfl (HRE.out _ ?_)
    exact below4 HF5.out.b (Nat.le_refl _) _ _ _ _
  ·obtain rfl : i=n:=by omega
   have hl:=HL.out.len
   subst hl
   have HV:=Lib.hid (ct_done (P:=fun b => w.heap.size+1≤b) (by omega) (fun b hb => by omega) HL.out.c)
   have HRD : Hid (∀ st,st.length=d→rd .v st (s.data.toList.drop p)=rd (.w (.mk 3 0 ⟨#[]⟩ h)) st (s.data.toList.drop q)):=Lib.hid (fun st hst => by
    rw [HL.out.rd st hst,Nat.sub_self,rd_none])
   have HQ:=Lib.hid (show p < q∧q≤s.size from ⟨by have:=HPA.out; omega,hat.2⟩)
   have HF5:=HL.out.f
   obtain ⟨⟨z0,z1,z2,z3⟩,y0,y1,y2,y3⟩:=four_of HF5.z
   obtain ⟨⟨x0,x1,x2,x3⟩,v0,v1,v2,v3⟩:=four_of HF5.v
   obtain ⟨nh,hnh⟩ : ∃ nh,nh=h.length:=⟨_,rfl⟩
   rw [← hnh] at x3 HV ⊢
   have HB5:=Lib.hid HF5.b
   clear HL hle hat HF5 HBAD hnh
   go_wp2
   refine bodyPost_ret (v:=.tuple #[.agg #[.int .i64 3,.int .u64 0,.string ⟨#[]⟩,.slice oo nh cap],.int .i64 (q : Int),.int .i64 0]) (by simp [results,Tryz.results36,go_sem,z0,z1,z2,z3,y0,y1,y2,y3,x0,x1,x2,x3,v0,v1,v2,v3]) rfl ?_
   refine NxR.fine q (.mk 3 0 ⟨#[]⟩ h) _ _ _ _ (below4 HB5.out (Nat.le_refl _) _ _ _ _) ?_ HQ.out.1 HQ.out.2 HRD.out
   refine VInP.keep (by simp) (fun b _ hP => ⟨?_,by omega⟩) _ HV.out
   have hne : b≠w.heap.size:=by omega
   rw [heap_setCell_other _ ⟨w.heap.size,3,none⟩ b _ hne,heap_setCell_other _ ⟨w.heap.size,2,none⟩ b _ hne,heap_setCell_other _ ⟨w.heap.size,1,none⟩ b _ hne,heap_setCell_other _ ⟨w.heap.size,0,none⟩ b _ hne]
theorem nx_any (s : ByteArray) (hmax : s.size≤1000000) : ∀ (m p d : Nat),s.size - p≤m→p≤1000000000→d≤6→∀ w,Calls Tryz.prog 36 #[.string s,.int .i64 (p : Int),.int .i64 (d : Int)] w fun e w' => NxR s p d w e w':=by
 intro m
 induction m with
 | zero => exact fun p d hm hp hd w => nx_end s (by omega) p d (by omega) hp w
 | succ m ih =>
  intro p d hm hp hd w
  by_cases hps : s.size≤p
  ·exact nx_end s (by omega) p d hps hp w
  have hps' : p < s.size:=by omega
  by_cases hk : s[p].toNat < 1∨3 < s[p].toNat
  ·exact nx_kind s (by omega) p d hps' hk w
  obtain ⟨n,j,e,hL⟩ : ∃ n j e,lngA 0 0 (s.data.toList.drop (p+1))=(n,j,e):=⟨_,_,_,rfl⟩
  by_cases he : e=0
  ·subst he
   rcases (by omega : s[p].toNat=1∨s[p].toNat=2∨s[p].toNat=3) with h1 | h2 | h3
   ·exact nx_num s (by omega) p d hps' h1 n j hL w
   ·by_cases hs : s.size < p+1+j+n
    ·exact nx_short s (by omega) p d hps' h2 n j hL hs w
    ·exact nx_str s (by omega) p d hps' h2 n j hL (by omega) w
   ·by_cases h6 : d=6
    ·exact nx_deep s (by omega) p d hps' h3 n j hL h6 w
    ·exact nx_list s hmax p d hps' h3 n j hL (by omega) (fun q hq hqs w => ih q (d+1) (by omega) (by omega) (by omega) w) w
  ·exact nx_lng s (by omega) p d hps' hk n j e hL he w
end Go.Proofs.YtjfjliobencppaaGreatDoor

namespace Go.Proofs.YtjfjliobencppaaGreatDoor
open Go.RowKit Cf
theorem ofNat_toNat8 (c : UInt8) : UInt8.ofNat c.toNat=c:=by simp
theorem lng_inv : ∀ (l : List UInt8) (acc j n j' : Nat),lngA acc j l=(n,j',0)→∃ m,n=acc+128 ^ j * m∧(1≤m∨j=0)∧j≤j'∧l=sh m++l.drop (j' - j)∧(sh m).length=j' - j
 | [],acc,j,n,j',h => by
  rw [lngA] at h
  split at h <;> simp at h
 | c::cs,acc,j,n,j',h => by
  rw [lngA] at h
  by_cases h1 : j=10
  ·rw [if_pos h1] at h; simp at h
  rw [if_neg h1] at h
  by_cases h2 : 128≤c.toNat
  ·rw [if_pos h2] at h
   obtain ⟨m',e1,e2,e3,e4,e5⟩:=lng_inv cs _ _ _ _ h
   have hm : 1≤m':=by omega
   have hc:=c.toNat_lt
   have hmod : (c.toNat % 128+128 * m') % 128=c.toNat % 128:=by omega
   have hdiv : (c.toNat % 128+128 * m') / 128=m':=by omega
   have hcc : UInt8.ofNat (c.toNat % 128+128)=c:=by
    rw [show c.toNat % 128+128=c.toNat by omega]; exact ofNat_toNat8 c
   have hs : sh (c.toNat % 128+128 * m')=c::sh m':=by rw [sh_more _ (by omega),hmod,hdiv,hcc]
   refine ⟨c.toNat % 128+128 * m',?_,Or.inl (by omega),by omega,?_,?_⟩
   ·rw [e1,Nat.pow_succ,Nat.mul_add,← Nat.mul_assoc,Nat.add_assoc]
   ·rw [hs,show j' - j=(j' - (j+1))+1 by omega,List.drop_succ_cons,List.cons_append,← e4]
   ·rw [hs,List.length_cons,e5]; omega
  ·rw [if_neg h2] at h
   by_cases h3 : 0 < j∧c.toNat=0
   ·rw [if_pos h3] at h; simp at h
   rw [if_neg h3] at h
   by_cases h4 : j=9∧1 < c.toNat
   ·rw [if_pos h4] at h; simp at h
   rw [if_neg h4] at h
   simp only [Prod.mk.injEq] at h
   obtain ⟨rfl,rfl,_⟩:=h
   have hs : sh c.toNat=[c]:=by rw [sh_last _ (by omega),ofNat_toNat8]
   refine ⟨c.toNat,rfl,by omega,by omega,?_,?_⟩
   ·rw [hs,show j+1 - j=0+1 by omega,List.drop_succ_cons]; rfl
   ·rw [hs]; simp
theorem lng_inv0 {l : List UInt8} {n j : Nat} (h : lngA 0 0 l=(n,j,0)) : l=sh n++l.drop j∧1≤j∧n≤18446744073709551615:=by
 obtain ⟨m,e1,_,_,e4,e5⟩:=lng_inv l 0 0 n j h
 have e : n=m:=by simpa using e1
 subst e
 have:=sh_pos n
 have hle:=(lng_le l 0 0 (by omega) (by omega)).1
 rw [h] at hle
 exact ⟨e4,by omega,hle⟩
def cn1 (x : Tr) : Prop:=(∃ n,n≤18446744073709551615∧x=numT n)∨(∃ b : ByteArray,x=strT b)∨∃ l,x=.mk 3 0 ⟨#[]⟩ l
def cn2 (x : Tr) : Prop:=(∃ n,n≤18446744073709551615∧x=numT n)∨(∃ b : ByteArray,x=strT b)∨∃ l,x=.mk 3 0 ⟨#[]⟩ l∧∀ y ∈ l,cn1 y
theorem str_size' (l : List UInt8) : (str l).size=l.length:=by rw [← ByteArray.size_data]; show (str l).data.size=_; unfold str; simp
theorem str_list (l : List UInt8) : (str l).data.toList=l:=by unfold str; simp
theorem rd_w_nil (x : Tr) (s : List UInt8) : rd (.w x) [] s=(0,x,s):=by rw [rd]
end Go.Proofs.YtjfjliobencppaaGreatDoor

namespace Go.Proofs.YtjfjliobencppaaGreatDoor.Cf
open Go.RowKit
theorem snd_num (n : Nat) : sndT (numT n)=true:=by simp [numT,sndT,sndL]; rfl
theorem snd_str (b : ByteArray) : sndT (strT b)=true:=by simp [strT,sndT,sndL]
theorem snd_row {l : List Tr} (h : ∀ y ∈ l,sndT y=true) : sndT (.mk 3 0 ⟨#[]⟩ l)=true:=by
 have e : sndL l=true:=by rw [sndL_all,List.all_eq_true]; exact h
 unfold sndT
 rw [e]
 simp [ByteArray.size]
def snk (t : Tr) : Prop:=sndT t=true∧okT t
theorem ok_row' {l : List Tr} (hl : l.length≤1000000) (h : ∀ t ∈ l,okT t) : okT (.mk 3 0 ⟨#[]⟩ l):=ok_row hl h
theorem rs_list_inv (t : Tr) (r : List UInt8) (st : List (Nat × List Tr)) (N : Nat) (P : ∀ s : List UInt8,s.length≤N→∀ st,rd .v st s=(0,t,r)→∃ x s',s=txtT x++s'∧s'.length < s.length∧rd (.w x) st s'=(0,t,r)∧snk x) :
  ∀ (k : Nat) (h : List Tr) (s : List UInt8),s.length≤N→rd .n ((k,h)::st) s=(0,t,r)→∃ l s',s=txtL l++s'∧l.length=k∧s'.length+l.length≤s.length∧rd (.w (.mk 3 0 ⟨#[]⟩ (h++l))) st s'=(0,t,r)∧∀ y ∈ l,snk y
 | 0,h,s,_,e => by
  rw [rd_none] at e
  exact ⟨[],s,by unfold txtL; rfl,rfl,by simp,by rw [List.append_nil]; exact e,by simp⟩
 | k+1,h,s,hs,e => by
  rw [rd_more] at e
  obtain ⟨x,s1,e1,e2,e3,e4⟩:=P s hs _ e
  rw [rd_push,Nat.add_sub_cancel] at e3
  obtain ⟨l,s',f1,f2,f3,f4,f5⟩:=rs_list_inv t r st N P k (h++[x]) s1 (by omega) e3
  refine ⟨x::l,s',?_,by simp [f2],by simp only [List.length_cons]; omega,?_,?_⟩
  ·rw [e1,f1]; simp [txtL]
  ·rw [List.append_assoc] at f4; exact f4
  ·intro y hy
   rcases List.mem_cons.1 hy with rfl | hy
   ·exact e4
   ·exact f5 y hy
theorem rs_inv (t : Tr) (r : List UInt8) : ∀ (N : Nat),N≤1000000→∀ (s : List UInt8),s.length≤N→∀ st,rd .v st s=(0,t,r)→∃ x s',s=txtT x++s'∧s'.length < s.length∧rd (.w x) st s'=(0,t,r)∧snk x:=by
 intro N
 induction N with
 | zero =>
  intro _ s hs st e
  have : s=[]:=List.eq_nil_of_length_eq_zero (by omega)
  subst this
  rw [rd_nil] at e
  simp at e
 | succ N ih =>
  intro hN s hs st e
  match s,hs,e with
  | [],_,e => rw [rd_nil] at e; simp at e
  | k::s1,hs,e =>
   by_cases hk : k.toNat < 1∨3 < k.toNat
   ·rw [rd_kind st k s1 hk] at e; simp at e
   obtain ⟨n,j,c,hL⟩ : ∃ n j c,lngA 0 0 s1=(n,j,c):=⟨_,_,_,rfl⟩
   by_cases hc : c=0
   ·subst hc
    obtain ⟨g1,g2,g3⟩:=lng_inv0 hL
    have hdl : (s1.drop j).length < (k::s1).length:=by simp; omega
    rcases (by omega : k.toNat=1∨k.toNat=2∨k.toNat=3) with h1 | h2 | h3
    ·rw [rd_num st k s1 h1 (by rw [hL]),hL] at e
     have hk1 : k=1:=by rw [← ofNat_toNat8 k,h1]; rfl
     refine ⟨numT n,s1.drop j,?_,hdl,e,⟨snd_num n,ok_num g3⟩⟩
     have : txtT (numT n)=1::sh n:=by unfold numT txtT; simp
     rw [this,hk1,List.cons_append,← g1]
    ·by_cases hs2 : (s1.drop j).length < n
     ·rw [rd_short st k s1 h2 (by rw [hL]) (by rw [hL]; exact hs2)] at e; simp at e
     rw [rd_str st k s1 h2 (by rw [hL]) (by rw [hL]; exact hs2),hL] at e
     have hk1 : k=2:=by rw [← ofNat_toNat8 k,h2]; rfl
     have hsz : (str ((s1.drop j).take n)).size=n:=by rw [str_size',List.length_take]; omega
     have hbz : n≤1000000000:=by
      have h1:=hs
      simp only [List.length_cons] at h1
      have h2 : (s1.drop j).length≤s1.length:=by rw [List.length_drop]; omega
      omega
     refine ⟨strT (str ((s1.drop j).take n)),(s1.drop j).drop n,?_,?_,e,⟨snd_str _,ok_str (by rw [hsz]; exact hbz)⟩⟩
     ·have : txtT (strT (str ((s1.drop j).take n)))=2::(sh n++(s1.drop j).take n):=by unfold strT txtT; simp [hsz,str_list]
      rw [this,hk1,List.cons_append,List.append_assoc,List.take_append_drop,← g1]
     ·have : ((s1.drop j).drop n).length≤(s1.drop j).length:=by rw [List.length_drop]; omega
      omega
    ·by_cases h6 : st.length=6
     ·rw [rd_deep st k s1 h3 (by rw [hL]) h6] at e; simp at e
     rw [rd_open st k s1 h3 (by rw [hL]) h6,hL] at e
     have hk1 : k=3:=by rw [← ofNat_toNat8 k,h3]; rfl
     have hsl : (s1.drop j).length≤N:=by simp at hs ⊢; omega
     obtain ⟨l,s',f1,f2,f3,f4,f5⟩:=rs_list_inv t r st N (fun s hs st e => ih (by omega) s hs st e) n [] (s1.drop j) hsl e
     refine ⟨.mk 3 0 ⟨#[]⟩ l,s',?_,by omega,by simpa using f4,⟨snd_row fun y hy => (f5 y hy).1,ok_row' (by omega) fun y hy => (f5 y hy).2⟩⟩
     have : txtT (.mk 3 0 ⟨#[]⟩ l)=3::(sh l.length++txtL l):=by unfold txtT; simp
     rw [this,hk1,f2,List.cons_append,List.append_assoc,← f1,← g1]
   ·rw [rd_lng st k s1 hk (by rw [hL]; exact hc),hL] at e
    simp only [Prod.mk.injEq] at e
    exact absurd e.1 hc
theorem rs_whole {s : List UInt8} {t : Tr} {r : List UInt8} (hz : s.length≤1000000) (h : rd .v [] s=(0,t,r)) : s=txtT t++r∧snk t:=by
 obtain ⟨x,s',e1,_,e3,e4⟩:=rs_inv t r s.length hz s (Nat.le_refl _) [] h
 rw [rd_w_nil] at e3
 simp only [Prod.mk.injEq,true_and] at e3
 obtain ⟨rfl,rfl⟩:=e3
 exact ⟨e1,e4⟩
theorem snd_parts {t : Tr} (h : sndT t=true) : (Tr.tk t≠1→Tr.tn t=0)∧(Tr.tk t≠2→Tr.ts t=⟨#[]⟩)∧(Tr.tk t≠3→Tr.tl t=[])∧∀ x ∈ Tr.tl t,sndT x=true:=by
 obtain ⟨k,n,s,l⟩:=t
 unfold sndT at h
 simp only [Bool.and_eq_true,Bool.or_eq_true,decide_eq_true_eq,sndL_all,List.all_eq_true] at h
 obtain ⟨⟨⟨⟨_,h1⟩,h2⟩,h3⟩,h4⟩:=h
 refine ⟨fun hk => ?_,fun hk => ?_,fun hk => ?_,h4⟩
 ·rcases h1 with h1 | h1
  ·exact absurd h1 hk
  ·exact h1
 ·rcases h2 with h2 | h2
  ·exact absurd h2 hk
  ·obtain ⟨d⟩:=s
   have : d.size=0:=h2
   have e : d=#[]:=Array.eq_empty_of_size_eq_zero this
   show (⟨d⟩ : ByteArray)=⟨#[]⟩
   rw [e]
 ·rcases h3 with h3 | h3
  ·exact absurd h3 hk
  ·exact List.eq_nil_of_length_eq_zero h3
theorem is_num {t : Tr} (h : sndT t=true) (hk : Tr.tk t=1) : t=numT (Tr.tn t):=by
 obtain ⟨_,h2,h3,_⟩:=snd_parts h
 have a:=h2 (by omega)
 have b:=h3 (by omega)
 obtain ⟨k,n,s,l⟩:=t
 simp only [Tr.tk,Tr.ts,Tr.tl,Tr.tn] at *
 subst hk a b
 rfl
theorem is_str {t : Tr} (h : sndT t=true) (hk : Tr.tk t=2) : t=strT (Tr.ts t):=by
 obtain ⟨h1,_,h3,_⟩:=snd_parts h
 have a:=h1 (by omega)
 have b:=h3 (by omega)
 obtain ⟨k,n,s,l⟩:=t
 simp only [Tr.tk,Tr.ts,Tr.tl,Tr.tn] at *
 subst hk a b
 rfl
theorem is_row {t : Tr} (h : sndT t=true) (hk : Tr.tk t=3) : t=rowT (Tr.tl t):=by
 obtain ⟨h1,h2,_,_⟩:=snd_parts h
 have a:=h1 (by omega)
 have b:=h2 (by omega)
 obtain ⟨k,n,s,l⟩:=t
 simp only [Tr.tk,Tr.ts,Tr.tl,Tr.tn] at *
 subst hk a b
 rfl
theorem num_back {t : Tr} (h : sndT t=true) (hw : wrN t=false) : numT (numR t)=t:=by
 have hk : Tr.tk t=1:=by unfold wrN at hw; simpa using hw
 rw [numR_eq hk]
 exact (is_num h hk).symm
theorem str_back {t : Tr} (h : sndT t=true) (hw : wrS t=false) : strT (txtR t)=t:=by
 have hk : Tr.tk t=2:=by unfold wrS at hw; simpa using hw
 rw [txtR_eq hk]
 exact (is_str h hk).symm
theorem six_back {s : ByteArray} (h : okP s=true) : str (Pl.bytes ⟨Sp.byt s 0,Sp.byt s 1,Sp.byt s 2,Sp.byt s 3,Sp.portB s⟩)=s:=by
 obtain ⟨h6,_⟩:=of_decide_eq_true h
 obtain ⟨c0,c1,c2,c3,c4,c5,rfl⟩:=Sp.six s h6
 have l4:=c4.toNat_lt
 have l5:=c5.toNat_lt
 have e4 : UInt8.ofNat ((c4.toNat * 256+c5.toNat) / 256)=c4:=by
  rw [show (c4.toNat * 256+c5.toNat) / 256=c4.toNat by omega]
  exact ofNat_toNat8 c4
 have e5 : UInt8.ofNat (c4.toNat * 256+c5.toNat)=c5:=by
  apply UInt8.toNat_inj.1
  simp only [UInt8.toNat_ofNat',Nat.reducePow]
  omega
 have e : Pl.bytes ⟨Sp.byt ⟨#[c0,c1,c2,c3,c4,c5]⟩ 0,Sp.byt ⟨#[c0,c1,c2,c3,c4,c5]⟩ 1,Sp.byt ⟨#[c0,c1,c2,c3,c4,c5]⟩ 2,Sp.byt ⟨#[c0,c1,c2,c3,c4,c5]⟩ 3,Sp.portB ⟨#[c0,c1,c2,c3,c4,c5]⟩⟩=[UInt8.ofNat c0.toNat,UInt8.ofNat c1.toNat,UInt8.ofNat c2.toNat,UInt8.ofNat c3.toNat,UInt8.ofNat ((c4.toNat * 256+c5.toNat) / 256),UInt8.ofNat (c4.toNat * 256+c5.toNat)]:=by
  simp [Pl.bytes,be,Sp.byt,Sp.portB]
 rw [e,e4,e5,ofNat_toNat8,ofNat_toNat8,ofNat_toNat8,ofNat_toNat8]
 rfl
theorem pl_back {t : Tr} (h : sndT t=true) (hw : wrP t=false) : strT (str (plR t).bytes)=t:=by
 unfold wrP at hw
 rw [Bool.or_eq_false_iff] at hw
 have hs : wrS t=false:=hw.1
 have ho : okP (txtR t)=true:=by simpa using hw.2
 unfold plR
 rw [if_pos ho,six_back ho]
 exact str_back h hs
theorem wgt_back {t : Tr} (h : sndT t=true) (hw : wrW t=false) : numT (wgtR t)=t∧wgtR t≤2147483647:=by
 unfold wrW at hw
 rw [Bool.or_eq_false_iff] at hw
 have hn : wrN t=false:=hw.1
 have hl:=of_decide_eq_false hw.2
 unfold wgtR
 rw [if_neg hl]
 exact ⟨num_back h hn,by omega⟩
theorem fld_snd {n i : Nat} {t : Tr} (h : sndT t=true) (hw : wrF n t=false) (hi : i < n) : sndT (fld n i t)=true:=by
 rw [fld_eq hw hi]
 exact (snd_parts h).2.2.2 _ (List.getElem_mem _)
theorem flds {n : Nat} {t : Tr} (h : sndT t=true) (hw : wrF n t=false) : t=rowT ((List.range n).map fun i => fld n i t):=by
 obtain ⟨h1,h2⟩:=wrF_row hw
 have e : Tr.tl t=(List.range n).map fun i => fld n i t:=by
  refine List.ext_getElem (by simp [h2]) fun i hi hj => ?_
  rw [List.getElem_map,List.getElem_range]
  exact (fld_eq hw (by omega)).symm
 rw [← e]
 exact is_row h h1
theorem map_map_id' {α : Type} {g : Tr→α} {f : α→Tr} : ∀ {l : List Tr},(∀ x ∈ l,f (g x)=x)→(l.map g).map f=l
 | [],_ => rfl
 | a::l,h => by
  rw [List.map_cons,List.map_cons,h a (List.mem_cons_self ..),map_map_id' (l:=l) fun b hb => h b (List.mem_cons_of_mem _ hb)]
theorem rows_back {α : Type} {rd' : Tr→α} {wr : Tr→Bool} {tr : α→Tr} {t : Tr} (h : sndT t=true) (hw : wrL wr t=false) (hE : ∀ x,sndT x=true→wr x=false→tr (rd' x)=x) : rowT (((rows t).map rd').map tr)=t:=by
 have hk : Tr.tk t=3:=by
  by_cases hk : Tr.tk t=3
  ·exact hk
  ·rw [wrL_bad hk] at hw; cases hw
 rw [wrL_eq hk] at hw
 rw [rows_eq hk,map_map_id' fun x hx => hE x ((snd_parts h).2.2.2 x hx) (Bool.eq_false_iff.2 (List.any_eq_false.1 hw x hx))]
 exact (is_row h hk).symm
theorem ep_back (t : Tr) (h : sndT t=true) (hw : wrE t=false) : (rdE t).tr=t:=by
 unfold wrE at hw
 rw [Bool.or_eq_false_iff,Bool.or_eq_false_iff] at hw
 obtain ⟨⟨w0,w1⟩,w2⟩:=hw
 have e:=flds h w0
 have a:=pl_back (fld_snd h w0 (by omega : 0 < 2)) w1
 have b:=wgt_back (fld_snd h w0 (by omega : 1 < 2)) w2
 show rowT [strT (str (plR (fld 2 0 t)).bytes),numT ((wgtR (fld 2 1 t) : Nat) : Int).toNat]=t
 rw [a,Int.toNat_natCast,b.1]
 exact e.symm
theorem rt_back (t : Tr) (h : sndT t=true) (hw : wrR t=false) : (rdR t).tr=t:=by
 unfold wrR at hw
 rw [Bool.or_eq_false_iff,Bool.or_eq_false_iff,Bool.or_eq_false_iff,Bool.or_eq_false_iff] at hw
 obtain ⟨⟨⟨⟨w0,w1⟩,w2⟩,w3⟩,w4⟩:=hw
 have e:=flds h w0
 show rowT [strT (txtR (fld 4 0 t)),strT (txtR (fld 4 1 t)),strT (txtR (fld 4 2 t)),numT (numR (fld 4 3 t))]=t
 rw [str_back (fld_snd h w0 (by omega : 0 < 4)) w1,str_back (fld_snd h w0 (by omega : 1 < 4)) w2,str_back (fld_snd h w0 (by omega : 2 < 4)) w3,num_back (fld_snd h w0 (by omega : 3 < 4)) w4]
 exact e.symm
theorem ls_back (t : Tr) (h : sndT t=true) (hw : wrLs t=false) : (rdLs t).tr=t:=by
 unfold wrLs at hw
 rw [Bool.or_eq_false_iff,Bool.or_eq_false_iff,Bool.or_eq_false_iff] at hw
 obtain ⟨⟨⟨w0,w1⟩,w2⟩,w3⟩:=hw
 have e:=flds h w0
 show rowT [strT (txtR (fld 3 0 t)),strT (str (plR (fld 3 1 t)).bytes),rowT (((rows (fld 3 2 t)).map rdR).map Rt.tr)]=t
 rw [str_back (fld_snd h w0 (by omega : 0 < 3)) w1,pl_back (fld_snd h w0 (by omega : 1 < 3)) w2,rows_back (fld_snd h w0 (by omega : 2 < 3)) w3 rt_back]
 exact e.symm
theorem cl_back (t : Tr) (h : sndT t=true) (hw : wrCl t=false) : (rdCl t).tr=t:=by
 unfold wrCl at hw
 rw [Bool.or_eq_false_iff,Bool.or_eq_false_iff] at hw
 obtain ⟨⟨w0,w1⟩,w2⟩:=hw
 have e:=flds h w0
 show rowT [strT (txtR (fld 2 0 t)),rowT (((rows (fld 2 1 t)).map rdE).map Ep.tr)]=t
 rw [str_back (fld_snd h w0 (by omega : 0 < 2)) w1,rows_back (fld_snd h w0 (by omega : 1 < 2)) w2 ep_back]
 exact e.symm
theorem co_back (t : Tr) (h : sndT t=true) (hw : wrC t=false) : (rdC t).tr=t:=by
 unfold wrC at hw
 rw [Bool.or_eq_false_iff,Bool.or_eq_false_iff,Bool.or_eq_false_iff] at hw
 obtain ⟨⟨⟨w0,w1⟩,w2⟩,w3⟩:=hw
 have e:=flds h w0
 show rowT [numT (numR (fld 3 0 t)),rowT (((rows (fld 3 1 t)).map rdLs).map Ls.tr),rowT (((rows (fld 3 2 t)).map rdCl).map Cl.tr)]=t
 rw [num_back (fld_snd h w0 (by omega : 0 < 3)) w1,rows_back (fld_snd h w0 (by omega : 1 < 3)) w2 ls_back,rows_back (fld_snd h w0 (by omega : 2 < 3)) w3 cl_back]
 exact e.symm
theorem get_fine {s : ByteArray} (h : getC s=0) : s.size≤8192∧s=str (txtT (getT s))∧sndT (getT s)=true∧okT (getT s):=by
 have ht : getT s=(rdA s).2.1:=by unfold getT; rw [if_pos h]
 unfold getC at h
 by_cases h1 : (rdA s).1≠0
 ·rw [if_pos h1] at h; exact absurd h h1
 ·rw [if_neg h1] at h
  have h1 : (rdA s).1=0:=Decidable.not_not.1 h1
  have h2 : (rdA s).2.2=[]:=by
   by_cases h3 : 0 < (rdA s).2.2.length
   ·rw [if_pos h3] at h; cases h
   ·exact List.eq_nil_of_length_eq_zero (by omega)
  have hz : s.size≤8192:=by
   by_cases hz : 8192 < s.size
   ·unfold rdA at h1; rw [if_pos hz] at h1; cases h1
   ·omega
  have e : rd .v [] s.data.toList=(0,getT s,[]):=by
   have e0 : rdA s=rd .v [] s.data.toList:=by unfold rdA; rw [if_neg (by omega)]
   rw [ht,← h1,← h2,e0]
  obtain ⟨e1,e2⟩:=rs_whole (show s.size≤1000000 by omega) e
  refine ⟨hz,?_,e2⟩
  rw [List.append_nil] at e1
  rw [← e1]
  rfl
theorem parse_back {s : ByteArray} (h : psE s=0) : (psC s).err=0∧(psC s).out=s:=by
 have hc : psC s=rdC (getT s):=by unfold psC; rw [if_pos h]
 unfold psE at h
 by_cases h1 : getC s≠0
 ·rw [if_pos h1] at h; exact absurd h h1
 ·rw [if_neg h1] at h
  have h1 : getC s=0:=Decidable.not_not.1 h1
  by_cases h2 : wrC (getT s)=true
  ·rw [if_pos h2] at h; cases h
  ·rw [if_neg h2] at h
   have h2 : wrC (getT s)=false:=Bool.eq_false_iff.2 h2
   by_cases h3 : (rdC (getT s)).many=true
   ·rw [if_pos h3] at h; cases h
   ·have h3 : (rdC (getT s)).many=false:=Bool.eq_false_iff.2 h3
    obtain ⟨g1,g2,g3,_⟩:=get_fine h1
    have ht:=co_back _ g3 h2
    have hb : (rdC (getT s)).below=false:=by
     unfold Co.below
     rw [List.any_eq_false]
     intro x hx hw
     obtain ⟨y,_,rfl⟩:=List.mem_map.1 (show x ∈ (rows (fld 3 2 (getT s))).map rdCl from hx)
     unfold Cl.below at hw
     obtain ⟨e,he,hw⟩:=List.any_eq_true.1 hw
     obtain ⟨z,_,rfl⟩:=List.mem_map.1 (show e ∈ (rows (fld 2 1 y)).map rdE from he)
     have hw:=of_decide_eq_true hw
     have : (0 : Int)≤(wgtR (fld 2 1 z) : Int):=by omega
     exact absurd (show (wgtR (fld 2 1 z) : Int) < 0 from hw) (by omega)
    have hd : deepT (getT s)≤5:=by rw [← ht]; exact Co.deep _
    have hl : (txtT (getT s)).length≤8192:=by
     have e:=congrArg ByteArray.size g2
     rw [str_size] at e
     omega
    have hp : putC (getT s)=0:=by
     unfold putC
     rw [if_neg (by rw [g3]; decide),if_neg (by omega),if_neg (by omega)]
    rw [hc]
    refine ⟨?_,?_⟩
    ·unfold Co.err
     rw [h3,hb,ht]
     exact hp
    ·unfold Co.out
     rw [h3,hb,ht]
     show putS (getT s)=s
     unfold putS
     rw [if_pos hp]
     exact g2.symm
theorem psC_sized (s : ByteArray) : (psC s).sized:=by
 unfold psC
 split
 ·rename_i h
  have h1 : getC s=0:=by
   unfold psE at h
   by_cases h1 : getC s≠0
   ·rw [if_pos h1] at h; exact absurd h h1
   ·exact Decidable.not_not.1 h1
  exact (rdC_ok (get_fine h1).2.2.2).2.2.2
 ·exact ⟨by simp,by simp,fun l hl => absurd hl (by simp),fun l hl => absurd hl (by simp)⟩
end Go.Proofs.YtjfjliobencppaaGreatDoor.Cf

namespace Go.Proofs.YtjfjliobencppaaGreatDoor.Cf
open Go.RowKit
def FirstP (n : Nat) (p : Nat→Bool) (r : Int) : Prop:=(r=-1∧∀ i,i < n→p i=false)∨∃ k : Nat,r=(k : Int)∧k < n∧p k=true∧∀ j,j < k→p j=false
end Go.Proofs.YtjfjliobencppaaGreatDoor.Cf

namespace Go.Proofs.YtjfjliobencppaaGreatDoor
open Go.RowKit
theorem bytes_ne {a b : ByteArray} (h : a≠b) : (a.toList == b.toList)=false:=by
 rw [beq_eq_false_iff_ne]
 intro e
 apply h
 apply ByteArray.ext
 apply Array.ext'
 rw [Lib.toList_data,Lib.toList_data] at e
 exact e
end Go.Proofs.YtjfjliobencppaaGreatDoor

set_option maxRecDepth 100000
set_option maxHeartbeats 1000000
namespace Go.Proofs.YtjfjliobencppaaGreatDoor
open Go.RowKit
theorem rsame_kind (k k' : Int) (n n' : Nat) (s s' : ByteArray) (o o' : Option Addr) (m m' cap cap' : Nat) (hk : k≠k') (w : World) :
  Calls Tryz.prog 35 #[.agg #[.int .i64 k,.int .u64 (n : Int),.string s,.slice o m cap],.agg #[.int .i64 k',.int .u64 (n' : Int),.string s',.slice o' m' cap']] w fun e w' => e=.returned (.bool false)∧Below w.heap.size w w':=by
 have q1 : (k != k')=true:=by rw [bne_iff_ne]; exact hk
 clear hk
 have H0:=Lib.hid (VW.new w (.int .i64 k) (.int .u64 (n : Int)) (.string s) (.slice o m cap) 81)
 obtain ⟨w0,hw0⟩ : ∃ w0,w0=w.alloc (.cells #[.int .i64 k,.int .u64 (n : Int),.string s,.slice o m cap] 81):=⟨_,rfl⟩
 rw [← hw0] at H0
 have H1:=Lib.hid (VW.new w0 (.int .i64 k') (.int .u64 (n' : Int)) (.string s') (.slice o' m' cap') 81)
 have HS : Hid (w0.heap.size=w.heap.size+1):=Lib.hid (by rw [hw0]; simp)
 have HW:=Lib.hid hw0
 clear hw0
 go_enter Tryz.func35,Tryz.ntmps35
 go_upto_region 1 with fail
 rw [← HW.out]
 refine gen_wp (S:=fun wz => Hid (VW w (.int .i64 k) (.int .u64 (n : Int)) (.string s) (.slice o m cap) wz∧VW w0 (.int .i64 k') (.int .u64 (n' : Int)) (.string s') (.slice o' m' cap') wz)) (Lib.hid ⟨H0.out.later H1.out.2.2,H1.out⟩) ?_
 intro W1 HX
 obtain ⟨c0,c1,c2,c3⟩:=HX.out.1.1
 obtain ⟨d0,d1,d2,d3⟩:=HX.out.2.1
 have HB:=Lib.hid HX.out.1.2.2
 rw [HS.out] at d0 d1 d2 d3
 clear H0 H1 HW HX HS
 go_wp2
 go_ret
 exact ⟨rfl,HB.out⟩
theorem rsame_num (k : Int) (n n' : Nat) (s s' : ByteArray) (o o' : Option Addr) (m m' cap cap' : Nat) (hn : n≠n') (w : World) :
  Calls Tryz.prog 35 #[.agg #[.int .i64 k,.int .u64 (n : Int),.string s,.slice o m cap],.agg #[.int .i64 k,.int .u64 (n' : Int),.string s',.slice o' m' cap']] w fun e w' => e=.returned (.bool false)∧Below w.heap.size w w':=by
 have q1 : (k != k)=false:=by simp
 have q2 : ((n : Int) != (n' : Int))=true:=by rw [bne_iff_ne]; omega
 clear hn
 have H0:=Lib.hid (VW.new w (.int .i64 k) (.int .u64 (n : Int)) (.string s) (.slice o m cap) 81)
 obtain ⟨w0,hw0⟩ : ∃ w0,w0=w.alloc (.cells #[.int .i64 k,.int .u64 (n : Int),.string s,.slice o m cap] 81):=⟨_,rfl⟩
 rw [← hw0] at H0
 have H1:=Lib.hid (VW.new w0 (.int .i64 k) (.int .u64 (n' : Int)) (.string s') (.slice o' m' cap') 81)
 have HS : Hid (w0.heap.size=w.heap.size+1):=Lib.hid (by rw [hw0]; simp)
 have HW:=Lib.hid hw0
 clear hw0
 go_enter Tryz.func35,Tryz.ntmps35
 go_upto_region 1 with fail
 rw [← HW.out]
 refine gen_wp (S:=fun wz => Hid (VW w (.int .i64 k) (.int .u64 (n : Int)) (.string s) (.slice o m cap) wz∧VW w0 (.int .i64 k) (.int .u64 (n' : Int)) (.string s') (.slice o' m' cap') wz)) (Lib.hid ⟨H0.out.later H1.out.2.2,H1.out⟩) ?_
 intro W1 HX
 obtain ⟨c0,c1,c2,c3⟩:=HX.out.1.1
 obtain ⟨d0,d1,d2,d3⟩:=HX.out.2.1
 have HB:=Lib.hid HX.out.1.2.2
 rw [HS.out] at d0 d1 d2 d3
 clear H0 H1 HW HX HS
 go_wp2
 go_ret
 exact ⟨rfl,HB.out⟩
theorem rsame_text (k : Int) (n : Nat) (s s' : ByteArray) (o o' : Option Addr) (m m' cap cap' : Nat) (hs : s≠s') (w : World) :
  Calls Tryz.prog 35 #[.agg #[.int .i64 k,.int .u64 (n : Int),.string s,.slice o m cap],.agg #[.int .i64 k,.int .u64 (n : Int),.string s',.slice o' m' cap']] w fun e w' => e=.returned (.bool false)∧Below w.heap.size w w':=by
 have q1 : (k != k)=false:=by simp
 have q2 : ((n : Int) != (n : Int))=false:=by simp
 have q3:=bytes_ne hs
 have q3' : (s.toList != s'.toList)=true:=by simp [bne,q3]
 clear hs
 have H0:=Lib.hid (VW.new w (.int .i64 k) (.int .u64 (n : Int)) (.string s) (.slice o m cap) 81)
 obtain ⟨w0,hw0⟩ : ∃ w0,w0=w.alloc (.cells #[.int .i64 k,.int .u64 (n : Int),.string s,.slice o m cap] 81):=⟨_,rfl⟩
 rw [← hw0] at H0
 have H1:=Lib.hid (VW.new w0 (.int .i64 k) (.int .u64 (n : Int)) (.string s') (.slice o' m' cap') 81)
 have HS : Hid (w0.heap.size=w.heap.size+1):=Lib.hid (by rw [hw0]; simp)
 have HW:=Lib.hid hw0
 clear hw0
 go_enter Tryz.func35,Tryz.ntmps35
 go_upto_region 1 with fail
 rw [← HW.out]
 refine gen_wp (S:=fun wz => Hid (VW w (.int .i64 k) (.int .u64 (n : Int)) (.string s) (.slice o m cap) wz∧VW w0 (.int .i64 k) (.int .u64 (n : Int)) (.string s') (.slice o' m' cap') wz)) (Lib.hid ⟨H0.out.later H1.out.2.2,H1.out⟩) ?_
 intro W1 HX
 obtain ⟨c0,c1,c2,c3⟩:=HX.out.1.1
 obtain ⟨d0,d1,d2,d3⟩:=HX.out.2.1
 have HB:=Lib.hid HX.out.1.2.2
 rw [HS.out] at d0 d1 d2 d3
 clear H0 H1 HW HX HS
 go_wp2
 go_ret
 exact ⟨rfl,HB.out⟩
theorem rsame_len (k : Int) (n : Nat) (s : ByteArray) (o o' : Option Addr) (m m' cap cap' : Nat) (hm : m≠m') (w : World) :
  Calls Tryz.prog 35 #[.agg #[.int .i64 k,.int .u64 (n : Int),.string s,.slice o m cap],.agg #[.int .i64 k,.int .u64 (n : Int),.string s,.slice o' m' cap']] w fun e w' => e=.returned (.bool false)∧Below w.heap.size w w':=by
 have q1 : (k != k)=false:=by simp
 have q2 : ((n : Int) != (n : Int))=false:=by simp
 have q3 : (s.toList != s.toList)=false:=by simp
 have q4 : ((m : Int) != (m' : Int))=true:=by rw [bne_iff_ne]; omega
 clear hm
 have H0:=Lib.hid (VW.new w (.int .i64 k) (.int .u64 (n : Int)) (.string s) (.slice o m cap) 81)
 obtain ⟨w0,hw0⟩ : ∃ w0,w0=w.alloc (.cells #[.int .i64 k,.int .u64 (n : Int),.string s,.slice o m cap] 81):=⟨_,rfl⟩
 rw [← hw0] at H0
 have H1:=Lib.hid (VW.new w0 (.int .i64 k) (.int .u64 (n : Int)) (.string s) (.slice o' m' cap') 81)
 have HS : Hid (w0.heap.size=w.heap.size+1):=Lib.hid (by rw [hw0]; simp)
 have HW:=Lib.hid hw0
 clear hw0
 go_enter Tryz.func35,Tryz.ntmps35
 go_upto_region 1 with fail
 rw [← HW.out]
 refine gen_wp (S:=fun wz => Hid (VW w (.int .i64 k) (.int .u64 (n : Int)) (.string s) (.slice o m cap) wz∧VW w0 (.int .i64 k) (.int .u64 (n : Int)) (.string s) (.slice o' m' cap') wz)) (Lib.hid ⟨H0.out.later H1.out.2.2,H1.out⟩) ?_
 intro W1 HX
 obtain ⟨c0,c1,c2,c3⟩:=HX.out.1.1
 obtain ⟨d0,d1,d2,d3⟩:=HX.out.2.1
 have HB:=Lib.hid HX.out.1.2.2
 rw [HS.out] at d0 d1 d2 d3
 clear H0 H1 HW HX HS
 go_wp2
 go_ret
 exact ⟨rfl,HB.out⟩
theorem rsame_list (k : Int) (n : Nat) (s : ByteArray) (o o' : Option Addr) (cap b off cap' b' off' : Nat) (l l' : List Tr) (hlen : l.length≤1000000) (he : l.length=l'.length)
  (ih : ∀ x ∈ l,∀ (y : Tr) (c0 c1 c2 c3 d0 d1 d2 d3 : Value) (w : World),VIn w x c0 c1 c2 c3→VIn w y d0 d1 d2 d3→Calls Tryz.prog 35 #[.agg #[c0,c1,c2,c3],.agg #[d0,d1,d2,d3]] w fun e w' => e=.returned (.bool (sameT x y))∧Below w.heap.size w w')
  (w : World) (ho : 0 < l.length→o=some ⟨b,off,none⟩∧b < w.heap.size) (hl : VInL w b off l) (ho' : 0 < l'.length→o'=some ⟨b',off',none⟩∧b' < w.heap.size) (hl' : VInL w b' off' l') :
  Calls Tryz.prog 35 #[.agg #[.int .i64 k,.int .u64 (n : Int),.string s,.slice o l.length cap],.agg #[.int .i64 k,.int .u64 (n : Int),.string s,.slice o' l'.length cap']] w fun e w' => e=.returned (.bool (sameL l l'))∧Below w.heap.size w w':=by
 have HS:=Lib.hid (sameL_iff l l' he)
 rw [← he]
 obtain ⟨m,hm⟩ : ∃ m,m=l.length:=⟨_,rfl⟩
 have hm' : m=l'.length:=by rw [hm,he]
 rw [← hm] at hlen ⊢
 have HM:=Lib.hid hm
 have HM':=Lib.hid hm'
 have HO:=Lib.hid ho
 have HL:=Lib.hid hl
 have HO':=Lib.hid ho'
 have HL':=Lib.hid hl'
 have IH:=Lib.hid ih
 obtain ⟨R,hR⟩ : ∃ R,R=sameL l l':=⟨_,rfl⟩
 rw [← hR]
 have HR:=Lib.hid hR
 clear ho hl ho' hl' ih hm hm' he hR
 have q1 : (k != k)=false:=by simp
 have q2 : ((n : Int) != (n : Int))=false:=by simp
 have q3 : (s.toList != s.toList)=false:=by simp
 have q4 : ((m : Int) != (m : Int))=false:=by simp
 have H0:=Lib.hid (VW.new w (.int .i64 k) (.int .u64 (n : Int)) (.string s) (.slice o m cap) 81)
 obtain ⟨w0,hw0⟩ : ∃ w0,w0=w.alloc (.cells #[.int .i64 k,.int .u64 (n : Int),.string s,.slice o m cap] 81):=⟨_,rfl⟩
 rw [← hw0] at H0
 have H1:=Lib.hid (VW.new w0 (.int .i64 k) (.int .u64 (n : Int)) (.string s) (.slice o' m cap') 81)
 have HSZ : Hid (w0.heap.size=w.heap.size+1):=Lib.hid (by rw [hw0]; simp)
 have HW:=Lib.hid hw0
 clear hw0
 go_enter Tryz.func35,Tryz.ntmps35
 go_upto_region 1 with fail
 rw [← HW.out]
 refine gen_wp (S:=fun wz => Hid (VW w (.int .i64 k) (.int .u64 (n : Int)) (.string s) (.slice o m cap) wz∧VW w0 (.int .i64 k) (.int .u64 (n : Int)) (.string s) (.slice o' m cap') wz)) (Lib.hid ⟨H0.out.later H1.out.2.2,H1.out⟩) ?_
 intro W1 HX
 obtain ⟨c0,c1,c2,c3⟩:=HX.out.1.1
 obtain ⟨d0,d1,d2,d3⟩:=HX.out.2.1
 have HB:=Lib.hid HX.out.1.2.2
 rw [HSZ.out] at d0 d1 d2 d3
 have HX2 : Hid (VW w (.int .i64 k) (.int .u64 (n : Int)) (.string s) (.slice o m cap) W1∧(W1.cell? ⟨w.heap.size+1,3,none⟩=some (.slice o' m cap')∧w.heap.size+1 < W1.heap.size)):=Lib.hid ⟨HX.out.1,d3,by rw [← HSZ.out]; exact HX.out.2.2.1⟩
 clear H0 H1 HW HX HSZ HB
 go_wp2_with fail
 clear c0 c1 c2 c3 d0 d1 d2 d3
 go_loopw [37] (fun iv wr => ∃ j : Nat,j≤m∧iv=.int .i64 (j : Int)∧Hid (∀ i (h : i < l.length) (h' : i < l'.length),i < j→sameT l[i] l'[i]=true)∧Hid (VW w (.int .i64 k) (.int .u64 (n : Int)) (.string s) (.slice o m cap) wr∧(wr.cell? ⟨w.heap.size+1,3,none⟩=some (.slice o' m cap')∧w.heap.size+1 < wr.heap.size))) (fun iv _ => m - (intOf iv).toNat)
 case atStart => exact ⟨0,Nat.zero_le _,rfl,Lib.hid (fun i _ _ h => absurd h (by omega)),HX2⟩
 case round =>
  clear HX2
  obtain ⟨j,hj,rfl,hS,hX⟩:=hrel
  by_cases hjm : j < m
  ·have hjl : j < l.length:=by rw [← HM.out]; exact hjm
   have hjl' : j < l'.length:=by rw [← HM'.out]; exact hjm
   obtain ⟨hoo,hbb⟩:=HO.out (by omega)
   subst hoo
   obtain ⟨hoo',hbb'⟩:=HO'.out (by omega)
   subst hoo'
   obtain ⟨d0,d1,d2,d3,e0,e1,e2,e3,hv⟩:=HL.out.at j hjl
   obtain ⟨k1,n1,s1,o1,len1,cap1,rfl,rfl,rfl,rfl⟩:=hv.cells
   obtain ⟨d0',d1',d2',d3',e0',e1',e2',e3',hv'⟩:=HL'.out.at j hjl'
   obtain ⟨k2,n2,s2,o2,len2,cap2,rfl,rfl,rfl,rfl⟩:=hv'.cells
   have f0:=(hX.out.1.2.2.cell (p:=⟨b,_,none⟩) hbb).trans e0
   have f1:=(hX.out.1.2.2.cell (p:=⟨b,_,none⟩) hbb).trans e1
   have f2:=(hX.out.1.2.2.cell (p:=⟨b,_,none⟩) hbb).trans e2
   have f3:=(hX.out.1.2.2.cell (p:=⟨b,_,none⟩) hbb).trans e3
   have g0:=(hX.out.1.2.2.cell (p:=⟨b',_,none⟩) hbb').trans e0'
   have g1:=(hX.out.1.2.2.cell (p:=⟨b',_,none⟩) hbb').trans e1'
   have g2:=(hX.out.1.2.2.cell (p:=⟨b',_,none⟩) hbb').trans e2'
   have g3:=(hX.out.1.2.2.cell (p:=⟨b',_,none⟩) hbb').trans e3'
   have b3:=hX.out.1.1.2.2.2
   have b4:=hX.out.2.1
   have ij : (j : Int) < (m : Int):=by omega
   have ij0 : (0 : Int)≤(j : Int):=by omega
   have HV:=Lib.hid hv
   have HV':=Lib.hid hv'
   clear e0 e1 e2 e3 hv e0' e1' e2' e3' hv'
   go_wp2_with fail
   go_still_tail 10,(by kernel_rfl)
   change wpList _ _ _ _ _ wr.drew
   have HXd : Hid (VW w (.int .i64 k) (.int .u64 (n : Int)) (.string s) (.slice (some ⟨b,off,none⟩) m cap) wr.drew∧(wr.drew.cell? ⟨w.heap.size+1,3,none⟩=some (.slice (some ⟨b',off',none⟩) m cap')∧w.heap.size+1 < wr.drew.heap.size)):=Lib.hid ⟨hX.out.1.drew,hX.out.2⟩
   clear f0 f1 f2 f3 g0 g1 g2 g3 b3 b4
   generalize wr.drew=wd at *
   go_wp2_with fail
   refine (IH.out l[j] (List.getElem_mem hjl) l'[j] _ _ _ _ _ _ _ _ wd (HV.out.later HXd.out.1.2.2) (HV'.out.later HXd.out.1.2.2)).mono ?_
   rintro r w5 ⟨rfl,hb5⟩
   have HX5 : Hid (VW w (.int .i64 k) (.int .u64 (n : Int)) (.string s) (.slice (some ⟨b,off,none⟩) m cap) w5∧(w5.cell? ⟨w.heap.size+1,3,none⟩=some (.slice (some ⟨b',off',none⟩) m cap')∧w.heap.size+1 < w5.heap.size)):=Lib.hid ⟨HXd.out.1.later hb5,(hb5.cell (p:=⟨w.heap.size+1,3,none⟩) HXd.out.2.2).trans HXd.out.2.1,Nat.lt_of_lt_of_le HXd.out.2.2 hb5.size⟩
   clear hb5
   by_cases hs : sameT l[j] l'[j]=true
   ·have HSS:=Lib.hid hs
    rw [hs]
    clear hs
    go_wp2
    go_roundw
    case rel =>
     refine ⟨j+1,by omega,by go_num,Lib.hid (fun i h h' hi => ?_),HX5⟩
     by_cases hij : i=j
     ·subst hij; exact HSS.out
     ·exact hS.out i h h' (by omega)
    case measure => simp [intOf]; omega
   ·have hss : sameT l[j] l'[j]=false:=by simpa using hs
    have HALL : Hid (R=false):=Lib.hid (by
     rw [HR.out]
     cases hx : sameL l l' with
     | false => rfl
     | true => exact absurd (HS.out.1 hx j hjl hjl') hs)
    have HB:=Lib.hid HX5.out.1.2.2
    rw [hss]
    clear hs hss
    go_wp2
    go_ret
    exact ⟨by rw [HALL.out]; rfl,HB.out⟩
  ·have HALL : Hid (R=true):=Lib.hid (by
    rw [HR.out]
    exact HS.out.2 (fun i h h' => hS.out i h h' (by have:=HM.out; omega)))
   have HB:=Lib.hid hX.out.1.2.2
   go_wp2
   go_ret
   exact ⟨by rw [HALL.out]; rfl,HB.out⟩
theorem rsame_any : ∀ (t : Tr),∀ (u : Tr) (c0 c1 c2 c3 d0 d1 d2 d3 : Value) (w : World),VIn w t c0 c1 c2 c3→VIn w u d0 d1 d2 d3→Calls Tryz.prog 35 #[.agg #[c0,c1,c2,c3],.agg #[d0,d1,d2,d3]] w fun e w' => e=.returned (.bool (sameT t u))∧Below w.heap.size w w':=by
 refine Tr.ind ?_
 intro k n s l ih u c0 c1 c2 c3 d0 d1 d2 d3 w h h'
 obtain ⟨k',n',s',l'⟩:=u
 unfold VIn at h h'
 obtain ⟨rfl,rfl,hn,rfl,⟨_,hlen⟩,o,cap,b,off,rfl,ho,hl⟩:=h
 obtain ⟨rfl,rfl,hn',rfl,⟨_,hlen'⟩,o',cap',b',off',rfl,ho',hl'⟩:=h'
 unfold sameT
 by_cases h1 : k=k'
 ·by_cases h2 : n=n'
  ·by_cases h3 : s=s'
   ·rw [decide_eq_true h1,decide_eq_true h2,decide_eq_true h3,Bool.true_and,Bool.true_and,Bool.true_and]
    subst h1 h2 h3
    by_cases h4 : l.length=l'.length
    ·exact rsame_list k n s o o' cap b off cap' b' off' l l' hlen h4 ih w ho hl ho' hl'
    ·rw [sameL_len l l' h4]
     exact rsame_len k n s o o' l.length l'.length cap cap' h4 w
   ·rw [decide_eq_true h1,decide_eq_true h2,decide_eq_false h3]
    subst h1 h2
    simpa using rsame_text k n s s' o o' l.length l'.length cap cap' h3 w
  ·rw [decide_eq_true h1,decide_eq_false h2]
   subst h1
   simpa using rsame_num k n n' s s' o o' l.length l'.length cap cap' h2 w
 ·rw [decide_eq_false h1]
  simpa using rsame_kind k k' n n' s s' o o' l.length l'.length cap cap' h1 w
end Go.Proofs.YtjfjliobencppaaGreatDoor

set_option maxRecDepth 100000
set_option maxHeartbeats 4000000
namespace Go.Proofs.YtjfjliobencppaaGreatDoor.Cf
open Go.RowKit
theorem rsame_of {w : World} {c0 c1 c2 d0 d1 d2 : Value} (t u : Tr) (hc : ∀ wz,Below w.heap.size w wz→Calls Tryz.prog 28 #[.agg #[c0,c1,c2]] wz (WrP t wz)) (hd : ∀ wz,Below w.heap.size w wz→Calls Tryz.prog 28 #[.agg #[d0,d1,d2]] wz (WrP u wz))
  (h1c : c0.oneCell'=true∧c1.oneCell'=true∧c2.oneCell'=true) (h1d : d0.oneCell'=true∧d1.oneCell'=true∧d2.oneCell'=true) : Calls Tryz.prog 15 #[.agg #[c0,c1,c2],.agg #[d0,d1,d2]] w fun e w' => e=.returned (.bool (sameT t u))∧Below w.heap.size w w':=by
 have KC:=Lib.hid hc
 have KD:=Lib.hid hd
 clear hc hd
 obtain ⟨W0,hW0⟩ : ∃ W0,W0=((w.alloc (.cells #[c0,c1,c2] 37)).alloc (.cells #[d0,d1,d2] 37)):=⟨_,rfl⟩
 have HX0 : Hid (Bk W0.drew w.heap.size #[c0,c1,c2] 37):=Lib.hid (by rw [hW0]; have h:=(alloc_at (w:=w) (g:=w.heap.size) #[c0,c1,c2] 37 rfl).later (alloc_below _ (.cells #[d0,d1,d2] 37)); exact h)
 have HY0 : Hid (Bk W0.drew (w.heap.size+1) #[d0,d1,d2] 37):=Lib.hid (by rw [hW0]; exact alloc_at (w:=w.alloc (.cells #[c0,c1,c2] 37)) (g:=w.heap.size+1) _ _ (by simp))
 have HB0 : Hid (Below w.heap.size w W0.drew):=Lib.hid (by rw [hW0]; exact ((alloc_below _ _).trans ((alloc_below _ _).mono (by simp))).drew)
 go_enter Tryz.func15,Tryz.ntmps15
 go_upto_region 1 with (fail)
 rw [← hW0]
 clear hW0
 have mkS : Hid (∀ wz,Bk wz w.heap.size #[c0,c1,c2] 37→Bk wz (w.heap.size+1) #[d0,d1,d2] 37→wz.cell? ⟨w.heap.size,0,none⟩=some c0∧wz.cell? ⟨w.heap.size,1,none⟩=some c1∧wz.cell? ⟨w.heap.size,2,none⟩=some c2∧wz.cell? ⟨w.heap.size+1,0,none⟩=some d0∧wz.cell? ⟨w.heap.size+1,1,none⟩=some d1∧wz.cell? ⟨w.heap.size+1,2,none⟩=some d2∧Hid True):=Lib.hid (fun wz h0 h1 => ⟨(cell_of_row _ _ 0 _ _ _ h0).trans rfl,(cell_of_row _ _ 1 _ _ _ h0).trans rfl,(cell_of_row _ _ 2 _ _ _ h0).trans rfl,(cell_of_row _ _ 0 _ _ _ h1).trans rfl,(cell_of_row _ _ 1 _ _ _ h1).trans rfl,(cell_of_row _ _ 2 _ _ _ h1).trans rfl,Lib.hid True.intro⟩)
 refine wp_region_held_drew (S:=fun wz => wz.cell? ⟨w.heap.size,0,none⟩=some c0∧wz.cell? ⟨w.heap.size,1,none⟩=some c1∧wz.cell? ⟨w.heap.size,2,none⟩=some c2∧wz.cell? ⟨w.heap.size+1,0,none⟩=some d0∧wz.cell? ⟨w.heap.size+1,1,none⟩=some d1∧wz.cell? ⟨w.heap.size+1,2,none⟩=some d2∧Hid True) (by kernel_rfl) (mkS.out _ HX0.out HY0.out) (fun hj9 => ?_)
 generalize W0.drew=wc0 at *
 refine tkH (i:=0) (oi:=⟨some 5,_,_,_,_,_⟩) (v:=?_) rfl (Or.inl ⟨by rfl,by (intro w hSw; (try dsimp only at hSw); go_simp; try with_reducible rfl)⟩) hj9 ?_
 try simp only [Act.put,pS,p0,p1]
 refine tkH (i:=2) (oi:=⟨some 7,_,_,_,_,_⟩) (v:=?_) rfl (Or.inl ⟨by rfl,by (intro w hSw; (try dsimp only at hSw); go_simp; try with_reducible rfl)⟩) hj9 ?_
 try simp only [Act.put,pS,p0,p1]
 refine wpAnyH_ready (rs:=[1]) (by kernel_rfl) (by simp) ?_
 refine AllReadyH.cons (o:=⟨some 6,_,_,_,_,_⟩) rfl (fun K hK => ?_) ?_
 ·go_simp
  refine (KC.out _ HB0.out).mono ?_
  rintro ze wc1 ⟨o1,n1,p1,rfl,hv1,hbn⟩
  try go_simp
  have HX1:=Lib.hid (Bk.later HX0.out hbn)
  have HY1:=Lib.hid (Bk.later HY0.out hbn)
  have HB1:=Lib.hid (HB0.out.trans (hbn.mono HB0.out.size))
  have HV1:=Lib.hid hv1
  refine hK.out _ _ (mkS.out _ HX1.out HY1.out) (fun hj8 => ?_)
  clear hK K hj9
  have hj9:=hj8
  clear hj8
  clear hbn
  try simp only [Act.put,pS,p0,p1]
  refine wpAnyH_ready (rs:=[3]) (by kernel_rfl) (by simp) ?_
  refine AllReadyH.cons (o:=⟨some 8,_,_,_,_,_⟩) rfl (fun K hK => ?_) ?_
  ·go_simp
   refine (KD.out _ HB1.out).mono ?_
   rintro ze wc2 ⟨o2,n2,p2,rfl,hv2,hbn⟩
   try go_simp
   have HX2:=Lib.hid (Bk.later HX1.out hbn)
   have HY2:=Lib.hid (Bk.later HY1.out hbn)
   have HB2:=Lib.hid (HB1.out.trans (hbn.mono HB1.out.size))
   have HT2:=Lib.hid (VIn.later hbn _ (VInP.plain _ HV1.out))
   have HU2:=Lib.hid (VInP.plain _ hv2)
   refine hK.out _ _ (mkS.out _ HX2.out HY2.out) (fun hj8 => ?_)
   clear hK K hj9
   have hj9:=hj8
   clear hj8
   clear hbn
   try simp only [Act.put,pS,p0,p1]
   refine wpAnyH_ready (rs:=[4]) (by kernel_rfl) (by simp) ?_
   refine AllReadyH.cons (o:=⟨some 9,_,_,_,_,_⟩) rfl (fun K hK => ?_) ?_
   ·go_simp
    refine (rsame_any t u _ _ _ _ _ _ _ _ _ HT2.out HU2.out).mono ?_
    rintro ze wc3 ⟨rfl,hbn⟩
    try go_simp
    have HX3:=Lib.hid (Bk.later HX2.out hbn)
    have HY3:=Lib.hid (Bk.later HY2.out hbn)
    have HB3:=Lib.hid (HB2.out.trans (hbn.mono HB2.out.size))
    refine hK.out _ _ (mkS.out _ HX3.out HY3.out) (fun hj8 => ?_)
    clear hK K hj9
    have hj9:=hj8
    clear hj8
    clear hbn
    try simp only [Act.put,pS,p0,p1]
    refine wpAnyH_ready (rs:=[5]) (by kernel_rfl) (by simp) ?_
    refine AllReadyH.cons (o:=⟨some 4,_,_,_,_,_⟩) rfl (fun K hK => ?_) ?_
    ·go_simp
     refine hK.out _ _ (mkS.out _ HX3.out HY3.out) (fun hj8 => ?_)
     clear hK K hj9
     have hj9:=hj8
     clear hj8
     try simp only [Act.put,pS,p0,p1]
     refine wpAnyH_done (by kernel_rfl) ?_ _
     simp only [Exit.then]
     apply_assumption
     try go_wp2
     refine bodyPost_ret (v:=.bool (sameT t u)) (by simp [results,Tryz.results15,go_sem, *]) rfl ⟨rfl,HB3.out⟩
    ·exact AllReadyH.nil
   ·exact AllReadyH.nil
  ·exact AllReadyH.nil
 ·exact AllReadyH.nil
end Go.Proofs.YtjfjliobencppaaGreatDoor.Cf
