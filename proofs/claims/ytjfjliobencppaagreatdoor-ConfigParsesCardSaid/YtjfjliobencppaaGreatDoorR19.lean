/- codec.read of any text. -/
import Derived.Test.YtjfjliobencppaaGreatDoorR18
set_option linter.unusedVariables false
set_option linter.unusedSimpArgs false
set_option maxRecDepth 1000000
set_option maxHeartbeats 4000000
namespace Go.Proofs.YtjfjliobencppaaGreatDoor
open Go.RowKit
theorem num_in (w : World) (P : Nat→Prop) (n : Nat) (hn : n≤18446744073709551615) : VInP w P (.mk 1 n ⟨#[]⟩ []) (.int .i64 1) (.int .u64 (n : Int)) (.string ⟨#[]⟩) (.slice none 0 0):=by
 unfold VInP
 exact ⟨rfl,rfl,hn,rfl,⟨by simp [ByteArray.size],by simp⟩,none,0,0,0,rfl,fun h => absurd h (by simp),by unfold VInPL; trivial⟩
theorem text_in (w : World) (P : Nat→Prop) (s : ByteArray) (hs : s.size≤1000000000) : VInP w P (.mk 2 0 s []) (.int .i64 2) (.int .u64 0) (.string s) (.slice none 0 0):=by
 unfold VInP
 exact ⟨rfl,rfl,by omega,rfl,⟨hs,by simp⟩,none,0,0,0,rfl,fun h => absurd h (by simp),by unfold VInPL; trivial⟩
theorem head_one (s : ByteArray) (c : UInt8) (l : List UInt8) (h : s.data.toList=c::l) (hb : 0 < (s.extract 0 1).size) : ((s.extract 0 1)[0]'hb).toNat=c.toNat:=by
 have h1 : (s.extract 0 1).data.toList=[c]:=by
  rw [ByteArray.data_extract,Array.toList_extract,List.extract,List.drop_zero,h]
  rfl
 have h2 : ((s.extract 0 1).data.toList)[0]?=some c:=by rw [h1]; rfl
 have h3 : ((s.extract 0 1).data.toList)[0]?=some ((s.extract 0 1)[0]'hb):=by
  rw [List.getElem?_eq_getElem (by simpa using hb)]; rfl
 rw [h3] at h2
 injection h2 with h2
 rw [h2]
theorem pass_vt (w : World) (A : Nat × Tr × List UInt8) (n : Nat) (a : Act) (wz : World) (hJ : JV w A n a wz) : Code.wp Tryz.prog (labT 0) (Exit.jumps (fun l a' w' => ∃ m,m < n∧JR w A l m a' w') (bodyPost Tryz.prog Tryz.f71 (RdQ w A))) a wz:=by
 obtain ⟨u,sρ,so,scap,L,s,k0,n0,s0,o0,l0,p0,rfl,HR,HP⟩:=hJ
 obtain ⟨hL,hs,hE,hA,hn⟩:=HP.out
 rcases hsl : s.data.toList with _ | ⟨c,l⟩
 ·have h0 : s=⟨#[]⟩:=empty_ba s (by have:=congrArg List.length hsl; simpa using this)
  rw [hsl,rd] at hA
  exact pv_empty w A n u sρ so scap L s k0 n0 s0 o0 l0 p0 wz HR hs h0 (Lib.hid hA.symm)
 ·have hlen : s.size=l.length+1:=by have:=congrArg List.length hsl; simpa using this
  obtain ⟨s1,hs1⟩ : ∃ s1,s1=s.extract 1 s.size:=⟨_,rfl⟩
  have hs1l : s1.data.toList=l:=by rw [hs1,ext_drop,hsl]; rfl
  have hs1n : s1.size=l.length:=by have:=congrArg List.length hs1l; simpa using this
  have hbs : 0 < (s.extract 0 1).size:=by
   have h1 : (s.extract 0 1).data.toList.length=1:=by
    rw [ByteArray.data_extract,Array.toList_extract,List.extract,List.drop_zero,hsl]; rfl
   have h2 : (s.extract 0 1).data.toList.length=(s.extract 0 1).size:=by simp
   omega
  have hbc:=head_one s c l hsl hbs
  have hkc : c.toNat < 256:=c.toNat_lt
  rw [hsl,rd] at hA
  obtain ⟨R,hR⟩ : ∃ R,lngA 0 0 l=R:=⟨_,rfl⟩
  have hfine:=lngA_fine l 0 0 (by omega) (fun _ => by simp)
  rw [hR] at hA hfine
  obtain ⟨nn,sz,ec⟩:=R
  rw [← hs1l] at hR
  by_cases hbad : c.toNat < 1∨3 < c.toNat
  ·rw [if_pos hbad] at hA
   exact pv_kind w A n u sρ so scap L s k0 n0 s0 o0 l0 p0 wz HR hs (s.extract 0 1) s1 c.toNat (by omega) rfl hs1 hbs hbc hkc hbad (Lib.hid hA.symm)
  ·rw [if_neg hbad] at hA
   by_cases hec : ec≠0
   ·rw [if_pos hec] at hA
    exact pv_long w A n u sρ so scap L s k0 n0 s0 o0 l0 p0 wz HR hs (s.extract 0 1) s1 c.toNat (by omega) rfl hs1 hbs hbc hkc nn sz ec hR (by omega) (by omega) hec (Lib.hid hA.symm)
   ·rw [if_neg hec] at hA
    obtain rfl : ec=0:=by omega
    obtain ⟨hn64,hsz1,hsz2⟩:=hfine rfl
    simp only at hn64 hsz1 hsz2 hA
    obtain ⟨s2,hs2⟩ : ∃ s2,s2=s1.extract sz s1.size:=⟨_,rfl⟩
    have hs2l : s2.data.toList=l.drop sz:=by rw [hs2,ext_drop,hs1l]
    have hs2n : s2.size=l.length - sz:=by
     have:=congrArg List.length hs2l
     rw [List.length_drop] at this
     simpa using this
    rw [← hs2l] at hA
    have hE2 : ∀ s' : ByteArray,s'.size≤s2.size→∀ f ∈ L,f.left≤18446744073709551615∧1≤f.left∧f.hv.length+s'.size+1≤8192:=fun s' h f hf => by
     have:=hE f hf
     exact ⟨this.1,this.2.1,by omega⟩
    by_cases h1 : c.toNat=1
    ·rw [if_pos h1] at hA
     refine pv_num w A n u sρ so scap L s k0 n0 s0 o0 l0 p0 wz HR hs (s.extract 0 1) s1 (by omega) rfl hs1 hbs (by rw [hbc,h1]) nn sz hR s2 (by omega) hs2 (by omega) (Lib.hid (fun a' w' ha hr => ?_))
     exact ⟨s2.size * 100+L.length * 10+2,by omega,Or.inr (Or.inr ⟨rfl,(fun i => a'.tmps.getD i undef),_,_,_,_,_,_,_,_,_,_,_,_,ha,Lib.hid hr,Lib.hid (num_in _ _ nn hn64),Lib.hid ⟨hL,by omega,hE2 s2 (Nat.le_refl _),hA,rfl⟩⟩)⟩
    ·rw [if_neg h1] at hA
     by_cases h2 : c.toNat=2
     ·rw [if_pos h2] at hA
      have hl2 : s2.data.toList.length=s2.size:=by simp
      by_cases hsh : s2.data.toList.length < nn
      ·rw [if_pos hsh] at hA
       exact pv_short w A n u sρ so scap L s k0 n0 s0 o0 l0 p0 wz HR hs (s.extract 0 1) s1 (by omega) rfl hs1 hbs (by rw [hbc,h2]) nn sz hR s2 (by omega) hs2 (by omega) (by omega) (Lib.hid hA.symm)
      ·rw [if_neg hsh] at hA
       obtain ⟨s3,hs3⟩ : ∃ s3,s3=s2.extract nn s2.size:=⟨_,rfl⟩
       have hs3l : s3.data.toList=s2.data.toList.drop nn:=by rw [hs3,ext_drop]
       have hs3n : s3.size≤s2.size:=by
        have:=congrArg List.length hs3l
        rw [List.length_drop,hl2] at this
        have h3 : s3.data.toList.length=s3.size:=by simp
        omega
       obtain ⟨b2,hb2⟩ : ∃ b2,b2=s2.extract 0 nn:=⟨_,rfl⟩
       have hb2l : b2=str (s2.data.toList.take nn):=by rw [hb2,ext_take]
       have hb2n : b2.size≤8192:=by
        have h3 : b2.data.toList.length≤s2.data.toList.length:=by
         rw [hb2l]
         show (str _).data.toList.length≤_
         simp only [str]
         rw [List.length_take]; omega
        have h4 : b2.data.toList.length=b2.size:=by simp
        omega
       rw [← hb2l,← hs3l] at hA
       refine pv_text w A n u sρ so scap L s k0 n0 s0 o0 l0 p0 wz HR hs (s.extract 0 1) s1 (by omega) rfl hs1 hbs (by rw [hbc,h2]) nn sz hR s2 (by omega) hs2 (by omega) b2 s3 hb2 hs3 hb2n (by omega) (Lib.hid (fun a' w' ha hr => ?_))
       exact ⟨s3.size * 100+L.length * 10+2,by omega,Or.inr (Or.inr ⟨rfl,(fun i => a'.tmps.getD i undef),_,_,_,_,_,_,_,_,_,_,_,_,ha,Lib.hid hr,Lib.hid (text_in _ _ b2 (by omega)),Lib.hid ⟨hL,by omega,hE2 s3 hs3n,hA,rfl⟩⟩)⟩
     ·rw [if_neg h2] at hA
      have h3 : c.toNat=3:=by omega
      by_cases hdp : (stk L).length=6
      ·rw [if_pos hdp] at hA
       exact pv_deep w A n u sρ so scap L s k0 n0 s0 o0 l0 p0 wz HR hs (s.extract 0 1) s1 (by omega) rfl hs1 hbs (by rw [hbc,h3]) nn sz hR s2 (by omega) hs2 (by omega) (by rw [← stk_len]; exact hdp) (Lib.hid hA.symm)
      ·rw [if_neg hdp] at hA
       have hdp' : L.length≠6:=fun e => hdp (by rw [stk_len]; exact e)
       refine pv_push w A n u sρ so scap L s k0 n0 s0 o0 l0 p0 wz HR hs (s.extract 0 1) s1 (by omega) rfl hs1 hbs (by rw [hbc,h3]) nn sz hR s2 (by omega) hs2 (by omega) (by omega) (Lib.hid (fun a' w' sρ' so' scap' ha hr => ?_))
       refine jumps_mono (pass_nt w A (s2.size * 100+L.length * 10+11) a' w' ⟨(fun i => a'.tmps.getD i undef),_,_,_,_,_,_,_,_,_,_,_,_,ha,Lib.hid hr,Lib.hid ⟨by omega,by omega,hE2 s2 (Nat.le_refl _),hn64,by show 0+s2.size≤8192; omega,by rw [stk_app]; exact hA,rfl⟩⟩) (fun l a w h => ?_)
       obtain ⟨m,hm,hj⟩:=h
       exact ⟨m,by omega,hj⟩
theorem pass_v (w : World) (A : Nat × Tr × List UInt8) (n : Nat) (a : Act) (wz : World) (hJ : JV w A n a wz) : Code.wp Tryz.prog (labC 0) (Exit.jumps (fun l a' w' => ∃ m,m < n∧JR w A l m a' w') (bodyPost Tryz.prog Tryz.f71 (RdQ w A))) a wz:=by
 have h:=pass_vt w A n a wz hJ
 conv => arg 2; whnf
 apply wp_seq_k
 intro K hK
 apply wp_skip
 simp only [Exit.then]
 apply hK
 exact h
theorem t0_in (w : World) (P : Nat→Prop) : VInP w P t0 (.int .i64 0) (.int .u64 0) (.string ⟨#[]⟩) (.slice none 0 0):=by
 unfold t0 VInP
 exact ⟨rfl,rfl,by omega,rfl,⟨by simp [ByteArray.size],by simp⟩,none,0,0,0,rfl,fun h => absurd h (by simp),by unfold VInPL; trivial⟩
def rdA (s : ByteArray) : Nat × Tr × List UInt8:=if 8192 < s.size then (5,t0,[]) else rd .v [] s.data.toList
theorem rdw_start (w : World) (s : ByteArray) : RdW w none none 0 [] s 0 0 ⟨#[]⟩ none 0 0 ((((w.alloc (.cells #[.string s] 9)).alloc (.cells #[.int .i64 0,.int .u64 0,.string ⟨#[]⟩,.slice none 0 0] 69)).alloc (.cells #[.slice none 0 0] 165)).alloc (.cells #[.int .i64 0,.int .u64 0,.string ⟨#[]⟩,.slice none 0 0] 69)):=by
 have g0:=heap_alloc_new w (.cells #[.string s] 9)
 have g1:=heap_alloc_new (w.alloc (.cells #[.string s] 9)) (.cells #[.int .i64 0,.int .u64 0,.string ⟨#[]⟩,.slice none 0 0] 69)
 have g2:=heap_alloc_new ((w.alloc (.cells #[.string s] 9)).alloc (.cells #[.int .i64 0,.int .u64 0,.string ⟨#[]⟩,.slice none 0 0] 69)) (.cells #[.slice none 0 0] 165)
 have g3:=heap_alloc_new (((w.alloc (.cells #[.string s] 9)).alloc (.cells #[.int .i64 0,.int .u64 0,.string ⟨#[]⟩,.slice none 0 0] 69)).alloc (.cells #[.slice none 0 0] 165)) (.cells #[.int .i64 0,.int .u64 0,.string ⟨#[]⟩,.slice none 0 0] 69)
 rw [show (w.alloc (.cells #[.string s] 9)).heap.size=w.heap.size+1 by simp] at g1
 rw [show ((w.alloc (.cells #[.string s] 9)).alloc (.cells #[.int .i64 0,.int .u64 0,.string ⟨#[]⟩,.slice none 0 0] 69)).heap.size=w.heap.size+2 by simp] at g2
 rw [show (((w.alloc (.cells #[.string s] 9)).alloc (.cells #[.int .i64 0,.int .u64 0,.string ⟨#[]⟩,.slice none 0 0] 69)).alloc (.cells #[.slice none 0 0] 165)).heap.size=w.heap.size+3 by simp] at g3
 have k1:=fun k h => heap_alloc_old (w.alloc (.cells #[.string s] 9)) (.cells #[.int .i64 0,.int .u64 0,.string ⟨#[]⟩,.slice none 0 0] 69) (r:=k) h
 have k2:=fun k h => heap_alloc_old ((w.alloc (.cells #[.string s] 9)).alloc (.cells #[.int .i64 0,.int .u64 0,.string ⟨#[]⟩,.slice none 0 0] 69)) (.cells #[.slice none 0 0] 165) (r:=k) h
 have k3:=fun k h => heap_alloc_old (((w.alloc (.cells #[.string s] 9)).alloc (.cells #[.int .i64 0,.int .u64 0,.string ⟨#[]⟩,.slice none 0 0] 69)).alloc (.cells #[.slice none 0 0] 165)) (.cells #[.int .i64 0,.int .u64 0,.string ⟨#[]⟩,.slice none 0 0] 69) (r:=k) h
 refine ⟨((((alloc_below w _).trans ((alloc_below _ _).mono (by simp <;> omega))).trans ((alloc_below _ _).mono (by simp <;> omega))).trans ((alloc_below _ _).mono (by simp <;> omega))),(k3 _ (by simp <;> omega)).trans ((k2 _ (by simp <;> omega)).trans ((k1 _ (by simp <;> omega)).trans g0)),(k3 _ (by simp <;> omega)).trans ((k2 _ (by simp <;> omega)).trans g1),(k3 _ (by simp <;> omega)).trans g2,g3,StW.new _ _⟩
theorem cread_any (s : ByteArray) (hs : s.size≤1000000000) (w : World) : Calls Tryz.prog 71 #[.string s] w (RdQ w (rdA s)):=by
 obtain ⟨A,hA⟩ : ∃ A,rdA s=A:=⟨_,rfl⟩
 rw [hA]
 have hpass : ∀ l n a wz,JR w A l n a wz→∃ rest,(Tryz.f71.body.bind scopeIn).bind (fun c => findLabel c l)=some rest∧rest.wp Tryz.prog (Exit.jumps (fun l a' w' => ∃ m,m < n∧JR w A l m a' w') (bodyPost Tryz.prog Tryz.f71 (RdQ w A))) a wz:=by
  intro l n a wz hj
  rcases hj with ⟨rfl,hj⟩ | ⟨rfl,hj⟩ | ⟨rfl,hj⟩
  ·exact ⟨labC 0,rfl,pass_v w A n a wz hj⟩
  ·exact ⟨labC 2,rfl,pass_n w A n a wz hj⟩
  ·exact ⟨labC 1,rfl,pass_w w A n a wz hj⟩
 have HPASS:=Lib.hid hpass
 have H0:=Lib.hid (rdw_start w s)
 by_cases hbig : 8192 < s.size
 ·have hl : (8192 : Int) < (s.size : Int):=by omega
  have HA : Hid (A=(5,t0,[])):=Lib.hid (by rw [← hA]; unfold rdA; rw [if_pos hbig])
  clear hpass hA hbig
  obtain ⟨r0,r1,r2,r3,rf⟩:=H0.out.cr
  have g0:=rf 0
  have g1:=rf 1
  have g2:=rf 2
  have g3:=rf 3
  clear rf
  go_enter Tryz.func71,Tryz.ntmps71
  go_wp2
  refine wp_scope_labels (fun l n a wz => JR w A l n a wz) ?_ (fun l n a wz h => HPASS.out l n a wz h)
  go_wp2
  simp only [Exit.jumps]
  refine bodyPost_ret (v:=crV (.int .i64 0) (.int .u64 0) (.string ⟨#[]⟩) (.slice none 0 0) ⟨#[]⟩ 5) (by simp [results,Tryz.results71,go_sem,crV, *]) rfl ?_
  refine ⟨.int .i64 0,.int .u64 0,.string ⟨#[]⟩,.slice none 0 0,by rw [HA.out]; rfl,?_,H0.out.below,fun _ => ⟨rfl,rfl,rfl,rfl⟩⟩
  rw [HA.out]
  exact t0_in _ _
 ·have hl : ¬ (8192 : Int) < (s.size : Int):=by omega
  have HN : Hid (∀ (a' : Act),a'=⟨List.toArray (a'.tmps.getD 0 undef::.pointer (some ⟨w.heap.size,0,none⟩)::.pointer (some ⟨w.heap.size+1,0,none⟩)::.string ⟨#[]⟩::.int .i64 0::.pointer (some ⟨w.heap.size+2,0,none⟩)::.pointer (some ⟨w.heap.size+3,0,none⟩)::a'.tmps.getD 7 undef::a'.tmps.getD 8 undef::a'.tmps.getD 9 undef::a'.tmps.getD 10 undef::.func (Fn.func 104) #[] #[.pointer (some ⟨w.heap.size,0,none⟩)]::.func (Fn.func 105) #[] #[.pointer (some ⟨w.heap.size+2,0,none⟩)]::a'.tmps.getD 13 undef::a'.tmps.getD 14 undef::a'.tmps.getD 15 undef::a'.tmps.getD 16 undef::a'.tmps.getD 17 undef::a'.tmps.getD 18 undef::a'.tmps.getD 19 undef::a'.tmps.getD 20 undef::a'.tmps.getD 21 undef::a'.tmps.getD 22 undef::a'.tmps.getD 23 undef::a'.tmps.getD 24 undef::a'.tmps.getD 25 undef::a'.tmps.getD 26 undef::a'.tmps.getD 27 undef::a'.tmps.getD 28 undef::a'.tmps.getD 29 undef::a'.tmps.getD 30 undef::a'.tmps.getD 31 undef::a'.tmps.getD 32 undef::a'.tmps.getD 33 undef::a'.tmps.getD 34 undef::a'.tmps.getD 35 undef::a'.tmps.getD 36 undef::a'.tmps.getD 37 undef::a'.tmps.getD 38 undef::a'.tmps.getD 39 undef::a'.tmps.getD 40 undef::a'.tmps.getD 41 undef::a'.tmps.getD 42 undef::a'.tmps.getD 43 undef::a'.tmps.getD 44 undef::a'.tmps.getD 45 undef::a'.tmps.getD 46 undef::a'.tmps.getD 47 undef::a'.tmps.getD 48 undef::a'.tmps.getD 49 undef::a'.tmps.getD 50 undef::a'.tmps.getD 51 undef::a'.tmps.getD 52 undef::a'.tmps.getD 53 undef::a'.tmps.getD 54 undef::a'.tmps.getD 55 undef::a'.tmps.getD 56 undef::a'.tmps.getD 57 undef::a'.tmps.getD 58 undef::a'.tmps.getD 59 undef::a'.tmps.getD 60 undef::a'.tmps.getD 61 undef::a'.tmps.getD 62 undef::a'.tmps.getD 63 undef::a'.tmps.getD 64 undef::a'.tmps.getD 65 undef::a'.tmps.getD 66 undef::a'.tmps.getD 67 undef::a'.tmps.getD 68 undef::a'.tmps.getD 69 undef::a'.tmps.getD 70 undef::a'.tmps.getD 71 undef::a'.tmps.getD 72 undef::a'.tmps.getD 73 undef::a'.tmps.getD 74 undef::a'.tmps.getD 75 undef::a'.tmps.getD 76 undef::a'.tmps.getD 77 undef::a'.tmps.getD 78 undef::a'.tmps.getD 79 undef::a'.tmps.getD 80 undef::a'.tmps.getD 81 undef::a'.tmps.getD 82 undef::a'.tmps.getD 83 undef::a'.tmps.getD 84 undef::a'.tmps.getD 85 undef::a'.tmps.getD 86 undef::a'.tmps.getD 87 undef::a'.tmps.getD 88 undef::a'.tmps.getD 89 undef::a'.tmps.getD 90 undef::a'.tmps.getD 91 undef::a'.tmps.getD 92 undef::a'.tmps.getD 93 undef::a'.tmps.getD 94 undef::a'.tmps.getD 95 undef::a'.tmps.getD 96 undef::a'.tmps.getD 97 undef::a'.tmps.getD 98 undef::List.nil),[]⟩→Code.wp Tryz.prog (labT 0) (Exit.jumps (fun l a w' => ∃ n,JR w A l n a w') (bodyPost Tryz.prog Tryz.f71 (RdQ w A))) a' ((((w.alloc (.cells #[.string s] 9)).alloc (.cells #[.int .i64 0,.int .u64 0,.string ⟨#[]⟩,.slice none 0 0] 69)).alloc (.cells #[.slice none 0 0] 165)).alloc (.cells #[.int .i64 0,.int .u64 0,.string ⟨#[]⟩,.slice none 0 0] 69))):=Lib.hid (fun a' ha => by
   refine jumps_mono (pass_vt w A (s.size * 100) a' _ ⟨(fun i => a'.tmps.getD i undef),_,_,_,_,_,_,_,_,_,_,_,ha,H0,Lib.hid ⟨by simp,by omega,(fun e h => (by cases h)),by rw [← hA]; unfold rdA; rw [if_neg hbig]; rfl,by simp⟩⟩) (fun l a w h => ?_)
   obtain ⟨m,_,hj⟩:=h
   exact ⟨m,hj⟩)
  clear hpass hA hbig
  go_enter Tryz.func71,Tryz.ntmps71
  go_wp2
  refine wp_scope_labels (fun l n a wz => JR w A l n a wz) ?_ (fun l n a wz h => HPASS.out l n a wz h)
  go_wp2
  go_step3
  simp only [Exit.then]
  apply_assumption
  refine HN.out _ ?_
  rfl
end Go.Proofs.YtjfjliobencppaaGreatDoor
