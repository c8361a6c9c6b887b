/- config: what is written is read: plainly.; config: the document's reading, plainly: what is wrong with a tree whose rows are at hand.; The document's Long, plainly: it answers what Long answers.; The document's Long of any text.; The document's Next of values, of any text: what it answers where no list begins.; The document's Next of values: numbers, texts, errors.; The document's Next of values: a list under way. -/
import Derived.Test.YtjfjliobencppaaGreatDoorR34
import Derived.Test.YtjfjliobencppaaGreatDoorR10
import Derived.Test.YtjfjliobencppaaGreatDoorR35
import Derived.Test.YtjfjliobencppaaGreatDoorR00
import Derived.Test.YtjfjliobencppaaGreatDoorR04
import Derived.Test.YtjfjliobencppaaGreatDoorR11
import Derived.Test.YtjfjliobencppaaGreatDoorR07
import Derived.Test.YtjfjliobencppaaGreatDoorR05
set_option linter.unusedVariables false
set_option linter.unusedSimpArgs false
namespace Go.Proofs.YtjfjliobencppaaGreatDoor.Cf
open Go.RowKit
end Go.Proofs.YtjfjliobencppaaGreatDoor.Cf

namespace Go.Proofs.YtjfjliobencppaaGreatDoor.Cf
open Go.RowKit
theorem ofT_eq {k : Int} {t : Tr} (h : Tr.tk t=k) : ofT k t=t:=by unfold ofT; rw [if_pos h]
theorem rows_eq {t : Tr} (h : Tr.tk t=3) : rows t=Tr.tl t:=by unfold rows; rw [ofT_eq h]
theorem shp_row {n : Nat} {t : Tr} : shp 3 (n : Int) t=!wrF n t:=by
 unfold shp wrF
 by_cases h : Tr.tk t=3
 ·rw [ofT_eq h]
  by_cases h2 : (Tr.tl t).length=n
  ·simp [h,h2]
  ·simp [h,h2]
   omega
 ·simp [h]
theorem shp_any (k : Int) (t : Tr) : shp k (-1) t=decide (Tr.tk t=k):=by
 unfold shp
 simp
theorem shp_num (t : Tr) : shp 1 (-1) t=!wrN t:=by rw [shp_any]; unfold wrN; simp
theorem shp_str (t : Tr) : shp 2 (-1) t=!wrS t:=by rw [shp_any]; unfold wrS; simp
theorem numR_eq {t : Tr} (h : Tr.tk t=1) : numR t=Tr.tn t:=by unfold numR; rw [ofT_eq h]
theorem txtR_eq {t : Tr} (h : Tr.tk t=2) : txtR t=Tr.ts t:=by unfold txtR; rw [ofT_eq h]
theorem wrF_row {n : Nat} {t : Tr} (h : wrF n t=false) : Tr.tk t=3∧(Tr.tl t).length=n:=by
 unfold wrF at h
 rw [Bool.or_eq_false_iff,decide_eq_false_iff_not,decide_eq_false_iff_not,Decidable.not_not,Decidable.not_not] at h
 obtain ⟨h1,h2⟩:=h
 rw [ofT_eq h1] at h2
 exact ⟨h1,h2⟩
theorem fld_eq {n i : Nat} {t : Tr} (h : wrF n t=false) (hi : i < n) : fld n i t=(Tr.tl t)[i]'(by rw [(wrF_row h).2]; exact hi):=by
 obtain ⟨h1,h2⟩:=wrF_row h
 unfold fld fldT
 rw [ofT_eq h1,if_pos h2,List.getD_eq_getElem?_getD,List.getElem?_eq_getElem (by rw [h2]; exact hi)]
 rfl
theorem wrL_eq {wr : Tr→Bool} {t : Tr} (h : Tr.tk t=3) : wrL wr t=(Tr.tl t).any wr:=by
 unfold wrL
 rw [rows_eq h,decide_eq_false (by simp [h]),Bool.false_or]
theorem wrL_bad {wr : Tr→Bool} {t : Tr} (h : Tr.tk t≠3) : wrL wr t=true:=by
 unfold wrL
 rw [decide_eq_true h,Bool.true_or]
theorem VT.child {w : World} {t : Tr} {c0 c1 c2 c3 : Value} (h : VT w t c0 c1 c2 c3) : ∃ (o : Option Addr) (cap b off : Nat),c0=.int .i64 (Tr.tk t)∧c1=.int .u64 (Tr.tn t : Int)∧c2=.string (Tr.ts t)∧c3=.slice o (Tr.tl t).length cap∧(Tr.tl t).length≤1000000∧(0 < (Tr.tl t).length→o=some ⟨b,off,none⟩) ∧
  ∀ i (h : i < (Tr.tl t).length),∃ (o2 : Option Addr) (cap2 : Nat),(∀ wz,Below w.heap.size w wz→wz.cell? ⟨b,off+i * 4,none⟩=some (.int .i64 (Tr.tk (Tr.tl t)[i]))∧wz.cell? ⟨b,off+i * 4+1,none⟩=some (.int .u64 (Tr.tn (Tr.tl t)[i] : Int))∧wz.cell? ⟨b,off+i * 4+2,none⟩=some (.string (Tr.ts (Tr.tl t)[i]))∧wz.cell? ⟨b,off+i * 4+3,none⟩=some (.slice o2 (Tr.tl (Tr.tl t)[i]).length cap2)) ∧
   VT w (Tr.tl t)[i] (.int .i64 (Tr.tk (Tr.tl t)[i])) (.int .u64 (Tr.tn (Tr.tl t)[i] : Int)) (.string (Tr.ts (Tr.tl t)[i])) (.slice o2 (Tr.tl (Tr.tl t)[i]).length cap2):=by
 obtain ⟨o,cap,b,off,h0,h1,h2,h3,_,hz,ho,hE⟩:=h.parts
 refine ⟨o,cap,b,off,h0,h1,h2,h3,hz,fun hp => (ho hp).1,fun i hi => ?_⟩
 obtain ⟨d0,d1,d2,d3,e0,e1,e2,e3,hv⟩:=hE i hi
 obtain ⟨o2,cap2,b2,off2,rfl,rfl,rfl,rfl,_⟩:=hv.parts
 have hb:=(ho (by omega)).2
 exact ⟨o2,cap2,fun wz hw => ⟨(hw.cell (p:=⟨b,off+i * 4,none⟩) hb).trans e0,(hw.cell (p:=⟨b,off+i * 4+1,none⟩) hb).trans e1,(hw.cell (p:=⟨b,off+i * 4+2,none⟩) hb).trans e2,(hw.cell (p:=⟨b,off+i * 4+3,none⟩) hb).trans e3⟩,hv⟩
end Go.Proofs.YtjfjliobencppaaGreatDoor.Cf

namespace Go.Proofs.YtjfjliobencppaaGreatDoor
open Go.RowKit
def vl : List UInt8→Nat
 | [] => 0
 | c::cs => c.toNat % 128+128 * vl cs
theorem vl_app (a : List UInt8) (c : UInt8) : vl (a++[c])=vl a+128 ^ a.length * (c.toNat % 128):=by
 induction a with
 | nil => simp [vl]
 | cons x xs ih =>
  rw [List.cons_append,vl,vl,ih,List.length_cons,Nat.pow_succ,Nat.mul_add,← Nat.mul_assoc,Nat.mul_comm 128 (128 ^ xs.length)]
  omega
theorem vl_lt (a : List UInt8) : vl a < 128 ^ a.length:=by
 induction a with
 | nil => simp [vl]
 | cons x xs ih =>
  rw [vl,List.length_cons,Nat.pow_succ]
  omega
theorem vl_sh : ∀ n,vl (sh n)=n:=by
 intro n
 induction n using Nat.strongRecOn with
 | _ n ih =>
  by_cases h : 127 < n
  ·rw [sh_more n h,vl,ih (n / 128) (by omega),UInt8.toNat_ofNat']
   omega
  ·rw [sh_last n h,vl,vl,UInt8.toNat_ofNat']
   omega
theorem sh_vl : ∀ (a : List UInt8) (c : UInt8),(∀ x ∈ a,127 < x.toNat)→c.toNat≤127→(a=[]∨c.toNat≠0)→sh (vl (a++[c]))=a++[c]
 | [],c,_,hc,_ => by
  have e : vl ([]++[c])=c.toNat:=by
   show c.toNat % 128+128 * 0=_
   omega
  rw [e,sh_last _ (by omega)]
  simp
 | x::xs,c,ha,hc,h0 => by
  have hx:=ha x (by simp)
  have hx2:=x.toNat_lt
  have h0' : c.toNat≠0:=by
   rcases h0 with h | h
   ·cases h
   ·exact h
  have ih:=sh_vl xs c (fun y hy => ha y (by simp [hy])) hc (Or.inr h0')
  have hp : 1≤vl (xs++[c]):=by
   rw [vl_app]
   have : 1≤128 ^ xs.length:=Nat.pow_pos (by omega)
   have h2 : 1 * 1≤128 ^ xs.length * (c.toNat % 128):=Nat.mul_le_mul this (by omega)
   omega
  rw [List.cons_append,vl,sh_more _ (by omega),show (x.toNat % 128+128 * vl (xs++[c])) / 128=vl (xs++[c]) by omega,ih]
  congr 1
  apply UInt8.toNat_inj.1
  rw [UInt8.toNat_ofNat']
  omega
theorem lng_on (a rest : List UInt8) (c : UInt8) (h : a.length < 10) (hc : 127 < c.toNat) : lngA (vl a) a.length (c::rest)=lngA (vl (a++[c])) (a++[c]).length rest:=by
 rw [lngA,if_neg (by omega),if_pos (by omega),vl_app,List.length_append,List.length_singleton]
theorem lng_ok (a rest : List UInt8) (c : UInt8) (h : a.length < 10) (ha : ∀ x ∈ a,127 < x.toNat) (hc : c.toNat≤127) (he : sh (vl (a++[c]) % 18446744073709551616)=a++[c]) : lngA (vl a) a.length (c::rest)=(vl (a++[c]) % 18446744073709551616,a.length+1,0):=by
 have e1:=vl_sh (vl (a++[c]) % 18446744073709551616)
 rw [he] at e1
 have e2:=vl_app a c
 have h1 : ¬ (0 < a.length∧c.toNat=0):=by
  rintro ⟨hp,h0⟩
  rw [h0] at e2
  have hl:=vl_lt a
  have e3 : vl (a++[c])=vl a:=by rw [e2]; simp
  have hs : (sh (vl (a++[c]) % 18446744073709551616)).length=a.length+1:=by rw [he]; simp
  rw [← e1,e3] at hs
  obtain ⟨k,hk⟩ : ∃ k,a.length=k+1:=⟨a.length - 1,by omega⟩
  rw [hk] at hl hs
  have:=sh_len k _ hl
  omega
 have h2 : ¬ (a.length=9∧1 < c.toNat):=by
  rintro ⟨h9,h1⟩
  rw [h9] at e2
  have h3 : (128 : Nat) ^ 9=9223372036854775808:=by rfl
  rw [h3] at e2
  omega
 rw [lngA,if_neg (by omega),if_neg (by omega),if_neg h1,if_neg h2,← e1,e2,show c.toNat % 128=c.toNat by omega]
theorem lng_no (a rest : List UInt8) (c : UInt8) (h : a.length < 10) (ha : ∀ x ∈ a,127 < x.toNat) (hc : c.toNat≤127) (he : sh (vl (a++[c]) % 18446744073709551616)≠a++[c]) : lngA (vl a) a.length (c::rest)=(0,0,4):=by
 rw [lngA,if_neg (by omega),if_neg (by omega)]
 by_cases h1 : 0 < a.length∧c.toNat=0
 ·rw [if_pos h1]
 ·rw [if_neg h1]
  by_cases h2 : a.length=9∧1 < c.toNat
  ·rw [if_pos h2]
  ·exfalso
   apply he
   have e2:=vl_app a c
   have hl:=vl_lt a
   have hv : vl (a++[c]) < 18446744073709551616:=by
    have hle : a.length≤9:=by omega
    rcases Nat.lt_or_ge a.length 9 with h8 | h8
    ·have hl2:=vl_lt (a++[c])
     rw [List.length_append,List.length_singleton] at hl2
     have : (128 : Nat) ^ (a.length+1)≤128 ^ 9:=Nat.pow_le_pow_right (by omega) (by omega)
     have h3 : (128 : Nat) ^ 9=9223372036854775808:=by rfl
     omega
    ·have h9 : a.length=9:=by omega
     rw [h9] at e2 hl
     have h3 : (128 : Nat) ^ 9=9223372036854775808:=by rfl
     rw [h3] at e2 hl
     have : c.toNat≤1:=by
      rcases Nat.lt_or_ge 1 c.toNat with hh | hh
      ·exact absurd ⟨h9,hh⟩ h2
      ·exact hh
     omega
   rw [Nat.mod_eq_of_lt hv]
   refine sh_vl a c ha hc ?_
   by_cases h0 : a=[]
   ·exact Or.inl h0
   ·refine Or.inr (fun hz => h1 ⟨?_,hz⟩)
    cases a with
    | nil => exact absurd rfl h0
    | cons x xs => simp
end Go.Proofs.YtjfjliobencppaaGreatDoor

set_option maxRecDepth 1000000
set_option maxHeartbeats 2000000
namespace Go.Proofs.YtjfjliobencppaaGreatDoor
open Go.RowKit
theorem vl_step (V U r : Nat) : IntKind.u64.wrap ((V : Int)+IntKind.u64.wrap ((r : Int) * (U : Int)))=(((V+r * U) % 18446744073709551616 : Nat) : Int):=by
 obtain ⟨P,hP⟩ : ∃ P : Nat,r * U=P:=⟨_,rfl⟩
 have hPi : (r : Int) * (U : Int)=(P : Int):=by rw [← hP]; exact (Int.natCast_mul r U).symm
 rw [hPi,hP,IntKind.wrap_u64,IntKind.wrap_u64]
 omega
theorem un_step (U : Nat) : IntKind.u64.wrap ((U : Int) * 128)=((U * 128 % 18446744073709551616 : Nat) : Int):=by
 rw [IntKind.wrap_u64]
 omega
theorem vl_mod (s : ByteArray) (k : Nat) (h : k < s.size) : (vl (s.data.toList.take k) % 18446744073709551616+s[k].toNat % 128 * (128 ^ k % 18446744073709551616)) % 18446744073709551616=vl (s.data.toList.take (k+1)) % 18446744073709551616:=by
 have hl : k < s.data.toList.length:=by simpa using h
 have e : s.data.toList.take (k+1)=s.data.toList.take k++[s[k]]:=by
  rw [List.take_succ_eq_append_getElem hl]
  rfl
 rw [e,vl_app,List.length_take,Nat.min_eq_left (by omega),Nat.mul_comm (128 ^ k)]
 generalize vl (s.data.toList.take k)=V
 generalize s[k].toNat % 128=r
 generalize 128 ^ k=U
 rw [Nat.add_mod,Nat.mod_mod,Nat.mul_mod r (U % _),Nat.mod_mod,← Nat.mul_mod,← Nat.add_mod]
def LgI (R : Nat × Nat × Nat) (s : ByteArray) (q : Nat) : Prop:=(∀ x ∈ s.data.toList.take q,127 < x.toNat)∧((q < 10∧R=lngA (vl (s.data.toList.take q)) q (s.data.toList.drop q))∨(10≤q∧R=(0,0,4)))
theorem take_one (s : ByteArray) (k : Nat) (h : k < s.size) : s.data.toList.take (k+1)=s.data.toList.take k++[s[k]]:=by
 have hl : k < s.data.toList.length:=by simpa using h
 rw [List.take_succ_eq_append_getElem hl]
 rfl
theorem drop_one (s : ByteArray) (k : Nat) (h : k < s.size) : s.data.toList.drop k=s[k]::s.data.toList.drop (k+1):=by
 have hl : k < s.data.toList.length:=by simpa using h
 rw [List.drop_eq_getElem_cons hl]
 rfl
theorem len_take (s : ByteArray) (k : Nat) (h : k≤s.size) : (s.data.toList.take k).length=k:=by
 rw [List.length_take,Nat.min_eq_left (by simpa using h)]
theorem LgI.on {R : Nat × Nat × Nat} {s : ByteArray} {q : Nat} (H : LgI R s q) (h : q < s.size) (hc : 127 < s[q].toNat) : LgI R s (q+1):=by
 have hl:=len_take s q (by omega)
 refine ⟨?_,?_⟩
 ·rw [take_one s q h]
  intro x hx
  rcases List.mem_append.1 hx with hx | hx
  ·exact H.1 x hx
  ·rw [List.mem_singleton.1 hx]; exact hc
 ·rcases H.2 with ⟨hq,hR⟩ | ⟨hq,hR⟩
  ·rw [drop_one s q h] at hR
   have e:=lng_on (s.data.toList.take q) (s.data.toList.drop (q+1)) s[q] (by omega) hc
   rw [← take_one s q h,hl,len_take s (q+1) (by omega)] at e
   rw [e] at hR
   rcases Nat.lt_or_ge (q+1) 10 with h9 | h9
   ·exact Or.inl ⟨h9,hR⟩
   ·have e10 : q+1=10:=by omega
    refine Or.inr ⟨h9,?_⟩
    rw [hR,e10,lngA_ten]
  ·exact Or.inr ⟨by omega,hR⟩
theorem LgI.stop {R : Nat × Nat × Nat} {s : ByteArray} {q : Nat} (H : LgI R s q) (h : 10≤q) : R=(0,0,4):=by
 rcases H.2 with ⟨hq,_⟩ | ⟨_,hR⟩
 ·omega
 ·exact hR
theorem LgI.end {R : Nat × Nat × Nat} {s : ByteArray} (H : LgI R s s.size) (h : s.size < 10) : R=(0,0,3):=by
 rcases H.2 with ⟨_,hR⟩ | ⟨hq,_⟩
 ·rw [List.drop_eq_nil_of_le (by simp)] at hR
  rw [hR]; exact lngA_nil _ _ (by omega)
 ·omega
theorem LgI.fin {R : Nat × Nat × Nat} {s : ByteArray} {q : Nat} (H : LgI R s q) (h : q < s.size) (hq : q < 10) (hc : ¬ 127 < s[q].toNat) : R=if sh (vl (s.data.toList.take (q+1)) % 18446744073709551616)=s.data.toList.take (q+1) then (vl (s.data.toList.take (q+1)) % 18446744073709551616,q+1,0) else (0,0,4):=by
 have hl:=len_take s q (by omega)
 rcases H.2 with ⟨_,hR⟩ | ⟨hq,_⟩
 ·rw [drop_one s q h] at hR
  rw [take_one s q h]
  by_cases he : sh (vl (s.data.toList.take q++[s[q]]) % 18446744073709551616)=s.data.toList.take q++[s[q]]
  ·rw [if_pos he]
   have:=lng_ok (s.data.toList.take q) (s.data.toList.drop (q+1)) s[q] (by omega) H.1 (by omega) he
   rw [hl] at this
   rw [hR,this]
  ·rw [if_neg he]
   have:=lng_no (s.data.toList.take q) (s.data.toList.drop (q+1)) s[q] (by omega) H.1 (by omega) he
   rw [hl] at this
   rw [hR,this]
 ·omega
theorem rlong_any (s : ByteArray) (hmax : s.size≤1000000000) (w : World) : Calls Tryz.prog 80 #[.string s] w fun e w' => e=.returned (lonV (lngA 0 0 s.data.toList))∧Below w.heap.size w w':=by
 obtain ⟨R,hR⟩ : ∃ R,lngA 0 0 s.data.toList=R:=⟨_,rfl⟩
 rw [hR]
 have H0 : Hid (LgI R s 0):=Lib.hid ⟨by simp,Or.inl ⟨by omega,by simpa [vl] using hR.symm⟩⟩
 clear hR
 go_enter Tryz.func80,Tryz.ntmps80
 go_wp2
 go_loop [5] (fun i => ∃ z q : Nat,z=q+1∧q≤s.size∧i=.int .i64 (z : Int)∧Hid (LgI R s q)) (fun i => s.size+2 - (intOf i).toNat)
 case atStart => exact ⟨1,0,rfl,by omega,rfl,H0⟩
 case round =>
  obtain ⟨z,q,hz,hq,rfl,HI⟩:=hrel
  by_cases hlt : q < s.size
  ·have hzi : (z : Int) - 1=(q : Int):=by omega
   have hzs : (z : Int)≤(s.size : Int):=by omega
   obtain ⟨c,hc⟩ : ∃ c,s[q].toNat=c:=⟨_,rfl⟩
   have hc256 : c < 256:=by rw [← hc]; exact s[q].toNat_lt
   have HC : Hid (∃ h : q < s.size,s[q].toNat=c):=Lib.hid ⟨hlt,hc⟩
   by_cases h127 : 127 < c
   ·have HN : Hid (LgI R s (q+1)):=Lib.hid (HI.out.on hlt (by rw [hc]; exact h127))
    have h127i : (127 : Int) < (c : Int):=by omega
    clear HI H0
    go_wp2
    exact ⟨⟨z+1,q+1,by omega,by omega,by go_num,HN⟩,by simp [intOf]; omega⟩
   ·have h127i : ¬ (127 : Int) < (c : Int):=by omega
    by_cases h10 : 10≤q
    ·have hr:=HI.out.stop h10
     have HRR:=Lib.hid hr
     have h10i : (10 : Int) < (z : Int):=by omega
     clear hr HI H0
     go_wp2
     go_ret3
     exact ⟨by rw [HRR.out]; rfl,Below.refl _ _⟩
    ·have h10i : ¬ (10 : Int) < (z : Int):=by omega
     have HF:=Lib.hid (HI.out.fin hlt (by omega) (by rw [hc]; exact h127))
     clear HI H0
     go_wp2
     go_loop [6,7,8] (fun n u i => ∃ k : Nat,k≤z∧i=.int .i64 (k : Int)∧∃ V U : Nat,n=.int .u64 (V : Int)∧u=.int .u64 (U : Int)∧Hid (V=vl (s.data.toList.take k) % 18446744073709551616∧U=128 ^ k % 18446744073709551616)) (fun _ _ i => z - (intOf i).toNat)
     case atStart => exact ⟨0,by omega,rfl,0,1,rfl,rfl,Lib.hid ⟨by simp [vl],by simp⟩⟩
     case round =>
      obtain ⟨k,hk,rfl,V,U,rfl,rfl,HV⟩:=hrel
      by_cases hkz : k < z
      ·have hks : k < s.size:=by omega
       have e : ((s[k].toNat % 128 : Nat) : Int)=(s[k].toNat : Int) % 128:=by omega
       have hst:=vl_step V U (s[k].toNat % 128)
       rw [e] at hst
       have HST:=Lib.hid hst
       have HN : Hid ((V+s[k].toNat % 128 * U) % 18446744073709551616=vl (s.data.toList.take (k+1)) % 18446744073709551616∧U * 128 % 18446744073709551616=128 ^ (k+1) % 18446744073709551616):=Lib.hid ⟨by rw [HV.out.1,HV.out.2]; exact vl_mod s k hks,by rw [HV.out.2,Nat.pow_succ,Nat.mul_mod,Nat.mod_mod,← Nat.mul_mod]⟩
       clear e hst HV
       go_wp2
       exact ⟨⟨k+1,by omega,by go_num,_,_,by rw [HST.out],by rw [un_step],HN⟩,by simp [intOf]; omega⟩
      ·obtain rfl : k=q+1:=by omega
       have hV64 : V≤18446744073709551615:=by have:=HV.out.1; omega
       have hrf:=HF.out
       rw [← HV.out.1] at hrf
       have HRF:=Lib.hid hrf
       have KS : Hid (∀ wz,Calls Tryz.prog 103 #[.int .u64 (V : Int)] wz fun e w' => e=.returned (.string (str (sh V)))∧Below wz.heap.size wz w'):=Lib.hid (fun wz => rshort_any V hV64 wz)
       clear HV HF hrf hV64
       have h0q : (0 : Int)≤(q : Int)+1:=by omega
       go_wp2
       refine wp_region_held_drew (S:=fun _ => True) (by kernel_rfl) trivial (fun hj9 => ?_)
       refine tkH (i:=0) (oi:=⟨some 38,_,_,_,_,_⟩) (v:=?_) rfl (Or.inl ⟨by rfl,by (intro w hSw; (try dsimp only at hSw); go_simp; try with_reducible rfl)⟩) hj9 ?_
       try simp only [Act.put,pS,p0,p1]
       refine tkH (i:=2) (oi:=⟨some 40,_,_,_,_,_⟩) (v:=?_) rfl (Or.inl ⟨by rfl,by (intro w hSw; (try dsimp only at hSw); go_simp; try with_reducible rfl)⟩) hj9 ?_
       try simp only [Act.put,pS,p0,p1]
       refine tkH (i:=3) (oi:=⟨some 41,_,_,_,_,_⟩) (v:=?_) rfl (Or.inl ⟨by rfl,by (intro w hSw; (try dsimp only at hSw); go_simp; try with_reducible rfl)⟩) hj9 ?_
       try simp only [Act.put,pS,p0,p1]
       refine tkH (i:=4) (oi:=⟨some 42,_,_,_,_,_⟩) (v:=?_) rfl (Or.inl ⟨by rfl,by (intro w hSw; (try dsimp only at hSw); go_simp; try with_reducible rfl)⟩) hj9 ?_
       try simp only [Act.put,pS,p0,p1]
       refine wpAnyH_ready (rs:=[1]) (by kernel_rfl) (by simp) ?_
       refine AllReadyH.cons (o:=⟨some 39,_,_,_,_,_⟩) rfl (fun K hK => ?_) ?_
       ·go_simp
        refine (KS.out _).mono ?_
        rintro ze w1 ⟨rfl,hb1⟩
        have HB1:=Lib.hid hb1
        clear hb1
        try go_simp
        refine hK.out _ _ trivial (fun hj8 => ?_)
        clear hK K hj9
        have hj9:=hj8
        clear hj8
        try simp only [Act.put,pS,p0,p1]
        refine tkH (i:=5) (oi:=⟨some 43,_,_,_,_,_⟩) (v:=?_) rfl (Or.inl ⟨by rfl,by (intro w hSw; (try dsimp only at hSw); go_simp; try with_reducible rfl)⟩) hj9 ?_
        try simp only [Act.put,pS,p0,p1]
        refine wpAnyH_done (by kernel_rfl) ?_ _
        simp only [Exit.inBlock,Exit.then]
        apply_assumption
        have HBW : Hid (Below w.heap.size w w1):=Lib.hid (((Below.refl w.heap.size w).drew).trans HB1.out)
        have hx : ((str (sh V)).toList == (s.extract 0 (q+1)).toList)=decide (sh V=s.data.toList.take (q+1)):=by
         have e1 : (str (sh V)).toList=sh V:=by simp [ByteArray.toList_eq,str]
         have e2 : (s.extract 0 (q+1)).toList=s.data.toList.take (q+1):=by simp [ByteArray.toList_eq]
         rw [e1,e2]
         exact Bool.eq_iff_iff.2 (by simp)
        rw [hx]
        clear hx HB1
        by_cases he : sh V=s.data.toList.take (q+1)
        ·have HE:=Lib.hid (HRF.out.trans (if_pos he))
         rw [decide_eq_true he]
         clear he HRF
         go_wp2
         go_ret3
         exact ⟨by rw [HE.out]; rfl,HBW.out⟩
        ·have HE:=Lib.hid (HRF.out.trans (if_neg he))
         rw [decide_eq_false he]
         clear he HRF
         go_wp2
         go_ret3
         exact ⟨by rw [HE.out]; rfl,HBW.out⟩
       ·exact AllReadyH.nil
  ·have hqs : q=s.size:=by omega
   have hzs : ¬ (z : Int)≤(s.size : Int):=by omega
   by_cases h10 : 10≤s.size
   ·have HRR:=Lib.hid (HI.out.stop (by omega))
    have h10i : (10 : Int)≤(s.size : Int):=by omega
    clear HI H0
    go_wp2
    go_ret3
    exact ⟨by rw [HRR.out]; rfl,Below.refl _ _⟩
   ·subst hqs
    have HRR:=Lib.hid (HI.out.end (by omega))
    have h10i : ¬ (10 : Int)≤(s.size : Int):=by omega
    clear HI H0
    go_wp2
    go_ret3
    exact ⟨by rw [HRR.out]; rfl,Below.refl _ _⟩
end Go.Proofs.YtjfjliobencppaaGreatDoor

set_option maxRecDepth 1000000
set_option maxHeartbeats 2000000
namespace Go.Proofs.YtjfjliobencppaaGreatDoor
open Go.RowKit
def NxR (s : ByteArray) (p d : Nat) (w : World) (e : Ending) (w' : World) : Prop :=
 Below w.heap.size w w'∧∃ (c p' : Nat) (t : Tr) (c0 c1 c2 c3 : Value),e=.returned (.tuple #[.agg #[c0,c1,c2,c3],.int .i64 (p' : Int),.int .i64 (c : Int)])∧VInP w' (fun b => w.heap.size≤b) t c0 c1 c2 c3 ∧
  (c≠0→∀ st,st.length=d→rd .v st (s.data.toList.drop p)=(c,t0,[])) ∧
  (c=0→p < p'∧p'≤s.size∧∀ st,st.length=d→rd .v st (s.data.toList.drop p)=rd (.w t) st (s.data.toList.drop p'))
theorem vin_t0 (w : World) (P : Nat→Prop) : VInP w P t0 (.int .i64 0) (.int .u64 0) (.string ⟨#[]⟩) (.slice none 0 0):=by
 unfold t0 VInP
 refine ⟨rfl,rfl,by omega,rfl,⟨by decide,by decide⟩,none,0,0,0,rfl,fun h => absurd h (by simp),?_⟩
 unfold VInPL; trivial
theorem NxR.bad {s : ByteArray} {p d : Nat} {w w' : World} (c : Nat) (hc : c≠0) (hb : Below w.heap.size w w') (h : ∀ st,st.length=d→rd .v st (s.data.toList.drop p)=(c,t0,[])) : NxR s p d w (.returned (.tuple #[.agg #[.int .i64 0,.int .u64 0,.string ⟨#[]⟩,.slice none 0 0],.int .i64 0,.int .i64 (c : Int)])) w' :=
 ⟨hb,c,0,t0,_,_,_,_,rfl,vin_t0 w' _,fun _ => h,fun h0 => absurd h0 hc⟩
theorem rd_nil (st : List (Nat × List Tr)) : rd .v st []=(3,t0,[]):=by rw [rd]
theorem rd_kind (st : List (Nat × List Tr)) (k : UInt8) (l : List UInt8) (h : k.toNat < 1∨3 < k.toNat) : rd .v st (k::l)=(10,t0,[]):=by rw [rd,if_pos h]
theorem rd_lng (st : List (Nat × List Tr)) (k : UInt8) (l : List UInt8) (h : ¬ (k.toNat < 1∨3 < k.toNat)) (h2 : (lngA 0 0 l).2.2≠0) : rd .v st (k::l)=((lngA 0 0 l).2.2,t0,[]):=by rw [rd,if_neg h,if_pos h2]
theorem rd_num (st : List (Nat × List Tr)) (k : UInt8) (l : List UInt8) (h : k.toNat=1) (h2 : (lngA 0 0 l).2.2=0) : rd .v st (k::l)=rd (.w (.mk 1 (lngA 0 0 l).1 ⟨#[]⟩ [])) st (l.drop (lngA 0 0 l).2.1):=by rw [rd,if_neg (by omega),if_neg (by simpa using h2),if_pos h]
theorem rd_short (st : List (Nat × List Tr)) (k : UInt8) (l : List UInt8) (h : k.toNat=2) (h2 : (lngA 0 0 l).2.2=0) (h3 : (l.drop (lngA 0 0 l).2.1).length < (lngA 0 0 l).1) : rd .v st (k::l)=(3,t0,[]):=by rw [rd,if_neg (by omega),if_neg (by simpa using h2),if_neg (by omega),if_pos h,if_pos h3]
theorem rd_str (st : List (Nat × List Tr)) (k : UInt8) (l : List UInt8) (h : k.toNat=2) (h2 : (lngA 0 0 l).2.2=0) (h3 : ¬ (l.drop (lngA 0 0 l).2.1).length < (lngA 0 0 l).1) : rd .v st (k::l)=rd (.w (.mk 2 0 (str ((l.drop (lngA 0 0 l).2.1).take (lngA 0 0 l).1)) [])) st ((l.drop (lngA 0 0 l).2.1).drop (lngA 0 0 l).1):=by rw [rd,if_neg (by omega),if_neg (by simpa using h2),if_neg (by omega),if_pos h,if_neg h3]
theorem rd_deep (st : List (Nat × List Tr)) (k : UInt8) (l : List UInt8) (h : k.toNat=3) (h2 : (lngA 0 0 l).2.2=0) (h3 : st.length=6) : rd .v st (k::l)=(8,t0,[]):=by rw [rd,if_neg (by omega),if_neg (by simpa using h2),if_neg (by omega),if_neg (by omega),if_pos h3]
theorem rd_open (st : List (Nat × List Tr)) (k : UInt8) (l : List UInt8) (h : k.toNat=3) (h2 : (lngA 0 0 l).2.2=0) (h3 : st.length≠6) : rd .v st (k::l)=rd .n (((lngA 0 0 l).1,[])::st) (l.drop (lngA 0 0 l).2.1):=by rw [rd,if_neg (by omega),if_neg (by simpa using h2),if_neg (by omega),if_neg (by omega),if_neg h3]
theorem lng_le : ∀ (l : List UInt8) (acc j : Nat),j≤10→acc < 128 ^ j→(lngA acc j l).1≤18446744073709551615∧(lngA acc j l).2.1≤j+l.length∧((lngA acc j l).2.2=0→j < (lngA acc j l).2.1)∧(lngA acc j l).2.2≤4
 | [],acc,j,hj,_ => by
  rw [lngA]
  by_cases h : j=10
  ·rw [if_pos h]; simp
  ·rw [if_neg h]; simp
 | c::cs,acc,j,hj,hacc => by
  rw [lngA]
  by_cases h : j=10
  ·rw [if_pos h]; simp
  ·rw [if_neg h]
   by_cases h1 : 128≤c.toNat
   ·rw [if_pos h1]
    have ih:=lng_le cs (acc+128 ^ j * (c.toNat % 128)) (j+1) (by omega) (by
     have : 128 ^ j * (c.toNat % 128)≤128 ^ j * 127:=Nat.mul_le_mul_left _ (by omega)
     rw [Nat.pow_succ]; omega)
    refine ⟨ih.1,?_,fun h => ?_,ih.2.2.2⟩
    ·have:=ih.2.1; simp only [List.length_cons]; omega
    ·have:=ih.2.2.1 h; omega
   ·rw [if_neg h1]
    by_cases h2 : 0 < j∧c.toNat=0
    ·rw [if_pos h2]; simp
    ·rw [if_neg h2]
     by_cases h3 : j=9∧1 < c.toNat
     ·rw [if_pos h3]; simp
     ·rw [if_neg h3]
      refine ⟨?_,by simp only [List.length_cons]; omega,fun _ => by simp,by simp⟩
      show acc+128 ^ j * c.toNat≤_
      have hj9 : j≤9:=by omega
      rcases Nat.lt_or_ge j 9 with h8 | h8
      ·have e : (128 : Nat) ^ (j+1)≤128 ^ 9:=Nat.pow_le_pow_right (by omega) (by omega)
       have e9 : (128 : Nat) ^ 9=9223372036854775808:=by rfl
       have : 128 ^ j * c.toNat≤128 ^ j * 127:=Nat.mul_le_mul_left _ (by omega)
       rw [Nat.pow_succ] at e
       omega
      ·have e : j=9:=by omega
       subst e
       have e9 : (128 : Nat) ^ 9=9223372036854775808:=by rfl
       rw [e9] at hacc ⊢
       omega
theorem four_of {w : World} {g : Nat} {a0 a1 a2 a3 : Value} {T : TypeId} (h : w.heap[g]?=some (.cells #[a0,a1,a2,a3] T (0,0))) : (w.cell? ⟨g,0,none⟩=some a0∧w.cell? ⟨g,1,none⟩=some a1∧w.cell? ⟨g,2,none⟩=some a2∧w.cell? ⟨g,3,none⟩=some a3)∧(w.frozen? ⟨g,0,none⟩=false∧w.frozen? ⟨g,1,none⟩=false∧w.frozen? ⟨g,2,none⟩=false∧w.frozen? ⟨g,3,none⟩=false):=by
 have cc:=fun (j : Nat) (v : Value) (hj : (#[a0,a1,a2,a3] : Array Value)[j]?=some v) => (cell_of_row w g j _ _ _ h).trans hj
 exact ⟨⟨cc 0 _ rfl,cc 1 _ rfl,cc 2 _ rfl,cc 3 _ rfl⟩,frozen_of_row w g 0 _ _ h,frozen_of_row w g 1 _ _ h,frozen_of_row w g 2 _ _ h,frozen_of_row w g 3 _ _ h⟩
structure F2 (w : World) (g6 g9 : Nat) (a0 a1 a2 a3 : Value) (wz : World) : Prop where
 z : wz.heap[g6]?=some (.cells #[.int .i64 0,.int .u64 0,.string ⟨#[]⟩,.slice none 0 0] 81 (0,0))
 v : wz.heap[g9]?=some (.cells #[a0,a1,a2,a3] 81 (0,0))
 b : Below w.heap.size w wz
 g : w.heap.size≤g6∧g6 < g9
theorem F2.later {w wz w1 : World} {g6 g9 : Nat} {a0 a1 a2 a3 : Value} (h : F2 w g6 g9 a0 a1 a2 a3 wz) (hb : Below wz.heap.size wz w1) : F2 w g6 g9 a0 a1 a2 a3 w1 :=
 ⟨(hb.block _ (lt_of_heap h.z)).trans h.z,(hb.block _ (lt_of_heap h.v)).trans h.v,h.b.trans (hb.mono h.b.size),h.g⟩
theorem F2.new (w : World) (a0 a1 a2 a3 : Value) : F2 w w.heap.size (w.heap.size+1) a0 a1 a2 a3 ((w.alloc (.cells #[.int .i64 0,.int .u64 0,.string ⟨#[]⟩,.slice none 0 0] 81)).alloc (.cells #[a0,a1,a2,a3] 81)):=by
 have e : (w.alloc (.cells #[.int .i64 0,.int .u64 0,.string ⟨#[]⟩,.slice none 0 0] 81)).heap.size=w.heap.size+1:=by simp
 refine ⟨?_,?_,((Below.refl _ _).alloc (Nat.le_refl _) _).alloc (by omega) _,Nat.le_refl _,by omega⟩
 ·exact (heap_alloc_old _ _ (by omega)).trans (heap_alloc_new w _)
 ·rw [← e]; exact heap_alloc_new _ _
theorem below4 {w wz : World} {g : Nat} (h : Below w.heap.size w wz) (hg : w.heap.size≤g) (a b c d : Value) : Below w.heap.size w ((((wz.setCell ⟨g,0,none⟩ a).setCell ⟨g,1,none⟩ b).setCell ⟨g,2,none⟩ c).setCell ⟨g,3,none⟩ d) :=
 (((h.setCell hg _).setCell hg _).setCell hg _).setCell hg _
theorem nx_end (s : ByteArray) (hmax : s.size≤1000000000) (p d : Nat) (hp : s.size≤p) (hp2 : p≤1000000000) (w : World) : Calls Tryz.prog 36 #[.string s,.int .i64 (p : Int),.int .i64 (d : Int)] w fun e w' => NxR s p d w e w':=by
 have hpi : (s.size : Int)≤(p : Int):=by omega
 have HR : Hid (∀ w' : World,Below w.heap.size w w'→NxR s p d w (.returned (.tuple #[.agg #[.int .i64 0,.int .u64 0,.string ⟨#[]⟩,.slice none 0 0],.int .i64 0,.int .i64 ((3 : Nat) : Int)])) w'):=Lib.hid (fun w' hb => NxR.bad 3 (by decide) hb (fun st _ => by rw [List.drop_eq_nil_of_le (by simpa using hp)]; exact rd_nil st))
 go_enter Tryz.func36,Tryz.ntmps36
 go_wp2
 exact bodyPost_ret (v:=.tuple #[.agg #[.int .i64 0,.int .u64 0,.string ⟨#[]⟩,.slice none 0 0],.int .i64 0,.int .i64 3]) (by simp [results,Tryz.results36,go_sem]) rfl (HR.out _ ((Below.refl _ _).alloc (Nat.le_refl _) _))
theorem nx_kind (s : ByteArray) (hmax : s.size≤1000000000) (p d : Nat) (hp : p < s.size) (hk : s[p].toNat < 1∨3 < s[p].toNat) (w : World) : Calls Tryz.prog 36 #[.string s,.int .i64 (p : Int),.int .i64 (d : Int)] w fun e w' => NxR s p d w e w':=by
 have HR : Hid (∀ w' : World,Below w.heap.size w w'→NxR s p d w (.returned (.tuple #[.agg #[.int .i64 0,.int .u64 0,.string ⟨#[]⟩,.slice none 0 0],.int .i64 0,.int .i64 ((10 : Nat) : Int)])) w'):=Lib.hid (fun w' hb => NxR.bad 10 (by decide) hb (fun st _ => by rw [drop_one s p hp]; exact rd_kind st _ _ hk))
 obtain ⟨k,hkk⟩ : ∃ k,s[p].toNat=k:=⟨_,rfl⟩
 have hk256 : k < 256:=by rw [← hkk]; exact s[p].toNat_lt
 rw [hkk] at hk
 rcases hk with h1 | h1
 ·obtain rfl : k=0:=by omega
  go_enter Tryz.func36,Tryz.ntmps36
  go_wp2
  exact bodyPost_ret (v:=.tuple #[.agg #[.int .i64 0,.int .u64 0,.string ⟨#[]⟩,.slice none 0 0],.int .i64 0,.int .i64 10]) (by simp [results,Tryz.results36,go_sem]) rfl (HR.out _ (((Below.refl _ _).alloc (Nat.le_refl _) _).alloc (by simp) _))
 ·have h1i : (3 : Int) < (k : Int):=by omega
  have h0i : ¬ (k : Int) < 1:=by omega
  go_enter Tryz.func36,Tryz.ntmps36
  go_wp2
  exact bodyPost_ret (v:=.tuple #[.agg #[.int .i64 0,.int .u64 0,.string ⟨#[]⟩,.slice none 0 0],.int .i64 0,.int .i64 10]) (by simp [results,Tryz.results36,go_sem]) rfl (HR.out _ (((Below.refl _ _).alloc (Nat.le_refl _) _).alloc (by simp) _))
end Go.Proofs.YtjfjliobencppaaGreatDoor

set_option maxRecDepth 1000000
set_option maxHeartbeats 2000000
namespace Go.Proofs.YtjfjliobencppaaGreatDoor
open Go.RowKit
theorem ext_list (s : ByteArray) (a b : Nat) : (s.extract a b).data.toList=(s.data.toList.drop a).take (b - a):=by
 simp [ByteArray.data_extract,List.extract_eq_take_drop]
theorem long_behind (s : ByteArray) (hmax : s.size≤1000000000) (p : Nat) (hp : p < s.size) (n j e : Nat) (h : lngA 0 0 (s.data.toList.drop (p+1))=(n,j,e)) (wz : World) : Calls Tryz.prog 80 #[.string (s.extract (p+1) s.size)] wz fun r w' => r=.returned (.tuple #[.int .u64 (n : Int),.int .i64 (j : Int),.int .i64 (e : Int)])∧Below wz.heap.size wz w':=by
 have hs : (s.extract (p+1) s.size).size≤1000000000:=by rw [ByteArray.size_extract]; omega
 have hd : (s.extract (p+1) s.size).data.toList=s.data.toList.drop (p+1):=by
  rw [ext_list,List.take_of_length_le (by simp)]
 refine (rlong_any _ hs wz).mono (fun r w' h2 => ⟨?_,h2.2⟩)
 rw [h2.1,hd,h]
 rfl
theorem lng_facts (s : ByteArray) (p : Nat) (hp : p < s.size) (n j e : Nat) (h : lngA 0 0 (s.data.toList.drop (p+1))=(n,j,e)) : n≤18446744073709551615∧p+1+j≤s.size∧(e=0→0 < j)∧e≤4:=by
 have:=lng_le (s.data.toList.drop (p+1)) 0 0 (by omega) (by omega)
 rw [h] at this
 have hl : (s.data.toList.drop (p+1)).length=s.size - (p+1):=by simp
 rw [hl] at this
 exact ⟨this.1,by have:=this.2.1; simp only at this; omega,fun he => this.2.2.1 he,this.2.2.2⟩
theorem nx_lng (s : ByteArray) (hmax : s.size≤1000000000) (p d : Nat) (hp : p < s.size) (hk : ¬ (s[p].toNat < 1∨3 < s[p].toNat)) (n j e : Nat) (hL : lngA 0 0 (s.data.toList.drop (p+1))=(n,j,e)) (he : e≠0) (w : World) : Calls Tryz.prog 36 #[.string s,.int .i64 (p : Int),.int .i64 (d : Int)] w fun e w' => NxR s p d w e w':=by
 have HR : Hid (∀ w' : World,Below w.heap.size w w'→NxR s p d w (.returned (.tuple #[.agg #[.int .i64 0,.int .u64 0,.string ⟨#[]⟩,.slice none 0 0],.int .i64 0,.int .i64 (e : Int)])) w'):=Lib.hid (fun w' hb => NxR.bad e he hb (fun st _ => by rw [drop_one s p hp,rd_lng st _ _ hk (by rw [hL]; exact he),hL]))
 have K52:=Lib.hid (long_behind s hmax p hp n j e hL)
 obtain ⟨hn,hj,hj0,he4⟩:=lng_facts s p hp n j e hL
 obtain ⟨k,hkk⟩ : ∃ k,s[p].toNat=k:=⟨_,rfl⟩
 have hk256 : k < 256:=by rw [← hkk]; exact s[p].toNat_lt
 rw [hkk] at hk
 have h0i : ¬ (k : Int) < 1:=by omega
 have h1i : ¬ (3 : Int) < (k : Int):=by omega
 have h0q : (0 : Int)≤(p : Int)+1:=by omega
 have h1q : (p : Int)+1≤(s.size : Int):=by omega
 have hei : ((e : Int) == 0)=false:=by rw [beq_eq_false_iff_ne]; omega
 clear hk hL
 go_enter Tryz.func36,Tryz.ntmps36
 go_upto_region 7 with (first
  | (go_at_call 80; ((with_reducible refine (K52.out _).mono ?_); rintro z w5 ⟨rfl,hb5⟩; have HF:=Lib.hid ((F2.new w _ _ _ _).later hb5); clear hb5)))
 obtain ⟨⟨z0,z1,z2,z3⟩,y0,y1,y2,y3⟩:=four_of HF.out.z
 go_wp2
 refine bodyPost_ret (v:=.tuple #[.agg #[.int .i64 0,.int .u64 0,.string ⟨#[]⟩,.slice none 0 0],.int .i64 0,.int .i64 (e : Int)]) (by simp [results,Tryz.results36,go_sem, *]) rfl (HR.out _ ?_)
 first | exact HF.out.b | exact below4 HF.out.b (Nat.le_refl _) _ _ _ _
theorem vin_one (w : World) (P : Nat→Prop) (k : Int) (n : Nat) (b : ByteArray) (hn : n≤18446744073709551615) (hb : b.size≤1000000000) : VInP w P (.mk k n b []) (.int .i64 k) (.int .u64 (n : Int)) (.string b) (.slice none 0 0):=by
 unfold VInP
 refine ⟨rfl,rfl,hn,rfl,⟨hb,by simp⟩,none,0,0,0,rfl,fun h => absurd h (by simp),?_⟩
 unfold VInPL; trivial
theorem NxR.fine {s : ByteArray} {p d : Nat} {w w' : World} (p' : Nat) (t : Tr) (c0 c1 c2 c3 : Value) (hb : Below w.heap.size w w') (hv : VInP w' (fun b => w.heap.size≤b) t c0 c1 c2 c3) (h1 : p < p') (h2 : p'≤s.size) (h : ∀ st,st.length=d→rd .v st (s.data.toList.drop p)=rd (.w t) st (s.data.toList.drop p')) : NxR s p d w (.returned (.tuple #[.agg #[c0,c1,c2,c3],.int .i64 (p' : Int),.int .i64 0])) w' :=
 ⟨hb,0,p',t,c0,c1,c2,c3,rfl,hv,fun h0 => absurd rfl h0,fun _ => ⟨h1,h2,h⟩⟩
theorem nx_num (s : ByteArray) (hmax : s.size≤1000000000) (p d : Nat) (hp : p < s.size) (hk : s[p].toNat=1) (n j : Nat) (hL : lngA 0 0 (s.data.toList.drop (p+1))=(n,j,0)) (w : World) : Calls Tryz.prog 36 #[.string s,.int .i64 (p : Int),.int .i64 (d : Int)] w fun e w' => NxR s p d w e w':=by
 have K52:=Lib.hid (long_behind s hmax p hp n j 0 hL)
 obtain ⟨hn,hj,hj0,_⟩:=lng_facts s p hp n j 0 hL
 obtain ⟨a,ha⟩ : ∃ a,a=p+1+j:=⟨_,rfl⟩
 have hai : (p : Int)+1+(j : Int)=(a : Int):=by omega
 have has : a≤s.size:=by omega
 have hwa : IntKind.i64.wrap ((p : Int)+1+(j : Int))=(a : Int):=by rw [IntWalk.i64_in _ (by omega),hai]
 have hwb : IntKind.i64.wrap (a : Int)=(a : Int):=IntWalk.i64_in _ (by omega)
 have h0q : (0 : Int)≤(p : Int)+1:=by omega
 have h1q : (p : Int)+1≤(s.size : Int):=by omega
 have HR : Hid (∀ w' : World,Below w.heap.size w w'→NxR s p d w (.returned (.tuple #[.agg #[.int .i64 1,.int .u64 (n : Int),.string ⟨#[]⟩,.slice none 0 0],.int .i64 (a : Int),.int .i64 0])) w'):=Lib.hid (fun w' hb => NxR.fine a (.mk 1 n ⟨#[]⟩ []) _ _ _ _ hb (vin_one w' _ 1 n ⟨#[]⟩ hn (by decide)) (by omega) has (fun st _ => by
  rw [drop_one s p hp,rd_num st _ _ hk (by rw [hL]),hL,List.drop_drop,ha]))
 have HA:=Lib.hid ha
 have HJ:=Lib.hid hj
 clear hL ha hj hj0
 go_enter Tryz.func36,Tryz.ntmps36
 go_upto_region 7 with (first
  | (go_at_call 80; ((with_reducible refine (K52.out _).mono ?_); rintro z w5 ⟨rfl,hb5⟩; have HF:=Lib.hid ((F2.new w _ _ _ _).later hb5); clear hb5)))
 have HG : Hid (w.heap.size≤w.heap.size+1):=Lib.hid (by omega)
 obtain ⟨⟨z0,z1,z2,z3⟩,y0,y1,y2,y3⟩:=four_of HF.out.z
 obtain ⟨⟨x0,x1,x2,x3⟩,v0,v1,v2,v3⟩:=four_of HF.out.v
 go_wp2
 refine bodyPost_ret (v:=.tuple #[.agg #[.int .i64 1,.int .u64 (n : Int),.string ⟨#[]⟩,.slice none 0 0],.int .i64 (a : Int),.int .i64 0]) (by simp [results,Tryz.results36,go_sem,z0,z1,z2,z3,y0,y1,y2,y3,x0,x1,x2,x3,v0,v1,v2,v3]) rfl (HR.out _ ?_)
 exact below4 (HF.out.b.setCell HG.out _) (Nat.le_refl _) _ _ _ _
theorem nx_short (s : ByteArray) (hmax : s.size≤1000000000) (p d : Nat) (hp : p < s.size) (hk : s[p].toNat=2) (n j : Nat) (hL : lngA 0 0 (s.data.toList.drop (p+1))=(n,j,0)) (hs : s.size < p+1+j+n) (w : World) : Calls Tryz.prog 36 #[.string s,.int .i64 (p : Int),.int .i64 (d : Int)] w fun e w' => NxR s p d w e w':=by
 have K52:=Lib.hid (long_behind s hmax p hp n j 0 hL)
 obtain ⟨hn,hj,hj0,_⟩:=lng_facts s p hp n j 0 hL
 obtain ⟨a,ha⟩ : ∃ a,a=p+1+j:=⟨_,rfl⟩
 have hai : (p : Int)+1+(j : Int)=(a : Int):=by omega
 have has : a≤s.size:=by omega
 have hwa : IntKind.i64.wrap ((p : Int)+1+(j : Int))=(a : Int):=by rw [IntWalk.i64_in _ (by omega),hai]
 have hwb : IntKind.i64.wrap (a : Int)=(a : Int):=IntWalk.i64_in _ (by omega)
 have h0q : (0 : Int)≤(p : Int)+1:=by omega
 have h1q : (p : Int)+1≤(s.size : Int):=by omega
 have HR : Hid (∀ w' : World,Below w.heap.size w w'→NxR s p d w (.returned (.tuple #[.agg #[.int .i64 0,.int .u64 0,.string ⟨#[]⟩,.slice none 0 0],.int .i64 0,.int .i64 ((3 : Nat) : Int)])) w'):=Lib.hid (fun w' hb => NxR.bad 3 (by decide) hb (fun st _ => by
  rw [drop_one s p hp,rd_short st _ _ hk (by rw [hL]) (by rw [hL,List.drop_drop]; simp; omega)]))
 obtain ⟨m,hm⟩ : ∃ m,m=s.size - a:=⟨_,rfl⟩
 have hmi : (s.size : Int) - (a : Int)=(m : Int):=by omega
 have hms : m≤1000000000:=by omega
 have hnm : (m : Int) < (n : Int):=by omega
 have HA:=Lib.hid ha
 have HJ:=Lib.hid hj
 clear hL ha hj hj0
 go_enter Tryz.func36,Tryz.ntmps36
 go_upto_region 7 with (first
  | (go_at_call 80; ((with_reducible refine (K52.out _).mono ?_); rintro z w5 ⟨rfl,hb5⟩; have HF:=Lib.hid ((F2.new w _ _ _ _).later hb5); clear hb5)))
 have HG : Hid (w.heap.size≤w.heap.size+1):=Lib.hid (by omega)
 obtain ⟨⟨z0,z1,z2,z3⟩,y0,y1,y2,y3⟩:=four_of HF.out.z
 obtain ⟨⟨x0,x1,x2,x3⟩,v0,v1,v2,v3⟩:=four_of HF.out.v
 go_wp2
 refine bodyPost_ret (v:=.tuple #[.agg #[.int .i64 0,.int .u64 0,.string ⟨#[]⟩,.slice none 0 0],.int .i64 0,.int .i64 3]) (by simp [results,Tryz.results36,go_sem,z0,z1,z2,z3,y0,y1,y2,y3,x0,x1,x2,x3,v0,v1,v2,v3]) rfl (HR.out _ ?_)
 exact below4 HF.out.b (Nat.le_refl _) _ _ _ _
theorem nx_str (s : ByteArray) (hmax : s.size≤1000000000) (p d : Nat) (hp : p < s.size) (hk : s[p].toNat=2) (n j : Nat) (hL : lngA 0 0 (s.data.toList.drop (p+1))=(n,j,0)) (hs : p+1+j+n≤s.size) (w : World) : Calls Tryz.prog 36 #[.string s,.int .i64 (p : Int),.int .i64 (d : Int)] w fun e w' => NxR s p d w e w':=by
 have K52:=Lib.hid (long_behind s hmax p hp n j 0 hL)
 obtain ⟨hn,hj,hj0,_⟩:=lng_facts s p hp n j 0 hL
 obtain ⟨a,ha⟩ : ∃ a,a=p+1+j:=⟨_,rfl⟩
 have hai : (p : Int)+1+(j : Int)=(a : Int):=by omega
 have has : a≤s.size:=by omega
 have hwa : IntKind.i64.wrap ((p : Int)+1+(j : Int))=(a : Int):=by rw [IntWalk.i64_in _ (by omega),hai]
 have hwb : IntKind.i64.wrap (a : Int)=(a : Int):=IntWalk.i64_in _ (by omega)
 have h0q : (0 : Int)≤(p : Int)+1:=by omega
 have h1q : (p : Int)+1≤(s.size : Int):=by omega
 have HR : Hid (∀ w' : World,Below w.heap.size w w'→NxR s p d w (.returned (.tuple #[.agg #[.int .i64 2,.int .u64 0,.string (s.extract a (a+n)),.slice none 0 0],.int .i64 ((a+n : Nat) : Int),.int .i64 0])) w'):=Lib.hid (fun w' hb => NxR.fine (a+n) (.mk 2 0 (s.extract a (a+n)) []) _ _ _ _ hb (vin_one w' _ 2 0 _ (by omega) (by rw [ByteArray.size_extract]; omega)) (by omega) (by omega) (fun st _ => by
  have e : str ((s.data.toList.drop a).take n)=s.extract a (a+n):=by
   rw [← str_data (s.extract a (a+n)),ext_list]
   congr 2; omega
  rw [drop_one s p hp,rd_str st _ _ hk (by rw [hL]) (by rw [hL,List.drop_drop]; simp; omega),hL,List.drop_drop,List.drop_drop,← ha,e]))
 obtain ⟨m,hm⟩ : ∃ m,m=s.size - a:=⟨_,rfl⟩
 have hmi : (s.size : Int) - (a : Int)=(m : Int):=by omega
 have hms : m≤1000000000:=by omega
 have hnm : ¬ (m : Int) < (n : Int):=by omega
 have hns : n≤1000000000:=by omega
 have hle : (a : Int)+(n : Int)≤(s.size : Int):=by omega
 have h0n : (0 : Int)≤(a : Int)+(n : Int):=by omega
 have han : (a : Int)≤(a : Int)+(n : Int):=by omega
 have HA:=Lib.hid ha
 have HJ:=Lib.hid hj
 clear hL ha hj hj0
 go_enter Tryz.func36,Tryz.ntmps36
 go_upto_region 7 with (first
  | (go_at_call 80; ((with_reducible refine (K52.out _).mono ?_); rintro z w5 ⟨rfl,hb5⟩; have HF:=Lib.hid ((F2.new w _ _ _ _).later hb5); clear hb5)))
 have HG : Hid (w.heap.size≤w.heap.size+1):=Lib.hid (by omega)
 obtain ⟨⟨z0,z1,z2,z3⟩,y0,y1,y2,y3⟩:=four_of HF.out.z
 obtain ⟨⟨x0,x1,x2,x3⟩,v0,v1,v2,v3⟩:=four_of HF.out.v
 go_wp2
 refine bodyPost_ret (v:=.tuple #[.agg #[.int .i64 2,.int .u64 0,.string (s.extract a (a+n)),.slice none 0 0],.int .i64 ((a+n : Nat) : Int),.int .i64 0]) (by simp [results,Tryz.results36,go_sem,z0,z1,z2,z3,y0,y1,y2,y3,x0,x1,x2,x3,v0,v1,v2,v3]) rfl (HR.out _ ?_)
 exact below4 (HF.out.b.setCell HG.out _) (Nat.le_refl _) _ _ _ _
theorem nx_deep (s : ByteArray) (hmax : s.size≤1000000000) (p d : Nat) (hp : p < s.size) (hk : s[p].toNat=3) (n j : Nat) (hL : lngA 0 0 (s.data.toList.drop (p+1))=(n,j,0)) (hd : d=6) (w : World) : Calls Tryz.prog 36 #[.string s,.int .i64 (p : Int),.int .i64 (d : Int)] w fun e w' => NxR s p d w e w':=by
 have K52:=Lib.hid (long_behind s hmax p hp n j 0 hL)
 obtain ⟨hn,hj,hj0,_⟩:=lng_facts s p hp n j 0 hL
 obtain ⟨a,ha⟩ : ∃ a,a=p+1+j:=⟨_,rfl⟩
 have hai : (p : Int)+1+(j : Int)=(a : Int):=by omega
 have has : a≤s.size:=by omega
 have hwa : IntKind.i64.wrap ((p : Int)+1+(j : Int))=(a : Int):=by rw [IntWalk.i64_in _ (by omega),hai]
 have hwb : IntKind.i64.wrap (a : Int)=(a : Int):=IntWalk.i64_in _ (by omega)
 have h0q : (0 : Int)≤(p : Int)+1:=by omega
 have h1q : (p : Int)+1≤(s.size : Int):=by omega
 have HR : Hid (∀ w' : World,Below w.heap.size w w'→NxR s p d w (.returned (.tuple #[.agg #[.int .i64 0,.int .u64 0,.string ⟨#[]⟩,.slice none 0 0],.int .i64 0,.int .i64 ((8 : Nat) : Int)])) w'):=Lib.hid (fun w' hb => NxR.bad 8 (by decide) hb (fun st hst => by
  rw [drop_one s p hp,rd_deep st _ _ hk (by rw [hL]) (by omega)]))
 subst hd
 have HA:=Lib.hid ha
 have HJ:=Lib.hid hj
 clear hL ha hj hj0
 go_enter Tryz.func36,Tryz.ntmps36
 go_upto_region 7 with (first
  | (go_at_call 80; ((with_reducible refine (K52.out _).mono ?_); rintro z w5 ⟨rfl,hb5⟩; have HF:=Lib.hid ((F2.new w _ _ _ _).later hb5); clear hb5)))
 have HG : Hid (w.heap.size≤w.heap.size+1):=Lib.hid (by omega)
 obtain ⟨⟨z0,z1,z2,z3⟩,y0,y1,y2,y3⟩:=four_of HF.out.z
 obtain ⟨⟨x0,x1,x2,x3⟩,v0,v1,v2,v3⟩:=four_of HF.out.v
 go_wp2
 refine bodyPost_ret (v:=.tuple #[.agg #[.int .i64 0,.int .u64 0,.string ⟨#[]⟩,.slice none 0 0],.int .i64 0,.int .i64 8]) (by simp [results,Tryz.results36,go_sem,z0,z1,z2,z3,y0,y1,y2,y3,x0,x1,x2,x3,v0,v1,v2,v3]) rfl (HR.out _ ?_)
 exact below4 HF.out.b (Nat.le_refl _) _ _ _ _
end Go.Proofs.YtjfjliobencppaaGreatDoor

namespace Go.Proofs.YtjfjliobencppaaGreatDoor
open Go.RowKit
def CT (B : Nat) (l : List Tr) (ρ : Option Nat) (oo : Option Addr) (cap j : Nat) (xs : List Value) (wz : World) : Prop :=
 VRow 81 ρ oo cap j xs wz∧(∀ r,ρ=some r→B≤r) ∧
  ∀ i (h : i < l.length),i < j→∃ d0 d1 d2 d3,xs[i * 4]?=some d0∧xs[i * 4+1]?=some d1∧xs[i * 4+2]?=some d2∧xs[i * 4+3]?=some d3∧VInP wz (fun b => B≤b∧ρ≠some b) l[i] d0 d1 d2 d3
theorem CT.keep {B : Nat} {wz w1 : World} {l : List Tr} {ρ : Option Nat} {oo : Option Addr} {cap j : Nat} {xs : List Value} (h : CT B l ρ oo cap j xs wz) (hs : wz.heap.size≤w1.heap.size) (hb : ∀ b,b < wz.heap.size→B≤b→w1.heap[b]?=wz.heap[b]?) : CT B l ρ oo cap j xs w1:=by
 obtain ⟨h4,h5,h6⟩:=h
 refine ⟨h4.keep (fun r hr => hb _ (h4.lt r hr) (h5 r hr)),h5,fun i hi hj => ?_⟩
 obtain ⟨d0,d1,d2,d3,x0,x1,x2,x3,hv⟩:=h6 i hi hj
 exact ⟨d0,d1,d2,d3,x0,x1,x2,x3,VInP.keep hs (fun b hb' hP => ⟨hb b hb' hP.1,hP⟩) _ hv⟩
theorem CT.later {B : Nat} {wz w1 : World} {l : List Tr} {ρ : Option Nat} {oo : Option Addr} {cap j : Nat} {xs : List Value} (h : CT B l ρ oo cap j xs wz) (hb : Below wz.heap.size wz w1) : CT B l ρ oo cap j xs w1:=h.keep hb.size (fun b hb' _ => hb.block b hb')
theorem CT.set {B : Nat} {wz : World} {l : List Tr} {ρ : Option Nat} {oo : Option Addr} {cap j : Nat} {xs : List Value} (h : CT B l ρ oo cap j xs wz) {g : Nat} (hg : g < B) (k : Nat) (v : Value) : CT B l ρ oo cap j xs (wz.setCell ⟨g,k,none⟩ v):=h.keep (by simp) (fun b _ hB => heap_setCell_other _ ⟨g,k,none⟩ b _ (by show b≠g; omega))
theorem CT.nil (B : Nat) (w : World) : CT B [] none none 0 0 [] w:=⟨VRow.nil 81 w,fun r h => (by cases h),fun i h => absurd h (by simp)⟩
theorem ct_put {B : Nat} {w6 w7 : World} {h : List Tr} {t : Tr} {ρ ρ' : Option Nat} {oo o' : Option Addr} {cap cap' : Nat} {xs : List Value} {d0 d1 d2 d3 : Value} (hB : B≤w6.heap.size)
  (g6 : CT B h ρ oo cap h.length xs w6) (hv6 : VInP w6 (fun b => B≤b∧ρ≠some b) t d0 d1 d2 d3)
  (hR : VRow 81 ρ' o' cap' (h.length+1) (xs++[d0,d1,d2,d3]) w7) (hn : Nxt ρ ρ' w6) (hc : Chg w6.heap.size ρ w6 w7) :
  CT B (h++[t]) ρ' o' cap' (h.length+1) (xs++[d0,d1,d2,d3]) w7:=by
 obtain ⟨g4,g5,g7⟩:=g6
 have hx : xs.length=h.length * 4:=g4.1
 have hnew : ∀ r,ρ'=some r→B≤r:=by
  intro r hr
  rcases hn with rfl | ⟨q,rfl,hq⟩
  ·exact g5 r hr
  ·cases hr; omega
 have hkeep : ∀ b',b' < w6.heap.size→(B≤b'∧ρ≠some b')→w7.heap[b']?=w6.heap[b']?∧(B≤b'∧ρ'≠some b'):=by
  intro b' hb' hP
  refine ⟨hc.2.2.2.2 b' hb' (by omega) hP.2,hP.1,?_⟩
  rcases hn with rfl | ⟨q,rfl,hq⟩
  ·exact hP.2
  ·intro e; cases e; omega
 refine ⟨hR,hnew,?_⟩
 intro i hi hij
 by_cases hlt : i < h.length
 ·obtain ⟨e0,e1,e2,e3,x0,x1,x2,x3,hvi⟩:=g7 i hlt hlt
  rw [List.getElem_append_left hlt]
  refine ⟨e0,e1,e2,e3,?_,?_,?_,?_,VInP.keep hc.2.2.2.1 hkeep _ hvi⟩
  all_goals (rw [List.getElem?_append_left (by rw [hx]; omega)]; assumption)
 ·obtain rfl : i=h.length:=by omega
  rw [List.getElem_append_right (Nat.le_refl _)]
  simp only [Nat.sub_self,List.getElem_cons_zero]
  refine ⟨d0,d1,d2,d3,?_,?_,?_,?_,VInP.keep hc.2.2.2.1 hkeep _ hv6⟩
  all_goals (rw [List.getElem?_append_right (by rw [hx]; omega),hx])
  ·rw [Nat.sub_self]; rfl
  ·rw [show h.length * 4+1 - h.length * 4=1 by omega]; rfl
  ·rw [show h.length * 4+2 - h.length * 4=2 by omega]; rfl
  ·rw [show h.length * 4+3 - h.length * 4=3 by omega]; rfl
theorem ct_done {B : Nat} {wr : World} {l : List Tr} {ρ : Option Nat} {oo : Option Addr} {cap : Nat} {xs : List Value} {P : Nat→Prop} (hl : l.length≤1000000) (hP : ∀ b,B≤b→P b) (h : CT B l ρ oo cap l.length xs wr) : VInP wr P (.mk 3 0 ⟨#[]⟩ l) (.int .i64 3) (.int .u64 0) (.string ⟨#[]⟩) (.slice oo l.length cap):=by
 obtain ⟨hR,hr,hE⟩:=h
 unfold VInP
 refine ⟨rfl,rfl,by omega,rfl,⟨by decide,hl⟩,?_⟩
 rcases Nat.eq_zero_or_pos l.length with h0 | h0
 ·exact ⟨oo,cap,0,0,rfl,fun hp => absurd hp (by omega),VInPL.of (fun i hi => absurd hi (by omega))⟩
 ·obtain ⟨d0,_,_,_,x0,_⟩:=hE 0 h0 h0
  obtain ⟨r,e1,e2,_⟩:=hR.cell _ _ x0
  refine ⟨oo,cap,r,0,rfl,fun _ => ⟨e2,hR.lt r e1,hP r (hr r e1)⟩,VInPL.of (fun i hi => ?_)⟩
  obtain ⟨d0,d1,d2,d3,x0,x1,x2,x3,hv⟩:=hE i hi hi
  have cell : ∀ j u,xs[j]?=some u→wr.cell? ⟨r,j,none⟩=some u:=fun j u hj => by
   obtain ⟨r',q1,_,q3⟩:=hR.cell j u hj
   rw [e1] at q1
   cases q1
   exact q3
  rw [Nat.zero_add]
  exact ⟨d0,d1,d2,d3,cell _ _ x0,cell _ _ x1,cell _ _ x2,cell _ _ x3,VInP.keep (Nat.le_refl _) (fun b' _ hq => ⟨rfl,hP b' hq.1⟩) _ hv⟩
structure LI (s : ByteArray) (p d a n : Nat) (w : World) (g6 g9 q i : Nat) (h : List Tr) (ρ : Option Nat) (oo : Option Addr) (cap : Nat) (xs : List Value) (wz : World) : Prop where
 len : h.length=i
 le : i≤n
 at_ : a+i≤q∧q≤s.size
 rd : ∀ st,st.length=d→Go.Proofs.YtjfjliobencppaaGreatDoor.rd .v st (s.data.toList.drop p)=Go.Proofs.YtjfjliobencppaaGreatDoor.rd .n ((n - i,h)::st) (s.data.toList.drop q)
 f : F2 w g6 g9 (.int .i64 3) (.int .u64 0) (.string ⟨#[]⟩) (.slice oo i cap) wz
 c : CT (g9+1) h ρ oo cap i xs wz
theorem LI.next {s : ByteArray} {p d a n : Nat} {w : World} {g6 g9 q i : Nat} {h : List Tr} {ρ ρ' : Option Nat} {oo o' : Option Addr} {cap cap' : Nat} {xs : List Value} {wz w4 w7 : World} {q' : Nat} {t : Tr} {d0 d1 d2 d3 : Value}
  (H : LI s p d a n w g6 g9 q i h ρ oo cap xs wz) (hi : i < n) (hb4 : Below wz.heap.size wz w4) (hv : VInP w4 (fun b => wz.heap.size≤b) t d0 d1 d2 d3) (hq : q < q'∧q'≤s.size) (hrd : ∀ st,st.length=d+1→Go.Proofs.YtjfjliobencppaaGreatDoor.rd .v st (s.data.toList.drop q)=Go.Proofs.YtjfjliobencppaaGreatDoor.rd (.w t) st (s.data.toList.drop q'))
  (o1 o2 : Obj) (hR : VRow 81 ρ' o' cap' (i+1) (xs++[d0,d1,d2,d3]) w7) (hn : Nxt ρ ρ' ((w4.alloc o1).alloc o2)) (hc : Chg ((w4.alloc o1).alloc o2).heap.size ρ ((w4.alloc o1).alloc o2) w7) :
  LI s p d a n w g6 g9 q' (i+1) (h++[t]) ρ' o' cap' (xs++[d0,d1,d2,d3]) (w7.setCell ⟨g9,3,none⟩ (.slice o' (i+1) cap')):=by
 obtain ⟨rfl,hle,ha,hr,hf,hct⟩:=H
 have hbb : Below wz.heap.size wz ((w4.alloc o1).alloc o2):=(hb4.alloc hb4.size _).alloc (by have:=hb4.size; simp; omega) _
 have hg9:=lt_of_heap hf.v
 have hs4:=hb4.size
 have hct6:=hct.later hbb
 have hv6 : VInP ((w4.alloc o1).alloc o2) (fun b => g9+1≤b∧ρ≠some b) t d0 d1 d2 d3:=VInP.keep (by simp; omega) (fun b hb hP => ⟨((Below.refl w4.heap.size w4).alloc (Nat.le_refl _) o1 |>.alloc (by simp) o2).block b hb,by omega,fun e => by have:=hct.1.lt b e; omega⟩) _ hv
 have hput:=ct_put (by simp; omega) hct6 hv6 hR hn hc
 have hf6:=hf.later hbb
 refine ⟨by simp,by omega,⟨by omega,hq.2⟩,fun st hst => ?_,?_,?_⟩
 ·have e : n - h.length=(n - (h.length+1))+1:=by omega
  rw [hr st hst,e,rd_more,hrd _ (by simp [hst]),rd_push]
  rfl
 ·have hne : g6≠g9:=by have:=hf.g; omega
  have hkz : ∀ k,k < ((w4.alloc o1).alloc o2).heap.size→k≤g9→w7.heap[k]?=((w4.alloc o1).alloc o2).heap[k]?:=fun k hk hkg => hc.2.2.2.2 k hk (by omega) (fun e => by have:=hct.2.1 k e; omega)
  have hz7:=(hkz g6 (lt_of_heap hf6.z) (by have:=hf.g; omega)).trans hf6.z
  have hv7:=(hkz g9 (lt_of_heap hf6.v) (Nat.le_refl _)).trans hf6.v
  refine ⟨(heap_setCell_other _ ⟨g9,3,none⟩ g6 _ hne).trans hz7,heap_setCell_same w7 g9 3 _ 81 _ hv7,?_,hf.g⟩
  have h7 : Below w.heap.size w w7:=hf6.b.trans ⟨hc.1,hc.2.1,hc.2.2.1,hc.2.2.2.1,fun k hk => hkz k (by have:=hf6.b.size; omega) (by have:=hf.g; omega)⟩
  exact h7.setCell (p:=⟨g9,3,none⟩) (by show w.heap.size≤g9; have:=hf.g; omega) _
 ·exact hput.set (Nat.lt_succ_self g9) 3 _
theorem nx_pre {s : ByteArray} {p d a n : Nat} {w : World} {g6 g9 q i : Nat} {h : List Tr} {ρ : Option Nat} {oo : Option Addr} {cap : Nat} {xs : List Value} {wz w4 w7 : World}
  (H : LI s p d a n w g6 g9 q i h ρ oo cap xs wz) (hb4 : Below wz.heap.size wz w4) (o1 o2 : Obj) (hc : Chg ((w4.alloc o1).alloc o2).heap.size ρ ((w4.alloc o1).alloc o2) w7) : w7.cell? ⟨g9,3,none⟩=some (.slice oo i cap)∧w7.frozen? ⟨g9,3,none⟩=false:=by
 have hbb : Below wz.heap.size wz ((w4.alloc o1).alloc o2):=(hb4.alloc hb4.size _).alloc (by have:=hb4.size; simp; omega) _
 have hf6:=H.f.later hbb
 have hv7:=(hc.2.2.2.2 g9 (lt_of_heap hf6.v) (by have:=lt_of_heap hf6.v; omega) (fun e => by have:=H.c.2.1 g9 e; omega)).trans hf6.v
 exact ⟨(four_of hv7).1.2.2.2,(four_of hv7).2.2.2.2⟩
end Go.Proofs.YtjfjliobencppaaGreatDoor
