/- codec.read: what holds at its labels; with a value in hand. -/
import Derived.Test.YtjfjliobencppaaGreatDoorR13
set_option linter.unusedVariables false
set_option linter.unusedSimpArgs false
set_option maxRecDepth 1000000
set_option maxHeartbeats 4000000
namespace Go.Proofs.YtjfjliobencppaaGreatDoor
open Go.RowKit
def scopeIn : Code→Option Code
 | .scope c => some c
 | .seq a b => match scopeIn a with
  | some c => some c
  | none => scopeIn b
 | .block _ c => scopeIn c
 | _ => none
noncomputable def labC (l : Nat) : Code:=(((Tryz.f71.body.bind scopeIn).bind fun c => findLabel c l).getD .skip)
noncomputable def labT (l : Nat) : Code:=match labC l with
 | .seq _ c => c
 | c => c
def JV (w : World) (A : Nat × Tr × List UInt8) (n : Nat) (a : Act) (wz : World) : Prop :=
 ∃ (u : Nat→Value) (sρ : Option Nat) (so : Option Addr) (scap : Nat) (L : List Ent) (s : ByteArray) (k0 : Int) (n0 : Nat) (s0 : ByteArray) (o0 : Option Addr) (l0 p0 : Nat),a=⟨List.toArray (u 0::.pointer (some ⟨w.heap.size,0,none⟩)::.pointer (some ⟨w.heap.size+1,0,none⟩)::.string ⟨#[]⟩::.int .i64 0::.pointer (some ⟨w.heap.size+2,0,none⟩)::.pointer (some ⟨w.heap.size+3,0,none⟩)::u 7::u 8::u 9::u 10::.func (Fn.func 104) #[] #[.pointer (some ⟨w.heap.size,0,none⟩)]::.func (Fn.func 105) #[] #[.pointer (some ⟨w.heap.size+2,0,none⟩)]::u 13::u 14::u 15::u 16::u 17::u 18::u 19::u 20::u 21::u 22::u 23::u 24::u 25::u 26::u 27::u 28::u 29::u 30::u 31::u 32::u 33::u 34::u 35::u 36::u 37::u 38::u 39::u 40::u 41::u 42::u 43::u 44::u 45::u 46::u 47::u 48::u 49::u 50::u 51::u 52::u 53::u 54::u 55::u 56::u 57::u 58::u 59::u 60::u 61::u 62::u 63::u 64::u 65::u 66::u 67::u 68::u 69::u 70::u 71::u 72::u 73::u 74::u 75::u 76::u 77::u 78::u 79::u 80::u 81::u 82::u 83::u 84::u 85::u 86::u 87::u 88::u 89::u 90::u 91::u 92::u 93::u 94::u 95::u 96::u 97::u 98::List.nil),[]⟩∧Hid (RdW w sρ so scap L s k0 n0 s0 o0 l0 p0 wz) ∧
  Hid (L.length≤6∧s.size≤8192∧(∀ e ∈ L,e.left≤18446744073709551615∧1≤e.left∧e.hv.length+s.size≤8192)∧rd .v (stk L) s.data.toList=A∧n=s.size * 100+L.length * 10)
def JN (w : World) (A : Nat × Tr × List UInt8) (n : Nat) (a : Act) (wz : World) : Prop :=
 ∃ (u : Nat→Value) (sρ : Option Nat) (so : Option Addr) (scap : Nat) (L : List Ent) (s : ByteArray) (k0 : Int) (n0 : Nat) (s0 : ByteArray) (o0 : Option Addr) (l0 p0 : Nat) (e : Ent),a=⟨List.toArray (u 0::.pointer (some ⟨w.heap.size,0,none⟩)::.pointer (some ⟨w.heap.size+1,0,none⟩)::.string ⟨#[]⟩::.int .i64 0::.pointer (some ⟨w.heap.size+2,0,none⟩)::.pointer (some ⟨w.heap.size+3,0,none⟩)::u 7::u 8::u 9::u 10::.func (Fn.func 104) #[] #[.pointer (some ⟨w.heap.size,0,none⟩)]::.func (Fn.func 105) #[] #[.pointer (some ⟨w.heap.size+2,0,none⟩)]::u 13::u 14::u 15::u 16::u 17::u 18::u 19::u 20::u 21::u 22::u 23::u 24::u 25::u 26::u 27::u 28::u 29::u 30::u 31::u 32::u 33::u 34::u 35::u 36::u 37::u 38::u 39::u 40::u 41::u 42::u 43::u 44::u 45::u 46::u 47::u 48::u 49::u 50::u 51::u 52::u 53::u 54::u 55::u 56::u 57::u 58::u 59::u 60::u 61::u 62::u 63::u 64::u 65::u 66::u 67::u 68::u 69::u 70::u 71::u 72::u 73::u 74::u 75::u 76::u 77::u 78::u 79::u 80::u 81::u 82::u 83::u 84::u 85::u 86::u 87::u 88::u 89::u 90::u 91::u 92::u 93::u 94::u 95::u 96::u 97::u 98::List.nil),[]⟩∧Hid (RdW w sρ so scap (L++[e]) s k0 n0 s0 o0 l0 p0 wz) ∧
  Hid (L.length≤5∧s.size≤8192∧(∀ f ∈ L,f.left≤18446744073709551615∧1≤f.left∧f.hv.length+s.size+1≤8192)∧e.left≤18446744073709551615∧e.hv.length+s.size≤8192∧rd .n (stk (L++[e])) s.data.toList=A∧n=s.size * 100+L.length * 10+11)
def JW (w : World) (A : Nat × Tr × List UInt8) (n : Nat) (a : Act) (wz : World) : Prop :=
 ∃ (u : Nat→Value) (sρ : Option Nat) (so : Option Addr) (scap : Nat) (L : List Ent) (s : ByteArray) (k0 : Int) (n0 : Nat) (s0 : ByteArray) (o0 : Option Addr) (l0 p0 : Nat) (t : Tr),a=⟨List.toArray (u 0::.pointer (some ⟨w.heap.size,0,none⟩)::.pointer (some ⟨w.heap.size+1,0,none⟩)::.string ⟨#[]⟩::.int .i64 0::.pointer (some ⟨w.heap.size+2,0,none⟩)::.pointer (some ⟨w.heap.size+3,0,none⟩)::u 7::u 8::u 9::u 10::.func (Fn.func 104) #[] #[.pointer (some ⟨w.heap.size,0,none⟩)]::.func (Fn.func 105) #[] #[.pointer (some ⟨w.heap.size+2,0,none⟩)]::u 13::u 14::u 15::u 16::u 17::u 18::u 19::u 20::u 21::u 22::u 23::u 24::u 25::u 26::u 27::u 28::u 29::u 30::u 31::u 32::u 33::u 34::u 35::u 36::u 37::u 38::u 39::u 40::u 41::u 42::u 43::u 44::u 45::u 46::u 47::u 48::u 49::u 50::u 51::u 52::u 53::u 54::u 55::u 56::u 57::u 58::u 59::u 60::u 61::u 62::u 63::u 64::u 65::u 66::u 67::u 68::u 69::u 70::u 71::u 72::u 73::u 74::u 75::u 76::u 77::u 78::u 79::u 80::u 81::u 82::u 83::u 84::u 85::u 86::u 87::u 88::u 89::u 90::u 91::u 92::u 93::u 94::u 95::u 96::u 97::u 98::List.nil),[]⟩∧Hid (RdW w sρ so scap L s k0 n0 s0 o0 l0 p0 wz)∧Hid (VInP wz (Own (w.heap.size+4) sρ L) t (.int .i64 k0) (.int .u64 (n0 : Int)) (.string s0) (.slice o0 l0 p0)) ∧
  Hid (L.length≤6∧s.size≤8192∧(∀ f ∈ L,f.left≤18446744073709551615∧1≤f.left∧f.hv.length+s.size+1≤8192)∧rd (.w t) (stk L) s.data.toList=A∧n=s.size * 100+L.length * 10+2)
def JR (w : World) (A : Nat × Tr × List UInt8) (l n : Nat) (a : Act) (wz : World) : Prop:=(l=0∧JV w A n a wz)∨(l=2∧JN w A n a wz)∨(l=1∧JW w A n a wz)
def RdQ (w : World) (A : Nat × Tr × List UInt8) (e : Ending) (w' : World) : Prop:=∃ d0 d1 d2 d3,e=.returned (crV d0 d1 d2 d3 (str A.2.2) A.1)∧VInP w' (fun b => w.heap.size≤b) A.2.1 d0 d1 d2 d3∧Below w.heap.size w w'∧(A.1≠0→d0=.int .i64 0∧d1=.int .u64 0∧d2=.string ⟨#[]⟩∧d3=.slice none 0 0)
theorem str_id (s : ByteArray) : str s.data.toList=s:=by
 apply ByteArray.ext
 simp [str]
theorem SRow.last {sρ : Option Nat} {so : Option Addr} {scap : Nat} {L : List Ent} {e : Ent} {wz : World} (h : SRow 169 sρ so scap (L++[e]).length (entL (L++[e])) wz) :
  ∃ (r : Nat) (cur : Array Value),sρ=some r∧so=some ⟨r,0,none⟩∧wz.heap[r]?=some (.cells cur 169 (0,0))∧cur[L.length * 2]?=some (.int .u64 (e.left : Int))∧cur[L.length * 2+1]?=some (.slice e.oo e.hv.length e.cap)∧L.length+1≤scap:=by
 rw [List.length_append,List.length_singleton] at h
 rcases h.2 with ⟨_,_,_,h0⟩ | ⟨r,cur,h1,h2,h4,h5,h6,h7,h8⟩
 ·omega
 ·rw [entL_app,entL_one] at h8
  have hl:=entL_len L
  have c : ∀ j,j < (L.length+1) * 2→cur[j]?=(entL L++e.cells)[j]?:=fun j hj => by
   have:=congrArg (fun l => l[j]?) h8
   simp only [List.getElem?_take,hj,if_true] at this
   rw [← Array.getElem?_toList]; exact this
  refine ⟨r,cur,h1,h2,h4,?_,?_,h5⟩
  ·rw [c _ (by omega),List.getElem?_append_right (by omega),hl,Nat.sub_self]; rfl
  ·rw [c _ (by omega),List.getElem?_append_right (by omega),hl,show L.length * 2+1 - L.length * 2=1 by omega]; rfl
theorem pass_wt (w : World) (A : Nat × Tr × List UInt8) (n : Nat) (a : Act) (wz : World) (hJ : JW w A n a wz) : Code.wp Tryz.prog (labT 1) (Exit.jumps (fun l a' w' => ∃ m,m < n∧JR w A l m a' w') (bodyPost Tryz.prog Tryz.f71 (RdQ w A))) a wz:=by
 obtain ⟨u,sρ,so,scap,L,s,k0,n0,s0,o0,l0,p0,t,rfl,HR,HV,HP⟩:=hJ
 rcases List.eq_nil_or_concat L with rfl | ⟨L0,e,rfl⟩
 ·have ha : A=(0,t,s.data.toList):=by rw [← HP.out.2.2.2.1]; simp [stk,rd]
  have HA:=Lib.hid ha
  obtain ⟨b0,b1⟩:=HR.out.cb
  obtain ⟨s1,s2⟩:=HR.out.cs
  obtain ⟨c0,c1,c2,c3,cf⟩:=HR.out.cv
  obtain ⟨r0,r1,r2,r3,rf⟩:=HR.out.cr
  have g0:=rf 0
  have g1:=rf 1
  have g2:=rf 2
  have g3:=rf 3
  rw [List.length_nil] at b0
  clear ha cf rf b1 s2
  conv => arg 2; whnf
  go_wp2_with fail
  go_region
  all_goals
   try simp only [Exit.then]
   try apply_assumption
   go_wp2
   simp only [Exit.jumps]
   refine bodyPost_ret (v:=crV (.int .i64 k0) (.int .u64 (n0 : Int)) (.string s0) (.slice o0 l0 p0) s 0) (by simp [results,Tryz.results71,go_sem,crV, *]) rfl ⟨.int .i64 k0,.int .u64 (n0 : Int),.string s0,.slice o0 l0 p0,by rw [HA.out]; simp only [str_id],?_,?_,fun h => absurd (by rw [HA.out]) h⟩
   ·rw [HA.out]
    refine VInP.keep (w:=wz) (P:=Own (w.heap.size+4) sρ []) ?_ (fun b hb hP => ⟨?_,?_⟩) _ HV.out
    ·simp
    ·exact setfour (w:=wz) (X:=w.heap.size+1) (a:=.int .i64 k0) (b:=.int .u64 (n0 : Int)) (c:=.string s0) (d:=.slice o0 l0 p0) b (by have:=hP.1; omega)
    ·have:=hP.1; omega
   ·have hg : w.heap.size≤w.heap.size+1:=by omega
    exact (below_set (below_set (below_set (below_set HR.out.below (w.heap.size+1) 0 hg (.int .i64 k0)) (w.heap.size+1) 1 hg (.int .u64 (n0 : Int))) (w.heap.size+1) 2 hg (.string s0)) (w.heap.size+1) 3 hg (.slice o0 l0 p0)).drew
 ·rw [List.concat_eq_append] at HR HV HP
  have hlen : (L0++[e]).length=L0.length+1:=by simp
  obtain ⟨r,cur,rfl,rfl,hcur,hc0,hc1,hcap⟩:=HR.out.st.row.last
  have hm : e ∈ L0++[e]:=List.mem_append_right _ (by simp)
  obtain ⟨q1,q2,q3⟩:=HP.out.2.2.1 e hm
  have hL:=HP.out.1
  rw [hlen] at hL
  obtain ⟨b0,b1⟩:=HR.out.cb
  rw [hlen] at b0
  have hbb:=HR.out.bb
  rw [hlen] at hbb
  obtain ⟨c0,c1,c2,c3,cf⟩:=HR.out.cv
  have hne : e.ρ≠some r:=fun h => (HR.out.st.elo e hm r h).2 rfl
  have K52 : Hid (∀ wy,Below wz.heap.size wz wy→Calls Tryz.prog 105 #[.pointer (some ⟨w.heap.size+2,0,none⟩)] wy fun e w' => e=.returned (.pointer (some ⟨r,L0.length * 2,none⟩))∧w'=wy):=Lib.hid (fun wy hy => last_any (w.heap.size+2) r L0.length scap wy ((hy.block _ (lt_of_heap hbb)).trans hbb) (by omega))
  have K54 : Hid (∀ wy,Below wz.heap.size wz wy→Calls Tryz.prog 108 #[.pointer (some ⟨r,L0.length * 2,none⟩),.agg #[.int .i64 k0,.int .u64 (n0 : Int),.string s0,.slice o0 l0 p0]] wy fun x w' => x=.returned (.tuple #[])∧∃ ρ' o' cap',RdW w (some r) (some ⟨r,0,none⟩) scap (L0++[⟨e.left - 1,e.hv++[t],ρ',o',cap',e.xs++[.int .i64 k0,.int .u64 (n0 : Int),.string s0,.slice o0 l0 p0]⟩]) s k0 n0 s0 o0 l0 p0 w'):=Lib.hid (fun wy hy => by
   have hr2:=HR.out.later hy
   have hv2 : VInP wy (Own (w.heap.size+4) (some r) (L0++[e])) t (.int .i64 k0) (.int .u64 (n0 : Int)) (.string s0) (.slice o0 l0 p0):=VInP.keep hy.size (fun b hb hP => ⟨hy.block b hb,hP⟩) _ HV.out
   have hcy:=(hy.block r (lt_of_heap hcur)).trans hcur
   refine (take_any r (L0.length * 2) e.hv.length e.left e.oo e.cap e.ρ e.xs cur k0 n0 s0 o0 l0 p0 wy q2 q1 hcy hc0 hc1 (hr2.st.vrow e hm) hne (by omega)).mono ?_
   rintro x w' ⟨rfl,ρ',o',cap',a1,a2,a3,a4,a5,a6,a7,a8⟩
   exact ⟨rfl,ρ',o',cap',hr2.take hv2 hcy a1 a2 ⟨a3,a4,a5⟩ a6 a7 a8⟩)
  have HN : Hid (∀ ρ' o' cap' (a' : Act) (w' : World),a'=⟨List.toArray (a'.tmps.getD 0 undef::.pointer (some ⟨w.heap.size,0,none⟩)::.pointer (some ⟨w.heap.size+1,0,none⟩)::.string ⟨#[]⟩::.int .i64 0::.pointer (some ⟨w.heap.size+2,0,none⟩)::.pointer (some ⟨w.heap.size+3,0,none⟩)::a'.tmps.getD 7 undef::a'.tmps.getD 8 undef::a'.tmps.getD 9 undef::a'.tmps.getD 10 undef::.func (Fn.func 104) #[] #[.pointer (some ⟨w.heap.size,0,none⟩)]::.func (Fn.func 105) #[] #[.pointer (some ⟨w.heap.size+2,0,none⟩)]::a'.tmps.getD 13 undef::a'.tmps.getD 14 undef::a'.tmps.getD 15 undef::a'.tmps.getD 16 undef::a'.tmps.getD 17 undef::a'.tmps.getD 18 undef::a'.tmps.getD 19 undef::a'.tmps.getD 20 undef::a'.tmps.getD 21 undef::a'.tmps.getD 22 undef::a'.tmps.getD 23 undef::a'.tmps.getD 24 undef::a'.tmps.getD 25 undef::a'.tmps.getD 26 undef::a'.tmps.getD 27 undef::a'.tmps.getD 28 undef::a'.tmps.getD 29 undef::a'.tmps.getD 30 undef::a'.tmps.getD 31 undef::a'.tmps.getD 32 undef::a'.tmps.getD 33 undef::a'.tmps.getD 34 undef::a'.tmps.getD 35 undef::a'.tmps.getD 36 undef::a'.tmps.getD 37 undef::a'.tmps.getD 38 undef::a'.tmps.getD 39 undef::a'.tmps.getD 40 undef::a'.tmps.getD 41 undef::a'.tmps.getD 42 undef::a'.tmps.getD 43 undef::a'.tmps.getD 44 undef::a'.tmps.getD 45 undef::a'.tmps.getD 46 undef::a'.tmps.getD 47 undef::a'.tmps.getD 48 undef::a'.tmps.getD 49 undef::a'.tmps.getD 50 undef::a'.tmps.getD 51 undef::a'.tmps.getD 52 undef::a'.tmps.getD 53 undef::a'.tmps.getD 54 undef::a'.tmps.getD 55 undef::a'.tmps.getD 56 undef::a'.tmps.getD 57 undef::a'.tmps.getD 58 undef::a'.tmps.getD 59 undef::a'.tmps.getD 60 undef::a'.tmps.getD 61 undef::a'.tmps.getD 62 undef::a'.tmps.getD 63 undef::a'.tmps.getD 64 undef::a'.tmps.getD 65 undef::a'.tmps.getD 66 undef::a'.tmps.getD 67 undef::a'.tmps.getD 68 undef::a'.tmps.getD 69 undef::a'.tmps.getD 70 undef::a'.tmps.getD 71 undef::a'.tmps.getD 72 undef::a'.tmps.getD 73 undef::a'.tmps.getD 74 undef::a'.tmps.getD 75 undef::a'.tmps.getD 76 undef::a'.tmps.getD 77 undef::a'.tmps.getD 78 undef::a'.tmps.getD 79 undef::a'.tmps.getD 80 undef::a'.tmps.getD 81 undef::a'.tmps.getD 82 undef::a'.tmps.getD 83 undef::a'.tmps.getD 84 undef::a'.tmps.getD 85 undef::a'.tmps.getD 86 undef::a'.tmps.getD 87 undef::a'.tmps.getD 88 undef::a'.tmps.getD 89 undef::a'.tmps.getD 90 undef::a'.tmps.getD 91 undef::a'.tmps.getD 92 undef::a'.tmps.getD 93 undef::a'.tmps.getD 94 undef::a'.tmps.getD 95 undef::a'.tmps.getD 96 undef::a'.tmps.getD 97 undef::a'.tmps.getD 98 undef::List.nil),[]⟩→RdW w (some r) (some ⟨r,0,none⟩) scap (L0++[⟨e.left - 1,e.hv++[t],ρ',o',cap',e.xs++[.int .i64 k0,.int .u64 (n0 : Int),.string s0,.slice o0 l0 p0]⟩]) s k0 n0 s0 o0 l0 p0 w'→∃ m,m < n∧JR w A 2 m a' w'):=Lib.hid (by
   intro ρ' o' cap' a' w' ha hr
   refine ⟨s.size * 100+L0.length * 10+11,?_,Or.inr (Or.inl ⟨rfl,(fun i => a'.tmps.getD i undef),_,_,_,_,_,_,_,_,_,_,_,_,ha,Lib.hid hr,Lib.hid ⟨by omega,HP.out.2.1,fun f hf => HP.out.2.2.1 f (List.mem_append_left _ hf),by show e.left - 1≤_; omega,by show (e.hv++[t]).length+s.size≤8192; rw [List.length_append,List.length_singleton]; omega,?_,rfl⟩⟩)⟩
   ·have:=HP.out.2.2.2.2
    rw [hlen] at this
    omega
   ·have:=HP.out.2.2.2.1
    rw [stk_app,rd_push] at this
    rw [stk_app]
    exact this)
  have hz : ((L0.length : Int)+1 == 0)=false:=by rw [beq_eq_false_iff_ne]; omega
  clear hcur hc0 hc1 hcap hm q1 q2 q3 hL b1 hbb cf hne hlen HR HV HP
  conv => arg 2; whnf
  go_wp2_with fail
  go_region_with (first
   | (go_at_call 105; refine (K52.out _ (by first | exact Below.refl _ _ | exact (Below.refl _ _).drew)).mono ?_; rintro x w2 ⟨rfl,rfl⟩)
   | (go_at_call 108; refine (K54.out _ (by first | exact Below.refl _ _ | exact (Below.refl _ _).drew)).mono ?_; rintro x w3 ⟨rfl,ρ',o',cap',HR3⟩))
  all_goals
   try simp only [Exit.then]
   try apply_assumption
   go_wp2
   go_step3
   exact HN.out _ _ _ _ _ rfl HR3
theorem pass_w (w : World) (A : Nat × Tr × List UInt8) (n : Nat) (a : Act) (wz : World) (hJ : JW w A n a wz) : Code.wp Tryz.prog (labC 1) (Exit.jumps (fun l a' w' => ∃ m,m < n∧JR w A l m a' w') (bodyPost Tryz.prog Tryz.f71 (RdQ w A))) a wz:=by
 have h:=pass_wt w A n a wz hJ
 conv => arg 2; whnf
 apply wp_seq_k
 intro K hK
 apply wp_skip
 simp only [Exit.then]
 apply hK
 exact h
end Go.Proofs.YtjfjliobencppaaGreatDoor
