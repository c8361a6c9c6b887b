/- codec.read: behind a value of a list.; codec.read: what a number's bytes tell; a list more under way; errors. -/
import Derived.Test.YtjfjliobencppaaGreatDoorR14
set_option linter.unusedVariables false
set_option linter.unusedSimpArgs false
set_option maxRecDepth 1000000
set_option maxHeartbeats 4000000
namespace Go.Proofs.YtjfjliobencppaaGreatDoor
open Go.RowKit
theorem jumps_mono {P : Program} {c : Code} {J J' : Nat→Act→World→Prop} {Q : Exit→Act→World→Prop} {a : Act} {w : World} (h : c.wp P (Exit.jumps J Q) a w) (hj : ∀ l a w,J l a w→J' l a w) : c.wp P (Exit.jumps J' Q) a w:=by
 refine Go.wp_mono h ?_
 intro e a w he
 cases e with
 | goto l => exact hj l a w he
 | _ => exact he
theorem pass_nt (w : World) (A : Nat × Tr × List UInt8) (n : Nat) (a : Act) (wz : World) (hJ : JN w A n a wz) : Code.wp Tryz.prog (labT 2) (Exit.jumps (fun l a' w' => ∃ m,m < n∧JR w A l m a' w') (bodyPost Tryz.prog Tryz.f71 (RdQ w A))) a wz:=by
 obtain ⟨u,sρ,so,scap,L,s,k0,n0,s0,o0,l0,p0,e,rfl,HR,HP⟩:=hJ
 have hlen : (L++[e]).length=L.length+1:=by simp
 obtain ⟨r,cur,rfl,rfl,hcur,hc0,hc1,hcap⟩:=HR.out.st.row.last
 have hL:=HP.out.1
 obtain ⟨b0,b1⟩:=HR.out.cb
 rw [hlen] at b0
 have hbb:=HR.out.bb
 rw [hlen] at hbb
 obtain ⟨c0,c1,c2,c3,cf⟩:=HR.out.cv
 have f0:=cf 0
 have f1:=cf 1
 have f2:=cf 2
 have f3:=cf 3
 have d0 : wz.cell? ⟨r,L.length * 2,none⟩=some (.int .u64 (e.left : Int)):=by rw [cell_of_row wz r _ _ _ _ hcur]; exact hc0
 have d1 : wz.cell? ⟨r,L.length * 2+1,none⟩=some (.slice e.oo e.hv.length e.cap):=by rw [cell_of_row wz r _ _ _ _ hcur]; exact hc1
 have K52 : Hid (Calls Tryz.prog 105 #[.pointer (some ⟨w.heap.size+2,0,none⟩)] wz fun e w' => e=.returned (.pointer (some ⟨r,L.length * 2,none⟩))∧w'=wz):=Lib.hid (last_any (w.heap.size+2) r L.length scap wz hbb (by omega))
 by_cases h0 : e.left=0
 ·have hg : ¬ (0 : Int) < (e.left : Int):=by omega
  have hcp : (L.length : Int)≤(scap : Int):=by omega
  have hcp0 : (0 : Int)≤(L.length : Int):=by omega
  have hn1 : ((L.length : Int)+1) - 1=(L.length : Int):=by omega
  have HW : Hid (∀ (a' : Act) (w' : World),a'=⟨List.toArray (a'.tmps.getD 0 undef::.pointer (some ⟨w.heap.size,0,none⟩)::.pointer (some ⟨w.heap.size+1,0,none⟩)::.string ⟨#[]⟩::.int .i64 0::.pointer (some ⟨w.heap.size+2,0,none⟩)::.pointer (some ⟨w.heap.size+3,0,none⟩)::a'.tmps.getD 7 undef::a'.tmps.getD 8 undef::a'.tmps.getD 9 undef::a'.tmps.getD 10 undef::.func (Fn.func 104) #[] #[.pointer (some ⟨w.heap.size,0,none⟩)]::.func (Fn.func 105) #[] #[.pointer (some ⟨w.heap.size+2,0,none⟩)]::a'.tmps.getD 13 undef::a'.tmps.getD 14 undef::a'.tmps.getD 15 undef::a'.tmps.getD 16 undef::a'.tmps.getD 17 undef::a'.tmps.getD 18 undef::a'.tmps.getD 19 undef::a'.tmps.getD 20 undef::a'.tmps.getD 21 undef::a'.tmps.getD 22 undef::a'.tmps.getD 23 undef::a'.tmps.getD 24 undef::a'.tmps.getD 25 undef::a'.tmps.getD 26 undef::a'.tmps.getD 27 undef::a'.tmps.getD 28 undef::a'.tmps.getD 29 undef::a'.tmps.getD 30 undef::a'.tmps.getD 31 undef::a'.tmps.getD 32 undef::a'.tmps.getD 33 undef::a'.tmps.getD 34 undef::a'.tmps.getD 35 undef::a'.tmps.getD 36 undef::a'.tmps.getD 37 undef::a'.tmps.getD 38 undef::a'.tmps.getD 39 undef::a'.tmps.getD 40 undef::a'.tmps.getD 41 undef::a'.tmps.getD 42 undef::a'.tmps.getD 43 undef::a'.tmps.getD 44 undef::a'.tmps.getD 45 undef::a'.tmps.getD 46 undef::a'.tmps.getD 47 undef::a'.tmps.getD 48 undef::a'.tmps.getD 49 undef::a'.tmps.getD 50 undef::a'.tmps.getD 51 undef::a'.tmps.getD 52 undef::a'.tmps.getD 53 undef::a'.tmps.getD 54 undef::a'.tmps.getD 55 undef::a'.tmps.getD 56 undef::a'.tmps.getD 57 undef::a'.tmps.getD 58 undef::a'.tmps.getD 59 undef::a'.tmps.getD 60 undef::a'.tmps.getD 61 undef::a'.tmps.getD 62 undef::a'.tmps.getD 63 undef::a'.tmps.getD 64 undef::a'.tmps.getD 65 undef::a'.tmps.getD 66 undef::a'.tmps.getD 67 undef::a'.tmps.getD 68 undef::a'.tmps.getD 69 undef::a'.tmps.getD 70 undef::a'.tmps.getD 71 undef::a'.tmps.getD 72 undef::a'.tmps.getD 73 undef::a'.tmps.getD 74 undef::a'.tmps.getD 75 undef::a'.tmps.getD 76 undef::a'.tmps.getD 77 undef::a'.tmps.getD 78 undef::a'.tmps.getD 79 undef::a'.tmps.getD 80 undef::a'.tmps.getD 81 undef::a'.tmps.getD 82 undef::a'.tmps.getD 83 undef::a'.tmps.getD 84 undef::a'.tmps.getD 85 undef::a'.tmps.getD 86 undef::a'.tmps.getD 87 undef::a'.tmps.getD 88 undef::a'.tmps.getD 89 undef::a'.tmps.getD 90 undef::a'.tmps.getD 91 undef::a'.tmps.getD 92 undef::a'.tmps.getD 93 undef::a'.tmps.getD 94 undef::a'.tmps.getD 95 undef::a'.tmps.getD 96 undef::a'.tmps.getD 97 undef::a'.tmps.getD 98 undef::List.nil),[]⟩→w'=(((((wz.setCell ⟨w.heap.size+3,0,none⟩ (.int .i64 3)).setCell ⟨w.heap.size+3,1,none⟩ (.int .u64 0)).setCell ⟨w.heap.size+3,2,none⟩ (.string ⟨#[]⟩)).setCell ⟨w.heap.size+3,3,none⟩ (.slice e.oo e.hv.length e.cap)).setCell ⟨w.heap.size+2,0,none⟩ (.slice (some ⟨r,0,none⟩) L.length scap)) →
    Code.wp Tryz.prog (labT 1) (Exit.jumps (fun l a' w' => ∃ m,m < n∧JR w A l m a' w') (bodyPost Tryz.prog Tryz.f71 (RdQ w A))) a' w'):=Lib.hid (by
   intro a' w' ha hw
   have h1:=HR.out.setV 3 0 ⟨#[]⟩ e.oo e.hv.length e.cap
   obtain ⟨h2,h3⟩:=h1.st.pop (by have:=HP.out.2.2.2.2.1; omega)
   have h4:=h1.setB L (some r) (some ⟨r,0,none⟩) scap h2 L.length rfl
   have hA:=HP.out.2.2.2.2.2.1
   rw [stk_app,h0,rd_none] at hA
   have hle:=HP.out.2.2.2.2.2.2
   refine jumps_mono (pass_wt w A (s.size * 100+L.length * 10+2) a' w' ⟨(fun i => a'.tmps.getD i undef),_,_,_,_,_,_,_,_,_,_,_,_,ha,Lib.hid (by rw [hw]; exact h4),Lib.hid ?_,Lib.hid ⟨by omega,HP.out.2.1,HP.out.2.2.1,hA,rfl⟩⟩) (fun l a w h => by
    obtain ⟨m,hm,hj⟩:=h
    exact ⟨m,by omega,hj⟩)
   rw [hw]
   refine VInP.keep (by simp) (fun b _ hb => ⟨heap_setCell_other _ ⟨w.heap.size+2,0,none⟩ b _ ?_,hb⟩) _ h3
   have:=hb.1
   show b≠w.heap.size+2
   omega)
  clear cf hbb hcur hc0 hc1 hcap h0 HP HR hlen
  conv => arg 2; whnf
  go_wp2_with (first
   | (go_at_call 105; go_must (refine (K52.out).mono ?_); rintro x w2 ⟨rfl,rfl⟩))
  go_step3
  simp only [Exit.then]
  apply_assumption
  refine HW.out _ _ ?_ ?_
  ·rfl
  ·rfl
 ·have hg : (0 : Int) < (e.left : Int):=by omega
  have HN : Hid (∀ (a' : Act),a'=⟨List.toArray (a'.tmps.getD 0 undef::.pointer (some ⟨w.heap.size,0,none⟩)::.pointer (some ⟨w.heap.size+1,0,none⟩)::.string ⟨#[]⟩::.int .i64 0::.pointer (some ⟨w.heap.size+2,0,none⟩)::.pointer (some ⟨w.heap.size+3,0,none⟩)::a'.tmps.getD 7 undef::a'.tmps.getD 8 undef::a'.tmps.getD 9 undef::a'.tmps.getD 10 undef::.func (Fn.func 104) #[] #[.pointer (some ⟨w.heap.size,0,none⟩)]::.func (Fn.func 105) #[] #[.pointer (some ⟨w.heap.size+2,0,none⟩)]::a'.tmps.getD 13 undef::a'.tmps.getD 14 undef::a'.tmps.getD 15 undef::a'.tmps.getD 16 undef::a'.tmps.getD 17 undef::a'.tmps.getD 18 undef::a'.tmps.getD 19 undef::a'.tmps.getD 20 undef::a'.tmps.getD 21 undef::a'.tmps.getD 22 undef::a'.tmps.getD 23 undef::a'.tmps.getD 24 undef::a'.tmps.getD 25 undef::a'.tmps.getD 26 undef::a'.tmps.getD 27 undef::a'.tmps.getD 28 undef::a'.tmps.getD 29 undef::a'.tmps.getD 30 undef::a'.tmps.getD 31 undef::a'.tmps.getD 32 undef::a'.tmps.getD 33 undef::a'.tmps.getD 34 undef::a'.tmps.getD 35 undef::a'.tmps.getD 36 undef::a'.tmps.getD 37 undef::a'.tmps.getD 38 undef::a'.tmps.getD 39 undef::a'.tmps.getD 40 undef::a'.tmps.getD 41 undef::a'.tmps.getD 42 undef::a'.tmps.getD 43 undef::a'.tmps.getD 44 undef::a'.tmps.getD 45 undef::a'.tmps.getD 46 undef::a'.tmps.getD 47 undef::a'.tmps.getD 48 undef::a'.tmps.getD 49 undef::a'.tmps.getD 50 undef::a'.tmps.getD 51 undef::a'.tmps.getD 52 undef::a'.tmps.getD 53 undef::a'.tmps.getD 54 undef::a'.tmps.getD 55 undef::a'.tmps.getD 56 undef::a'.tmps.getD 57 undef::a'.tmps.getD 58 undef::a'.tmps.getD 59 undef::a'.tmps.getD 60 undef::a'.tmps.getD 61 undef::a'.tmps.getD 62 undef::a'.tmps.getD 63 undef::a'.tmps.getD 64 undef::a'.tmps.getD 65 undef::a'.tmps.getD 66 undef::a'.tmps.getD 67 undef::a'.tmps.getD 68 undef::a'.tmps.getD 69 undef::a'.tmps.getD 70 undef::a'.tmps.getD 71 undef::a'.tmps.getD 72 undef::a'.tmps.getD 73 undef::a'.tmps.getD 74 undef::a'.tmps.getD 75 undef::a'.tmps.getD 76 undef::a'.tmps.getD 77 undef::a'.tmps.getD 78 undef::a'.tmps.getD 79 undef::a'.tmps.getD 80 undef::a'.tmps.getD 81 undef::a'.tmps.getD 82 undef::a'.tmps.getD 83 undef::a'.tmps.getD 84 undef::a'.tmps.getD 85 undef::a'.tmps.getD 86 undef::a'.tmps.getD 87 undef::a'.tmps.getD 88 undef::a'.tmps.getD 89 undef::a'.tmps.getD 90 undef::a'.tmps.getD 91 undef::a'.tmps.getD 92 undef::a'.tmps.getD 93 undef::a'.tmps.getD 94 undef::a'.tmps.getD 95 undef::a'.tmps.getD 96 undef::a'.tmps.getD 97 undef::a'.tmps.getD 98 undef::List.nil),[]⟩→∃ m,m < n∧JR w A 0 m a' wz):=Lib.hid (by
   intro a' ha
   have hA:=HP.out.2.2.2.2.2.1
   have hle:=HP.out.2.2.2.2.2.2
   refine ⟨s.size * 100+(L.length+1) * 10,by omega,Or.inl ⟨rfl,(fun i => a'.tmps.getD i undef),_,_,_,_,_,_,_,_,_,_,_,ha,HR,Lib.hid ⟨by omega,HP.out.2.1,?_,?_,by rw [hlen]⟩⟩⟩
   ·intro f hf
    rcases List.mem_append.1 hf with hf | hf
    ·have:=HP.out.2.2.1 f hf
     exact ⟨this.1,this.2.1,by omega⟩
    ·rw [List.mem_singleton] at hf; subst hf
     exact ⟨HP.out.2.2.2.1,by omega,HP.out.2.2.2.2.1⟩
   ·rw [stk_app] at hA ⊢
    obtain ⟨k,hk⟩ : ∃ k,e.left=k+1:=⟨e.left - 1,by omega⟩
    rw [hk,rd_more] at hA
    rw [hk]
    exact hA)
  clear cf hL hbb hcur hc0 hc1 hcap h0 HP HR hlen
  conv => arg 2; whnf
  go_wp2_with (first
   | (go_at_call 105; go_must (refine (K52.out).mono ?_); rintro x w2 ⟨rfl,rfl⟩))
  go_step3
  exact HN.out _ rfl
theorem pass_n (w : World) (A : Nat × Tr × List UInt8) (n : Nat) (a : Act) (wz : World) (hJ : JN w A n a wz) : Code.wp Tryz.prog (labC 2) (Exit.jumps (fun l a' w' => ∃ m,m < n∧JR w A l m a' w') (bodyPost Tryz.prog Tryz.f71 (RdQ w A))) a wz:=by
 have h:=pass_nt w A n a wz hJ
 conv => arg 2; whnf
 apply wp_seq_k
 intro K hK
 apply wp_skip
 simp only [Exit.then]
 apply hK
 exact h
end Go.Proofs.YtjfjliobencppaaGreatDoor

namespace Go.Proofs.YtjfjliobencppaaGreatDoor
open Go.RowKit
theorem lngA_fine : ∀ (l : List UInt8) (acc j : Nat),j≤10→(j≤9→acc < 128 ^ j)→(lngA acc j l).2.2=0→(lngA acc j l).1≤18446744073709551615∧j+1≤(lngA acc j l).2.1∧(lngA acc j l).2.1≤j+l.length
 | [],acc,j,hj,ha,h => by
  rw [lngA] at h
  split at h <;> simp at h
 | c::cs,acc,j,hj,ha,h => by
  have hc:=c.toNat_lt
  rw [lngA] at h ⊢
  by_cases h10 : j=10
  ·rw [if_pos h10] at h; simp at h
  ·rw [if_neg h10] at h ⊢
   have hacc:=ha (by omega)
   by_cases h128 : 128≤c.toNat
   ·rw [if_pos h128] at h ⊢
    have:=lngA_fine cs _ (j+1) (by omega) (fun h9 => (long_next j acc c.toNat (by omega) hacc hc).2) h
    refine ⟨this.1,by omega,?_⟩
    have h2:=this.2.2
    simp only [List.length_cons]
    omega
   ·rw [if_neg h128] at h ⊢
    by_cases h0 : 0 < j∧c.toNat=0
    ·rw [if_pos h0] at h; simp at h
    ·rw [if_neg h0] at h ⊢
     by_cases h9 : j=9∧1 < c.toNat
     ·rw [if_pos h9] at h; simp at h
     ·rw [if_neg h9]
      refine ⟨?_,Nat.le_refl _,by simp⟩
      show acc+128 ^ j * c.toNat≤18446744073709551615
      have h3 : (128 : Nat) ^ 9=9223372036854775808:=by rfl
      by_cases h9' : j=9
      ·subst h9'
       have h4 : 128 ^ 9 * c.toNat≤128 ^ 9 * 1:=Nat.mul_le_mul_left _ (by omega)
       omega
      ·have h5:=(long_next j acc c.toNat (by omega) hacc hc).2
       rw [Nat.mod_eq_of_lt (by omega)] at h5
       have h6 : (128 : Nat) ^ (j+1)≤128 ^ 9:=Nat.pow_le_pow_right (by omega) (by omega)
       omega
theorem wpList_srow {w : World} {ops : Array Oper} {rest : List Oper} {o : Oper} {a : Act} {Q : Exit→Act→World→Prop} (hgd : o.guard=none) (s x : Operand)
  (ho : o.op=.call { callee:=.builtin .append,args:=#[s,x],argTypes:=#[165,165] })
  (g : Nat) (ρ : Option Nat) (oo : Option Addr) (cap n : Nat) (xs : List Value) (hR : SRow 169 ρ oo cap n xs w) (hn : n+1≤1000000000) (ad : Addr) (news : List Value) (hl : news.length=2) (hnews : ∀ j u,news[j]?=some u→w.cell? (ad.add j)=some u) (h1 : ∀ u ∈ news,u.oneCell'=true)
  (hs : a.eval s=.slice oo n cap) (hx : a.eval x=.slice (some ad) 1 1)
  (h : ∀ o' cap' w' ρ',SRow 169 ρ' o' cap' (n+1) (xs++news) w'→Nxt ρ ρ' w→Chg g ρ w w'→wpList Tryz.prog ops Q rest (a.put o.dst (.slice o' (n+1) cap')) w') : wpList Tryz.prog ops Q (o::rest) a w:=by
 refine wpList_plain hgd fun K hK => ?_
 obtain ⟨o',cap',w',ρ',hr,h2,h3,h4⟩:=srow_append 165 169 o.type Tryz.underlying165 info92 g w ρ oo cap n xs hR hn ad news hl hnews h1
 unfold Oper.wp execOp
 simp only [ho,resolve,invoke,builtin,Sem.run_bind,Sem.run_pure,Result.andThen_ok,List.map_toArray,List.map_cons,List.map_nil,hs,hx,hr]
 exact hK _ _ (h o' cap' w' ρ' h2 h3 h4)
section
variable {w wz w1 : World} {sρ : Option Nat} {so : Option Addr} {scap : Nat} {L : List Ent} {s : ByteArray} {k0 : Int} {n0 : Nat} {s0 : ByteArray} {o0 : Option Addr} {l0 p0 : Nat}
theorem RdW.push {sρ' : Option Nat} {so' : Option Addr} {scap' n g : Nat} (h : RdW w sρ so scap L s k0 n0 s0 o0 l0 p0 wz) (hR : SRow 169 sρ' so' scap' (L.length+1) (entL L++[.int .u64 (n : Int),.slice none 0 0]) w1) (hn : Nxt sρ sρ' wz) (hc : Chg g sρ wz w1) (hg : wz.heap.size≤g) :
  RdW w sρ' so' scap' (L++[⟨n,[],none,none,0,[]⟩]) s k0 n0 s0 o0 l0 p0 (w1.setCell ⟨w.heap.size+2,0,none⟩ (.slice so' (L.length+1) scap')):=by
 have hs4:=h.size
 have hst:=h.st.push h.size hR hn hc hg
 have hne : ∀ q,q < w.heap.size+4→sρ≠some q:=fun q hq e => by have:=h.st.lo q e; omega
 have hst2 : ∀ q,q < w.heap.size+4→w1.heap[q]?=wz.heap[q]?:=fun q hq => hc.2.2.2.2 q (by omega) (by omega) (hne q hq)
 have h1 : RdW w sρ so scap L s k0 n0 s0 o0 l0 p0 w1∨True:=Or.inr trivial
 refine ⟨below_set ⟨hc.1.trans h.below.os,hc.2.1.trans h.below.tape,hc.2.2.1.trans h.below.output,Nat.le_trans h.below.size hc.2.2.2.1,fun k hk => (hst2 k (by omega)).trans (h.below.block k hk)⟩ _ _ (by omega) _,?_,?_,?_,?_,hst.set _ _ (by omega) _⟩
 ·exact (heap_setCell_other w1 ⟨w.heap.size+2,0,none⟩ _ _ (by show w.heap.size≠w.heap.size+2; omega)).trans ((hst2 _ (by omega)).trans h.bs)
 ·exact (heap_setCell_other w1 ⟨w.heap.size+2,0,none⟩ _ _ (by show w.heap.size+1≠w.heap.size+2; omega)).trans ((hst2 _ (by omega)).trans h.br)
 ·have:=heap_setCell_same w1 (w.heap.size+2) 0 _ _ (.slice so' (L.length+1) scap') ((hst2 _ (by omega)).trans h.bb)
  simpa using this
 ·exact (heap_setCell_other w1 ⟨w.heap.size+2,0,none⟩ _ _ (by show w.heap.size+3≠w.heap.size+2; omega)).trans ((hst2 _ (by omega)).trans h.bv)
theorem RdW.err {A : Nat × Tr × List UInt8} {c : Nat} (h : RdW w sρ so scap L s k0 n0 s0 o0 l0 p0 wz) (hA : A=(c,t0,[])) :
  RdQ w A (.returned (crV (.int .i64 0) (.int .u64 0) (.string ⟨#[]⟩) (.slice none 0 0) ⟨#[]⟩ c)) ((((wz.setCell ⟨w.heap.size+1,0,none⟩ (.int .i64 0)).setCell ⟨w.heap.size+1,1,none⟩ (.int .u64 0)).setCell ⟨w.heap.size+1,2,none⟩ (.string ⟨#[]⟩)).setCell ⟨w.heap.size+1,3,none⟩ (.slice none 0 0)):=by
 have hg : w.heap.size≤w.heap.size+1:=by omega
 refine ⟨.int .i64 0,.int .u64 0,.string ⟨#[]⟩,.slice none 0 0,by rw [hA]; rfl,?_,below_set (below_set (below_set (below_set h.below (w.heap.size+1) 0 hg (.int .i64 0)) (w.heap.size+1) 1 hg (.int .u64 0)) (w.heap.size+1) 2 hg (.string ⟨#[]⟩)) (w.heap.size+1) 3 hg (.slice none 0 0),fun _ => ⟨rfl,rfl,rfl,rfl⟩⟩
 rw [hA]
 unfold t0 VInP
 exact ⟨rfl,rfl,by omega,rfl,⟨by simp [ByteArray.size],by simp⟩,none,0,0,0,rfl,fun h => absurd h (by simp),by unfold VInPL; trivial⟩
end
end Go.Proofs.YtjfjliobencppaaGreatDoor
