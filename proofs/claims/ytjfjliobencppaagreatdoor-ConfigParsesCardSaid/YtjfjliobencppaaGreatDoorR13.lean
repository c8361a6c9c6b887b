/- codec.read: its closures, and what holds of its memory. -/
import Derived.Test.YtjfjliobencppaaGreatDoorR12
import Derived.ScopeJumps
set_option linter.unusedVariables false
set_option linter.unusedSimpArgs false
set_option maxRecDepth 100000
namespace Go.Proofs.YtjfjliobencppaaGreatDoor
open Go.RowKit
def Exit.jumps (J : Nat→Act→World→Prop) (Q : Exit→Act→World→Prop) : Exit→Act→World→Prop
 | .goto l,a,w => J l a w
 | e,a,w => Q e a w
theorem wp_scope_labels {P : Program} {a : Act} {w : World} {Q : Exit→Act→World→Prop} {c : Code} (J : Nat→Nat→Act→World→Prop)
  (first : c.wp P (Exit.jumps (fun l a w => ∃ n,J l n a w) Q) a w)
  (pass : ∀ l n a w,J l n a w→∃ rest,findLabel c l=some rest∧rest.wp P (Exit.jumps (fun l' a' w' => ∃ m,m < n∧J l' m a' w') Q) a w) : (Code.scope c).wp P Q a w:=by
 intro b k cs
 have hg : ∀ l rest,findLabel c l=some rest→gotoIn l (.inScope c::k)=some (.code rest::.inScope c::k):=fun l rest hf => by simp [gotoIn,hf]
 have key : ∀ n l a w rest,J l n a w→findLabel c l=some rest→∃ e a' w',Q e a' w'∧Arrives P (lone (b.at a (.code rest::.inScope c::k)) cs w) b k cs e a' w':=by
  intro n
  induction n using Nat.strongRecOn with
  | _ n ih =>
   intro l a w rest hJ hf
   obtain ⟨rest',hf',hp⟩:=pass l n a w hJ
   rw [hf] at hf'
   cases hf'
   obtain ⟨e,a₁,w₁,hq,harr⟩:=hp b (.inScope c::k) cs
   cases e with
   | normal => exact ⟨.normal,a₁,w₁,hq,Steps.trans harr (.one step_inScope)⟩
   | exit id => exact ⟨.exit id,a₁,w₁,hq,fun k' hk => harr k' (by simp [exitTo,hk])⟩
   | goto l' =>
    obtain ⟨m,hm,hJ'⟩:=hq
    obtain ⟨rest2,hf2,_⟩:=pass l' m a₁ w₁ hJ'
    obtain ⟨e₂,a₂,w₂,hq₂,harr₂⟩:=ih m hm l' a₁ w₁ rest2 hJ' hf2
    exact ⟨e₂,a₂,w₂,hq₂,.of_steps (harr _ (hg _ _ hf2)) harr₂⟩
   | ret => exact ⟨_,a₁,w₁,hq,harr⟩
   | panic ch => exact ⟨_,a₁,w₁,hq,harr⟩
   | outgrown => exact ⟨_,a₁,w₁,hq,harr⟩
 obtain ⟨e,a₁,w₁,hq,harr⟩:=first b (.inScope c::k) cs
 cases e with
 | normal => exact ⟨.normal,a₁,w₁,hq,.head step_scope (Steps.trans harr (.one step_inScope))⟩
 | exit id => exact ⟨.exit id,a₁,w₁,hq,fun k' hk => .head step_scope (harr k' (by simp [exitTo,hk]))⟩
 | goto l' =>
  obtain ⟨m,hJ'⟩:=hq
  obtain ⟨rest2,hf2,_⟩:=pass l' m a₁ w₁ hJ'
  obtain ⟨e₂,a₂,w₂,hq₂,harr₂⟩:=key m l' a₁ w₁ rest2 hJ' hf2
  exact ⟨e₂,a₂,w₂,hq₂,.of_steps (.head step_scope (harr _ (hg _ _ hf2))) harr₂⟩
 | ret => exact ⟨_,a₁,w₁,hq,.of_steps (.one step_scope) harr⟩
 | panic ch => exact ⟨_,a₁,w₁,hq,.of_steps (.one step_scope) harr⟩
 | outgrown => exact ⟨_,a₁,w₁,hq,.of_steps (.one step_scope) harr⟩
theorem ext_drop (s : ByteArray) (k : Nat) : (s.extract k s.size).data.toList=s.data.toList.drop k:=by
 rw [ByteArray.data_extract,Array.toList_extract,List.extract,List.take_of_length_le]
 rw [List.length_drop]; simp
theorem ext_take (s : ByteArray) (k : Nat) : s.extract 0 k=str (s.data.toList.take k):=by
 apply ByteArray.ext
 apply Array.ext'
 rw [ByteArray.data_extract,Array.toList_extract,List.extract,Nat.sub_zero,List.drop_zero]
 rfl
theorem cut_any (g k : Nat) (s : ByteArray) (w : World) (h : w.heap[g]?=some (.cells #[.string s] 9 (0,0))) (hk : k≤s.size) (hs : s.size≤1000000000) :
  Calls Tryz.prog 104 #[.int .i64 (k : Int),.pointer (some ⟨g,0,none⟩)] w fun e w' => e=.returned (.string (s.extract 0 k))∧w'=w.setCell ⟨g,0,none⟩ (.string (s.extract k s.size)):=by
 have c0 : w.cell? ⟨g,0,none⟩=some (.string s):=by rw [cell_of_row w g _ _ _ _ h]; rfl
 have f0:=frozen_of_row w g 0 _ _ h
 have i1 : (k : Int)≤(s.size : Int):=by omega
 go_enter Tryz.func104,Tryz.ntmps104
 go_wp2
 go_ret
 exact ⟨rfl,rfl⟩
theorem last_any (g r n cap : Nat) (w : World) (h : w.heap[g]?=some (.cells #[.slice (some ⟨r,0,none⟩) (n+1) cap] 165 (0,0))) (hn : n≤1000) :
  Calls Tryz.prog 105 #[.pointer (some ⟨g,0,none⟩)] w fun e w' => e=.returned (.pointer (some ⟨r,n * 2,none⟩))∧w'=w:=by
 have c0 : w.cell? ⟨g,0,none⟩=some (.slice (some ⟨r,0,none⟩) (n+1) cap):=by rw [cell_of_row w g _ _ _ _ h]; rfl
 have hn1 : ((n+1 : Nat) : Int) - 1=(n : Int):=by omega
 have hn2 : (n : Int)+1 - 1=(n : Int):=by omega
 have hn3 : (n : Int) < (n : Int)+1:=by omega
 go_enter Tryz.func105,Tryz.ntmps105
 go_wp2
 go_ret
 exact ⟨rfl,rfl⟩
def stk (L : List Ent) : List (Nat × List Tr):=(L.map fun e => (e.left,e.hv)).reverse
theorem stk_app (L : List Ent) (e : Ent) : stk (L++[e])=(e.left,e.hv)::stk L:=by simp [stk]
theorem stk_len (L : List Ent) : (stk L).length=L.length:=by simp [stk]
structure RdW (w : World) (sρ : Option Nat) (so : Option Addr) (scap : Nat) (L : List Ent) (s : ByteArray) (k0 : Int) (n0 : Nat) (s0 : ByteArray) (o0 : Option Addr) (l0 p0 : Nat) (wz : World) : Prop where
 below : Below w.heap.size w wz
 bs : wz.heap[w.heap.size]?=some (.cells #[.string s] 9 (0,0))
 br : wz.heap[w.heap.size+1]?=some (.cells #[.int .i64 0,.int .u64 0,.string ⟨#[]⟩,.slice none 0 0] 69 (0,0))
 bb : wz.heap[w.heap.size+2]?=some (.cells #[.slice so L.length scap] 165 (0,0))
 bv : wz.heap[w.heap.size+3]?=some (.cells #[.int .i64 k0,.int .u64 (n0 : Int),.string s0,.slice o0 l0 p0] 69 (0,0))
 st : StW (w.heap.size+4) sρ so scap L wz
section
variable {w wz w1 : World} {sρ : Option Nat} {so : Option Addr} {scap : Nat} {L : List Ent} {s : ByteArray} {k0 : Int} {n0 : Nat} {s0 : ByteArray} {o0 : Option Addr} {l0 p0 : Nat}
theorem RdW.size (h : RdW w sρ so scap L s k0 n0 s0 o0 l0 p0 wz) : w.heap.size+4≤wz.heap.size:=lt_of_heap h.bv
theorem RdW.later (h : RdW w sρ so scap L s k0 n0 s0 o0 l0 p0 wz) (hb : Below wz.heap.size wz w1) : RdW w sρ so scap L s k0 n0 s0 o0 l0 p0 w1 where
 below:=h.below.trans (hb.mono h.below.size)
 bs:=(hb.block _ (lt_of_heap h.bs)).trans h.bs
 br:=(hb.block _ (lt_of_heap h.br)).trans h.br
 bb:=(hb.block _ (lt_of_heap h.bb)).trans h.bb
 bv:=(hb.block _ (lt_of_heap h.bv)).trans h.bv
 st:=h.st.later hb
theorem RdW.cs (h : RdW w sρ so scap L s k0 n0 s0 o0 l0 p0 wz) : wz.cell? ⟨w.heap.size,0,none⟩=some (.string s)∧wz.frozen? ⟨w.heap.size,0,none⟩=false:=⟨by rw [cell_of_row wz _ _ _ _ _ h.bs]; rfl,frozen_of_row wz _ 0 _ _ h.bs⟩
theorem RdW.cb (h : RdW w sρ so scap L s k0 n0 s0 o0 l0 p0 wz) : wz.cell? ⟨w.heap.size+2,0,none⟩=some (.slice so L.length scap)∧wz.frozen? ⟨w.heap.size+2,0,none⟩=false:=⟨by rw [cell_of_row wz _ _ _ _ _ h.bb]; rfl,frozen_of_row wz _ 0 _ _ h.bb⟩
theorem RdW.cv (h : RdW w sρ so scap L s k0 n0 s0 o0 l0 p0 wz) : wz.cell? ⟨w.heap.size+3,0,none⟩=some (.int .i64 k0)∧wz.cell? ⟨w.heap.size+3,1,none⟩=some (.int .u64 (n0 : Int))∧wz.cell? ⟨w.heap.size+3,2,none⟩=some (.string s0)∧wz.cell? ⟨w.heap.size+3,3,none⟩=some (.slice o0 l0 p0)∧∀ j,wz.frozen? ⟨w.heap.size+3,j,none⟩=false:=by
 refine ⟨?_,?_,?_,?_,fun j => frozen_of_row wz _ j _ _ h.bv⟩
 all_goals (rw [cell_of_row wz _ _ _ _ _ h.bv]; rfl)
theorem RdW.cr (h : RdW w sρ so scap L s k0 n0 s0 o0 l0 p0 wz) : wz.cell? ⟨w.heap.size+1,0,none⟩=some (.int .i64 0)∧wz.cell? ⟨w.heap.size+1,1,none⟩=some (.int .u64 0)∧wz.cell? ⟨w.heap.size+1,2,none⟩=some (.string ⟨#[]⟩)∧wz.cell? ⟨w.heap.size+1,3,none⟩=some (.slice none 0 0)∧∀ j,wz.frozen? ⟨w.heap.size+1,j,none⟩=false:=by
 refine ⟨?_,?_,?_,?_,fun j => frozen_of_row wz _ j _ _ h.br⟩
 all_goals (rw [cell_of_row wz _ _ _ _ _ h.br]; rfl)
theorem below_set {B : Nat} {w wz : World} (h : Below B w wz) (g j : Nat) (hg : B≤g) (v : Value) : Below B w (wz.setCell ⟨g,j,none⟩ v):=h.setCell (p:=⟨g,j,none⟩) hg v
theorem StW.set {B : Nat} (h : StW B sρ so scap L wz) (g j : Nat) (hg : g < B) (v : Value) : StW B sρ so scap L (wz.setCell ⟨g,j,none⟩ v) :=
 h.keep (by simp) (fun b _ hB => heap_setCell_other wz ⟨g,j,none⟩ b v (by show b≠g; omega))
theorem RdW.setS (h : RdW w sρ so scap L s k0 n0 s0 o0 l0 p0 wz) (s' : ByteArray) : RdW w sρ so scap L s' k0 n0 s0 o0 l0 p0 (wz.setCell ⟨w.heap.size,0,none⟩ (.string s')) where
 below:=below_set h.below _ _ (Nat.le_refl _) _
 bs:=by have:=heap_setCell_same wz w.heap.size 0 _ _ (.string s') h.bs; simpa using this
 br:=(heap_setCell_other wz ⟨w.heap.size,0,none⟩ _ _ (by show w.heap.size+1≠w.heap.size; omega)).trans h.br
 bb:=(heap_setCell_other wz ⟨w.heap.size,0,none⟩ _ _ (by show w.heap.size+2≠w.heap.size; omega)).trans h.bb
 bv:=(heap_setCell_other wz ⟨w.heap.size,0,none⟩ _ _ (by show w.heap.size+3≠w.heap.size; omega)).trans h.bv
 st:=h.st.set _ _ (by omega) _
theorem RdW.setB (h : RdW w sρ so scap L s k0 n0 s0 o0 l0 p0 wz) (L' : List Ent) (sρ' : Option Nat) (so' : Option Addr) (scap' : Nat) (h' : StW (w.heap.size+4) sρ' so' scap' L' wz) (n : Nat) (hn : n=L'.length) : RdW w sρ' so' scap' L' s k0 n0 s0 o0 l0 p0 (wz.setCell ⟨w.heap.size+2,0,none⟩ (.slice so' n scap')) where
 below:=below_set h.below _ _ (by omega) _
 bb:=by have:=heap_setCell_same wz (w.heap.size+2) 0 _ _ (.slice so' n scap') h.bb; subst hn; simpa using this
 bs:=(heap_setCell_other wz ⟨w.heap.size+2,0,none⟩ _ _ (by show w.heap.size≠w.heap.size+2; omega)).trans h.bs
 br:=(heap_setCell_other wz ⟨w.heap.size+2,0,none⟩ _ _ (by show w.heap.size+1≠w.heap.size+2; omega)).trans h.br
 bv:=(heap_setCell_other wz ⟨w.heap.size+2,0,none⟩ _ _ (by show w.heap.size+3≠w.heap.size+2; omega)).trans h.bv
 st:=h'.set _ _ (by omega) _
theorem RdW.setV (h : RdW w sρ so scap L s k0 n0 s0 o0 l0 p0 wz) (k1 : Int) (n1 : Nat) (s1 : ByteArray) (o1 : Option Addr) (l1 p1 : Nat) :
  RdW w sρ so scap L s k1 n1 s1 o1 l1 p1 ((((wz.setCell ⟨w.heap.size+3,0,none⟩ (.int .i64 k1)).setCell ⟨w.heap.size+3,1,none⟩ (.int .u64 (n1 : Int))).setCell ⟨w.heap.size+3,2,none⟩ (.string s1)).setCell ⟨w.heap.size+3,3,none⟩ (.slice o1 l1 p1)) where
 below:=below_set (below_set (below_set (below_set h.below _ _ (by omega) _) _ _ (by omega) _) _ _ (by omega) _) _ _ (by omega) _
 bv:=by
  have:=heap_setCell_same _ (w.heap.size+3) 3 _ _ (.slice o1 l1 p1) (heap_setCell_same _ (w.heap.size+3) 2 _ _ (.string s1) (heap_setCell_same _ (w.heap.size+3) 1 _ _ (.int .u64 (n1 : Int)) (heap_setCell_same wz (w.heap.size+3) 0 _ _ (.int .i64 k1) h.bv)))
  simpa using this
 bs:=(setfour _ (by omega)).trans h.bs
 br:=(setfour _ (by omega)).trans h.br
 bb:=(setfour _ (by omega)).trans h.bb
 st:=(((h.st.set _ _ (by omega) _).set _ _ (by omega) _).set _ _ (by omega) _).set _ _ (by omega) _
theorem RdW.take {L0 : List Ent} {e : Ent} {t : Tr} {r cap' : Nat} {o' : Option Addr} {ρ' : Option Nat} {cur : Array Value} (h : RdW w (some r) so scap (L0++[e]) s k0 n0 s0 o0 l0 p0 wz)
  (hv : VInP wz (Own (w.heap.size+4) (some r) (L0++[e])) t (.int .i64 k0) (.int .u64 (n0 : Int)) (.string s0) (.slice o0 l0 p0)) (hcur : wz.heap[r]?=some (.cells cur 169 (0,0)))
  (hR : VRow 69 ρ' o' cap' (e.hv.length+1) (e.xs++[.int .i64 k0,.int .u64 (n0 : Int),.string s0,.slice o0 l0 p0]) w1) (hn : Nxt e.ρ ρ' wz) (ho : w1.os=wz.os∧w1.tape=wz.tape∧w1.output=wz.output) (hsz : wz.heap.size≤w1.heap.size)
  (hrow : w1.heap[r]?=some (.cells ((cur.setIfInBounds (L0.length * 2+1) (.slice o' (e.hv.length+1) cap')).setIfInBounds (L0.length * 2) (.int .u64 ((e.left - 1 : Nat) : Int))) 169 (0,0)))
  (hst : ∀ q,q < wz.heap.size→q≠r→e.ρ≠some q→w1.heap[q]?=wz.heap[q]?) :
  RdW w (some r) so scap (L0++[⟨e.left - 1,e.hv++[t],ρ',o',cap',e.xs++[.int .i64 k0,.int .u64 (n0 : Int),.string s0,.slice o0 l0 p0]⟩]) s k0 n0 s0 o0 l0 p0 w1:=by
 have hm : e ∈ L0++[e]:=List.mem_append_right _ (by simp)
 have hs4:=h.size
 have hlo:=h.st.lo r rfl
 have hst2 : ∀ q,q < w.heap.size+4→w1.heap[q]?=wz.heap[q]?:=fun q hq => hst q (by omega) (by omega) (fun he => by have:=(h.st.elo e hm q he).1; omega)
 refine ⟨⟨ho.1.trans h.below.os,ho.2.1.trans h.below.tape,ho.2.2.trans h.below.output,Nat.le_trans h.below.size hsz,fun k hk => (hst2 k (by omega)).trans (h.below.block k hk)⟩,(hst2 _ (by omega)).trans h.bs,(hst2 _ (by omega)).trans h.br,?_,(hst2 _ (by omega)).trans h.bv,?_⟩
 ·rw [hst2 _ (by omega),h.bb]
  simp
 ·refine h.st.take (by omega) hv hsz (fun r' cur' hr' hc' => ?_) hR hn (fun q hq h1 h2 => hst q hq (fun e => h1 (by rw [e])) h2)
  cases hr'
  rw [hcur] at hc'
  cases hc'
  exact hrow
end
end Go.Proofs.YtjfjliobencppaaGreatDoor
