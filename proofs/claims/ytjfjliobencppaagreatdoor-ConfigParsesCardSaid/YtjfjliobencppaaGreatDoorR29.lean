/- config: clones.; config: clones (EAb).; config: clones (EAc).; config: clones (EAd).; config: clones (EAe).; config: clones (EAf).; config: lists of values under way (the document's Value). -/
import Derived.Test.YtjfjliobencppaaGreatDoorR28
set_option linter.unusedVariables false
set_option linter.unusedSimpArgs false
namespace Go.Proofs.YtjfjliobencppaaGreatDoor.Cf
open Go.RowKit
def LcR (w : World) (B : Nat) (V : Value) (L : List Ls) : Prop :=
 ∃ PL : List (Ls × Value),PL.map Prod.fst=L∧w.ownsRow B 52 7 V PL.length (PL.flatMap llcs)∧∀ p ∈ PL,w.ownsRow B 62 4 p.2 p.1.r.length (p.1.r.flatMap Rt.cs)
theorem LcR.nil (w : World) (B : Nat) : LcR w B (.slice none 0 0) []:=⟨[],rfl,World.ownsRow_nil _ _ _ _,fun p hp => by cases hp⟩
theorem LcR.later {w w' : World} {B : Nat} {V : Value} {L : List Ls} (h : LcR w B V L) (hb : Below w.heap.size w w') : LcR w' B V L:=by
 obtain ⟨PL,h1,h2,h3⟩:=h
 exact ⟨PL,h1,own_later h2 hb,fun p hp => own_later (h3 p hp) hb⟩
theorem LcR.rows {w : World} {B : Nat} {V : Value} {L : List Ls} (h : LcR w B V L) (hok : ∀ l ∈ L,l.name.size≤maxLen∧l.p.ok∧∀ r ∈ l.r,r.ok) : Rw 7 LsIn w V L:=by
 obtain ⟨PL,rfl,h2,h3⟩:=h
 refine rw_map Prod.fst (rw_of_own (fun p _ => ll_len p) h2 fun p hp => ?_)
 have hk:=hok p.1 (List.mem_map.2 ⟨p,hp,rfl⟩)
 exact ⟨p.2,rfl,hk.1,hk.2.1,rw_of_own (fun r _ => rt_len r) (h3 p hp) fun r hr => ⟨rfl,hk.2.2 r hr⟩⟩
def KcR (w : World) (B : Nat) (V : Value) (L : List Cl) : Prop :=
 ∃ PL : List (Cl × Value),PL.map Prod.fst=L∧w.ownsRow B 57 2 V PL.length (PL.flatMap cccs)∧∀ p ∈ PL,w.ownsRow B 64 6 p.2 p.1.e.length (p.1.e.flatMap Ep.cs)
theorem KcR.nil (w : World) (B : Nat) : KcR w B (.slice none 0 0) []:=⟨[],rfl,World.ownsRow_nil _ _ _ _,fun p hp => by cases hp⟩
theorem KcR.later {w w' : World} {B : Nat} {V : Value} {L : List Cl} (h : KcR w B V L) (hb : Below w.heap.size w w') : KcR w' B V L:=by
 obtain ⟨PL,h1,h2,h3⟩:=h
 exact ⟨PL,h1,own_later h2 hb,fun p hp => own_later (h3 p hp) hb⟩
theorem KcR.rows {w : World} {B : Nat} {V : Value} {L : List Cl} (h : KcR w B V L) (hok : ∀ l ∈ L,l.name.size≤maxLen∧∀ r ∈ l.e,r.ok) : Rw 2 ClIn w V L:=by
 obtain ⟨PL,rfl,h2,h3⟩:=h
 refine rw_map Prod.fst (rw_of_own (fun p _ => cc_len p) h2 fun p hp => ?_)
 have hk:=hok p.1 (List.mem_map.2 ⟨p,hp,rfl⟩)
 exact ⟨p.2,rfl,hk.1,rw_of_own (fun r _ => ep_len r) (h3 p hp) fun r hr => ⟨rfl,hk.2 r hr⟩⟩
def sets (w : World) (g i : Nat) : List Value→World
 | [] => w
 | v::r => sets (w.setCell ⟨g,i,none⟩ v) g (i+1) r
theorem sets_other (g b : Nat) (hb : b≠g) : ∀ (vs : List Value) (i : Nat) (w : World),(sets w g i vs).heap[b]?=w.heap[b]?
 | [],_,_ => rfl
 | v::r,i,w => (sets_other g b hb r (i+1) _).trans (heap_setCell_other _ ⟨g,i,none⟩ b _ hb)
theorem sets_below {n g : Nat} {w0 : World} : ∀ (vs : List Value) (i : Nat) (w : World),Below n w0 w→n≤g→Below n w0 (sets w g i vs)
 | [],_,_,h,_ => h
 | v::r,i,w,h,hg => sets_below r (i+1) _ (h.setCell (p:=⟨g,i,none⟩) hg v) hg
theorem sets_bk {g : Nat} {T : TypeId} : ∀ (vs rest pre : List Value) {w : World},vs.length=rest.length→Bk w g (pre++rest).toArray T→Bk (sets w g pre.length vs) g (pre++vs).toArray T
 | [],[],pre,w,_,h => h
 | v::r,q::s,pre,w,hl,h => by
  have h1 : Bk (w.setCell ⟨g,pre.length,none⟩ v) g ((pre++[v])++s).toArray T:=by
   have h2:=Bk.set (i:=pre.length) h v
   have e : (pre++q::s).toArray.setIfInBounds pre.length v=((pre++[v])++s).toArray:=by simp
   rwa [e] at h2
  have h3:=sets_bk r s (pre++[v]) (by simpa using hl) h1
  rw [List.length_append,List.append_assoc] at h3
  exact h3
theorem sets_own {w : World} {B t k n q T : Nat} {v : Value} {xs : List Value} {cs : Array Value} (h : w.ownsRow B t k v n xs) (hq : Bk w q cs T) (ht : t≠T) (vs : List Value) (i : Nat) : (sets w q i vs).ownsRow B t k v n xs :=
 own_keep h fun g c _ _ hgg => sets_other q g (fun e => by
  subst e
  have h2 : _=some (Obj.cells cs T (0,0)):=hq
  rw [hgg] at h2
  cases h2
  exact ht rfl) vs i w
theorem LcR.sets {w : World} {B q T : Nat} {V : Value} {L : List Ls} {cs : Array Value} (h : LcR w B V L) (hq : Bk w q cs T) (h1 : 52≠T) (h2 : 62≠T) (vs : List Value) (i : Nat) : LcR (sets w q i vs) B V L:=by
 obtain ⟨PL,e1,e2,e3⟩:=h
 exact ⟨PL,e1,sets_own e2 hq h1 vs i,fun p hp => sets_own (e3 p hp) hq h2 vs i⟩
theorem KcR.sets {w : World} {B q T : Nat} {V : Value} {L : List Cl} {cs : Array Value} (h : KcR w B V L) (hq : Bk w q cs T) (h1 : 57≠T) (h2 : 64≠T) (vs : List Value) (i : Nat) : KcR (sets w q i vs) B V L:=by
 obtain ⟨PL,e1,e2,e3⟩:=h
 exact ⟨PL,e1,sets_own e2 hq h1 vs i,fun p hp => sets_own (e3 p hp) hq h2 vs i⟩
theorem LcR.mono {w : World} {B B' : Nat} {V : Value} {L : List Ls} (h : LcR w B V L) (hb : B'≤B) : LcR w B' V L:=by
 obtain ⟨PL,h1,h2,h3⟩:=h
 exact ⟨PL,h1,own_mono h2 hb,fun p hp => own_mono (h3 p hp) hb⟩
theorem KcR.mono {w : World} {B B' : Nat} {V : Value} {L : List Cl} (h : KcR w B V L) (hb : B'≤B) : KcR w B' V L:=by
 obtain ⟨PL,h1,h2,h3⟩:=h
 exact ⟨PL,h1,own_mono h2 hb,fun p hp => own_mono (h3 p hp) hb⟩
end Go.Proofs.YtjfjliobencppaaGreatDoor.Cf

namespace Go.Proofs.YtjfjliobencppaaGreatDoor.Cf
open Go.RowKit
end Go.Proofs.YtjfjliobencppaaGreatDoor.Cf

namespace Go.Proofs.YtjfjliobencppaaGreatDoor.Cf
open Go.RowKit
end Go.Proofs.YtjfjliobencppaaGreatDoor.Cf

namespace Go.Proofs.YtjfjliobencppaaGreatDoor.Cf
open Go.RowKit
end Go.Proofs.YtjfjliobencppaaGreatDoor.Cf

namespace Go.Proofs.YtjfjliobencppaaGreatDoor.Cf
open Go.RowKit
end Go.Proofs.YtjfjliobencppaaGreatDoor.Cf

namespace Go.Proofs.YtjfjliobencppaaGreatDoor.Cf
open Go.RowKit
end Go.Proofs.YtjfjliobencppaaGreatDoor.Cf

namespace Go.Proofs.YtjfjliobencppaaGreatDoor.Cf
open Go.RowKit
structure Kp (q : Nat) (w w' : World) : Prop where
 size : w.heap.size≤w'.heap.size
 keep : ∀ b,b < w.heap.size→b≠q→w'.heap[b]?=w.heap[b]?
theorem Kp.refl (q : Nat) (w : World) : Kp q w w:=⟨Nat.le_refl _,fun _ _ _ => rfl⟩
theorem Kp.later {q : Nat} {w w' w'' : World} (h : Kp q w w') (hb : Below w'.heap.size w' w'') : Kp q w w'':=⟨Nat.le_trans h.size hb.size,fun b hb' hq => (hb.block b (Nat.lt_of_lt_of_le hb' h.size)).trans (h.keep b hb' hq)⟩
theorem Kp.set {q : Nat} {w w' : World} (h : Kp q w w') (j : Nat) (u : Value) : Kp q w (w'.setCell ⟨q,j,none⟩ u):=⟨by simpa using h.size,fun b hb hq => (heap_setCell_other _ ⟨q,j,none⟩ b _ hq).trans (h.keep b hb hq)⟩
theorem Kp.bk {q g : Nat} {w w' : World} {cs : Array Value} {T : TypeId} (h : Kp q w w') (hk : Bk w g cs T) (hq : g≠q) : Bk w' g cs T:=(h.keep g (lt_of_heap hk) hq).trans hk
theorem Kp.vin {q : Nat} {w w' : World} {P : Nat→Prop} {t : Tr} {c0 c1 c2 c3 : Value} (h : Kp q w w') (hv : VInP w P t c0 c1 c2 c3) (hq : ∀ b,P b→b≠q) : VInP w' P t c0 c1 c2 c3:=VInP.keep h.size (fun b hb hP => ⟨h.keep b hb (hq b hP),hP⟩) _ hv
def VL (w : World) (B : Nat) (V : Value) (l : List Tr) : Prop :=
 ∃ PL : List (Tr × List Value),PL.map (·.1)=l∧w.ownsRow B 81 4 V PL.length (PL.flatMap (·.2))∧∀ p ∈ PL,∃ c0 c1 c2 c3,p.2=[c0,c1,c2,c3]∧VInP w (fun b => B≤b∧V.ownBlock≠some b) p.1 c0 c1 c2 c3
theorem VL.nil (w : World) (B : Nat) : VL w B (.slice none 0 0) []:=⟨[],rfl,World.ownsRow_nil _ _ _ _,fun p hp => absurd hp (by simp)⟩
theorem VL.keep {w w' : World} {B : Nat} {V : Value} {l : List Tr} (h : VL w B V l) (hs : w.heap.size≤w'.heap.size) (hk : ∀ b,b < w.heap.size→B≤b→w'.heap[b]?=w.heap[b]?) : VL w' B V l:=by
 obtain ⟨PL,h1,h2,h3⟩:=h
 refine ⟨PL,h1,own_keep h2 (fun g cs hB _ hg => hk g (lt_of_heap hg) hB),fun p hp => ?_⟩
 obtain ⟨c0,c1,c2,c3,e,hv⟩:=h3 p hp
 exact ⟨c0,c1,c2,c3,e,VInP.keep hs (fun b hb hP => ⟨hk b hb hP.1,hP⟩) _ hv⟩
theorem VL.later {w w' : World} {B : Nat} {V : Value} {l : List Tr} (h : VL w B V l) (hb : Below w.heap.size w w') : VL w' B V l:=h.keep hb.size fun b hb' _ => hb.block b hb'
theorem VL.away {w : World} {B q : Nat} {V : Value} {l : List Tr} (h : VL w B V l) (hq : q < B) (j : Nat) (u : Value) : VL (w.setCell ⟨q,j,none⟩ u) B V l:=h.keep (by simp) fun b _ hB => heap_setCell_other _ ⟨q,j,none⟩ b _ (by show b≠q; omega)
theorem VL.form {w : World} {B : Nat} {V : Value} {l : List Tr} (h : VL w B V l) : ∃ o c,V=.slice o l.length c:=by
 obtain ⟨PL,rfl,h2,_⟩:=h
 rw [List.length_map]
 exact own_form h2
theorem flat4 (PL : List (Tr × List Value)) (h : ∀ p ∈ PL,p.2.length=4) (i : Nat) (hi : i < PL.length) (j : Nat) (hj : j < 4) : (PL.flatMap (·.2))[i * 4+j]?=PL[i].2[j]?:=by
 induction PL generalizing i with
 | nil => simp at hi
 | cons p PL ih =>
  rw [List.flatMap_cons]
  have hp:=h p (by simp)
  cases i with
  | zero =>
   rw [Nat.zero_mul,Nat.zero_add,List.getElem?_append_left (by omega)]
   rfl
  | succ i =>
   rw [List.getElem?_append_right (by omega),show (i+1) * 4+j - p.2.length=i * 4+j by omega,ih (fun q hq => h q (by simp [hq])) i (by simpa using hi)]
   rfl
theorem VL.whole {w : World} {B : Nat} {V : Value} {l : List Tr} (h : VL w B V l) (hl : l.length≤1000000) : VInP w (fun b => B≤b) (rowT l) (.int .i64 3) (.int .u64 0) (.string ⟨#[]⟩) V:=by
 obtain ⟨PL,rfl,h2,h3⟩:=h
 have h4 : ∀ p ∈ PL,p.2.length=4:=fun p hp => by
  obtain ⟨c0,c1,c2,c3,e,_⟩:=h3 p hp
  rw [e]; rfl
 rw [List.length_map] at hl
 rcases h2.2 with ⟨rfl,hn⟩ | ⟨g,cap,cur,rfl,hB,hg,hnc,hcm,hcs,htk⟩
 ·obtain rfl:=List.eq_nil_of_length_eq_zero hn
  unfold rowT VInP
  exact ⟨rfl,rfl,by omega,rfl,⟨by decide,by simp⟩,none,0,0,0,rfl,fun h => absurd h (by simp),by unfold VInPL; trivial⟩
 ·unfold rowT VInP
  rw [List.length_map]
  refine ⟨rfl,rfl,by omega,rfl,⟨by decide,hl⟩,some ⟨g,0,none⟩,cap,g,0,rfl,fun _ => ⟨rfl,lt_of_heap hg,hB⟩,VInPL.of (fun i hi => ?_)⟩
  have hi' : i < PL.length:=by simpa using hi
  obtain ⟨c0,c1,c2,c3,e,hv⟩:=h3 PL[i] (List.getElem_mem hi')
  have cc : ∀ j (hj : j < 4) u,PL[i].2[j]?=some u→w.cell? ⟨g,0+i * 4+j,none⟩=some u:=by
   intro j hj u hu
   rw [cell_of_row _ _ _ _ _ _ hg,← Array.getElem?_toList]
   have:=congrArg (fun x => x[i * 4+j]?) htk
   simp only [List.getElem?_take] at this
   rw [if_pos (by omega)] at this
   rw [Nat.zero_add,this,flat4 PL h4 i hi' j hj,hu]
  rw [e] at cc
  refine ⟨c0,c1,c2,c3,cc 0 (by omega) _ rfl,cc 1 (by omega) _ rfl,cc 2 (by omega) _ rfl,cc 3 (by omega) _ rfl,?_⟩
  rw [List.getElem_map]
  exact VInP.keep (Nat.le_refl _) (fun b _ hP => ⟨rfl,hP.1⟩) _ hv
theorem VL.push {w w' : World} {B n : Nat} {V V' : Value} {l : List Tr} {t : Tr} {c0 c1 c2 c3 : Value} {xs : List Value} {PL : List (Tr × List Value)} (h1 : PL.map (·.1)=l) (h2 : w.ownsRow B 81 4 V PL.length (PL.flatMap (·.2))) (h3 : ∀ p ∈ PL,∃ c0 c1 c2 c3,p.2=[c0,c1,c2,c3]∧VInP w (fun b => B≤b∧V.ownBlock≠some b) p.1 c0 c1 c2 c3)
  (ht : VInP w (fun b => B≤b∧V.ownBlock≠some b) t c0 c1 c2 c3) (hx : xs=PL.flatMap (·.2)) (hn : n=PL.length) (hw : w'.ownsRow B 81 4 V' (n+1) (xs++[c0,c1,c2,c3])) (hg : w.grownBy w' V.ownBlock) (hv : V'.ownBlock=V.ownBlock∨V'.ownBlock=some w.heap.size) : VL w' B V' (l++[t]):=by
 subst hx hn
 have hkv : ∀ {t : Tr} {d0 d1 d2 d3 : Value},VInP w (fun b => B≤b∧V.ownBlock≠some b) t d0 d1 d2 d3→VInP w' (fun b => B≤b∧V'.ownBlock≠some b) t d0 d1 d2 d3:=fun hh => VInP.keep hg.size (fun b hb hP => ⟨hg.block b hb (fun e => hP.2 e.symm),hP.1,by
  rcases hv with hv | hv <;> rw [hv]
  ·exact hP.2
  ·intro e; cases e; omega⟩) _ hh
 refine ⟨PL++[(t,[c0,c1,c2,c3])],by rw [List.map_append,h1]; rfl,?_,fun p hp => ?_⟩
 ·rw [List.length_append,List.flatMap_append]
  simpa using hw
 ·rcases List.mem_append.1 hp with hp | hp
  ·obtain ⟨d0,d1,d2,d3,e,hv2⟩:=h3 p hp
   exact ⟨d0,d1,d2,d3,e,hkv hv2⟩
  ·obtain rfl:=List.mem_singleton.1 hp
   exact ⟨c0,c1,c2,c3,rfl,hkv ht⟩
end Go.Proofs.YtjfjliobencppaaGreatDoor.Cf
