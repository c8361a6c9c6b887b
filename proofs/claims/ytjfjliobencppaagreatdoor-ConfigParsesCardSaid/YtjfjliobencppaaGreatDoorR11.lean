/- What codec.read does, plainly: a stack of lists under way.; A stack of lists under way, as it lies in memory. -/
import Derived.Test.YtjfjliobencppaaGreatDoorR10
set_option linter.unusedVariables false
set_option linter.unusedSimpArgs false
namespace Go.Proofs.YtjfjliobencppaaGreatDoor
open Go.RowKit
def t0 : Tr:=.mk 0 0 ⟨#[]⟩ []
inductive Md where
 | v : Md
 | n : Md
 | w : Tr→Md
def Md.rk : Md→Nat
 | .v => 0
 | .n => 1
 | .w _ => 2
def rd (m : Md) (st : List (Nat × List Tr)) (s : List UInt8) : Nat × Tr × List UInt8 :=
 match m,st,s with
 | .v,_,[] => (3,t0,[])
 | .v,st,k::s1 =>
  if k.toNat < 1∨3 < k.toNat then (10,t0,[])
  else if (lngA 0 0 s1).2.2≠0 then ((lngA 0 0 s1).2.2,t0,[])
  else if k.toNat=1 then rd (.w (.mk 1 (lngA 0 0 s1).1 ⟨#[]⟩ [])) st (s1.drop (lngA 0 0 s1).2.1)
  else if k.toNat=2 then
   if (s1.drop (lngA 0 0 s1).2.1).length < (lngA 0 0 s1).1 then (3,t0,[])
   else rd (.w (.mk 2 0 (str ((s1.drop (lngA 0 0 s1).2.1).take (lngA 0 0 s1).1)) [])) st ((s1.drop (lngA 0 0 s1).2.1).drop (lngA 0 0 s1).1)
  else if st.length=6 then (8,t0,[])
  else rd .n (((lngA 0 0 s1).1,[])::st) (s1.drop (lngA 0 0 s1).2.1)
 | .n,[],_ => (0,t0,[])
 | .n,(0,h)::st,s => rd (.w (.mk 3 0 ⟨#[]⟩ h)) st s
 | .n,(k+1,h)::st,s => rd .v ((k+1,h)::st) s
 | .w t,[],s => (0,t,s)
 | .w t,(k,h)::st,s => rd .n ((k - 1,h++[t])::st) s
termination_by (s.length,st.length,m.rk)
decreasing_by
 all_goals simp_wf
 all_goals first
  | (apply Prod.Lex.left; (try simp only [List.length_drop]); omega)
  | (apply Prod.Lex.right; apply Prod.Lex.left; simp; done)
  | (apply Prod.Lex.right; apply Prod.Lex.right; simp [Md.rk]; done)
mutual
def okT : Tr→Prop
 | .mk _ n s l => n≤18446744073709551615∧s.size≤1000000000∧l.length≤1000000∧okL l
def okL : List Tr→Prop
 | [] => True
 | t::ts => okT t∧okL ts
end
theorem rd_push (t : Tr) (k : Nat) (h : List Tr) (st : List (Nat × List Tr)) (s : List UInt8) : rd (.w t) ((k,h)::st) s=rd .n ((k - 1,h++[t])::st) s:=by rw [rd]
theorem rd_more (k : Nat) (h : List Tr) (st : List (Nat × List Tr)) (s : List UInt8) : rd .n ((k+1,h)::st) s=rd .v ((k+1,h)::st) s:=by rw [rd]
theorem rd_none (h : List Tr) (st : List (Nat × List Tr)) (s : List UInt8) : rd .n ((0,h)::st) s=rd (.w (.mk 3 0 ⟨#[]⟩ h)) st s:=by rw [rd]
theorem empty_ba (s : ByteArray) (h : s.size=0) : s=⟨#[]⟩:=by
 cases s with | mk d => congr 1; exact Array.eq_empty_of_size_eq_zero h
theorem okL_mem : ∀ (l : List Tr),okL l→∀ x ∈ l,okT x
 | [],_,_,h => by cases h
 | t::ts,h,x,hx => by
  unfold okL at h
  rcases List.mem_cons.1 hx with rfl | hx
  ·exact h.1
  ·exact okL_mem ts h.2 x hx
end Go.Proofs.YtjfjliobencppaaGreatDoor

namespace Go.Proofs.YtjfjliobencppaaGreatDoor
open Go.RowKit
def SRow (T : TypeId) (ρ : Option Nat) (o : Option Addr) (cap n : Nat) (xs : List Value) (w : World) : Prop :=
 xs.length=n * 2∧((o=none∧cap=0∧ρ=none∧n=0)∨∃ (r : Nat) (cur : Array Value),ρ=some r∧o=some ⟨r,0,none⟩∧w.heap[r]?=some (.cells cur T (0,0))∧n≤cap∧cap≤maxLen∧cur.size=cap * 2∧cur.toList.take (n * 2)=xs)
theorem SRow.keep {T : TypeId} {ρ : Option Nat} {o : Option Addr} {cap n : Nat} {xs : List Value} {w w' : World} (h : SRow T ρ o cap n xs w) (hk : ∀ r,ρ=some r→w'.heap[r]?=w.heap[r]?) : SRow T ρ o cap n xs w':=by
 refine ⟨h.1,?_⟩
 rcases h.2 with h | ⟨r,cur,h1,h2,h4,h5⟩
 ·exact Or.inl h
 ·exact Or.inr ⟨r,cur,h1,h2,(hk r h1).trans h4,h5⟩
theorem SRow.lt {T : TypeId} {ρ : Option Nat} {o : Option Addr} {cap n : Nat} {xs : List Value} {w : World} (h : SRow T ρ o cap n xs w) (r : Nat) (hr : ρ=some r) : r < w.heap.size:=by
 rcases h.2 with ⟨_,_,h,_⟩ | ⟨q,cur,h1,_,h4,_⟩
 ·rw [h] at hr; cases hr
 ·rw [h1] at hr; cases hr; exact lt_of_heap h4
theorem SRow.cell {T : TypeId} {ρ : Option Nat} {o : Option Addr} {cap n : Nat} {xs : List Value} {w : World} (h : SRow T ρ o cap n xs w) (j : Nat) (u : Value) (hj : xs[j]?=some u) : ∃ r,ρ=some r∧o=some ⟨r,0,none⟩∧w.cell? ⟨r,j,none⟩=some u:=by
 have hjl:=(List.getElem?_eq_some_iff.1 hj).1
 rcases h.2 with ⟨_,_,_,h0⟩ | ⟨r,cur,h1,h2,h4,_,_,_,htk⟩
 ·rw [h.1,h0] at hjl; omega
 ·refine ⟨r,h1,h2,?_⟩
  rw [cell_of_row w r j _ _ _ h4,← Array.getElem?_toList]
  have:=congrArg (fun l => l[j]?) htk
  simp only [List.getElem?_take] at this
  rw [if_pos (by rw [← h.1]; exact hjl)] at this
  rw [this]; exact hj
theorem srow_append (t T ty : TypeId) (hu : Tryz.prog.underlying t=some (.slice T)) (hinfo : (Tryz.prog.info? T).map (fun i => (i.zero,i.size,i.bytes))=some (some (.agg #[.int .u64 0,.slice none 0 0]),2,32))
  (g : Nat) (w : World) (ρ : Option Nat) (o : Option Addr) (cap n : Nat) (xs : List Value) (hR : SRow T ρ o cap n xs w) (hn : n+1≤1000000000) (a : Addr) (news : List Value) (hl : news.length=2) (hnews : ∀ j u,news[j]?=some u→w.cell? (a.add j)=some u) (h1 : ∀ u ∈ news,u.oneCell'=true) :
  ∃ o' cap' w' ρ',(Builtin.append_ #[t,t] ty #[.slice o n cap,.slice (some a) 1 1]).run Tryz.prog w=.ok (.slice o' (n+1) cap') w'∧SRow T ρ' o' cap' (n+1) (xs++news) w'∧Nxt ρ ρ' w∧Chg g ρ w w':=by
 obtain ⟨i,hi,hz,hsz,hby⟩:=info_parts hinfo
 have hml : (n+1 : Nat)≤maxLen:=by unfold maxLen; omega
 have hnl : news.length=1 * i.size:=by rw [hl,hsz]
 have hxl : (xs++news).length=(n+1) * 2:=by rw [List.length_append,hR.1,hl]; omega
 have fresh : ∀ old,SRow T (some w.heap.size) (some ⟨w.heap.size,0,none⟩) (grownCap w (n+1) old T) (n+1) (xs++news) (w.drew.alloc (.cells (xs.toArray++news.toArray++Builtin.zeroCells (Value.agg #[.int .u64 0,.slice none 0 0]).cells (grownCap w (n+1) old T - (n+1))) T)):=by
  intro old
  refine ⟨hxl,Or.inr ⟨w.heap.size,_,rfl,rfl,heap_alloc_new w.drew _,grownCap_ge w (n+1) old T,grownCap_le_maxLen w (n+1) old T hml,?_,?_⟩⟩
  ·have hge:=grownCap_ge w (n+1) old T
   have hz4 : (Value.agg #[.int .u64 0,.slice none 0 0]).cells.size=2:=rfl
   simp only [Array.size_append,List.size_toArray,size_zeroCells,hz4,hR.1,hl]
   omega
  ·rw [← hxl]
   simp only [Array.toList_append]
   exact List.take_left
 rcases hR.2 with ⟨rfl,rfl,rfl,rfl⟩ | ⟨r,cur,rfl,rfl,hg,hnc,hcm,hcs,htk⟩
 ·have hx : xs=[]:=List.eq_nil_of_length_eq_zero (by simpa using hR.1)
  subst hx
  have hr:=run_append_nil (P:=Tryz.prog) w t ty T i _ hu hi hz a 1 1 news hnl hnews (by omega) (by omega) (by rw [hby]; omega)
  have hf:=fresh 0
  simp only [List.nil_append,Array.empty_append] at hf
  exact ⟨_,_,_,_,hr,hf,Or.inr ⟨_,rfl,Nat.le_refl _⟩,grown_chg _ _ _ _⟩
 ·by_cases hroom : n+1≤cap
  ·have hr:=run_append_room (P:=Tryz.prog) w t ty T i hu hi r n cap cur hg a 1 1 news hnl hnews h1 hroom (by rw [hsz,hl,hcs]; omega)
   rw [hsz] at hr
   refine ⟨_,_,_,some r,hr,⟨hxl,Or.inr ⟨r,_,rfl,rfl,setRow_heap w r cur _ T _ hg,hroom,hcm,?_,?_⟩⟩,Or.inl rfl,rfl,rfl,rfl,by simp,fun k _ _ hk => setRow_other w r k _ (fun e => hk (by rw [e]))⟩
   ·simp only [List.size_toArray,List.length_append,List.length_take,List.length_drop,Array.length_toList]
    omega
   ·rw [htk,← hxl]
    exact List.take_left
  ·have holds : ∀ j u,xs[j]?=some u→w.cell? ((⟨r,0,none⟩ : Addr).add j)=some u:=by
    intro j u hj
    obtain ⟨r2,e1,_,e3⟩:=hR.cell j u hj
    cases e1
    rw [plain_add]; exact e3
   have hr:=run_append_grow (P:=Tryz.prog) w t ty T i _ hu hi hz ⟨r,0,none⟩ n cap xs (by rw [hsz]; exact hR.1) holds a 1 1 news hnl hnews (by omega) (by omega) (by rw [hby]; exact growslice_fits (by omega) (by omega))
   exact ⟨_,_,_,_,hr,fresh cap,Or.inr ⟨_,rfl,Nat.le_refl _⟩,grown_chg _ _ _ _⟩
theorem info92 : (Tryz.prog.info? 169).map (fun i => (i.zero,i.size,i.bytes))=some (some (.agg #[.int .u64 0,.slice none 0 0]),2,32):=by kernel_rfl
structure Ent where
 left : Nat
 hv : List Tr
 ρ : Option Nat
 oo : Option Addr
 cap : Nat
 xs : List Value
def Ent.cells (e : Ent) : List Value:=[.int .u64 (e.left : Int),.slice e.oo e.hv.length e.cap]
def entL (L : List Ent) : List Value:=L.flatMap Ent.cells
theorem entL_len (L : List Ent) : (entL L).length=L.length * 2:=by
 unfold entL
 induction L with
 | nil => rfl
 | cons e L ih => rw [List.flatMap_cons,List.length_append,ih]; simp [Ent.cells]; omega
theorem entL_app (a b : List Ent) : entL (a++b)=entL a++entL b:=by unfold entL; rw [List.flatMap_append]
theorem entL_one (e : Ent) : entL [e]=e.cells:=by unfold entL; simp
def Own (B : Nat) (sρ : Option Nat) (L : List Ent) (b : Nat) : Prop:=B≤b∧sρ≠some b∧∀ e ∈ L,e.ρ≠some b
def Elts (wz : World) (P : Nat→Prop) (xs : List Value) (l : List Tr) : Prop:=∀ j (h : j < l.length),∃ d0 d1 d2 d3,xs[j * 4]?=some d0∧xs[j * 4+1]?=some d1∧xs[j * 4+2]?=some d2∧xs[j * 4+3]?=some d3∧VInP wz P l[j] d0 d1 d2 d3
theorem Elts.keep {w w' : World} {P Q : Nat→Prop} {xs : List Value} {l : List Tr} (hs : w.heap.size≤w'.heap.size) (hk : ∀ b,b < w.heap.size→P b→w'.heap[b]?=w.heap[b]?∧Q b) (h : Elts w P xs l) : Elts w' Q xs l:=fun j hj => by
 obtain ⟨d0,d1,d2,d3,x0,x1,x2,x3,hv⟩:=h j hj
 exact ⟨d0,d1,d2,d3,x0,x1,x2,x3,VInP.keep hs hk _ hv⟩
theorem Elts.put {w : World} {P : Nat→Prop} {xs : List Value} {l : List Tr} {t : Tr} {d0 d1 d2 d3 : Value} (h : Elts w P xs l) (hx : xs.length=l.length * 4) (hv : VInP w P t d0 d1 d2 d3) : Elts w P (xs++[d0,d1,d2,d3]) (l++[t]):=fun j hj => by
 rw [List.length_append,List.length_singleton] at hj
 by_cases hlt : j < l.length
 ·obtain ⟨e0,e1,e2,e3,x0,x1,x2,x3,hvi⟩:=h j hlt
  refine ⟨e0,e1,e2,e3,?_,?_,?_,?_,by rw [List.getElem_append_left hlt]; exact hvi⟩
  all_goals (rw [List.getElem?_append_left (by rw [hx]; omega)]; assumption)
 ·obtain rfl : j=l.length:=by omega
  refine ⟨d0,d1,d2,d3,?_,?_,?_,?_,by rw [List.getElem_append_right (Nat.le_refl _)]; simpa using hv⟩
  all_goals (rw [List.getElem?_append_right (by rw [hx]; omega),hx])
  ·rw [Nat.sub_self]; rfl
  ·rw [show l.length * 4+1 - l.length * 4=1 by omega]; rfl
  ·rw [show l.length * 4+2 - l.length * 4=2 by omega]; rfl
  ·rw [show l.length * 4+3 - l.length * 4=3 by omega]; rfl
structure StW (B : Nat) (sρ : Option Nat) (so : Option Addr) (scap : Nat) (L : List Ent) (wz : World) : Prop where
 row : SRow 169 sρ so scap L.length (entL L) wz
 lo : ∀ r,sρ=some r→B≤r
 vrow : ∀ e ∈ L,VRow 69 e.ρ e.oo e.cap e.hv.length e.xs wz
 elo : ∀ e ∈ L,∀ r,e.ρ=some r→B≤r∧sρ≠some r
 elts : ∀ e ∈ L,Elts wz (Own B sρ L) e.xs e.hv
 dis : L.Pairwise (fun e f => ∀ r,e.ρ=some r→f.ρ≠some r)
theorem StW.keep {B : Nat} {sρ : Option Nat} {so : Option Addr} {scap : Nat} {L : List Ent} {wz w' : World} (h : StW B sρ so scap L wz) (hs : wz.heap.size≤w'.heap.size) (hk : ∀ b,b < wz.heap.size→B≤b→w'.heap[b]?=wz.heap[b]?) : StW B sρ so scap L w' where
 row:=h.row.keep (fun r hr => hk r (h.row.lt r hr) (h.lo r hr))
 lo:=h.lo
 vrow:=fun e he => (h.vrow e he).keep (fun r hr => hk r ((h.vrow e he).lt r hr) (h.elo e he r hr).1)
 elo:=h.elo
 elts:=fun e he => (h.elts e he).keep hs (fun b hb hP => ⟨hk b hb hP.1,hP⟩)
 dis:=h.dis
theorem StW.later {B : Nat} {sρ : Option Nat} {so : Option Addr} {scap : Nat} {L : List Ent} {wz w' : World} (h : StW B sρ so scap L wz) (hb : Below wz.heap.size wz w') : StW B sρ so scap L w':=h.keep hb.size (fun b hb' _ => hb.block b hb')
theorem StW.new (B : Nat) (w : World) : StW B none none 0 [] w where
 row:=⟨rfl,Or.inl ⟨rfl,rfl,rfl,rfl⟩⟩
 lo:=fun r h => by cases h
 vrow:=fun e h => by cases h
 elo:=fun e h => by cases h
 elts:=fun e h => by cases h
 dis:=List.Pairwise.nil
theorem StW.push {B g : Nat} {sρ sρ' : Option Nat} {so so' : Option Addr} {scap scap' : Nat} {L : List Ent} {wz w' : World} {n : Nat} (h : StW B sρ so scap L wz) (hB : B≤wz.heap.size)
  (hR : SRow 169 sρ' so' scap' (L.length+1) (entL L++[.int .u64 (n : Int),.slice none 0 0]) w') (hn : Nxt sρ sρ' wz) (hc : Chg g sρ wz w') (hg : wz.heap.size≤g) : StW B sρ' so' scap' (L++[⟨n,[],none,none,0,[]⟩]) w':=by
 have hstay : ∀ q,q < wz.heap.size→sρ≠some q→w'.heap[q]?=wz.heap[q]?:=fun q hq hr => hc.2.2.2.2 q hq (by omega) hr
 have hne : ∀ q,q < wz.heap.size→sρ≠some q→sρ'≠some q:=by
  intro q hq h1
  rcases hn with rfl | ⟨k,rfl,hk⟩
  ·exact h1
  ·intro e; cases e; omega
 refine ⟨?_,?_,?_,?_,?_,?_⟩
 ·rw [entL_app,entL_one,List.length_append,List.length_singleton]; exact hR
 ·intro r hr
  rcases hn with rfl | ⟨k,rfl,hk⟩
  ·exact h.lo r hr
  ·cases hr; omega
 ·intro e he
  rcases List.mem_append.1 he with he | he
  ·exact (h.vrow e he).keep (fun r hr => hstay r ((h.vrow e he).lt r hr) (h.elo e he r hr).2)
  ·rw [List.mem_singleton] at he; subst he; exact VRow.nil 69 _
 ·intro e he r hr
  rcases List.mem_append.1 he with he | he
  ·exact ⟨(h.elo e he r hr).1,hne r ((h.vrow e he).lt r hr) (h.elo e he r hr).2⟩
  ·rw [List.mem_singleton] at he; subst he; cases hr
 ·intro e he
  rcases List.mem_append.1 he with he | he
  ·refine (h.elts e he).keep hc.2.2.2.1 (fun b hb hP => ⟨hstay b hb hP.2.1,hP.1,hne b hb hP.2.1,fun f hf => ?_⟩)
   rcases List.mem_append.1 hf with hf | hf
   ·exact hP.2.2 f hf
   ·rw [List.mem_singleton] at hf; subst hf; intro e; cases e
  ·rw [List.mem_singleton] at he; subst he; intro j hj; exact absurd hj (by simp)
 ·rw [List.pairwise_append]
  refine ⟨h.dis,List.pairwise_singleton _ _,fun a ha b hb r _ => ?_⟩
  rw [List.mem_singleton] at hb; subst hb; intro e; cases e
theorem StW.pop {B : Nat} {sρ : Option Nat} {so : Option Addr} {scap : Nat} {L : List Ent} {e : Ent} {wz : World} (h : StW B sρ so scap (L++[e]) wz) (hz : e.hv.length≤1000000) :
  StW B sρ so scap L wz∧VInP wz (Own B sρ L) (.mk 3 0 ⟨#[]⟩ e.hv) (.int .i64 3) (.int .u64 0) (.string ⟨#[]⟩) (.slice e.oo e.hv.length e.cap):=by
 have hm : ∀ f ∈ L,f ∈ L++[e]:=fun f hf => List.mem_append_left _ hf
 have he : e ∈ L++[e]:=List.mem_append_right _ (by simp)
 have hd:=List.pairwise_append.1 h.dis
 have hP : ∀ b,Own B sρ (L++[e]) b→Own B sρ L b:=fun b hb => ⟨hb.1,hb.2.1,fun f hf => hb.2.2 f (hm f hf)⟩
 refine ⟨⟨?_,h.lo,fun f hf => h.vrow f (hm f hf),fun f hf => h.elo f (hm f hf),fun f hf => (h.elts f (hm f hf)).keep (Nat.le_refl _) (fun b _ hb => ⟨rfl,hP b hb⟩),hd.1⟩,?_⟩
 ·have hr:=h.row
  rw [entL_app,List.length_append,List.length_singleton] at hr
  refine ⟨entL_len L,?_⟩
  rcases hr.2 with ⟨_,_,_,h0⟩ | ⟨r,cur,h1,h2,h4,h5,h6,h7,h8⟩
  ·omega
  ·refine Or.inr ⟨r,cur,h1,h2,h4,by omega,h6,h7,?_⟩
   have:=congrArg (List.take (L.length * 2)) h8
   rw [List.take_take,Nat.min_eq_left (by omega),List.take_left' (entL_len L)] at this
   exact this
 ·unfold VInP
  refine ⟨rfl,rfl,by omega,rfl,⟨by simp [ByteArray.size],hz⟩,e.oo,e.cap,e.ρ.getD 0,0,rfl,?_,?_⟩
  ·intro hp
   obtain ⟨d0,_,_,_,x0,_⟩:=h.elts e he 0 hp
   obtain ⟨r,e1,e2,_⟩:=(h.vrow e he).cell _ _ x0
   rw [e1]
   exact ⟨e2,(h.vrow e he).lt r e1,(h.elo e he r e1).1,(h.elo e he r e1).2,fun f hf hfr => hd.2.2 f hf e (by simp) r hfr e1⟩
  ·refine VInPL.of (fun j hj => ?_)
   obtain ⟨d0,d1,d2,d3,x0,x1,x2,x3,hv⟩:=h.elts e he j hj
   obtain ⟨r,e1,_,_⟩:=(h.vrow e he).cell _ _ x0
   have cell : ∀ j u,e.xs[j]?=some u→wz.cell? ⟨r,j,none⟩=some u:=fun j u hj => by
    obtain ⟨r',q1,_,q3⟩:=(h.vrow e he).cell j u hj
    rw [e1] at q1
    cases q1
    exact q3
   rw [e1,Nat.zero_add]
   exact ⟨d0,d1,d2,d3,cell _ _ x0,cell _ _ x1,cell _ _ x2,cell _ _ x3,VInP.keep (Nat.le_refl _) (fun b' _ hb => ⟨rfl,hP b' hb⟩) _ hv⟩
theorem set_two (l : List Value) (a b a' b' : Value) (n : Nat) (hn : l.length=n) : ((l++[a,b]).set (n+1) b').set n a'=l++[a',b']:=by
 subst hn
 rw [List.set_append_right _ _ (by omega),List.set_append_right _ _ (by omega)]
 rw [show l.length+1 - l.length=1 by omega,Nat.sub_self]
 rfl
theorem StW.take {B : Nat} {sρ ρ' : Option Nat} {so o' : Option Addr} {scap cap' : Nat} {L : List Ent} {e : Ent} {wz w' : World} {t : Tr} {d0 d1 d2 d3 : Value} (h : StW B sρ so scap (L++[e]) wz) (hB : B≤wz.heap.size)
  (hv : VInP wz (Own B sρ (L++[e])) t d0 d1 d2 d3) (hsz : wz.heap.size≤w'.heap.size)
  (hrow : ∀ r cur,sρ=some r→wz.heap[r]?=some (.cells cur 169 (0,0))→w'.heap[r]?=some (.cells ((cur.setIfInBounds (L.length * 2+1) (.slice o' (e.hv.length+1) cap')).setIfInBounds (L.length * 2) (.int .u64 ((e.left - 1 : Nat) : Int))) 169 (0,0)))
  (hR : VRow 69 ρ' o' cap' (e.hv.length+1) (e.xs++[d0,d1,d2,d3]) w') (hn : Nxt e.ρ ρ' wz)
  (hst : ∀ q,q < wz.heap.size→sρ≠some q→e.ρ≠some q→w'.heap[q]?=wz.heap[q]?) :
  StW B sρ so scap (L++[⟨e.left - 1,e.hv++[t],ρ',o',cap',e.xs++[d0,d1,d2,d3]⟩]) w':=by
 have hm : ∀ f ∈ L,f ∈ L++[e]:=fun f hf => List.mem_append_left _ hf
 have he : e ∈ L++[e]:=List.mem_append_right _ (by simp)
 have hd:=List.pairwise_append.1 h.dis
 have hrne : ∀ r,ρ'=some r→B≤r∧sρ≠some r∧(∀ f ∈ L,f.ρ≠some r):=by
  intro r hr
  rcases hn with rfl | ⟨k,rfl,hk⟩
  ·exact ⟨(h.elo e he r hr).1,(h.elo e he r hr).2,fun f hf hfr => hd.2.2 f hf e (by simp) r hfr hr⟩
  ·cases hr
   refine ⟨by omega,fun hs => ?_,fun f hf hfr => ?_⟩
   ·have:=h.row.lt r hs; omega
   ·have:=(h.vrow f (hm f hf)).lt r hfr; omega
 have hown : ∀ b,b < wz.heap.size→Own B sρ (L++[e]) b→w'.heap[b]?=wz.heap[b]?∧Own B sρ (L++[⟨e.left - 1,e.hv++[t],ρ',o',cap',e.xs++[d0,d1,d2,d3]⟩]) b:=by
  intro b hb hP
  refine ⟨hst b hb hP.2.1 (hP.2.2 e he),hP.1,hP.2.1,fun f hf => ?_⟩
  rcases List.mem_append.1 hf with hf | hf
  ·exact hP.2.2 f (hm f hf)
  ·rw [List.mem_singleton] at hf; subst hf
   rcases hn with hn | ⟨k,hn,hk⟩
   ·show ρ'≠some b
    rw [hn]; exact hP.2.2 e he
   ·show ρ'≠some b
    rw [hn]; intro e; cases e; omega
 refine ⟨?_,h.lo,?_,?_,?_,?_⟩
 ·have hr:=h.row
  rw [entL_app,entL_one,List.length_append,List.length_singleton] at hr
  refine ⟨entL_len _,?_⟩
  rw [List.length_append,List.length_singleton,entL_app,entL_one]
  rcases hr.2 with ⟨_,_,_,h0⟩ | ⟨r,cur,h1,h2,h4,h5,h6,h7,h8⟩
  ·omega
  ·refine Or.inr ⟨r,_,h1,h2,hrow r cur h1 h4,h5,h6,by simpa using h7,?_⟩
   simp only [Array.toList_setIfInBounds,List.take_set]
   rw [h8]
   unfold Ent.cells
   rw [set_two _ _ _ _ _ _ (entL_len L)]
   simp
 ·intro f hf
  rcases List.mem_append.1 hf with hf | hf
  ·exact (h.vrow f (hm f hf)).keep (fun r hr => hst r ((h.vrow f (hm f hf)).lt r hr) (h.elo f (hm f hf) r hr).2 (fun her => hd.2.2 f hf e (by simp) r hr her))
  ·rw [List.mem_singleton] at hf; subst hf
   rw [List.length_append,List.length_singleton]; exact hR
 ·intro f hf r hr
  rcases List.mem_append.1 hf with hf | hf
  ·exact h.elo f (hm f hf) r hr
  ·rw [List.mem_singleton] at hf; subst hf
   exact ⟨(hrne r hr).1,(hrne r hr).2.1⟩
 ·intro f hf
  rcases List.mem_append.1 hf with hf | hf
  ·exact (h.elts f (hm f hf)).keep hsz hown
  ·rw [List.mem_singleton] at hf; subst hf
   exact ((h.elts e he).keep hsz hown).put (h.vrow e he).1 (VInP.keep hsz hown _ hv)
 ·rw [List.pairwise_append]
  refine ⟨hd.1,List.pairwise_singleton _ _,fun a ha b hb r har => ?_⟩
  rw [List.mem_singleton] at hb; subst hb
  exact fun hr => (hrne r hr).2.2 a ha har
end Go.Proofs.YtjfjliobencppaaGreatDoor
