/- config: lists of values under way: an append as an operation; the document's text and number.; config: the document's Many. -/
import Derived.Test.YtjfjliobencppaaGreatDoorR29
import Derived.Test.YtjfjliobencppaaGreatDoorR24
set_option linter.unusedVariables false
set_option linter.unusedSimpArgs false
namespace Go.Proofs.YtjfjliobencppaaGreatDoor.Cf
open Go.RowKit
theorem rtext_any (s : ByteArray) (w : World) : Calls Tryz.prog 68 #[.string s] w fun e w' => e=.returned (.agg #[.int .i64 2,.int .u64 0,.string s,.slice none 0 0])∧Below w.heap.size w w':=by
 have HB:=Lib.hid (alloc_below w (.cells #[.int .i64 2,.int .u64 0,.string s,.slice none 0 0] 81))
 go_enter Tryz.func68,Tryz.ntmps68
 go_wp2
 refine bodyPost_ret (v:=.agg #[.int .i64 2,.int .u64 0,.string s,.slice none 0 0]) (by simp [results,Tryz.results68,go_sem, *]) rfl ⟨rfl,?_⟩
 exact HB.out
theorem rnum_any (n : Int) (w : World) : Calls Tryz.prog 69 #[.int .u64 n] w fun e w' => e=.returned (.agg #[.int .i64 1,.int .u64 n,.string ⟨#[]⟩,.slice none 0 0])∧Below w.heap.size w w':=by
 have HB:=Lib.hid (alloc_below w (.cells #[.int .i64 1,.int .u64 n,.string ⟨#[]⟩,.slice none 0 0] 81))
 go_enter Tryz.func69,Tryz.ntmps69
 go_wp2
 refine bodyPost_ret (v:=.agg #[.int .i64 1,.int .u64 n,.string ⟨#[]⟩,.slice none 0 0]) (by simp [results,Tryz.results69,go_sem, *]) rfl ⟨rfl,?_⟩
 exact HB.out
theorem be_two (p : Nat) : Sp.W.be p 2=be p 2:=by simp [Sp.W.be,be]
theorem rplace_any (p : Pl) (h : p.ok) (w : World) : Calls Tryz.prog 70 #[.agg #[.int .u8 (p.a : Int),.int .u8 (p.b : Int),.int .u8 (p.c : Int),.int .u8 (p.d : Int),.int .u16 (p.port : Int)]] w fun e w' => e=.returned (.string (str p.bytes))∧Below w.heap.size w w':=by
 obtain ⟨h1,h2,h3,h4,h5⟩:=h
 have:=Sp.rbytes_any p.a p.b p.c p.d p.port (by omega) (by omega) (by omega) (by omega) (by omega) w
 unfold Sp.bytesN Sp.plc at this
 rw [be_two] at this
 exact this
theorem pbytes_size (p : Pl) : (str p.bytes).size≤1000000000:=by
 have : (str p.bytes).size=6:=by unfold Pl.bytes; simp [str_size,be]
 omega
theorem Kp.upto {q B : Nat} {w w' w'' : World} (h : Kp q w w') (hB : w.heap.size≤B) (hs : w'.heap.size≤w''.heap.size) (hb : Below B w' w'') : Kp q w w'':=⟨Nat.le_trans h.size hs,fun b hb' hq => (hb.block b (Nat.lt_of_lt_of_le hb' hB)).trans (h.keep b hb' hq)⟩
theorem Bk.upto {w w' : World} {g B : Nat} {cs : Array Value} {T : TypeId} (h : Bk w g cs T) (hB : g < B) (hb : Below B w w') : Bk w' g cs T:=(hb.block g hB).trans h
theorem VL.own {w : World} {B : Nat} {V : Value} {l : List Tr} (h : VL w B V l) (b : Nat) (hb : V.ownBlock=some b) : B≤b∧b < w.heap.size:=by
 obtain ⟨PL,_,h2,_⟩:=h
 obtain ⟨cs,h3,h4⟩:=own_block h2 hb
 exact ⟨h4,lt_of_heap h3⟩
theorem VL.bk {w w' : World} {B g : Nat} {V : Value} {l : List Tr} {cs : Array Value} {T : TypeId} (h : VL w B V l) (hk : Bk w g cs T) (hT : T≠81) (hg : w.grownBy w' V.ownBlock) : Bk w' g cs T:=by
 obtain ⟨PL,_,h2,_⟩:=h
 exact Bk.grown hk h2 hg hT
theorem wp_push {W : World} {o : Oper} {a : Act} {K : Act→World→Prop} {Q : Exit→Act→World→Prop} (s x : Operand) (ho : o.op=.call { callee:=.builtin .append,args:=#[s,x],argTypes:=#[79,79] })
  (B : Nat) (V : Value) (l : List Tr) (t : Tr) (c0 c1 c2 c3 : Value) (gS : Nat) (hs : a.eval s=V) (hx : a.eval x=.slice (some ⟨gS,0,none⟩) 1 1) (hL : VL W B V l) (hR : Bk W gS #[c0,c1,c2,c3] 81) (ht : VInP W (fun b => B≤b∧V.ownBlock≠some b) t c0 c1 c2 c3) (hB : B≤W.heap.size) (hn : l.length≤1000000)
  (h : ∀ o' c' W',VL W' B (.slice o' (l.length+1) c') (l++[t])→W.grownBy W' V.ownBlock→Below B W W'→K (a.put o.dst (.slice o' (l.length+1) c')) W') : Oper.wp Tryz.prog o a W K Q:=by
 obtain ⟨PL,h1,h2,h3⟩:=hL
 have hlen : l.length=PL.length:=by rw [← h1,List.length_map]
 obtain ⟨i0,z,hi,hz0,hz1,hz2,hz3⟩:=Ty.parts (P:=Tryz.prog) (e:=81) (k:=4) (by kernel_rfl)
 have h1c : ∀ u ∈ [c0,c1,c2,c3],u.oneCell'=true:=by
  obtain ⟨k,n,s,o,len,cap,rfl,rfl,rfl,rfl⟩:=ht.cells
  intro u hu
  simp only [List.mem_cons,List.not_mem_nil,or_false] at hu
  rcases hu with rfl | rfl | rfl | rfl <;> rfl
 obtain ⟨V',W',hr,r1,r2,r3,r4⟩:=run_append_own_at (P:=Tryz.prog) W B 79 o.type 81 i0 z 4 i0.bytes (by kernel_rfl) hi hz0 hz1 rfl hz2 (by decide) V PL.length _ h2 ⟨gS,0,none⟩ 1 1 [c0,c1,c2,c3] (by rfl) (fun j u hj => by rw [Addr.add_mid,Nat.zero_add,cell_of_row _ _ _ _ _ _ hR]; simpa using hj) h1c (by unfold maxLen; omega) (by have:=Nat.mul_le_mul (show PL.length+1≤1000001 by omega) hz3; omega) hB
 obtain ⟨o',c',rfl⟩:=own_form r1
 have hL2:=VL.push h1 h2 h3 ht rfl rfl r1 r2 r4
 unfold Oper.wp execOp
 simp only [ho,resolve,invoke,builtin,Sem.run_bind,Sem.run_pure,Result.andThen_ok,List.map_toArray,List.map_cons,List.map_nil,hs,hx,hr]
 have:=h o' c' W' (by rw [hlen]; exact hL2) r2 ((Below.refl B W).grown r2 hB (fun g hg => (h2.lt g hg).1))
 rw [hlen] at this
 exact this
end Go.Proofs.YtjfjliobencppaaGreatDoor.Cf

set_option maxRecDepth 100000
set_option maxHeartbeats 4000000
namespace Go.Proofs.YtjfjliobencppaaGreatDoor.Cf
open Go.RowKit
theorem rmany_any {w : World} {c0 c1 c2 : Value} {c : Co} (h : CoIn w c0 c1 c2 c) (hs : c.sized) : Calls Tryz.prog 26 #[.agg #[c0,c1,c2]] w (TrP c.many w):=by
 have HIN:=Lib.hid h
 have HLEN:=Lib.hid (show c.l.length≤1000000∧c.c.length≤1000000∧(∀ x ∈ c.l,x.r.length≤1000000)∧∀ x ∈ c.c,x.e.length≤1000000 from ⟨hs.1,hs.2.1,fun x hx => (hs.2.2.1 x hx).2.1,fun x hx => (hs.2.2.2 x hx).2⟩)
 obtain ⟨rfl,hv,⟨o1,C1,B1,f1,rfl,ho1,hE1⟩,⟨o3,C3,B3,f3,rfl,ho3,hE3⟩⟩:=h
 have HQ1 : Hid (0 < c.l.length→o1=some ⟨B1,f1,none⟩):=Lib.hid (fun hp => (ho1 hp).1)
 have HQ9 : Hid (0 < c.c.length→o3=some ⟨B3,f3,none⟩):=Lib.hid (fun hp => (ho3 hp).1)
 have HS1 : Hid (∀ wz,Below w.heap.size w wz→∀ i (hi : i < c.l.length),True∧∃ (o : Option Addr) (cap B f : Nat),wz.cell? ⟨B1,f1+i * 7,none⟩=some (.string c.l[i].name)∧wz.cell? ⟨B1,f1+i * 7+1,none⟩=some (.int .u8 (c.l[i].p.a : Int))∧wz.cell? ⟨B1,f1+i * 7+2,none⟩=some (.int .u8 (c.l[i].p.b : Int))∧wz.cell? ⟨B1,f1+i * 7+3,none⟩=some (.int .u8 (c.l[i].p.c : Int))∧wz.cell? ⟨B1,f1+i * 7+4,none⟩=some (.int .u8 (c.l[i].p.d : Int))∧wz.cell? ⟨B1,f1+i * 7+5,none⟩=some (.int .u16 (c.l[i].p.port : Int))∧wz.cell? ⟨B1,f1+i * 7+6,none⟩=some (.slice o c.l[i].r.length cap) ∧
   (0 < c.l[i].r.length→o=some ⟨B,f,none⟩)∧c.l[i].r.length≤1000000∧∀ wy,Below w.heap.size w wy→∀ j (hj : j < c.l[i].r.length),wy.cell? ⟨B,f+j * 4,none⟩=some (.string c.l[i].r[j].host)∧wy.cell? ⟨B,f+j * 4+1,none⟩=some (.string c.l[i].r[j].path)∧wy.cell? ⟨B,f+j * 4+2,none⟩=some (.string c.l[i].r[j].cluster)∧wy.cell? ⟨B,f+j * 4+3,none⟩=some (.int .u64 (c.l[i].r[j].idle : Int))):=Lib.hid (fun wz hb i hi => by
  refine ⟨trivial,?_⟩
  obtain ⟨cs,hr,u,rfl,hn,hp,o,cap,B,f,rfl,ho,hR⟩:=hE1 i hi
  have hr:=rng_later hr hb
  refine ⟨o,cap,B,f,hr 0 _ rfl,hr 1 _ rfl,hr 2 _ rfl,hr 3 _ rfl,hr 4 _ rfl,hr 5 _ rfl,hr 6 _ rfl,fun hp => (ho hp).1,HLEN.out.2.2.1 _ (List.getElem_mem hi),fun wy hby j hj => ?_⟩
  obtain ⟨cs,hr2,hcs,hok⟩:=hR j hj
  subst hcs
  have hr2:=rng_later hr2 hby
  exact ⟨hr2 0 _ rfl,hr2 1 _ rfl,hr2 2 _ rfl,hr2 3 _ rfl⟩)
 have HS9 : Hid (∀ wz,Below w.heap.size w wz→∀ i (hi : i < c.c.length),True∧∃ (o : Option Addr) (cap B f : Nat),wz.cell? ⟨B3,f3+i * 2,none⟩=some (.string c.c[i].name)∧wz.cell? ⟨B3,f3+i * 2+1,none⟩=some (.slice o c.c[i].e.length cap) ∧
   (0 < c.c[i].e.length→o=some ⟨B,f,none⟩)∧c.c[i].e.length≤1000000∧∀ wy,Below w.heap.size w wy→∀ j (hj : j < c.c[i].e.length),wy.cell? ⟨B,f+j * 6,none⟩=some (.int .u8 (c.c[i].e[j].p.a : Int))∧wy.cell? ⟨B,f+j * 6+1,none⟩=some (.int .u8 (c.c[i].e[j].p.b : Int))∧wy.cell? ⟨B,f+j * 6+2,none⟩=some (.int .u8 (c.c[i].e[j].p.c : Int))∧wy.cell? ⟨B,f+j * 6+3,none⟩=some (.int .u8 (c.c[i].e[j].p.d : Int))∧wy.cell? ⟨B,f+j * 6+4,none⟩=some (.int .u16 (c.c[i].e[j].p.port : Int))∧wy.cell? ⟨B,f+j * 6+5,none⟩=some (.int .i64 c.c[i].e[j].w)):=Lib.hid (fun wz hb i hi => by
  refine ⟨trivial,?_⟩
  obtain ⟨cs,hr,u,rfl,hn,o,cap,B,f,rfl,ho,hR⟩:=hE3 i hi
  have hr:=rng_later hr hb
  refine ⟨o,cap,B,f,hr 0 _ rfl,hr 1 _ rfl,fun hp => (ho hp).1,HLEN.out.2.2.2 _ (List.getElem_mem hi),fun wy hby j hj => ?_⟩
  obtain ⟨cs,hr2,hcs,hok⟩:=hR j hj
  subst hcs
  have hr2:=rng_later hr2 hby
  exact ⟨hr2 0 _ rfl,hr2 1 _ rfl,hr2 2 _ rfl,hr2 3 _ rfl,hr2 4 _ rfl,hr2 5 _ rfl⟩)
 have HOKL : Hid (∀ l ∈ c.l,l.name.size≤maxLen∧l.p.ok∧∀ r ∈ l.r,r.ok):=Lib.hid (fun l hl => by
  obtain ⟨i,hi,rfl⟩:=List.getElem_of_mem hl
  obtain ⟨cs,hr,u,rfl,hn,hp,o,cap,B,f,rfl,ho,hR⟩:=hE1 i hi
  refine ⟨hn,hp,fun r hr => ?_⟩
  obtain ⟨j,hj,rfl⟩:=List.getElem_of_mem hr
  obtain ⟨cs,hr2,hcs,hok⟩:=hR j hj
  exact hok)
 have HOKC : Hid (∀ l ∈ c.c,l.name.size≤maxLen∧∀ r ∈ l.e,r.ok):=Lib.hid (fun l hl => by
  obtain ⟨i,hi,rfl⟩:=List.getElem_of_mem hl
  obtain ⟨cs,hr,u,rfl,hn,o,cap,B,f,rfl,ho,hR⟩:=hE3 i hi
  refine ⟨hn,fun r hr => ?_⟩
  obtain ⟨j,hj,rfl⟩:=List.getElem_of_mem hr
  obtain ⟨cs,hr2,hcs,hok⟩:=hR j hj
  exact hok)
 clear hE1 hE3 ho1 ho3 hv hs
 have HB0:=Lib.hid (alloc_below w (.cells #[.int .u64 (c.v : Int),.slice o1 c.l.length C1,.slice o3 c.c.length C3] 37))
 have HC0:=Lib.hid (alloc_at (w:=w) (g:=w.heap.size) #[.int .u64 (c.v : Int),.slice o1 c.l.length C1,.slice o3 c.c.length C3] 37 rfl)
 by_cases hl : 8 < c.l.length
 ·have q1 : (8 : Int) < (c.l.length : Int):=by omega
  have HT : c.many=true:=by unfold Co.many; rw [decide_eq_true hl]; rfl
  go_enter Tryz.func26,Tryz.ntmps26
  go_wp2
  refine bodyPost_ret (v:=.bool true) (by simp [results,Tryz.results26,go_sem, *]) rfl ⟨by first | rfl | rw [HT],HB0.out⟩
 have q1 : ¬ (8 : Int) < (c.l.length : Int):=by omega
 by_cases hc : 8 < c.c.length
 ·have q2 : (8 : Int) < (c.c.length : Int):=by omega
  have HT : c.many=true:=by unfold Co.many; rw [decide_eq_true hc]; simp
  go_enter Tryz.func26,Tryz.ntmps26
  go_wp2
  refine bodyPost_ret (v:=.bool true) (by simp [results,Tryz.results26,go_sem, *]) rfl ⟨by first | rfl | rw [HT],HB0.out⟩
 have q2 : ¬ (8 : Int) < (c.c.length : Int):=by omega
 go_enter Tryz.func26,Tryz.ntmps26
 go_wp2
 go_loopw [20] (fun y wz => ∃ i : Nat,y=.int .i64 i∧i≤c.l.length∧Hid ((c.l.take i).any Ls.many=false)∧Hid (Below w.heap.size w wz)∧Hid (Bk wz w.heap.size #[.int .u64 (c.v : Int),.slice o1 c.l.length C1,.slice o3 c.c.length C3] 37)) (fun y _ => c.l.length - (intOf y).toNat)
 case atStart => exact ⟨0,rfl,by omega,Lib.hid (by rw [List.take_zero]; rfl),HB0,HC0⟩
 case round =>
  rename World => wo
  obtain ⟨i,rfl,hi,HM,HB,HC⟩:=hrel
  by_cases hlt : i < c.l.length
  ·obtain ⟨_,hsrc⟩:=HS1.out wo HB.out i hlt
   obtain rfl:=HQ1.out (by omega)
   have HTK : Hid ((c.l.take (i+1)).any Ls.many=(Ls.many c.l[i])):=Lib.hid (by rw [← List.take_append_getElem hlt,List.any_append,HM.out]; simp)
   have HAN : Hid (Ls.many c.l[i]=true→c.many=true):=Lib.hid (fun h => by
    have : c.l.any Ls.many=true:=List.any_eq_true.2 ⟨_,List.getElem_mem hlt,h⟩
    unfold Co.many; rw [this]; simp)
   have q1 : (i : Int) < (c.l.length : Int):=by omega
   have q0 : (c.l.length : Int)≤1000000:=by have:=HLEN.out.1; omega
   generalize c.l[i]=x at *
   obtain ⟨o2,cap2,B2,f2,h0,h1,h2,h3,h4,h5,h6,ho2,hrl,hel⟩:=hsrc
   have HBx:=Lib.hid (HB.out.trans ((alloc_below wo (.cells #[.string x.name,.int .u8 (x.p.a : Int),.int .u8 (x.p.b : Int),.int .u8 (x.p.c : Int),.int .u8 (x.p.d : Int),.int .u16 (x.p.port : Int),.slice o2 x.r.length cap2] 85)).mono HB.out.size))
   have HCx:=Lib.hid (HC.out.later (alloc_below wo (.cells #[.string x.name,.int .u8 (x.p.a : Int),.int .u8 (x.p.b : Int),.int .u8 (x.p.c : Int),.int .u8 (x.p.d : Int),.int .u16 (x.p.port : Int),.slice o2 x.r.length cap2] 85)))
   have q2 : (x.r.length : Int)≤1000000:=by omega
   clear ho2 hel
   by_cases hx : 8 < x.r.length
   ·have q3 : (8 : Int) < (x.r.length : Int):=by omega
    have HT:=HAN.out (by unfold Ls.many; exact decide_eq_true hx)
    go_wp2
    refine bodyPost_ret (v:=.bool true) (by simp [results,Tryz.results26,go_sem, *]) rfl ⟨by first | rfl | rw [HT],HBx.out⟩
   ·have q3 : ¬ (8 : Int) < (x.r.length : Int):=by omega
    have HT : Hid (Ls.many x=false):=Lib.hid (by unfold Ls.many; exact decide_eq_false hx)
    go_wp2
    go_roundw
    case rel => exact ⟨i+1,by go_num,by omega,Lib.hid (by rw [HTK.out,HT.out]),HBx,HCx⟩
    case measure => simp [intOf]; omega
  ·obtain rfl : i=c.l.length:=by omega
   have HML : Hid (c.l.any Ls.many=false):=Lib.hid (by have h:=HM.out; rwa [List.take_length] at h)
   have hq9 : ¬ ((c.l.length : Int) < (c.l.length : Int)):=by omega
   have HBl:=HB
   have HCl:=HC
   obtain ⟨u2,_⟩:=bk3f2 HC.out
   clear HM HB HC
   go_wp2
   go_loopw [32] (fun y wz => ∃ i : Nat,y=.int .i64 i∧i≤c.c.length∧Hid ((c.c.take i).any Cl.many=false)∧Hid (Below w.heap.size w wz)∧Hid (Bk wz w.heap.size #[.int .u64 (c.v : Int),.slice o1 c.l.length C1,.slice o3 c.c.length C3] 37)) (fun y _ => c.c.length - (intOf y).toNat)
   case atStart => exact ⟨0,rfl,by omega,Lib.hid (by rw [List.take_zero]; rfl),HBl,HCl⟩
   case round =>
    rename World => wp
    obtain ⟨i,rfl,hi,HM,HB,HC⟩:=hrel
    by_cases hlt : i < c.c.length
    ·obtain ⟨_,hsrc⟩:=HS9.out wp HB.out i hlt
     obtain rfl:=HQ9.out (by omega)
     have HTK : Hid ((c.c.take (i+1)).any Cl.many=(Cl.many c.c[i])):=Lib.hid (by rw [← List.take_append_getElem hlt,List.any_append,HM.out]; simp)
     have HAN : Hid (Cl.many c.c[i]=true→c.many=true):=Lib.hid (fun h => by
      have : c.c.any Cl.many=true:=List.any_eq_true.2 ⟨_,List.getElem_mem hlt,h⟩
      unfold Co.many; rw [this]; simp)
     have q1 : (i : Int) < (c.c.length : Int):=by omega
     have q0 : (c.c.length : Int)≤1000000:=by have:=HLEN.out.2.1; omega
     generalize c.c[i]=x at *
     obtain ⟨o2,cap2,B2,f2,h0,h1,ho2,hrl,hel⟩:=hsrc
     have HBx:=Lib.hid (HB.out.trans ((alloc_below wp (.cells #[.string x.name,.slice o2 x.e.length cap2] 74)).mono HB.out.size))
     have HCx:=Lib.hid (HC.out.later (alloc_below wp (.cells #[.string x.name,.slice o2 x.e.length cap2] 74)))
     have q2 : (x.e.length : Int)≤1000000:=by omega
     clear ho2 hel
     by_cases hx : 8 < x.e.length
     ·have q3 : (8 : Int) < (x.e.length : Int):=by omega
      have HT:=HAN.out (by unfold Cl.many; exact decide_eq_true hx)
      go_wp2
      refine bodyPost_ret (v:=.bool true) (by simp [results,Tryz.results26,go_sem, *]) rfl ⟨by first | rfl | rw [HT],HBx.out⟩
     ·have q3 : ¬ (8 : Int) < (x.e.length : Int):=by omega
      have HT : Hid (Cl.many x=false):=Lib.hid (by unfold Cl.many; exact decide_eq_false hx)
      go_wp2
      go_roundw
      case rel => exact ⟨i+1,by go_num,by omega,Lib.hid (by rw [HTK.out,HT.out]),HBx,HCx⟩
      case measure => simp [intOf]; omega
    ·obtain rfl : i=c.c.length:=by omega
     have HF : Hid (c.many=false):=Lib.hid (by
      have h1:=HML.out
      have h2:=HM.out
      rw [List.take_length] at h2
      unfold Co.many
      rw [h1,h2,decide_eq_false (by omega),decide_eq_false (by omega)]
      rfl)
     have hq8 : ¬ ((c.c.length : Int) < (c.c.length : Int)):=by omega
     go_wp2
     refine bodyPost_ret (v:=.bool false) (by simp [results,Tryz.results26,go_sem, *]) rfl ⟨by rw [HF.out],HB.out⟩
end Go.Proofs.YtjfjliobencppaaGreatDoor.Cf
