/- codec.Get and codec.Next of any text; of a text that Put has written.; config: what is written alike is the same.; config: two configs whose bytes are the same are the same.; config: ConfigApart, over awake.; Plain words of layer 3: names, hosts, paths, as lists of bytes.; DERIVED: THE SHELF's CONTRACTS AT THIS DUMP, IN PLAIN WORDS (tools/lay-plain.mjs out of 'YtjfjliobencppaaGreatDoorShelfL.lean', which tools/lay-shelf.mjs wrote): THE SAME DECLARATIONS UNDER THE SAME NAMES: 'import', 'namespace', 'open', 'def', 'theorem' AND NOTHING ELSE: no command of the shelf's: FOR A HAND-IN. Each laying: the table of numbers ('.._ren') and one theorem, a field a fact of the dump's own or the kernel's comparison; each contract: ONE APPLICATION.; The small functions of package label: a byte's kind, each byte of a text. -/
import Derived.Test.YtjfjliobencppaaGreatDoorR19
import Derived.Test.YtjfjliobencppaaGreatDoorR10
import Derived.Lib.SplitLaws
import Derived.Shelf.Strings.Builder1
import Derived.Shelf.Strings.Builder2
import Derived.Shelf.Strings.OnBuilder
import Derived.Shelf.Small.Strs
import Derived.Shelf.Strings.BuilderF
import Derived.Shelf.LaysM
import Derived.Shelf.Strconv.Clone
import Derived.Shelf.Strings.Search1
import Derived.Shelf.Strings.Search2
import Derived.Shelf.Strings.Search3
import Derived.Shelf.Strings.Cut
import Derived.Shelf.Strings.Count
import Derived.Shelf.Strings.Prefix
import Derived.Shelf.Strings.Split
import Derived.Shelf.Slices.Equal
import Derived.Shelf.Slices.Empties2
import Derived.Test.YtjfjliobencppaaGreatDoorProg
import Derived.Test.YtjfjliobencppaaGreatDoorRows
import Derived.WalkKit
import Derived.WalkLawsBesides
import Derived.Outline
import Derived.Laws.IdiomStrings
import Derived.Lib.Hide
import Derived.WalkSpells
import Derived.Deep.DeepCutAuto
import Derived.Deep.CutBlock
import Derived.Deep.QuietTactic
import Derived.BigQuiet
import Derived.Deep.LoopGhost
import Derived.Deep.DeepFit
import Derived.Deep.Light
import Derived.Laws.Externs
set_option linter.unusedVariables false
set_option linter.unusedSimpArgs false
namespace Go.Proofs.YtjfjliobencppaaGreatDoor
open Go.RowKit
def getC (s : ByteArray) : Nat:=if (rdA s).1≠0 then (rdA s).1 else if 0 < (rdA s).2.2.length then 4 else 0
def getT (s : ByteArray) : Tr:=if getC s=0 then (rdA s).2.1 else t0
theorem str_size (l : List UInt8) : (str l).size=l.length:=by simp [str,ByteArray.size]
theorem rd_facts : ∀ (k : Nat) (m : Md) (st : List (Nat × List Tr)) (s : List UInt8),s.length * 100+st.length * 10+m.rk≤k→((rd m st s).1≠0→(rd m st s).2.2=[])∧(rd m st s).2.2.length≤s.length:=by
 intro k
 induction k using Nat.strongRecOn with
 | _ k ih =>
  intro m st s hk
  match m,st,s with
  | .v,st,[] => rw [rd]; simp
  | .v,st,c::s1 =>
   rw [rd]
   split
   ·simp
   ·split
    ·simp
    ·split
     ·have:=ih (s1.length * 100+st.length * 10+2) (by simp [Md.rk] at hk; omega) (.w (.mk 1 (lngA 0 0 s1).1 ⟨#[]⟩ [])) st (s1.drop (lngA 0 0 s1).2.1) (by rw [List.length_drop]; simp [Md.rk]; omega)
      refine ⟨this.1,Nat.le_trans this.2 ?_⟩
      rw [List.length_drop,List.length_cons]; omega
     ·split
      ·split
       ·simp
       ·have:=ih (s1.length * 100+st.length * 10+2) (by simp [Md.rk] at hk; omega) (.w (.mk 2 0 (str ((s1.drop (lngA 0 0 s1).2.1).take (lngA 0 0 s1).1)) [])) st ((s1.drop (lngA 0 0 s1).2.1).drop (lngA 0 0 s1).1) (by rw [List.length_drop,List.length_drop]; simp [Md.rk]; omega)
        refine ⟨this.1,Nat.le_trans this.2 ?_⟩
        rw [List.length_drop,List.length_drop,List.length_cons]; omega
      ·split
       ·simp
       ·have:=ih (s1.length * 100+(st.length+1) * 10+1) (by simp [Md.rk] at hk; omega) .n (((lngA 0 0 s1).1,[])::st) (s1.drop (lngA 0 0 s1).2.1) (by rw [List.length_drop]; simp [Md.rk]; omega)
        refine ⟨this.1,Nat.le_trans this.2 ?_⟩
        rw [List.length_drop,List.length_cons]; omega
  | .n,[],s => rw [rd]; simp
  | .n,(0,h)::st,s =>
   rw [rd]
   exact ih (s.length * 100+st.length * 10+2) (by simp [Md.rk] at hk; omega) _ st s (by simp [Md.rk])
  | .n,(j+1,h)::st,s =>
   rw [rd]
   exact ih (s.length * 100+(st.length+1) * 10) (by simp [Md.rk] at hk; omega) .v _ s (by simp [Md.rk])
  | .w t,[],s => rw [rd]; simp
  | .w t,(j,h)::st,s =>
   rw [rd]
   exact ih (s.length * 100+(st.length+1) * 10+1) (by simp [Md.rk] at hk; omega) .n _ s (by simp [Md.rk])
theorem rdA_err (s : ByteArray) (h : (rdA s).1≠0) : (rdA s).2.2=[]:=by
 unfold rdA at h ⊢
 split
 ·rfl
 ·rename_i hh
  rw [if_neg hh] at h
  exact (rd_facts _ .v [] s.data.toList (Nat.le_refl _)).1 h
theorem cget_any (s : ByteArray) (hs : s.size≤1000000000) (w : World) :
  Calls Tryz.prog 29 #[.string s] w fun x w' => ∃ d0 d1 d2 d3,x=.returned (cgV d0 d1 d2 d3 (getC s))∧VInP w' (fun b => w.heap.size≤b) (getT s) d0 d1 d2 d3∧Below w.heap.size w w'∧(getC s≠0→d0=.int .i64 0∧d1=.int .u64 0∧d2=.string ⟨#[]⟩∧d3=.slice none 0 0):=by
 by_cases h1 : (rdA s).1≠0
 ·have hc : getC s=(rdA s).1:=by unfold getC; rw [if_pos h1]
  refine (get_bad s (rdA s).1 h1 (fun w => (cread_any s hs w).mono ?_) w).mono ?_
  ·rintro e w' ⟨d0,d1,d2,d3,rfl,hv,hb,h0⟩
   obtain ⟨rfl,rfl,rfl,rfl⟩:=h0 h1
   refine ⟨?_,hb⟩
   have hr : (rdA s).2.2=[]:=rdA_err s h1
   rw [hr]; rfl
  ·rintro e w' ⟨rfl,hb⟩
   refine ⟨_,_,_,_,by rw [hc],?_,hb,fun _ => ⟨rfl,rfl,rfl,rfl⟩⟩
   unfold getT
   rw [if_neg (by rw [hc]; exact h1)]
   exact t0_in _ _
 ·have h1' : (rdA s).1=0:=by omega
  by_cases h2 : 0 < (rdA s).2.2.length
  ·have hc : getC s=4:=by unfold getC; rw [if_neg h1,if_pos h2]
   refine (get_form s (str (rdA s).2.2) (by rw [str_size]; omega) (fun w => (cread_any s hs w).mono ?_) w).mono ?_
   ·rintro e w' ⟨d0,d1,d2,d3,rfl,hv,hb,h0⟩
    obtain ⟨k,n,v,o,len,cap,rfl,rfl,rfl,rfl⟩:=hv.cells
    exact ⟨k,n,v,o,len,cap,by rw [h1'],hb⟩
   ·rintro e w' ⟨rfl,hb⟩
    refine ⟨_,_,_,_,by rw [hc],?_,hb,fun _ => ⟨rfl,rfl,rfl,rfl⟩⟩
    unfold getT
    rw [if_neg (by rw [hc]; omega)]
    exact t0_in _ _
  ·have hc : getC s=0:=by unfold getC; rw [if_neg h1,if_neg h2]
   have hr : (rdA s).2.2=[]:=List.eq_nil_of_length_eq_zero (by omega)
   refine (get_fine s (rdA s).2.1 (fun w => (cread_any s hs w).mono ?_) w).mono ?_
   ·rintro e w' ⟨d0,d1,d2,d3,rfl,hv,hb,h0⟩
    exact ⟨d0,d1,d2,d3,by rw [h1',hr]; rfl,hv,hb⟩
   ·rintro e w' ⟨d0,d1,d2,d3,rfl,hv,hb⟩
    refine ⟨d0,d1,d2,d3,by rw [hc],?_,hb,fun h => absurd hc h⟩
    unfold getT
    rw [if_pos hc]
    exact hv
end Go.Proofs.YtjfjliobencppaaGreatDoor

namespace Go.Proofs.YtjfjliobencppaaGreatDoor.Cf
open Go.RowKit
theorem map_inj_on {α β : Type} {f : α→β} {P : α→Prop} (hf : ∀ a b,P a→P b→f a=f b→a=b) : ∀ {l l' : List α},(∀ a ∈ l,P a)→(∀ a ∈ l',P a)→l.map f=l'.map f→l=l'
 | [],[],_,_,_ => rfl
 | [],_::_,_,_,h => by cases h
 | _::_,[],_,_,h => by cases h
 | a::l,b::l',h1,h2,h => by
  simp only [List.map_cons,List.cons.injEq] at h
  rw [hf a b (h1 a (List.mem_cons_self ..)) (h2 b (List.mem_cons_self ..)) h.1,map_inj_on hf (fun x hx => h1 x (List.mem_cons_of_mem _ hx)) (fun x hx => h2 x (List.mem_cons_of_mem _ hx)) h.2]
theorem str_inj {a b : List UInt8} (h : str a=str b) : a=b:=by
 have:=congrArg ByteArray.toList h
 rwa [show (str a).toList=a from ByteArray.toList_mk a,show (str b).toList=b from ByteArray.toList_mk b] at this
theorem byte_inj {a b : Nat} (ha : a≤255) (hb : b≤255) (h : UInt8.ofNat a=UInt8.ofNat b) : a=b:=by
 have:=congrArg UInt8.toNat h
 simp at this; omega
theorem Pl.inj {p q : Pl} (hp : p.ok) (hq : q.ok) (h : p.bytes=q.bytes) : p=q:=by
 obtain ⟨a,b,c,d,n⟩:=p
 obtain ⟨a',b',c',d',n'⟩:=q
 obtain ⟨h1,h2,h3,h4,h5⟩:=hp
 obtain ⟨g1,g2,g3,g4,g5⟩:=hq
 simp only at h1 h2 h3 h4 h5 g1 g2 g3 g4 g5
 simp only [Pl.bytes,List.cons_append,List.nil_append,List.cons.injEq] at h
 obtain ⟨e1,e2,e3,e4,e5⟩:=h
 obtain rfl:=byte_inj h1 g1 e1
 obtain rfl:=byte_inj h2 g2 e2
 obtain rfl:=byte_inj h3 g3 e3
 obtain rfl:=byte_inj h4 g4 e4
 have : n=n':=by
  simp only [be,List.cons.injEq,and_true,Nat.pow_one,Nat.pow_zero,Nat.div_one] at e5
  have k1:=congrArg UInt8.toNat e5.1
  have k2:=congrArg UInt8.toNat e5.2
  simp only [UInt8.toNat_ofNat',Nat.reducePow] at k1 k2
  omega
 rw [this]
theorem Rt.inj {r s : Rt} (h : r.tr=s.tr) : r=s:=by
 obtain ⟨a,b,c,d⟩:=r
 obtain ⟨a',b',c',d'⟩:=s
 simp [Rt.tr,rowT,strT,numT] at h
 simp [h]
theorem Ls.inj {r s : Ls} (h1 : r.p.ok) (h2 : s.p.ok) (h : r.tr=s.tr) : r=s:=by
 obtain ⟨n,p,l⟩:=r
 obtain ⟨n',p',l'⟩:=s
 simp only [Ls.tr,rowT,strT,numT,Tr.mk.injEq,List.cons.injEq,and_true,true_and] at h
 obtain ⟨e1,e2,e3⟩:=h
 have k2 : p=p':=Pl.inj h1 h2 (str_inj e2)
 have k3 : l=l':=map_inj_on (P:=fun _ => True) (fun a b _ _ => Rt.inj) (fun _ _ => trivial) (fun _ _ => trivial) e3
 rw [e1,k2,k3]
def Co.wf (c : Co) : Prop:=(∀ l ∈ c.l,l.p.ok)∧∀ x ∈ c.c,∀ e ∈ x.e,e.p.ok∧0≤e.w
end Go.Proofs.YtjfjliobencppaaGreatDoor.Cf

namespace Go.Proofs.YtjfjliobencppaaGreatDoor.Cf
open Go.RowKit
def Co.held (c : Co) : Prop:=c.v≤18446744073709551615∧(∀ l ∈ c.l,l.p.ok∧∀ r ∈ l.r,r.idle≤18446744073709551615)∧∀ x ∈ c.c,∀ e ∈ x.e,e.ok
theorem Rw.all {α : Type} {k : Nat} {R : World→List Value→α→Prop} {w : World} {v : Value} {l : List α} (h : Rw k R w v l) {P : α→Prop} (hP : ∀ cs a,R w cs a→P a) : ∀ a ∈ l,P a:=by
 intro a ha
 obtain ⟨i,hi,rfl⟩:=List.getElem_of_mem ha
 obtain ⟨o,cap,b,off,_,_,hE⟩:=h
 obtain ⟨cs,_,hR⟩:=hE i hi
 exact hP cs _ hR
theorem CoIn.held {w : World} {c0 c1 c2 : Value} {c : Co} (h : CoIn w c0 c1 c2 c) : c.held :=
 ⟨h.2.1,h.2.2.1.all (fun cs l hl => by
  obtain ⟨v,_,_,hp,hR⟩:=hl
  exact ⟨hp,hR.all fun cs r hr => hr.2.2.2.2⟩),h.2.2.2.all (fun cs x hx => by
  obtain ⟨v,_,_,hR⟩:=hx
  exact hR.all fun cs e he => he.2)⟩
theorem okL_of : ∀ {l : List Tr},(∀ t ∈ l,okT t)→okL l
 | [],_ => by rw [okL]; trivial
 | t::l,h => by rw [okL]; exact ⟨h t (List.mem_cons_self ..),okL_of fun u hu => h u (List.mem_cons_of_mem _ hu)⟩
theorem ok_num {n : Nat} (h : n≤18446744073709551615) : okT (numT n):=by
 unfold numT; rw [okT]; exact ⟨h,by decide,by simp,by rw [okL]; trivial⟩
theorem ok_str {b : ByteArray} (h : b.size≤1000000000) : okT (strT b):=by
 unfold strT; rw [okT]; exact ⟨by omega,h,by simp,by rw [okL]; trivial⟩
theorem ok_row {l : List Tr} (hl : l.length≤1000000) (h : ∀ t ∈ l,okT t) : okT (rowT l):=by
 unfold rowT; rw [okT]; exact ⟨by omega,by decide,hl,okL_of h⟩
end Go.Proofs.YtjfjliobencppaaGreatDoor.Cf

namespace Go.Proofs.YtjfjliobencppaaGreatDoor.Cf
open Go.RowKit
end Go.Proofs.YtjfjliobencppaaGreatDoor.Cf

namespace Go.Proofs.YtjfjliobencppaaGreatDoor.Sp
def letterB (c : UInt8) : Bool:=decide (97≤c.toNat) && decide (c.toNat≤122)
def digitB (c : UInt8) : Bool:=decide (48≤c.toNat) && decide (c.toNat≤57)
def plainB (x : List UInt8) (c : UInt8) : Bool:=letterB c || digitB c || x.contains c
def nameB (l : List UInt8) : Bool:=decide (1≤l.length) && decide (l.length≤32) && letterB (l.headD 0) && l.all (plainB [45,95])
def lowC (c : UInt8) : UInt8:=if 65≤c.toNat∧c.toNat≤90 then UInt8.ofNat (c.toNat+32) else c
def low (l : List UInt8) : List UInt8:=l.map lowC
def cut (c : UInt8) : List UInt8→List (List UInt8)
 | [] => [[]]
 | x::xs => if x=c then []::cut c xs else match cut c xs with
  | [] => [[x]]
  | h::t => (x::h)::t
def partB (l : List UInt8) : Bool:=decide (0 < l.length) && decide (l.length≤32) && l.headD 0 != 45 && l.getLastD 0 != 45 && l.all (plainB [45])
def hostP (l : List UInt8) : List (List UInt8):=if 1 < (cut 46 l).length∧(cut 46 l).headD []=[42] then (cut 46 l).tail else cut 46 l
def hostN (l : List UInt8) : Nat:=if l.length=0 then 3 else if 64 < l.length then 5 else if (hostP l).all partB then 0 else 4
def seenB (c : UInt8) : Bool:=decide (33≤c.toNat) && decide (c.toNat≤126)
def twoB : List UInt8→Bool
 | a::b::t => (a == 47 && b == 47) || twoB (b::t)
 | _ => false
def pathN (l : List UInt8) : Nat:=if (l.headD 0 == 47 && !twoB l && l.all seenB)=true then (if 128 < l.length then 5 else 0) else 4
def parts (l : List UInt8) : List (List UInt8):=(cut 47 l).filter (fun p => !p.isEmpty)
def underB (a b : List UInt8) : Bool:=(parts a).isPrefixOf (parts b)
def coverP (p h : List (List UInt8)) : Bool:=p.headD [] == [42] && decide (p.tail.length < h.length) && (h.drop (h.length - p.tail.length) == p.tail)
def coverB (p h : List UInt8) : Bool:=low p == low h || coverP (cut 46 (low p)) (cut 46 (low h))
def coverR (p h : List UInt8) : Bool:=low p == low h || (decide (2≤(cut 46 (low p)).length) && coverP (cut 46 (low p)) (cut 46 (low h)))
theorem index_one_miss (c : UInt8) (l : List UInt8) (h : Lib.index l [c]=-1) : c ∉ l:=by
 intro hm
 rcases Lib.index_spec l [c] with ⟨_,h2⟩ | ⟨i,h1,_⟩
 ·obtain ⟨j,hj,e⟩:=List.mem_iff_getElem.1 hm
  have:=h2 j (by omega)
  simp [Lib.occAt,List.drop_eq_getElem_cons hj,e,List.isPrefixOf] at this
 ·omega
theorem index_one_hit (c : UInt8) (l : List UInt8) (i : Nat) (h : Lib.index l [c]=i) : ∃ a b,l=a++c::b∧a.length=i∧c ∉ a:=by
 rcases Lib.index_spec l [c] with ⟨h1,_⟩ | ⟨j,h1,h2,h3,h4⟩
 ·omega
 ·obtain rfl : i=j:=by omega
  have hr:=Lib.occAt_head (s:=l) (sub:=[c]) (i:=i) rfl h3
  obtain ⟨hi,e⟩:=List.getElem?_eq_some_iff.1 hr
  refine ⟨l.take i,l.drop (i+1),?_,by simp; omega,?_⟩
  ·rw [← e,List.getElem_cons_drop,List.take_append_drop]
  ·intro hm
   obtain ⟨k,hk,ek⟩:=List.mem_iff_getElem.1 hm
   simp at hk ek
   have:=h4 k (by omega)
   simp [Lib.occAt,List.drop_eq_getElem_cons (show k < l.length by omega),ek,List.isPrefixOf] at this
def glue (ps : List (List UInt8)) : List UInt8:=ps.flatMap (fun p => 47::p)
end Go.Proofs.YtjfjliobencppaaGreatDoor.Sp

namespace Go.Proofs
open Go.Shelf
def Tryz.z_laysM316_ren : Go.Shelf.Ren:=⟨fun | 316 => 118 | n => n,fun | 9 => 9 | 3 => 3 | 4 => 4 | 37 => 113 | 0 => 0 | 127 => 196 | 5 => 5 | n => n,fun | n => n⟩
end Go.Proofs

namespace Go.Proofs.YtjfjliobencppaaGreatDoor.Sp
open Go.RowKit
end Go.Proofs.YtjfjliobencppaaGreatDoor.Sp
