/- a region's operation, taken first; what is laid behind it.; Configs, as they lie in memory; opened as arguments.; YtjfjliobencppaaGreatDoorB; YtjfjliobencppaaGreatDoorC; YtjfjliobencppaaGreatDoorD; YtjfjliobencppaaGreatDoorI; word.Long of what Short has written. -/
import Derived.WalkKit
import Derived.WalkSpells
import Derived.Deep.DeepCutAuto
import Derived.Deep.RegionHeld3
import Derived.Test.YtjfjliobencppaaGreatDoorRows
import Derived.WalkLawsBesides
import Derived.Outline
import Derived.Laws.IdiomStrings
import Derived.Lib.Hide
import Derived.Deep.CutBlock
import Derived.Deep.QuietTactic
import Derived.BigQuiet
import Derived.Deep.LoopGhost
import Derived.StillTailTactics
import Derived.Deep.RegionWith
import Derived.Deep.DeepFit
import Derived.Deep.Light
import Derived.Deep.RegionLaw
import Derived.Laws.Externs
import Derived.Laws.Rows
import Derived.Carry
import Derived.ChangeSame
import Derived.OpenShut
import Derived.Deep.Slices
import Derived.Deep.Strs
import Derived.Lib.SmallJoins
import Derived.Laws.IdiomArrays
import Derived.Deep.MidRow
set_option linter.unusedVariables false
set_option linter.unusedSimpArgs false
namespace Go.Proofs.YtjfjliobencppaaGreatDoor
open Go.RowKit
theorem pS {A : Type} (l : List A) (i : Nat) (v : A) : l.toArray.setIfInBounds i v=(l.set i v).toArray:=List.setIfInBounds_toArray ..
theorem p0 {A : Type} (a b : A) (l : List A) : (a::l).set 0 b=b::l:=rfl
theorem p1 {A : Type} (a b : A) (l : List A) (n : Nat) : (a::l).set (n+1) b=a::l.set n b:=rfl
theorem tkH {P : Program} {ops : Array Oper} {Q : Exit→Act→World→Prop} {md : Region.Mode} {S : World→Prop} {i : Nat} {oi : Oper} {v : Value} {fuel : Nat} {listed : Array Bool} {a : Act} {w : World} (hi : ops[i]?=some oi) (hy : YieldsIf P ops S oi v a) (hS : S w)
  (h : wpAnyH P md ops Q S fuel (listed.setIfInBounds i true) (a.put oi.dst v) w) (hs : Region.noSelect ops=true:=by kernel_rfl) (hf : Region.free md ops listed i=true:=by kernel_rfl) (hr : (Region.ready md ops listed).contains i=true:=by kernel_rfl)
  (hQ : ∀ c a w,Q (.panic c) (a.put oi.dst v) w→Q (.panic c) a w:=by exact fun _ _ _ h => h) : wpAnyH P md ops Q S (fuel+1) listed a w:=wpAnyH_take hi hs hf hr hQ hy hS h
end Go.Proofs.YtjfjliobencppaaGreatDoor

namespace Go.Proofs.YtjfjliobencppaaGreatDoor.Cf
open Go.ChangeShapes Go.WideShapes Go.RowKit Go.Deep
structure Pl where
 a : Nat
 b : Nat
 c : Nat
 d : Nat
 port : Nat
structure Rt where
 host : ByteArray
 path : ByteArray
 cluster : ByteArray
 idle : Nat
structure Ep where
 p : Pl
 w : Int
structure Ls where
 name : ByteArray
 p : Pl
 r : List Rt
structure Cl where
 name : ByteArray
 e : List Ep
structure Co where
 v : Nat
 l : List Ls
 c : List Cl
instance : Inhabited Pl:=⟨⟨0,0,0,0,0⟩⟩
instance : Inhabited Rt:=⟨⟨⟨#[]⟩,⟨#[]⟩,⟨#[]⟩,0⟩⟩
instance : Inhabited Ep:=⟨⟨default,0⟩⟩
instance : Inhabited Ls:=⟨⟨⟨#[]⟩,default,[]⟩⟩
instance : Inhabited Cl:=⟨⟨⟨#[]⟩,[]⟩⟩
def Pl.cs (p : Pl) : List Value:=[.int .u8 (p.a : Int),.int .u8 (p.b : Int),.int .u8 (p.c : Int),.int .u8 (p.d : Int),.int .u16 (p.port : Int)]
def Rt.cs (r : Rt) : List Value:=[.string r.host,.string r.path,.string r.cluster,.int .u64 (r.idle : Int)]
def Ep.cs (e : Ep) : List Value:=e.p.cs++[.int .i64 e.w]
def Pl.ok (p : Pl) : Prop:=p.a≤255∧p.b≤255∧p.c≤255∧p.d≤255∧p.port≤65535
def Rt.ok (r : Rt) : Prop:=r.host.size≤maxLen∧r.path.size≤maxLen∧r.cluster.size≤maxLen∧r.idle≤18446744073709551615
def Ep.ok (e : Ep) : Prop:=e.p.ok∧-9223372036854775808≤e.w∧e.w≤9223372036854775807
def Rw {α : Type} (k : Nat) (R : World→List Value→α→Prop) (w : World) (v : Value) (l : List α) : Prop :=
 ∃ o cap b off,v=.slice o l.length cap∧(0 < l.length→o=some ⟨b,off,none⟩∧b < w.heap.size)∧∀ i (h : i < l.length),∃ cs,w.rangeAt b (off+i * k) cs∧R w cs l[i]
def RtIn (_ : World) (cs : List Value) (r : Rt) : Prop:=cs=r.cs∧r.ok
def EpIn (_ : World) (cs : List Value) (e : Ep) : Prop:=cs=e.cs∧e.ok
def LsIn (w : World) (cs : List Value) (l : Ls) : Prop:=∃ v,cs=.string l.name::(l.p.cs++[v])∧l.name.size≤maxLen∧l.p.ok∧Rw 4 RtIn w v l.r
def ClIn (w : World) (cs : List Value) (c : Cl) : Prop:=∃ v,cs=[.string c.name,v]∧c.name.size≤maxLen∧Rw 6 EpIn w v c.e
def CoIn (w : World) (c0 c1 c2 : Value) (c : Co) : Prop:=c0=.int .u64 (c.v : Int)∧c.v≤18446744073709551615∧Rw 7 LsIn w c1 c.l∧Rw 2 ClIn w c2 c.c
theorem rng_later {w w' : World} {b o : Nat} {cs : List Value} (h : w.rangeAt b o cs) (hb : Below w.heap.size w w') : w'.rangeAt b o cs:=fun j v hj => by
 have hc:=h j v hj
 exact (hb.cell (p:=⟨b,o+j,none⟩) (World.block_lt_of_cell? w _ hc)).trans hc
theorem Rw.later {α : Type} {k : Nat} {R : World→List Value→α→Prop} {w w' : World} {v : Value} {l : List α} (h : Rw k R w v l) (hb : Below w.heap.size w w') (hR : ∀ cs a,R w cs a→R w' cs a) : Rw k R w' v l:=by
 obtain ⟨o,cap,b,off,h1,h2,h3⟩:=h
 refine ⟨o,cap,b,off,h1,fun hp => ⟨(h2 hp).1,Nat.lt_of_lt_of_le (h2 hp).2 hb.size⟩,fun i hi => ?_⟩
 obtain ⟨cs,h4,h5⟩:=h3 i hi
 exact ⟨cs,rng_later h4 hb,hR _ _ h5⟩
theorem LsIn.later {w w' : World} {cs : List Value} {l : Ls} (h : LsIn w cs l) (hb : Below w.heap.size w w') : LsIn w' cs l:=by
 obtain ⟨v,h1,h2,h3,h4⟩:=h
 exact ⟨v,h1,h2,h3,h4.later hb fun _ _ h => h⟩
theorem ClIn.later {w w' : World} {cs : List Value} {c : Cl} (h : ClIn w cs c) (hb : Below w.heap.size w w') : ClIn w' cs c:=by
 obtain ⟨v,h1,h2,h3⟩:=h
 exact ⟨v,h1,h2,h3.later hb fun _ _ h => h⟩
theorem CoIn.later {w w' : World} {c0 c1 c2 : Value} {c : Co} (h : CoIn w c0 c1 c2 c) (hb : Below w.heap.size w w') : CoIn w' c0 c1 c2 c :=
 ⟨h.1,h.2.1,h.2.2.1.later hb fun _ _ h => h.later hb,h.2.2.2.later hb fun _ _ h => h.later hb⟩
theorem Rw.form {α : Type} {k : Nat} {R : World→List Value→α→Prop} {w : World} {v : Value} {l : List α} (h : Rw k R w v l) : ∃ o cap,v=.slice o l.length cap:=by
 obtain ⟨o,cap,b,off,h1,_⟩:=h
 exact ⟨o,cap,h1⟩
section
variable {H : Type} {enc : TypeId × Value→H} {w : World} {sp : Nat→Bool} {held : Bool}
end
end Go.Proofs.YtjfjliobencppaaGreatDoor.Cf

namespace Go.Proofs.YtjfjliobencppaaGreatDoor
open Go.RowKit
def bcells (l : List UInt8) : List Value:=l.map fun c => .int .u8 (c.toNat : Int)
def str (l : List UInt8) : ByteArray:=⟨l.toArray⟩
def sh (n : Nat) : List UInt8:=if h : 127 < n then UInt8.ofNat (n % 128+128)::sh (n / 128) else [UInt8.ofNat n]
termination_by n
decreasing_by omega
theorem Tryz.info5 : (Tryz.prog.info? 5).map (fun i => (i.zero,i.size,i.bytes))=some (some (.int .u8 0),1,1):=by kernel_rfl
theorem own_string {w : World} {B n : Nat} {v : Value} {l : List UInt8} (h : w.ownsRow B 5 1 v n (bcells l)) :
  (convert 113 9 v).run Tryz.prog w=.ok (.string (str l)) w:=by
 have hlen : l.length=n:=by have:=h.1; simpa [bcells] using this
 rcases h.2 with ⟨rfl,hn⟩ | ⟨g,cap,cur,rfl,_⟩
 ·have hl : l=[]:=List.eq_nil_of_length_eq_zero (by omega)
  subst hl
  rw [run_convert_bytes_string w 113 9 5 none 0 0 Tryz.underlying113 Tryz.underlying5 Tryz.underlying9]; rfl
 ·have h2:=run_convert_bytes_back (P:=Tryz.prog) w 113 9 5 ⟨g,0,none⟩ cap l Tryz.underlying113 Tryz.underlying5 Tryz.underlying9 (fun j hj => by
   have:=h.cells (g:=g) rfl j (.int .u8 (l[j].toNat : Int)) (by simp [bcells,hj])
   exact this)
  rw [hlen] at h2
  exact h2
theorem bcells_snoc (l : List UInt8) (n : Nat) (h : n < 256) : bcells l++[.int .u8 (n : Int)]=bcells (l++[UInt8.ofNat n]):=by
 simp [bcells,Nat.mod_eq_of_lt h]
theorem wpList_append_byte (W : World) {ops : Array Oper} {rest : List Oper} {o : Oper} {a : Act} {Q : Exit→Act→World→Prop} (hgd : o.guard=none) (s x : Operand)
  (ho : o.op=.call { callee:=.builtin .append,args:=#[s,x],argTypes:=#[113,113] })
  (B : Nat) (v : Value) (k : Nat) (l : List UInt8) (hs : a.eval s=v) (hown : W.ownsRow B 5 1 v k (bcells l))
  (c : Int) (n : Nat) (hc : c=(n : Int)) (hn : n < 256) (hx : a.eval x=.slice (some ⟨W.heap.size,0,none⟩) 1 1)
  (hk : k+1≤140737488355328) (hB : B≤W.heap.size)
  (h : ∀ v' w',w'.ownsRow B 5 1 v' (k+1) (bcells (l++[UInt8.ofNat n]))→Below B W w'→wpList Tryz.prog ops Q rest (a.put o.dst v') w') :
  wpList Tryz.prog ops Q (o::rest) a (W.alloc (.cells #[.int .u8 c] 5)):=by
 subst hc
 obtain ⟨i0,hi,hz0,hz1,hz2⟩:=info_parts Tryz.info5
 refine wpList_append_own _ hgd s x 113 ho B 5 i0 (.int .u8 0) 1 1 Tryz.underlying113 hi hz0 hz1 hz2 rfl (by decide) v k (bcells l) hs (hown.alloc _) ⟨W.heap.size,0,none⟩ 1 1 [.int .u8 (n : Int)] hx rfl ?_ ?_ ?_ ?_ ?_ ?_
 ·intro j u hj
  match j,hj with
  | 0,hj => simp at hj; subst hj; simp [Addr.add]
 ·intro u hu; simp at hu; subst hu; rfl
 ·unfold maxLen; omega
 ·omega
 ·simp; omega
 ·intro v' w' h1 h2 _
  rw [bcells_snoc l n hn] at h1
  refine h v' w' h1 ?_
  refine (((Below.refl B W).alloc hB _).grown h2 (by simp; omega) ?_)
  intro g hg
  exact (hown.lt g hg).1
end Go.Proofs.YtjfjliobencppaaGreatDoor

set_option maxRecDepth 1000000
namespace Go.Proofs.YtjfjliobencppaaGreatDoor
open Go.RowKit
theorem sh_more (m : Nat) (h : 127 < m) : sh m=UInt8.ofNat (m % 128+128)::sh (m / 128):=by rw [sh,dif_pos h]
theorem sh_last (m : Nat) (h : ¬ 127 < m) : sh m=[UInt8.ofNat m]:=by rw [sh,dif_neg h]
theorem sh_pos (m : Nat) : 1≤(sh m).length:=by rw [sh]; split <;> simp
theorem sh_len (k : Nat) : ∀ m,m < 128 ^ (k+1)→(sh m).length≤k+1:=by
 induction k with
 | zero => intro m hm; rw [sh_last m (by omega)]; simp
 | succ k ih =>
  intro m hm
  by_cases h : 127 < m
  ·rw [sh_more m h]
   have:=ih (m / 128) (by rw [Nat.pow_succ] at hm; omega)
   simp; omega
  ·rw [sh_last m h]; simp
theorem sh_ten (n : Nat) (hn : n≤18446744073709551615) : (sh n).length≤10:=sh_len 9 n (by omega)
def ShortJ (n : Nat) (w : World) (a' : Act) (w' : World) : Prop :=
 Below w.heap.size w w'∧∃ (m k : Nat) (acc : List UInt8) (v u4 u5 u6 u7 u8 u9 u10 u11 u12 u13 u14 u15 u16 u17 u18 u19 u20 u1 u2 : Value),a'={ tmps:=#[.int .u64 m,u1,u2,v,u4,u5,u6,u7,u8,u9,u10,u11,u12,u13,u14,u15,u16,u17,u18,u19,u20],defers:=[] }∧m≤n∧acc++sh m=sh n∧w'.ownsRow w.heap.size 5 1 v k (bcells acc)
theorem bit7 (m : Nat) (h : m≤18446744073709551615) : bits BinOp.and IntKind.u64 (m : Int) 127=((m % 128 : Nat) : Int):=by
 have:=u64_and_nat m 127 (by omega) (by omega)
 rw [nat_mask7] at this
 exact this
theorem short_any (n : Nat) (hn : n≤18446744073709551615) (w : World) :
  Calls Tryz.prog 94 #[.int .u64 n] w fun e w' => e=.returned (.string (str (sh n)))∧Below w.heap.size w w':=by
 have HN:=Lib.hid hn
 clear hn
 go_enter Tryz.func94,Tryz.ntmps94
 go_wp2
 refine wp_scope_jumps 0 (ShortJ n w) (fun a' _ => (intOf (a'.tmps.getD 0 undef)).toNat) rfl ?_ ?_
 ·have hown:=World.ownsRow_nil w w.heap.size 5 1
  have hbit:=bit7 n HN.out
  obtain ⟨r,hr⟩ : ∃ r,r=n % 128:=⟨_,rfl⟩
  rw [← hr] at hbit
  have hr2 : r≤127:=by omega
  have HR:=Lib.hid hr
  clear hr
  by_cases hm : 127 < n
  ·go_wp2
   go_step3
   go_wp2_with (first
    | (at_builtin; go_must (refine wpList_append_byte w rfl (.tmp 6) (.tmp 11) rfl w.heap.size (.slice none 0 0) 0 [] rfl hown _ (r+128) (by omega) (by omega) rfl (by omega) (by omega) ?_); intro v1 w1 hown1 hb1))
   go_step3
   refine ⟨rfl,hb1,n / 128,0+1,_,v1,_,_,_,_,_,_,_,_,_,_,_,_,_,_,_,_,_,_,_,rfl,?_,?_,hown1⟩
   ·omega
   ·rw [sh_more n hm,HR.out]; rfl
  ·go_wp2
   go_step3
   go_wp2_with (first
    | (at_builtin; go_must (refine wpList_append_byte w rfl (.tmp 15) (.tmp 18) rfl w.heap.size (.slice none 0 0) 0 [] rfl hown _ n (by omega) (by omega) rfl (by omega) (by omega) ?_); intro v1 w1 hown1 hb1; have hcv:=own_string hown1))
   simp only [Exit.jump]
   go_ret
   refine ⟨?_,hb1⟩
   rw [sh_last n hm]; rfl
 ·rintro a' w' ⟨hb,m,k,acc,v,u4,u5,u6,u7,u8,u9,u10,u11,u12,u13,u14,u15,u16,u17,u18,u19,u20,u1,u2,rfl,hmn,hacc,hown⟩
  have hk : k≤9:=by
   have h1:=congrArg List.length hacc
   have h2:=sh_pos m
   have h3:=sh_ten n HN.out
   have h4:=hown.1
   simp [bcells] at h1 h4
   omega
  have hbs:=hb.size
  have hbit:=bit7 m (by have:=HN.out; omega)
  obtain ⟨r,hr⟩ : ∃ r,r=m % 128:=⟨_,rfl⟩
  rw [← hr] at hbit
  have hr2 : r≤127:=by omega
  have HR:=Lib.hid hr
  have HA:=Lib.hid hacc
  have HM:=Lib.hid hmn
  clear hmn hacc hr
  by_cases hm : 127 < m
  ·go_wp2_with (first
    | (at_builtin; go_must (refine wpList_append_byte w' rfl (.tmp 6) (.tmp 11) rfl w.heap.size v k acc rfl hown _ (r+128) (by omega) (by omega) rfl (by omega) (by omega) ?_); intro v1 w1 hown1 hb1))
   go_step3
   refine ⟨rfl,⟨hb.trans hb1,m / 128,k+1,_,v1,_,_,_,_,_,_,_,_,_,_,_,_,_,_,_,_,_,_,_,rfl,?_,?_,hown1⟩,?_⟩
   ·have:=HM.out; omega
   ·rw [← HA.out,sh_more m hm,HR.out]; simp
   ·simp [intOf]; omega
  ·go_wp2_with (first
    | (at_builtin; go_must (refine wpList_append_byte w' rfl (.tmp 15) (.tmp 18) rfl w.heap.size v k acc rfl hown _ m (by omega) (by omega) rfl (by omega) (by omega) ?_); intro v1 w1 hown1 hb1; have hcv:=own_string hown1))
   simp only [Exit.jump]
   go_ret
   refine ⟨?_,hb.trans hb1⟩
   rw [← HA.out,sh_last m hm]; rfl
end Go.Proofs.YtjfjliobencppaaGreatDoor

set_option maxRecDepth 1000000
namespace Go.Proofs.YtjfjliobencppaaGreatDoor
open Go.RowKit
def be (n : Nat) : Nat→List UInt8
 | 0 => []
 | k+1 => UInt8.ofNat (n / 256 ^ k)::be n k
theorem be_length (n k : Nat) : (be n k).length=k:=by induction k with
 | zero => rfl
 | succ k ih => simp [be,ih]
theorem byte_at (n k : Nat) : (n : Int) / 2 ^ (8 * k) % 256=((UInt8.ofNat (n / 256 ^ k)).toNat : Int):=by
 have e : (2 : Int) ^ (8 * k)=((256 ^ k : Nat) : Int):=by
  rw [Int.pow_mul]; simp
 rw [e]
 simp
theorem put_step {wr : World} {B g s k t n : Nat} (hk : k < s) (ht : t=s - 1 - k)
  (h : wr.ownsRow B 5 1 (.slice (some ⟨g,0,none⟩) s s) s (bcells (List.replicate (s - k) 0++be n k))) :
  (wr.setCell ⟨g,t,none⟩ (.int .u8 ((n : Int) / 2 ^ (8 * k) % 256))).ownsRow B 5 1 (.slice (some ⟨g,0,none⟩) s s) s (bcells (List.replicate (s - (k+1)) 0++be n (k+1))):=by
 have h1:=(h.stored t (.int .u8 ((n : Int) / 2 ^ (8 * k) % 256))).1
 have e : (bcells (List.replicate (s - k) 0++be n k)).set t (.int .u8 ((n : Int) / 2 ^ (8 * k) % 256))=bcells (List.replicate (s - (k+1)) 0++be n (k+1)):=by
  rw [byte_at]
  have e2 : s - k=(s - (k+1))+1:=by omega
  have e3 : t=(s - (k+1)):=by omega
  rw [e2,e3,List.replicate_succ',bcells,bcells,be]
  simp [List.map_append]
 rw [e] at h1
 exact h1
def clip (size : Int) : Nat:=(min (max size 0) 8).toNat
theorem put_any (n : Nat) (size : Int) (hn : n≤18446744073709551615) (w : World) :
  Calls Tryz.prog 93 #[.int .u64 n,.int .i64 size] w fun e w' => e=.returned (.string (str (be n (clip size))))∧Below w.heap.size w w':=by
 have HN:=Lib.hid hn
 clear hn
 obtain ⟨s,hs⟩ : ∃ s,s=clip size:=⟨_,rfl⟩
 have hs8 : s≤8:=by rw [hs]; unfold clip; omega
 have hm : min (max size 0) 8=(s : Int):=by rw [hs]; unfold clip; omega
 have HS:=Lib.hid hs
 clear hs
 obtain ⟨i0,hi,hz0,hz1,hz2⟩:=info_parts Tryz.info5
 go_enter Tryz.func93,Tryz.ntmps93
 go_upto_region 1 with (fail)
 go_cut [1] from 7 (fun s1 w1 => s1=.int .i64 (s : Int)∧w=w1)
 case first =>
  go_wp2_with fail
  all_goals (go_meet; case rel => exact ⟨by first | (congr 1; done) | (congr 1; omega),rfl⟩)
 case rest =>
  obtain ⟨rfl,rfl⟩:=hcut
  clear hm
  go_wp2_with (first | (at_make; refine wpList_make_full w rfl (.tmp 10) (.tmp 10) 113 rfl w.heap.size 5 i0 (.int .u8 0) 1 Tryz.underlying113 hi hz0 hz1 .i64 .i64 s s s rfl rfl rfl rfl (by rw [hz2]; omega) (by unfold maxLen; omega) (Nat.le_refl _) ?_; intro w1 hown hgr))
  have hb0 : Below w.heap.size w w1:=(Below.refl _ _).grown hgr (Nat.le_refl _) (by simp)
  have hown0 : w1.ownsRow w.heap.size 5 1 (Value.slice (some ⟨w.heap.size,0,none⟩) s s) s (bcells (List.replicate (s - 0) 0++be n 0)):=by
   have e : (madeCells (Value.int IntKind.u8 0).cells (s * 1)).toList=bcells (List.replicate (s - 0) 0++be n 0):=by
    rw [Nat.mul_one]
    simp [bcells,be,Value.cells,toList_madeCells_one]
   rw [e] at hown
   exact hown
  have HB0:=Lib.hid hb0
  have HO0:=Lib.hid hown0
  clear hb0 hown0 hown hgr hi hz0 hz1 hz2
  go_loopw [13] (fun i wr => ∃ k : Nat,k≤s∧i=.int .i64 k∧wr.ownsRow w.heap.size 5 1 (Value.slice (some ⟨w.heap.size,0,none⟩) s s) s (bcells (List.replicate (s - k) 0++be n k))∧Below w.heap.size w wr) (fun i _ => s - (intOf i).toNat)
  case atStart => exact ⟨0,Nat.zero_le _,rfl,HO0.out,HB0.out⟩
  case round =>
   obtain ⟨k,hk,rfl,hown,hb⟩:=hrel
   by_cases hlt : k < s
   ·obtain ⟨t,ht⟩ : ∃ t,t=s - 1 - k:=⟨_,rfl⟩
    have e1 : (s : Int) - 1 - k=(t : Int):=by omega
    have hts : t < s:=by omega
    have hz:=hown.frozenAt t
    have hc : wr.cell? ⟨w.heap.size,t,none⟩=some (.int .u8 0):=by
     rw [hown.cellAt t (by omega)]
     rw [bcells,List.getElem?_map,List.getElem?_append_left (by simp; omega),List.getElem?_replicate,if_pos (by omega)]
     rfl
    have hst:=put_step hlt ht hown
    have hsb:=hb.setCell (p:=⟨w.heap.size,t,none⟩) (Nat.le_refl _) (.int .u8 ((n : Int) / 2 ^ (8 * k) % 256))
    have HST:=Lib.hid hst
    have HSB:=Lib.hid hsb
    clear hst hsb ht hk hown hb
    go_wp2
    go_roundw
    case rel => exact ⟨k+1,by omega,by go_num,HST.out,HSB.out⟩
    case measure => simp [intOf]; omega
   ·have hcv:=own_string hown
    have HO:=Lib.hid hown
    clear hown
    go_wp2
    go_ret
    refine ⟨?_,hb⟩
    have e : k=s:=by omega
    subst e
    rw [← HS.out]
    simp
end Go.Proofs.YtjfjliobencppaaGreatDoor

namespace Go.Proofs.YtjfjliobencppaaGreatDoor
open Go.RowKit
theorem run_one_byte (W : World) (c : Int) (n : Nat) (hc : c=(n : Int)) (hn : n < 256) :
  (convert 113 9 (.slice (some ⟨W.heap.size,0,none⟩) 1 1)).run Tryz.prog (W.alloc (.cells #[.int .u8 c] 5))=.ok (.string (str [UInt8.ofNat n])) (W.alloc (.cells #[.int .u8 c] 5)):=by
 subst hc
 refine run_convert_bytes_back (P:=Tryz.prog) (W.alloc (.cells #[.int .u8 (n : Int)] 5)) 113 9 5 ⟨W.heap.size,0,none⟩ 1 [UInt8.ofNat n] Tryz.underlying113 Tryz.underlying5 Tryz.underlying9 ?_
 intro j hj
 match j,hj with
 | 0,_ => simp [Addr.add,Nat.mod_eq_of_lt hn]
theorem str_append (a b : List UInt8) : str a++str b=str (a++b):=by
 apply ByteArray.ext
 simp [str]
theorem size_str (a : List UInt8) : (str a).size=a.length:=by simp [str,ByteArray.size]
theorem run_str_add (a b : List UInt8) (h : a.length+b.length≤1000000000) (W : World) : (Op.stringOp .add (str a) (str b)).run Tryz.prog W=.ok (.string (str (a++b))) W:=by
 rw [run_string_add_sum W (str a) (str b) (by rw [size_str,size_str]; omega),str_append]
end Go.Proofs.YtjfjliobencppaaGreatDoor

namespace Go.Proofs.YtjfjliobencppaaGreatDoor
open Go.RowKit
def LongJ (n : Nat) (rest : List UInt8) (s : ByteArray) (w : World) (a' : Act) (w' : World) : Prop :=
 w'=w∧∃ (j m acc : Nat) (u1 u2 u3 u4 u7 u8 u9 u10 u11 u12 u13 u14 u15 u16 u17 u18 u19 u20 u21 u22 u23 u24 u25 u26 u27 u28 u29 u30 u31 u32 u33 u34 u35 u36 u37 u38 u39 u40 u41 u42 : Value),
  a'={ tmps:=#[.string s,u1,u2,u3,u4,.int .u64 acc,.int .i64 j,u7,u8,u9,u10,u11,u12,u13,u14,u15,u16,u17,u18,u19,u20,u21,u22,u23,u24,u25,u26,u27,u28,u29,u30,u31,u32,u33,u34,u35,u36,u37,u38,u39,u40,u41,u42],defers:=[] } ∧
  1≤j∧1≤m∧n=acc+128 ^ j * m∧acc < 128 ^ j∧s.data.toList.drop j=sh m++rest∧j+(sh m).length=(sh n).length
theorem pow7 (j : Nat) : (2 : Nat) ^ (7 * j)=128 ^ j:=by rw [Nat.pow_mul]
theorem long_step (n j m acc r : Nat) (hn : n≤18446744073709551615) (hnm : n=acc+128 ^ j * m) (hacc : acc < 128 ^ j) (hr : r=m % 128) :
  IntKind.u64.wrap ((r : Int) * 2 ^ (7 * j))=((128 ^ j * r : Nat) : Int)∧bits BinOp.or IntKind.u64 (acc : Int) ((128 ^ j * r : Nat) : Int)=((acc+128 ^ j * r : Nat) : Int):=by
 have h1 : 128 ^ j * r≤128 ^ j * m:=Nat.mul_le_mul_left _ (by omega)
 have e : ((r : Int) * 2 ^ (7 * j))=((128 ^ j * r : Nat) : Int):=by
  have h2 : (2 : Int) ^ (7 * j)=((2 ^ (7 * j) : Nat) : Int):=by simp
  rw [h2,pow7,Nat.mul_comm]; simp
 rw [e]
 generalize hx : 128 ^ j * r=x at *
 refine ⟨IntWalk.u64_in _ (by omega),?_⟩
 rw [u64_or_nat acc x (by omega) (by omega),Nat.or_comm,nat_join (7 * j) x acc (by rw [pow7,← hx]; exact Nat.mul_mod_right _ _) (by rw [pow7]; exact hacc)]
 congr 1; omega
theorem mask_byte (c : Nat) (h : c < 256) : bits BinOp.and IntKind.u8 (c : Int) 127=((c % 128 : Nat) : Int):=by
 have:=u8_and_nat c 127 (by omega) (by omega)
 rw [nat_mask7] at this
 exact this
end Go.Proofs.YtjfjliobencppaaGreatDoor
