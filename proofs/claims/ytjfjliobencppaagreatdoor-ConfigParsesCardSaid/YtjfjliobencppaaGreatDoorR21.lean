/- label.Name and its answer by definition.; Slices of strings: how they read, and append; a text cut by a byte.; The plain words of layer 1, bytes of numbers, and what the call's own bytes give as a string.; Walk of word.Short.; Walk of word.Put.; Plain facts on decimal digits: no program.; Walks of awake, the document's Digits. -/
import Derived.Test.YtjfjliobencppaaGreatDoorR20
import Derived.Test.YtjfjliobencppaaGreatDoorRows
import Derived.WalkKit
import Derived.WalkLawsBesides
import Derived.Outline
import Derived.Laws.IdiomStrings
import Derived.Lib.Hide
import Derived.WalkSpells
import Derived.Deep.DeepCutAuto
import Derived.Deep.CutBlock
import Derived.Deep.QuietTactic
import Derived.BigQuiet
import Derived.Deep.RegionHeld3
import Derived.Deep.LoopGhost
import Derived.StillTailTactics
import Derived.Deep.RegionWith
import Derived.Deep.DeepFit
import Derived.Deep.Light
import Derived.Deep.RegionLaw
import Derived.Laws.Externs
import Derived.Lib.ParseIntB
import Derived.Lib.ItoaNum
import Derived.Lib.Strings
set_option linter.unusedVariables false
set_option linter.unusedSimpArgs false
namespace Go.Proofs.YtjfjliobencppaaGreatDoor.Sp
open Go.RowKit
def NameAt (j : Nat) (c : UInt8) : Prop:=letterB c=true∨(0 < j∧plainB [45,95] c=true)
theorem getD_at (s : ByteArray) (k : Nat) (h : k < s.size) : s.data.toList.getD k 0=s[k]:=by
 have h2 : k < s.data.toList.length:=by rw [← Lib.size_eq]; exact h
 rw [List.getD_eq_getElem?_getD,List.getElem?_eq_getElem h2]; rfl
theorem neq_int {n m : Nat} (h : n≠m) : ((n : Int) == (m : Int))=false:=by rw [beq_eq_false_iff_ne]; omega
def Apart (n : Nat) : Prop:=((n : Int) == 45)=false∧((n : Int) == 95)=false∧((n : Int) == 47)=false
end Go.Proofs.YtjfjliobencppaaGreatDoor.Sp

namespace Go.Proofs.YtjfjliobencppaaGreatDoor.Sp
open Go.RowKit
def str (l : List UInt8) : ByteArray:=⟨l.toArray⟩
theorem str_data (l : List UInt8) : (str l).data.toList=l:=rfl
theorem str_of (s : ByteArray) : str s.data.toList=s:=Lib.mk_data s
theorem str_size (l : List UInt8) : (str l).size=l.length:=Lib.size_eq (str l)
theorem str_inj {a b : List UInt8} (h : str a=str b) : a=b:=by rw [← str_data a,h,str_data]
def scells (l : List (List UInt8)) : List Value:=l.map fun p => .string (str p)
def Reads (w : World) (v : Value) (l : List (List UInt8)) : Prop :=
 ∃ a c,v=.slice a l.length c∧l.length≤c∧l.length≤4294967296∧(0 < l.length→∃ b o,a=some ⟨b,o,none⟩∧b < w.heap.size∧∀ j,j < l.length→w.cell? ⟨b,o+j,none⟩=some (.string (str (l.getD j []))))
theorem own_later {B : Nat} {e : TypeId} {k : Nat} {v : Value} {n : Nat} {xs : List Value} {w w' : World} (h : w.ownsRow B e k v n xs) (hb : Below w.heap.size w w') : w'.ownsRow B e k v n xs :=
 h.kept (row:=none) ⟨hb.os,hb.tape,hb.output,hb.size,fun j hj _ => hb.block j hj⟩ (by cases hv : v.ownBlock <;> simp)
def Gives (w : World) (l : List (List UInt8)) (e : Ending) (w' : World) : Prop:=∃ v,e=.returned v∧Reads w' v l∧Below w.heap.size w w'
def CutJ (c : UInt8) (l : List UInt8) (k a : Nat) (acc : List (List UInt8)) : Prop :=
 acc.length≤k∧(k≤l.length→a≤k∧acc++cut c (l.drop a)=cut c l∧∀ j,a≤j→j < k→l.getD j 0≠c)∧(l.length < k→acc=cut c l)
end Go.Proofs.YtjfjliobencppaaGreatDoor.Sp

namespace Go.Proofs.YtjfjliobencppaaGreatDoor.Sp.W
open Go.RowKit
def bcells (l : List UInt8) : List Value:=l.map fun c => .int .u8 (c.toNat : Int)
def str (l : List UInt8) : ByteArray:=⟨l.toArray⟩
def sh (n : Nat) : List UInt8:=if h : 127 < n then UInt8.ofNat (n % 128+128)::sh (n / 128) else [UInt8.ofNat n]
termination_by n
decreasing_by omega
theorem Tryz.info5 : (Tryz.prog.info? 5).map (fun i => (i.zero,i.size,i.bytes))=some (some (.int .u8 0),1,1):=by kernel_rfl
theorem own_string {w : World} {B n : Nat} {v : Value} {l : List UInt8} (h : w.ownsRow B 5 1 v n (bcells l)) :
  (convert 113 9 v).run Tryz.prog w=.ok (.string (str l)) w:=by
 have hlen : l.length=n:=by have:=h.1; simpa [bcells] using this
 rcases h.2 with ⟨rfl,hn⟩ | ⟨g,cap,cur,rfl,_⟩
 ·have hl : l=[]:=List.eq_nil_of_length_eq_zero (by omega)
  subst hl
  rw [run_convert_bytes_string w 113 9 5 none 0 0 Tryz.underlying113 Tryz.underlying5 Tryz.underlying9]; rfl
 ·have h2:=run_convert_bytes_back (P:=Tryz.prog) w 113 9 5 ⟨g,0,none⟩ cap l Tryz.underlying113 Tryz.underlying5 Tryz.underlying9 (fun j hj => by
   have:=h.cells (g:=g) rfl j (.int .u8 (l[j].toNat : Int)) (by simp [bcells,hj])
   exact this)
  rw [hlen] at h2
  exact h2
theorem bcells_snoc (l : List UInt8) (n : Nat) (h : n < 256) : bcells l++[.int .u8 (n : Int)]=bcells (l++[UInt8.ofNat n]):=by
 simp [bcells,Nat.mod_eq_of_lt h]
theorem wpList_append_byte (W : World) {ops : Array Oper} {rest : List Oper} {o : Oper} {a : Act} {Q : Exit→Act→World→Prop} (hgd : o.guard=none) (s x : Operand)
  (ho : o.op=.call { callee:=.builtin .append,args:=#[s,x],argTypes:=#[113,113] })
  (B : Nat) (v : Value) (k : Nat) (l : List UInt8) (hs : a.eval s=v) (hown : W.ownsRow B 5 1 v k (bcells l))
  (c : Int) (n : Nat) (hc : c=(n : Int)) (hn : n < 256) (hx : a.eval x=.slice (some ⟨W.heap.size,0,none⟩) 1 1)
  (hk : k+1≤140737488355328) (hB : B≤W.heap.size)
  (h : ∀ v' w',w'.ownsRow B 5 1 v' (k+1) (bcells (l++[UInt8.ofNat n]))→Below B W w'→wpList Tryz.prog ops Q rest (a.put o.dst v') w') :
  wpList Tryz.prog ops Q (o::rest) a (W.alloc (.cells #[.int .u8 c] 5)):=by
 subst hc
 obtain ⟨i0,hi,hz0,hz1,hz2⟩:=info_parts Tryz.info5
 refine wpList_append_own _ hgd s x 113 ho B 5 i0 (.int .u8 0) 1 1 Tryz.underlying113 hi hz0 hz1 hz2 rfl (by decide) v k (bcells l) hs (hown.alloc _) ⟨W.heap.size,0,none⟩ 1 1 [.int .u8 (n : Int)] hx rfl ?_ ?_ ?_ ?_ ?_ ?_
 ·intro j u hj
  match j,hj with
  | 0,hj => simp at hj; subst hj; simp [Addr.add]
 ·intro u hu; simp at hu; subst hu; rfl
 ·unfold maxLen; omega
 ·omega
 ·simp; omega
 ·intro v' w' h1 h2 _
  rw [bcells_snoc l n hn] at h1
  refine h v' w' h1 ?_
  refine (((Below.refl B W).alloc hB _).grown h2 (by simp; omega) ?_)
  intro g hg
  exact (hown.lt g hg).1
end Go.Proofs.YtjfjliobencppaaGreatDoor.Sp.W

set_option maxRecDepth 1000000
namespace Go.Proofs.YtjfjliobencppaaGreatDoor.Sp.W
open Go.RowKit
theorem sh_more (m : Nat) (h : 127 < m) : sh m=UInt8.ofNat (m % 128+128)::sh (m / 128):=by rw [sh,dif_pos h]
theorem sh_last (m : Nat) (h : ¬ 127 < m) : sh m=[UInt8.ofNat m]:=by rw [sh,dif_neg h]
theorem sh_pos (m : Nat) : 1≤(sh m).length:=by rw [sh]; split <;> simp
theorem sh_len (k : Nat) : ∀ m,m < 128 ^ (k+1)→(sh m).length≤k+1:=by
 induction k with
 | zero => intro m hm; rw [sh_last m (by omega)]; simp
 | succ k ih =>
  intro m hm
  by_cases h : 127 < m
  ·rw [sh_more m h]
   have:=ih (m / 128) (by rw [Nat.pow_succ] at hm; omega)
   simp; omega
  ·rw [sh_last m h]; simp
theorem sh_ten (n : Nat) (hn : n≤18446744073709551615) : (sh n).length≤10:=sh_len 9 n (by omega)
def ShortJ (n : Nat) (w : World) (a' : Act) (w' : World) : Prop :=
 Below w.heap.size w w'∧∃ (m k : Nat) (acc : List UInt8) (v u4 u5 u6 u7 u8 u9 u10 u11 u12 u13 u14 u15 u16 u17 u18 u19 u20 u1 u2 : Value),a'={ tmps:=#[.int .u64 m,u1,u2,v,u4,u5,u6,u7,u8,u9,u10,u11,u12,u13,u14,u15,u16,u17,u18,u19,u20],defers:=[] }∧m≤n∧acc++sh m=sh n∧w'.ownsRow w.heap.size 5 1 v k (bcells acc)
theorem bit7 (m : Nat) (h : m≤18446744073709551615) : bits BinOp.and IntKind.u64 (m : Int) 127=((m % 128 : Nat) : Int):=by
 have:=u64_and_nat m 127 (by omega) (by omega)
 rw [nat_mask7] at this
 exact this
theorem short_any (n : Nat) (hn : n≤18446744073709551615) (w : World) :
  Calls Tryz.prog 94 #[.int .u64 n] w fun e w' => e=.returned (.string (str (sh n)))∧Below w.heap.size w w':=by
 have HN:=Lib.hid hn
 clear hn
 go_enter Tryz.func94,Tryz.ntmps94
 go_wp2
 refine wp_scope_jumps 0 (ShortJ n w) (fun a' _ => (intOf (a'.tmps.getD 0 undef)).toNat) rfl ?_ ?_
 ·have hown:=World.ownsRow_nil w w.heap.size 5 1
  have hbit:=bit7 n HN.out
  obtain ⟨r,hr⟩ : ∃ r,r=n % 128:=⟨_,rfl⟩
  rw [← hr] at hbit
  have hr2 : r≤127:=by omega
  have HR:=Lib.hid hr
  clear hr
  by_cases hm : 127 < n
  ·go_wp2
   go_step3
   go_wp2_with (first
    | (at_builtin; go_must (refine wpList_append_byte w rfl (.tmp 6) (.tmp 11) rfl w.heap.size (.slice none 0 0) 0 [] rfl hown _ (r+128) (by omega) (by omega) rfl (by omega) (by omega) ?_); intro v1 w1 hown1 hb1))
   go_step3
   refine ⟨rfl,hb1,n / 128,0+1,_,v1,_,_,_,_,_,_,_,_,_,_,_,_,_,_,_,_,_,_,_,rfl,?_,?_,hown1⟩
   ·omega
   ·rw [sh_more n hm,HR.out]; rfl
  ·go_wp2
   go_step3
   go_wp2_with (first
    | (at_builtin; go_must (refine wpList_append_byte w rfl (.tmp 15) (.tmp 18) rfl w.heap.size (.slice none 0 0) 0 [] rfl hown _ n (by omega) (by omega) rfl (by omega) (by omega) ?_); intro v1 w1 hown1 hb1; have hcv:=own_string hown1))
   simp only [Exit.jump]
   go_ret
   refine ⟨?_,hb1⟩
   rw [sh_last n hm]; rfl
 ·rintro a' w' ⟨hb,m,k,acc,v,u4,u5,u6,u7,u8,u9,u10,u11,u12,u13,u14,u15,u16,u17,u18,u19,u20,u1,u2,rfl,hmn,hacc,hown⟩
  have hk : k≤9:=by
   have h1:=congrArg List.length hacc
   have h2:=sh_pos m
   have h3:=sh_ten n HN.out
   have h4:=hown.1
   simp [bcells] at h1 h4
   omega
  have hbs:=hb.size
  have hbit:=bit7 m (by have:=HN.out; omega)
  obtain ⟨r,hr⟩ : ∃ r,r=m % 128:=⟨_,rfl⟩
  rw [← hr] at hbit
  have hr2 : r≤127:=by omega
  have HR:=Lib.hid hr
  have HA:=Lib.hid hacc
  have HM:=Lib.hid hmn
  clear hmn hacc hr
  by_cases hm : 127 < m
  ·go_wp2_with (first
    | (at_builtin; go_must (refine wpList_append_byte w' rfl (.tmp 6) (.tmp 11) rfl w.heap.size v k acc rfl hown _ (r+128) (by omega) (by omega) rfl (by omega) (by omega) ?_); intro v1 w1 hown1 hb1))
   go_step3
   refine ⟨rfl,⟨hb.trans hb1,m / 128,k+1,_,v1,_,_,_,_,_,_,_,_,_,_,_,_,_,_,_,_,_,_,_,rfl,?_,?_,hown1⟩,?_⟩
   ·have:=HM.out; omega
   ·rw [← HA.out,sh_more m hm,HR.out]; simp
   ·simp [intOf]; omega
  ·go_wp2_with (first
    | (at_builtin; go_must (refine wpList_append_byte w' rfl (.tmp 15) (.tmp 18) rfl w.heap.size v k acc rfl hown _ m (by omega) (by omega) rfl (by omega) (by omega) ?_); intro v1 w1 hown1 hb1; have hcv:=own_string hown1))
   simp only [Exit.jump]
   go_ret
   refine ⟨?_,hb.trans hb1⟩
   rw [← HA.out,sh_last m hm]; rfl
end Go.Proofs.YtjfjliobencppaaGreatDoor.Sp.W

set_option maxRecDepth 1000000
namespace Go.Proofs.YtjfjliobencppaaGreatDoor.Sp.W
open Go.RowKit
def be (n : Nat) : Nat→List UInt8
 | 0 => []
 | k+1 => UInt8.ofNat (n / 256 ^ k)::be n k
theorem be_length (n k : Nat) : (be n k).length=k:=by induction k with
 | zero => rfl
 | succ k ih => simp [be,ih]
theorem byte_at (n k : Nat) : (n : Int) / 2 ^ (8 * k) % 256=((UInt8.ofNat (n / 256 ^ k)).toNat : Int):=by
 have e : (2 : Int) ^ (8 * k)=((256 ^ k : Nat) : Int):=by
  rw [Int.pow_mul]; simp
 rw [e]
 simp
theorem put_step {wr : World} {B g s k t n : Nat} (hk : k < s) (ht : t=s - 1 - k)
  (h : wr.ownsRow B 5 1 (.slice (some ⟨g,0,none⟩) s s) s (bcells (List.replicate (s - k) 0++be n k))) :
  (wr.setCell ⟨g,t,none⟩ (.int .u8 ((n : Int) / 2 ^ (8 * k) % 256))).ownsRow B 5 1 (.slice (some ⟨g,0,none⟩) s s) s (bcells (List.replicate (s - (k+1)) 0++be n (k+1))):=by
 have h1:=(h.stored t (.int .u8 ((n : Int) / 2 ^ (8 * k) % 256))).1
 have e : (bcells (List.replicate (s - k) 0++be n k)).set t (.int .u8 ((n : Int) / 2 ^ (8 * k) % 256))=bcells (List.replicate (s - (k+1)) 0++be n (k+1)):=by
  rw [byte_at]
  have e2 : s - k=(s - (k+1))+1:=by omega
  have e3 : t=(s - (k+1)):=by omega
  rw [e2,e3,List.replicate_succ',bcells,bcells,be]
  simp [List.map_append]
 rw [e] at h1
 exact h1
def clip (size : Int) : Nat:=(min (max size 0) 8).toNat
theorem put_any (n : Nat) (size : Int) (hn : n≤18446744073709551615) (w : World) :
  Calls Tryz.prog 93 #[.int .u64 n,.int .i64 size] w fun e w' => e=.returned (.string (str (be n (clip size))))∧Below w.heap.size w w':=by
 have HN:=Lib.hid hn
 clear hn
 obtain ⟨s,hs⟩ : ∃ s,s=clip size:=⟨_,rfl⟩
 have hs8 : s≤8:=by rw [hs]; unfold clip; omega
 have hm : min (max size 0) 8=(s : Int):=by rw [hs]; unfold clip; omega
 have HS:=Lib.hid hs
 clear hs
 obtain ⟨i0,hi,hz0,hz1,hz2⟩:=info_parts Tryz.info5
 go_enter Tryz.func93,Tryz.ntmps93
 go_upto_region 1 with (fail)
 go_cut [1] from 7 (fun s1 w1 => s1=.int .i64 (s : Int)∧w=w1)
 case first =>
  go_wp2_with fail
  all_goals (go_meet; case rel => exact ⟨by first | (congr 1; done) | (congr 1; omega),rfl⟩)
 case rest =>
  obtain ⟨rfl,rfl⟩:=hcut
  clear hm
  go_wp2_with (first | (at_make; refine wpList_make_full w rfl (.tmp 10) (.tmp 10) 113 rfl w.heap.size 5 i0 (.int .u8 0) 1 Tryz.underlying113 hi hz0 hz1 .i64 .i64 s s s rfl rfl rfl rfl (by rw [hz2]; omega) (by unfold maxLen; omega) (Nat.le_refl _) ?_; intro w1 hown hgr))
  have hb0 : Below w.heap.size w w1:=(Below.refl _ _).grown hgr (Nat.le_refl _) (by simp)
  have hown0 : w1.ownsRow w.heap.size 5 1 (Value.slice (some ⟨w.heap.size,0,none⟩) s s) s (bcells (List.replicate (s - 0) 0++be n 0)):=by
   have e : (madeCells (Value.int IntKind.u8 0).cells (s * 1)).toList=bcells (List.replicate (s - 0) 0++be n 0):=by
    rw [Nat.mul_one]
    simp [bcells,be,Value.cells,toList_madeCells_one]
   rw [e] at hown
   exact hown
  have HB0:=Lib.hid hb0
  have HO0:=Lib.hid hown0
  clear hb0 hown0 hown hgr hi hz0 hz1 hz2
  go_loopw [13] (fun i wr => ∃ k : Nat,k≤s∧i=.int .i64 k∧wr.ownsRow w.heap.size 5 1 (Value.slice (some ⟨w.heap.size,0,none⟩) s s) s (bcells (List.replicate (s - k) 0++be n k))∧Below w.heap.size w wr) (fun i _ => s - (intOf i).toNat)
  case atStart => exact ⟨0,Nat.zero_le _,rfl,HO0.out,HB0.out⟩
  case round =>
   obtain ⟨k,hk,rfl,hown,hb⟩:=hrel
   by_cases hlt : k < s
   ·obtain ⟨t,ht⟩ : ∃ t,t=s - 1 - k:=⟨_,rfl⟩
    have e1 : (s : Int) - 1 - k=(t : Int):=by omega
    have hts : t < s:=by omega
    have hz:=hown.frozenAt t
    have hc : wr.cell? ⟨w.heap.size,t,none⟩=some (.int .u8 0):=by
     rw [hown.cellAt t (by omega)]
     rw [bcells,List.getElem?_map,List.getElem?_append_left (by simp; omega),List.getElem?_replicate,if_pos (by omega)]
     rfl
    have hst:=put_step hlt ht hown
    have hsb:=hb.setCell (p:=⟨w.heap.size,t,none⟩) (Nat.le_refl _) (.int .u8 ((n : Int) / 2 ^ (8 * k) % 256))
    have HST:=Lib.hid hst
    have HSB:=Lib.hid hsb
    clear hst hsb ht hk hown hb
    go_wp2
    go_roundw
    case rel => exact ⟨k+1,by omega,by go_num,HST.out,HSB.out⟩
    case measure => simp [intOf]; omega
   ·have hcv:=own_string hown
    have HO:=Lib.hid hown
    clear hown
    go_wp2
    go_ret
    refine ⟨?_,hb⟩
    have e : k=s:=by omega
    subst e
    rw [← HS.out]
    simp
end Go.Proofs.YtjfjliobencppaaGreatDoor.Sp.W

namespace Go.Proofs.YtjfjliobencppaaGreatDoor.Sp.W
open Go
def val (l : List UInt8) : Nat:=l.foldl (fun n c => n * 10+(c.toNat - 48)) 0
def digit (c : UInt8) : Prop:=48≤c.toNat∧c.toNat≤57
theorem val_snoc (l : List UInt8) (c : UInt8) : val (l++[c])=val l * 10+(c.toNat - 48):=by simp [val]
theorem foldl_ge (l : List UInt8) : ∀ a : Nat,a≤l.foldl (fun n c => n * 10+(c.toNat - 48)) a:=by
 induction l with
 | nil => intro a; exact Nat.le_refl _
 | cons c l ih => intro a; exact Nat.le_trans (by omega) (ih (a * 10+(c.toNat - 48)))
theorem parseM (l : List UInt8) : ∀ acc : Nat,(∀ c ∈ l,digit c)→acc≤18446744073709551615 →
  Lib.parseUintM 18446744073709551615 acc l=if l.foldl (fun n c => n * 10+(c.toNat - 48)) acc≤18446744073709551615 then .ok (l.foldl (fun n c => n * 10+(c.toNat - 48)) acc) else .range:=by
 induction l with
 | nil => intro acc _ ha; simp [Lib.parseUintM,ha]
 | cons c l ih =>
  intro acc hd ha
  have hc:=hd c (by simp)
  unfold digit at hc
  have hge:=foldl_ge l (acc * 10+(c.toNat - 48))
  rw [Lib.parseUintM,if_pos hc,List.foldl_cons]
  by_cases h1 : 1844674407370955162≤acc
  ·rw [if_pos h1,if_neg (by omega)]
  ·rw [if_neg h1]
   by_cases h2 : 18446744073709551615 < acc * 10+(c.toNat - 48)
   ·rw [if_pos h2,if_neg (by omega)]
   ·rw [if_neg h2]
    exact ih _ (fun x hx => hd x (by simp [hx])) (by omega)
theorem parse_ok (l : List UInt8) (hn : l≠[]) (hd : ∀ c ∈ l,digit c) (h : val l≤18446744073709551615) : Lib.parseUintB 64 l=.ok (val l):=by
 unfold Lib.parseUintB
 rw [if_neg hn]
 have:=parseM l 0 hd (by omega)
 rw [show (l.foldl (fun n c => n * 10+(c.toNat - 48)) 0)=val l from rfl,if_pos h] at this
 exact this
theorem parse_range (l : List UInt8) (hn : l≠[]) (hd : ∀ c ∈ l,digit c) (h : ¬ val l≤18446744073709551615) : Lib.parseUintB 64 l=.range:=by
 unfold Lib.parseUintB
 rw [if_neg hn]
 have:=parseM l 0 hd (by omega)
 rw [show (l.foldl (fun n c => n * 10+(c.toNat - 48)) 0)=val l from rfl,if_neg h] at this
 exact this
def good (l : List UInt8) : Prop:=l≠[]∧(∀ c ∈ l,digit c)∧(l.head?=some 48→l.length=1)
theorem toNat48 (d : Nat) (h : d < 10) : (UInt8.ofNat (48+d)).toNat=48+d:=by
 rw [UInt8.toNat_ofNat',Nat.mod_eq_of_lt (by omega)]
theorem dec_small (u : Nat) (h : u < 10) : Lib.decDigits u=[UInt8.ofNat (48+u)]:=by rw [Lib.decDigits,dif_pos h]
theorem dec_big (u : Nat) (h : ¬ u < 10) : Lib.decDigits u=Lib.decDigits (u / 10)++[UInt8.ofNat (48+u % 10)]:=by rw [Lib.decDigits,dif_neg h]
theorem dec_good : ∀ u : Nat,good (Lib.decDigits u)∧val (Lib.decDigits u)=u∧(1≤u→(Lib.decDigits u).head?≠some 48):=by
 intro u
 induction u using Nat.strongRecOn with
 | _ u ih =>
  by_cases h : u < 10
  ·rw [dec_small u h]
   have e:=toNat48 u h
   refine ⟨⟨by simp,?_,by simp⟩,?_,?_⟩
   ·intro c hc
    simp only [List.mem_singleton] at hc
    subst hc
    unfold digit
    omega
   ·show val ([]++[UInt8.ofNat (48+u)])=u
    rw [val_snoc,e]; simp [val]
   ·intro h1 h2
    simp only [List.head?_cons,Option.some.injEq] at h2
    rw [h2] at e
    have : (48 : UInt8).toNat=48:=rfl
    omega
  ·obtain ⟨⟨g1,g2,g3⟩,v,hh⟩:=ih (u / 10) (by omega)
   have hh:=hh (by omega)
   rw [dec_big u h]
   have e:=toNat48 (u % 10) (by omega)
   have hhead : (Lib.decDigits (u / 10)++[UInt8.ofNat (48+u % 10)]).head?=(Lib.decDigits (u / 10)).head?:=by
    cases hl : Lib.decDigits (u / 10) with
    | nil => exact absurd hl g1
    | cons a l => rfl
   refine ⟨⟨by simp,?_,?_⟩,?_,?_⟩
   ·intro c hc
    rw [List.mem_append] at hc
    rcases hc with hc | hc
    ·exact g2 c hc
    ·simp only [List.mem_singleton] at hc
     subst hc
     unfold digit
     omega
   ·intro h48
    rw [hhead] at h48
    exact absurd h48 hh
   ·rw [val_snoc,v,e]; omega
   ·intro _
    rw [hhead]; exact hh
end Go.Proofs.YtjfjliobencppaaGreatDoor.Sp.W

namespace Go.Proofs.YtjfjliobencppaaGreatDoor.Sp.W
open Go.RowKit
theorem toList_str (l : List UInt8) : (str l).toList=l:=ByteArray.toList_mk l
theorem awake_any (w : World) : Calls Tryz.prog 122 #[] w fun e w' => e=.returned (.bool true)∧Below w.heap.size w w':=by
 have h1 : (str (sh 300)).toList=[172,2]:=by
  rw [toList_str,sh_more 300 (by omega),sh_last _ (by omega)]
  rfl
 have h2 : ((str (be 258 (clip 2))).toList == [1,2])=true:=by
  rw [toList_str]
  rfl
 go_enter Tryz.func122,Tryz.ntmps122
 go_wp2_with (first
  | (go_at_call 94; go_must (refine (short_any 300 (by omega) _).mono ?_); rintro e w1 ⟨rfl,hb1⟩)
  | (go_at_call 93; go_must (refine (put_any 258 2 (by omega) _).mono ?_); rintro e w2 ⟨rfl,hb2⟩))
 go_ret
 exact ⟨rfl,hb1.trans (hb2.mono hb1.size)⟩
theorem run_one_byte (W : World) (c : Int) (n : Nat) (hc : c=(n : Int)) (hn : n < 256) :
  (convert 113 9 (.slice (some ⟨W.heap.size,0,none⟩) 1 1)).run Tryz.prog (W.alloc (.cells #[.int .u8 c] 5))=.ok (.string (str [UInt8.ofNat n])) (W.alloc (.cells #[.int .u8 c] 5)):=by
 subst hc
 refine run_convert_bytes_back (P:=Tryz.prog) (W.alloc (.cells #[.int .u8 (n : Int)] 5)) 113 9 5 ⟨W.heap.size,0,none⟩ 1 [UInt8.ofNat n] Tryz.underlying113 Tryz.underlying5 Tryz.underlying9 ?_
 intro j hj
 match j,hj with
 | 0,_ => simp [Addr.add,Nat.mod_eq_of_lt hn]
theorem str_append (a b : List UInt8) : str a++str b=str (a++b):=by
 apply ByteArray.ext
 simp [str]
theorem size_str (a : List UInt8) : (str a).size=a.length:=by simp [str,ByteArray.size]
theorem run_str_add (a b : List UInt8) (h : a.length+b.length≤1000000000) (W : World) : (Op.stringOp .add (str a) (str b)).run Tryz.prog W=.ok (.string (str (a++b))) W:=by
 rw [run_string_add_sum W (str a) (str b) (by rw [size_str,size_str]; omega),str_append]
end Go.Proofs.YtjfjliobencppaaGreatDoor.Sp.W
