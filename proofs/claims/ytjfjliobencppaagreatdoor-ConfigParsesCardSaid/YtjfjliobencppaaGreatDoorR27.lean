/- A place's text.; Texts of places are read; awake.; config: layer 9's awake (over what of Go's library the world holds).; What each of layer 9's cards wants: a world that holds the listed variables of Go's library.; config: own rows of structs; what the document's lists look like in memory.; config: To, plainly; what it builds. -/
import Derived.Test.YtjfjliobencppaaGreatDoorR24
import Derived.Test.YtjfjliobencppaaGreatDoorR26
import Derived.Test.YtjfjliobencppaaGreatDoorR21
import Derived.Test.YtjfjliobencppaaGreatDoorR20
import Derived.Test.YtjfjliobencppaaGreatDoorR07
import Derived.Test.YtjfjliobencppaaGreatDoorCards
import Derived.Test.YtjfjliobencppaaGreatDoorTie
import Derived.ProofKit
import Derived.OpenShut
import Derived.ShutString
import Derived.SizedLaws
import Derived.Deep.DeepHandedRow
import Derived.Deep.DeepWitnessRowRef
import Derived.Lib.LaidTab
import Derived.LaidLaws
import Derived.Shelf.Vars
import Derived.Stop.LaidErr
import Derived.ChangeSame
import Derived.Carry
import Derived.Laws.AppendOwnNone
import Derived.Maps.AppendAt
set_option linter.unusedVariables false
set_option linter.unusedSimpArgs false
set_option maxRecDepth 1000000
set_option maxHeartbeats 4000000
namespace Go.Proofs.YtjfjliobencppaaGreatDoor.Sp
open Go.RowKit
def dg (n : Nat) : List UInt8:=Lib.decDigits n
def joinN (a b c d : Nat) : List UInt8:=dg a++46::(dg b++46::(dg c++46::dg d))
def textN (a b c d p : Nat) : List UInt8:=joinN a b c d++58::dg p
theorem dg_len (u : Nat) (hu : u≤18446744073709551615) : (dg u).length≤20:=by
 unfold dg
 by_cases h0 : u=0
 ·subst h0; rw [W.dec_small 0 (by omega)]; simp
 ·rw [Lib.decDigits_length]
  have:=Lib.numDigits_eq u (by omega) (by omega)
  split at this <;> omega
def xv (a b c d k : Nat) : Nat:=if k=0 then a else if k=1 then b else if k=2 then c else d
theorem ix_ip (a b c d k : Nat) (hk : k < 4) (w : World) : (Instr.index 46 (.agg #[.int .u8 a,.int .u8 b,.int .u8 c,.int .u8 d]) (.int .i64 (k : Int))).run Tryz.prog w=.ok (.int .u8 (xv a b c d k)) w:=by
 rcases (show k=0∨k=1∨k=2∨k=3 by omega) with rfl | rfl | rfl | rfl <;> kernel_rfl
def Arr (g a b c d k : Nat) (w : World) : Prop:=∃ t0 t1 t2 t3 : ByteArray,w.heap[g]?=some (.cells #[.string t0,.string t1,.string t2,.string t3] 186 (0,0)) ∧
 (0 < k→t0=str (dg a))∧(1 < k→t1=str (dg b))∧(2 < k→t2=str (dg c))∧(3 < k→t3=str (dg d))
theorem Arr.later {g a b c d k : Nat} {w w' : World} (h : Arr g a b c d k w) (hb : Below w.heap.size w w') : Arr g a b c d k w':=by
 obtain ⟨t0,t1,t2,t3,h,h1⟩:=h
 exact ⟨t0,t1,t2,t3,(hb.block _ (lt_of_some h)).trans h,h1⟩
theorem Arr.put {g a b c d k : Nat} {w : World} (h : Arr g a b c d k w) (hk : k < 4) : Arr g a b c d (k+1) (w.setCell ⟨g,k,none⟩ (.string (str (dg (xv a b c d k))))):=by
 obtain ⟨t0,t1,t2,t3,h,h0,h1,h2,h3⟩:=h
 have e:=heap_setCell_same w g k _ _ (.string (str (dg (xv a b c d k)))) h
 match k,hk with
 | 0,_ => exact ⟨str (dg a),t1,t2,t3,e,fun _ => rfl,fun h => absurd h (by omega),fun h => absurd h (by omega),fun h => absurd h (by omega)⟩
 | 1,_ => exact ⟨t0,str (dg b),t2,t3,e,fun _ => h0 (by omega),fun _ => rfl,fun h => absurd h (by omega),fun h => absurd h (by omega)⟩
 | 2,_ => exact ⟨t0,t1,str (dg c),t3,e,fun _ => h0 (by omega),fun _ => h1 (by omega),fun _ => rfl,fun h => absurd h (by omega)⟩
 | 3,_ => exact ⟨t0,t1,t2,str (dg d),e,fun _ => h0 (by omega),fun _ => h1 (by omega),fun _ => h2 (by omega),fun _ => rfl⟩
theorem Arr.frozen {g a b c d k : Nat} {w : World} (h : Arr g a b c d k w) (j : Nat) : w.frozen? ⟨g,j,none⟩=false:=by
 obtain ⟨t0,t1,t2,t3,h,_⟩:=h
 exact frozen_of_row w g j _ _ h
theorem Arr.cell {g a b c d k : Nat} {w : World} (h : Arr g a b c d k w) (j : Nat) (hj : j < 4) : ∃ t : ByteArray,w.cell? ⟨g,j,none⟩=some (.string t):=by
 obtain ⟨t0,t1,t2,t3,h,_⟩:=h
 match j,hj with
 | 0,_ => exact ⟨_,cell_of_row w _ 0 _ _ _ h⟩
 | 1,_ => exact ⟨_,cell_of_row w _ 1 _ _ _ h⟩
 | 2,_ => exact ⟨_,cell_of_row w _ 2 _ _ _ h⟩
 | 3,_ => exact ⟨_,cell_of_row w _ 3 _ _ _ h⟩
def TW (a b c d p k : Nat) (w wr : World) : Prop:=Below w.heap.size w wr∧Blk w.heap.size a b c d p wr∧Arr (w.heap.size+1) a b c d k wr
theorem TW.later {a b c d p k : Nat} {w wr w1 : World} (h : TW a b c d p k w wr) (hb : Below wr.heap.size wr w1) : TW a b c d p k w w1 :=
 ⟨h.1.trans (hb.mono h.1.size),(hb.block _ (lt_of_some h.2.1)).trans h.2.1,h.2.2.later hb⟩
theorem TW.put {a b c d p k : Nat} {w wr : World} (h : TW a b c d p k w wr) (hk : k < 4) : TW a b c d p (k+1) w (wr.setCell ⟨w.heap.size+1,k,none⟩ (.string (str (dg (xv a b c d k))))) :=
 ⟨h.1.setCell (by simp) _,(heap_setCell_other wr ⟨w.heap.size+1,k,none⟩ _ _ (by simp)).trans h.2.1,h.2.2.put hk⟩
theorem tw_start (a b c d p : Nat) (w : World) : TW a b c d p 0 w ((w.alloc (.cells #[.int .u8 a,.int .u8 b,.int .u8 c,.int .u8 d,.int .u16 p] 49)).alloc (.cells #[.string { data:=#[] },.string { data:=#[] },.string { data:=#[] },.string { data:=#[] }] 186)):=by
 refine ⟨((Below.refl _ _).alloc (Nat.le_refl _) _).alloc (by simp) _,?_,⟨{ data:=#[] },{ data:=#[] },{ data:=#[] },{ data:=#[] },?_,fun h => absurd h (by omega),fun h => absurd h (by omega),fun h => absurd h (by omega),fun h => absurd h (by omega)⟩⟩
 ·unfold Blk
  rw [Below.heap_alloc _ _ _ (by simp),heap_alloc_new]
 ·have h:=heap_alloc_new (w.alloc (.cells #[.int .u8 a,.int .u8 b,.int .u8 c,.int .u8 d,.int .u16 p] 49)) (.cells #[.string { data:=#[] },.string { data:=#[] },.string { data:=#[] },.string { data:=#[] }] 186)
  rw [show (w.alloc (.cells #[.int .u8 a,.int .u8 b,.int .u8 c,.int .u8 d,.int .u16 p] 49)).heap.size=w.heap.size+1 by simp] at h
  exact h
theorem Lay.tab {w : World} (h : Lay w) : Lib.TabIs Tryz.prog w "internal/strconv.uint64pow10" .u64 Lib.pow10Tab := h.2.1
theorem joins_any (a b c d : Nat) (ha : a < 256) (hb : b < 256) (hc : c < 256) (hd : d < 256) (g : Nat) (w : World) (h : Arr g a b c d 4 w) :
  Calls Tryz.prog 124 #[.slice (some ⟨g,0,none⟩) 4 4,.string ⟨#[46]⟩] w fun e w' => e=.returned (.string (str (joinN a b c d)))∧Below w.heap.size w w':=by
 obtain ⟨t0,t1,t2,t3,h,h0,h1,h2,h3⟩:=h
 obtain rfl:=h0 (by omega)
 obtain rfl:=h1 (by omega)
 obtain rfl:=h2 (by omega)
 obtain rfl:=h3 (by omega)
 have e : Lib.join ([str (dg a),str (dg b),str (dg c),str (dg d)].map (·.data.toList)) [46]=joinN a b c d:=by
  unfold joinN
  simp [Lib.join,str_data]
 have z0:=dg_len a (by omega)
 have z1:=dg_len b (by omega)
 have z2:=dg_len c (by omega)
 have z3:=dg_len d (by omega)
 have hlen : (joinN a b c d).length≤83:=by unfold joinN; simp; omega
 have k:=Tryz.z_strings_Join g 0 4 [str (dg a),str (dg b),str (dg c),str (dg d)] ⟨#[46]⟩ w (by
  intro j x hj
  match j,hj with
  | 0,hj => simp at hj; subst hj; exact cell_of_row w _ 0 _ _ _ h
  | 1,hj => simp at hj; subst hj; exact cell_of_row w _ 1 _ _ _ h
  | 2,hj => simp at hj; subst hj; exact cell_of_row w _ 2 _ _ _ h
  | 3,hj => simp at hj; subst hj; exact cell_of_row w _ 3 _ _ _ h
  | (n+4),hj => simp at hj) (lt_of_some h) (by simp) (by simp) (by rw [e]; omega)
 rw [e] at k
 exact k
theorem text_any (a b c d p : Nat) (ha : a < 256) (hb : b < 256) (hc : c < 256) (hd : d < 256) (hp : p < 65536) (w : World) (hl : Lay w) :
  Calls Tryz.prog 90 #[plc a b c d p] w fun e w' => e=.returned (.string (str (textN a b c d p)))∧Below w.heap.size w w':=by
 have HLAY:=Lib.hid hl
 have HTW:=Lib.hid (tw_start a b c d p w)
 have HX : Hid (∀ k,xv a b c d k < 256):=Lib.hid (fun k => by unfold xv; (repeat' split) <;> assumption)
 have KJ : Hid (∀ w1,TW a b c d p 4 w w1→Calls Tryz.prog 124 #[.slice (some ⟨w.heap.size+1,0,none⟩) 4 4,.string ⟨#[46]⟩] w1 fun e w' => e=.returned (.string (str (joinN a b c d)))∧Below w1.heap.size w1 w'):=Lib.hid (fun w1 h => joins_any a b c d ha hb hc hd (w.heap.size+1) w1 h.2.2)
 have KD : Hid (∀ w1,TW a b c d p 4 w w1→Calls Tryz.prog 123 #[.int .u64 (IntKind.u64.wrap (p : Int))] w1 fun e w' => e=.returned (.string (str (dg p)))∧Below w1.heap.size w1 w'):=Lib.hid (fun w1 h => by
  rw [IntWalk.u64_in _ (by omega)]; exact W.digits_any p (by omega) w1 (HLAY.out.later h.1).tab)
 have hlen : (joinN a b c d).length≤83∧(dg p).length≤20:=by
  have z0:=dg_len a (by omega)
  have z1:=dg_len b (by omega)
  have z2:=dg_len c (by omega)
  have z3:=dg_len d (by omega)
  exact ⟨by unfold joinN; simp; omega,dg_len p (by omega)⟩
 obtain ⟨J,hJ⟩ : ∃ x,str (joinN a b c d)=x:=⟨_,rfl⟩
 obtain ⟨D,hD⟩ : ∃ x,str (dg p)=x:=⟨_,rfl⟩
 obtain ⟨M,hM⟩ : ∃ x,str (joinN a b c d++[58])=x:=⟨_,rfl⟩
 have hadd1 : ∀ w,(Op.stringOp .add J ⟨#[58]⟩).run Tryz.prog w=.ok (.string M) w:=fun w => by
  rw [← hJ,← hM]; exact W.run_str_add _ [58] (by simp; omega) w
 have hadd2 : ∀ w,(Op.stringOp .add M D).run Tryz.prog w=.ok (.string (str (textN a b c d p))) w:=fun w => by
  have h:=W.run_str_add (joinN a b c d++[58]) (dg p) (by simp; omega) w
  rw [← hM,← hD]
  rw [show textN a b c d p=joinN a b c d++[58]++dg p by unfold textN; simp]
  exact h
 rw [hD] at KD
 rw [hJ] at KJ
 clear hl hlen hJ hD hM ha hb hc hd hp
 generalize str (textN a b c d p)=Z at *
 unfold plc
 go_enter Tryz.func90,Tryz.ntmps90
 go_wp2
 go_loopw [8] (fun i wr => ∃ (k : Nat),k≤4∧i=.int .i64 k∧TW a b c d p k w wr) (fun i _ => 4 - (intOf i).toNat)
 case atStart => exact ⟨0,by omega,rfl,HTW.out⟩
 case round =>
  obtain ⟨k,hk,rfl,htw⟩:=hrel
  by_cases hlt : k < 4
  ·have hix:=ix_ip a b c d k hlt
   have hu : (IntKind.u64.wrap ((xv a b c d k : Nat) : Int))=((xv a b c d k : Nat) : Int):=IntWalk.u64_in _ (by have:=HX.out k; omega)
   have K1:=Lib.hid (W.digits_any (xv a b c d k) (by have:=HX.out k; omega) wr (HLAY.out.later htw.1).tab)
   have HT:=Lib.hid htw
   clear htw
   go_wp2_with fail
   refine (K1.out).mono ?_
   rintro e w1 ⟨rfl,hb1⟩
   have ht1:=HT.out.later hb1
   have hfz:=ht1.2.2.frozen k
   obtain ⟨t,hct⟩:=ht1.2.2.cell k hlt
   have HT1:=Lib.hid ht1
   clear ht1 hb1 K1
   go_wp2
   go_roundw
   case rel => exact ⟨k+1,by omega,by go_num,HT1.out.put hlt⟩
   case measure => simp [intOf] <;> omega
  ·obtain rfl : k=4:=by omega
   have hc4:=htw.2.1.cells.1.2.2.2.2
   clear HTW
   go_wp2
   go_region_held3 (fun w' => w'.cell? ⟨w.heap.size,4,none⟩=some (.int .u16 p)∧w.heap.size < w'.heap.size∧TW a b c d p 4 w w')
    (first
     | exact ⟨hc4,(show w.heap.size < wr.heap.size from lt_of_some htw.2.1),htw.1.drew,htw.2.1,htw.2.2⟩
     | (
       go_split_ands
       refine ⟨?_,?_,?_⟩
       ·(rw [hb1.cell (p:=⟨w.heap.size,4,none⟩) (by assumption)]; assumption)
       ·exact Nat.lt_of_lt_of_le (by assumption) hb1.size
       ·exact TW.later (by assumption) hb1)
     | go_keep)
    (first
     | (go_at_call 124; ((with_reducible refine (KJ.out _ ?_).mono ?_); (go_split_ands; assumption); rintro e w1 ⟨rfl,hb1⟩))
     | (go_at_call 123; ((with_reducible refine (KD.out _ ?_).mono ?_); (go_split_ands; assumption); rintro e w1 ⟨rfl,hb1⟩)))
   all_goals go_wp2
   all_goals go_ret
   all_goals
    refine ⟨rfl,?_⟩
    rename_i hS
    exact hS.2.2.1
end Go.Proofs.YtjfjliobencppaaGreatDoor.Sp

set_option maxRecDepth 1000000
set_option maxHeartbeats 4000000
namespace Go.Proofs.YtjfjliobencppaaGreatDoor.Sp
open Go.RowKit
theorem num_dg (n m : Nat) (h : n≤m) : Num (dg n) m n:=⟨(W.dec_good n).1,(W.dec_good n).2.1,h⟩
theorem dec_text (a b c d p : Nat) (ha : a < 256) (hb : b < 256) (hc : c < 256) (hd : d < 256) (hp : p < 65536) (h1 : 1≤p) : Dec (textN a b c d p) (xv a b c d) p:=by
 refine ⟨dg a,dg b++46::(dg c++46::(dg d++58::dg p)),?_,num_dg a 255 (by omega),dg b,dg c++46::(dg d++58::dg p),rfl,num_dg b 255 (by omega),dg c,dg d++58::dg p,rfl,num_dg c 255 (by omega),dg d,dg p,rfl,num_dg d 255 (by omega),num_dg p 65535 (by omega),h1⟩
 unfold textN joinN
 simp [sepAt]
theorem dec_unique {l : List UInt8} {xs ys : Nat→Nat} {p q : Nat} (h1 : Dec l xs p) (h2 : Dec l ys q) : p=q∧∀ j,j < 4→xs j=ys j:=by
 obtain ⟨h,h3⟩:=decT_unique 4 0 l xs ys p q h1 h2
 exact ⟨h,fun j hj => h3 j (by omega) (by omega)⟩
theorem ParseR.of_dec {l : List UInt8} {w : World} {e : Ending} {w' : World} (h : ParseR l w e w') {a b c d p : Nat} (hd : Dec l (xv a b c d) p) :
  e=.returned (.tuple #[plc a b c d p,.int .i64 0])∧Below w.heap.size w w':=by
 obtain ⟨hb,⟨xs,port,h1,rfl⟩ | ⟨hn,_⟩⟩:=h
 ·obtain ⟨rfl,h2⟩:=dec_unique h1 hd
  have e0 : xs 0=a:=h2 0 (by omega)
  have e1 : xs 1=b:=h2 1 (by omega)
  have e2 : xs 2=c:=h2 2 (by omega)
  have e3 : xs 3=d:=h2 3 (by omega)
  rw [e0,e1,e2,e3]
  exact ⟨rfl,hb⟩
 ·exact absurd ⟨_,_,hd⟩ hn
theorem text_example : str (textN 127 0 0 1 80)=⟨#[49,50,55,46,48,46,48,46,49,58,56,48]⟩:=by
 have e : textN 127 0 0 1 80=[49,50,55,46,48,46,48,46,49,58,56,48]:=by
  unfold textN joinN dg
  rw [W.dec_big 127 (by omega),W.dec_big (127 / 10) (by omega),W.dec_small (127 / 10 / 10) (by omega),W.dec_small 0 (by omega),W.dec_big 80 (by omega),W.dec_small (80 / 10) (by omega)]
  rfl
 rw [e]; rfl
theorem wawake_any (w : World) : Calls Tryz.prog 89 #[] w fun e w' => e=.returned (.bool true)∧Below w.heap.size w w':=by
 go_enter Tryz.func89,Tryz.ntmps89
 go_wp2_with (first | (go_at_call 122; go_must (refine (W.awake_any _).mono ?_); rintro e w1 ⟨rfl,hb1⟩))
 go_ret
 exact ⟨rfl,hb1⟩
theorem sawake_any (w : World) (hl : Lay w) : Calls Tryz.prog 46 #[] w fun e w' => e=.returned (.bool true)∧Below w.heap.size w w':=by
 have HLAY:=Lib.hid hl
 clear hl
 have hsz : (⟨#[49,50,55,46,48,46,48,46,49,58,56,48]⟩ : ByteArray).size≤100:=by decide
 have K1 : Hid (Calls Tryz.prog 88 #[.string ⟨#[49,50,55,46,48,46,48,46,49,58,56,48]⟩] w fun e w' => e=.returned (.tuple #[plc 127 0 0 1 80,.int .i64 0])∧Below w.heap.size w w'):=Lib.hid (by
  refine (parse_any _ hsz w HLAY.out).mono ?_
  intro e w' h
  refine h.of_dec ?_
  have:=dec_text 127 0 0 1 80 (by omega) (by omega) (by omega) (by omega) (by omega) (by omega)
  rw [← text_example,str_data]
  exact this)
 have K2:=Lib.hid (wawake_any)
 have K3 : Hid (∀ w1,Below w.heap.size w w1→Calls Tryz.prog 90 #[plc 127 0 0 1 80] w1 fun e w' => e=.returned (.string ⟨#[49,50,55,46,48,46,48,46,49,58,56,48]⟩)∧Below w1.heap.size w1 w'):=Lib.hid (fun w1 h => by
  rw [← text_example]
  exact text_any 127 0 0 1 80 (by omega) (by omega) (by omega) (by omega) (by omega) w1 (HLAY.out.later h))
 clear hsz
 go_enter Tryz.func46,Tryz.ntmps46
 go_wp2_with fail
 refine (K1.out).mono ?_
 rintro e w1 ⟨rfl,hb1⟩
 have HB1:=Lib.hid ((hb1.trans (((Below.refl _ _).alloc (Nat.le_refl w1.heap.size) (.cells #[.int .u8 127,.int .u8 0,.int .u8 0,.int .u8 1,.int .u16 80] 49)).mono hb1.size)))
 clear hb1
 unfold plc at *
 go_wp2_with fail
 refine (K2.out _).mono ?_
 rintro e w2 ⟨rfl,hb2⟩
 have HB2:=Lib.hid (HB1.out.trans (hb2.mono HB1.out.size))
 have hblk : Blk w1.heap.size 127 0 0 1 80 w2:=(hb2.block _ (by simp)).trans (heap_alloc_new w1 _)
 obtain ⟨⟨c0,c1,c2,c3,c4⟩,_⟩:=hblk.cells
 replace c0 : w2.cell? ⟨w1.heap.size,0,none⟩=some (.int .u8 127):=c0
 replace c1 : w2.cell? ⟨w1.heap.size,1,none⟩=some (.int .u8 0):=c1
 replace c2 : w2.cell? ⟨w1.heap.size,2,none⟩=some (.int .u8 0):=c2
 replace c3 : w2.cell? ⟨w1.heap.size,3,none⟩=some (.int .u8 1):=c3
 replace c4 : w2.cell? ⟨w1.heap.size,4,none⟩=some (.int .u16 80):=c4
 clear hb2 hblk
 go_wp2_with fail
 refine (K3.out _ HB2.out).mono ?_
 rintro e w3 ⟨rfl,hb3⟩
 have HB3:=Lib.hid (HB2.out.trans (hb3.mono HB2.out.size))
 clear hb3
 go_wp2
 go_ret
 exact ⟨rfl,HB3.out⟩
end Go.Proofs.YtjfjliobencppaaGreatDoor.Sp

namespace Go.Proofs.YtjfjliobencppaaGreatDoor.Cf
open Go.RowKit
theorem law4_any (w : World) (hl : Sp.Lay w) : Calls Tryz.prog 20 #[] w (TrP true w):=by
 have K:=Lib.hid (Sp.sawake_any w hl)
 clear hl
 go_enter Tryz.func20,Tryz.ntmps20
 go_wp2_with ((go_at_call 46; ((with_reducible refine (K.out).mono ?_); rintro e w1 ⟨rfl,hb⟩; have HB:=Lib.hid hb; clear hb)))
 go_ret
 exact ⟨rfl,HB.out⟩
theorem law7_any (w : World) : Calls Tryz.prog 21 #[] w (TrP true w):=by
 have K:=Lib.hid (awake7_any w)
 go_enter Tryz.func21,Tryz.ntmps21
 go_wp2_with ((go_at_call 47; ((with_reducible refine (K.out).mono ?_); rintro e w1 ⟨rfl,hb⟩; have HB:=Lib.hid hb; clear hb)))
 go_ret
 exact ⟨rfl,HB.out⟩
theorem bare_in (w : World) (n : Nat) (h : n≤18446744073709551615) : CoIn w (.int .u64 (n : Int)) (.slice none 0 0) (.slice none 0 0) ⟨n,[],[]⟩ :=
 ⟨rfl,h,⟨none,0,0,0,rfl,fun h => absurd h (by simp),fun i h => absurd h (by simp)⟩,⟨none,0,0,0,rfl,fun h => absurd h (by simp),fun i h => absurd h (by simp)⟩⟩
theorem bare_sized (n : Nat) : (⟨n,[],[]⟩ : Co).sized:=⟨by simp,by simp,by simp,by simp⟩
theorem bare_txt (n : Nat) (h : n≤127) : txtT (⟨n,[],[]⟩ : Co).tr=[3,3,1,UInt8.ofNat n,3,0,3,0]:=by
 show txtT (rowT [numT n,rowT [],rowT []])=_
 simp only [rowT,numT,txtT,txtL,List.length_cons,List.length_nil]
 rw [sh_last n (by omega),sh_last (0+1+1+1) (by omega),sh_last 0 (by omega)]
 rfl
theorem bare_err (n : Nat) (h : n≤127) : (⟨n,[],[]⟩ : Co).err=0∧(⟨n,[],[]⟩ : Co).out=str [3,3,1,UInt8.ofNat n,3,0,3,0]:=by
 have h1 : putC (⟨n,[],[]⟩ : Co).tr=0:=by
  unfold putC
  rw [bare_txt n h]
  show (if sndT (rowT [numT n,rowT [],rowT []])=false then 10 else if 6 < deepT (rowT [numT n,rowT [],rowT []]) then 8 else _)=0
  simp [rowT,numT,sndT,sndL,deepT,deepL,ByteArray.size]
 have hm : (⟨n,[],[]⟩ : Co).many=false:=by simp [Co.many]
 have hb : (⟨n,[],[]⟩ : Co).below=false:=by simp [Co.below]
 refine ⟨?_,?_⟩
 ·simp only [Co.err,hm,hb,h1]; rfl
 ·simp only [Co.out,hm,hb]
  unfold putS
  rw [if_pos h1,bare_txt n h]
  rfl
theorem bare_bytes (n : Nat) (h : n≤127) (w : World) : Calls Tryz.prog 9 #[.agg #[.int .u64 (n : Int),.slice none 0 0,.slice none 0 0]] w fun e w' => e=.returned (.tuple #[.string (str [3,3,1,UInt8.ofNat n,3,0,3,0]),.int .i64 0])∧Below w.heap.size w w':=by
 have:=bytes_any (bare_in w n (by omega)) (bare_sized n)
 rw [(bare_err n h).1,(bare_err n h).2] at this
 exact this
theorem awake9_any (w : World) (hl : Sp.Lay w) : Calls Tryz.prog 7 #[] w (TrP true w):=by
 have K1 : Hid (∀ wz,Calls Tryz.prog 9 #[.agg #[.int .u64 1,.slice none 0 0,.slice none 0 0]] wz fun e w' => e=.returned (.tuple #[.string ⟨#[3,3,1,1,3,0,3,0]⟩,.int .i64 0])∧Below wz.heap.size wz w'):=Lib.hid (fun wz => bare_bytes 1 (by omega) wz)
 have K0 : Hid (∀ wz,Calls Tryz.prog 9 #[.agg #[.int .u64 0,.slice none 0 0,.slice none 0 0]] wz fun e w' => e=.returned (.tuple #[.string ⟨#[3,3,1,0,3,0,3,0]⟩,.int .i64 0])∧Below wz.heap.size wz w'):=Lib.hid (fun wz => bare_bytes 0 (by omega) wz)
 have K4 : Hid (∀ wz,Below w.heap.size w wz→Calls Tryz.prog 20 #[] wz (TrP true wz)):=Lib.hid (fun wz hb => law4_any wz (hl.later hb))
 have K7:=Lib.hid law7_any
 clear hl
 go_enter Tryz.func7,Tryz.ntmps7
 go_wp2_with (first
  | (go_at_call 9; ((with_reducible refine (K1.out _).mono ?_); rintro e w1 ⟨rfl,hb⟩; have HB1:=Lib.hid hb; clear hb))
  | (go_at_call 9; ((with_reducible refine (K0.out _).mono ?_); rintro e w2 ⟨rfl,hb⟩; have HB2:=Lib.hid (HB1.out.trans (hb.mono HB1.out.size)); clear hb))
  | (go_at_call 20; ((with_reducible refine (K4.out _ HB2.out).mono ?_); rintro e w3 ⟨rfl,hb⟩; have HB3:=Lib.hid (HB2.out.trans (hb.mono HB2.out.size)); clear hb))
  | (go_at_call 21; ((with_reducible refine (K7.out _).mono ?_); rintro e w4 ⟨rfl,hb⟩; have HB4:=Lib.hid (HB3.out.trans (hb.mono HB3.out.size)); clear hb)))
 go_ret
 exact ⟨rfl,HB4.out⟩
end Go.Proofs.YtjfjliobencppaaGreatDoor.Cf

namespace Go.Proofs.YtjfjliobencppaaGreatDoor.Cf
open Go.ChangeShapes Go.WideShapes Go.ChangeAt Go.RowKit
theorem own : ownKnob Tryz.prog.godebug=none:=by kernel_rfl
theorem mx_of {W : World} (h : W.ShapedOpen Tryz.prog) : ∃ m,Sp.Mx W m :=
 cell_of_shapedOpen_int (g:=0) (t:=3) (zero:=#[.int .i64 0]) h (by decide +kernel) (by kernel_rfl) rfl (by kernel_rfl) (by kernel_rfl) Tryz.underlying3
def put (cs : Array Value) : Obj→Obj
 | .cells _ t frozen => .cells cs t frozen
 | o => o
def u8s (l : List Int) : Array Value:=(l.map fun n => Value.int .u8 n).toArray
theorem gTab : Tryz.prog.globalNamed "internal/strconv.uint64pow10" = some 3 := by kernel_rfl
theorem gTabType : (Tryz.prog.globals[3]?).map (·.type)=some 231:=by kernel_rfl
theorem gERType : (Tryz.prog.globals[2]?).map (·.type)=some 198:=by kernel_rfl
theorem cells231 : Tryz.prog.cellsOf 231=20:=by kernel_rfl
theorem cells237 : Tryz.prog.cellsOf 237=1:=by kernel_rfl
theorem cells9' : Tryz.prog.cellsOf 9=1:=by kernel_rfl
theorem cells22' : Tryz.prog.cellsOf 22=1:=by kernel_rfl
theorem star : "*" ++ "errors.errorString" = "*errors.errorString" := by decide
theorem row235 (u : TypeId) (h : Tryz.prog.typeName? 3 u = some "*errors.errorString") : u = 235 :=
 typeName_ptr_named (nm := "errors.errorString") (by rw [star]; kernel_rfl) (by kernel_rfl) (by decide) u (by rw [star]; exact h)
theorem lay_of {W : World} (h : laidMetH Tryz.prog Rows.configApartRow.laid W) (hsh : W.ShapedOpen Tryz.prog) : Sp.Lay W:=by
 have h2:=laidMet.tail (laidMet.tail (show laidMet Tryz.prog Rows.configApartRow.laid W from h))
 have h3:=laidMet.tail h2
 obtain ⟨a0,s0,hv0,-,-,-⟩:=laid_sentinel h3 Sp.gER gERType Tryz.underlying198 row235 Tryz.underlying235 Tryz.underlying237 rfl rfl Tryz.underlying9 cells237 cells9'
 exact ⟨mx_of hsh,Lib.tabIs_of_head gTab gTabType Tryz.underlying231 Tryz.underlying22 cells22' cells231 h2,235,_,hv0⟩
set_option linter.constructorNameAsVariable false
section
variable {H : Type} {enc : TypeId × Value→H} {w : World} {sp : Nat→Bool} {held : Bool}
end
abbrev synS : ByteArray:={ data:=#[105,110,118,97,108,105,100,32,115,121,110,116,97,120] }
abbrev rngS : ByteArray:={ data:=#[118,97,108,117,101,32,111,117,116,32,111,102,32,114,97,110,103,101] }
noncomputable def heapLow : Nat:=(World.holding Tryz.prog default ⟨#[],#[],[]⟩).heap.size
def tab32 : Array Value:=u8s [0,1,28,2,29,14,24,3,30,22,20,15,25,17,4,8,31,27,13,23,21,19,16,7,26,12,18,6,11,5,10,9]
def tab64 : Array Value:=u8s [0,1,56,2,57,49,28,3,61,58,42,50,38,29,17,4,62,47,59,36,45,43,51,22,53,39,33,30,24,18,12,5,63,55,48,27,60,41,37,16,46,35,44,21,52,32,23,11,54,26,40,15,34,20,31,10,25,14,19,9,13,8,7,6]
def tab10 : Array Value:=((List.range 20).map fun i => Value.int .u64 ((10 ^ i : Nat) : Int)).toArray
noncomputable def cfWorld (os : Os) : World :=
 let w0:=World.holding Tryz.prog os ⟨#[.cells #[.string synS] 237,.cells #[.string rngS] 237],#[],[]⟩
 { w0 with heap:=((((w0.heap.modify 3 (put tab10)).modify 1 (put #[.iface 235 (.pointer (some ⟨heapLow,0,none⟩))])).modify 2 (put #[.iface 235 (.pointer (some ⟨heapLow+1,0,none⟩))])).modify 4 (put tab32)).modify 5 (put tab64) }
end Go.Proofs.YtjfjliobencppaaGreatDoor.Cf

namespace Go.Proofs.YtjfjliobencppaaGreatDoor.Cf
open Go.RowKit
theorem own_keep {w w' : World} {B t k n : Nat} {v : Value} {xs : List Value} (h : w.ownsRow B t k v n xs) (hk : ∀ g cs,B≤g→v.ownBlock=some g→w.heap[g]?=some (.cells cs t (0,0))→w'.heap[g]?=w.heap[g]?) : w'.ownsRow B t k v n xs:=by
 refine ⟨h.1,?_⟩
 rcases h.2 with hn | ⟨g,cap,cur,h1,h2,h3,h4⟩
 ·exact Or.inl hn
 ·exact Or.inr ⟨g,cap,cur,h1,h2,(hk g cur h2 (by rw [h1]; rfl) h3).trans h3,h4⟩
theorem own_later {w w' : World} {B t k n : Nat} {v : Value} {xs : List Value} (h : w.ownsRow B t k v n xs) (hb : Below w.heap.size w w') : w'.ownsRow B t k v n xs:=own_keep h fun g cs _ _ hg => hb.block g (lt_of_heap hg)
theorem own_block {w : World} {B t k n g : Nat} {v : Value} {xs : List Value} (h : w.ownsRow B t k v n xs) (hg : v.ownBlock=some g) : ∃ cs,w.heap[g]?=some (.cells cs t (0,0))∧B≤g:=by
 rcases h.2 with ⟨rfl,_⟩ | ⟨q,cap,cur,rfl,h2,h3,h4⟩
 ·cases hg
 ·cases hg; exact ⟨cur,h3,h2⟩
theorem own_mono {w : World} {B B' t k n : Nat} {v : Value} {xs : List Value} (h : w.ownsRow B t k v n xs) (hb : B'≤B) : w.ownsRow B' t k v n xs:=by
 refine ⟨h.1,?_⟩
 rcases h.2 with hn | ⟨g,cap,cur,h1,h2,h3,h4⟩
 ·exact Or.inl hn
 ·exact Or.inr ⟨g,cap,cur,h1,by omega,h3,h4⟩
theorem own_grown {w w' : World} {B t k n B' t' k' n' : Nat} {v v' : Value} {xs xs' : List Value} (h : w.ownsRow B t k v n xs) (h' : w.ownsRow B' t' k' v' n' xs') (hg : w.grownBy w' v'.ownBlock) (ht : t≠t') : w'.ownsRow B t k v n xs :=
 own_keep h fun g cs _ _ hgg => hg.block g (lt_of_heap hgg) fun e => by
  obtain ⟨cs',h2,_⟩:=own_block h' e.symm
  rw [hgg] at h2
  cases h2
  exact ht rfl
theorem own_set {w : World} {B t k n q t' : Nat} {v : Value} {xs : List Value} {cs : Array Value} (h : w.ownsRow B t k v n xs) (hq : Bk w q cs t') (ht : t≠t') (j : Nat) (u : Value) : (w.setCell ⟨q,j,none⟩ u).ownsRow B t k v n xs :=
 own_keep h fun g c _ _ hgg => heap_setCell_other _ _ g _ fun e => by
  have e' : g=q:=e
  subst e'
  have h2 : _=some (Obj.cells cs t' (0,0)):=hq
  rw [hgg] at h2
  cases h2
  exact ht rfl
theorem Bk.grown {w w' : World} {q t B' t' k' n' : Nat} {v' : Value} {cs : Array Value} {xs' : List Value} (h : Bk w q cs t) (h' : w.ownsRow B' t' k' v' n' xs') (hg : w.grownBy w' v'.ownBlock) (ht : t≠t') : Bk w' q cs t :=
 (hg.block q (lt_of_heap h) fun e => by
  obtain ⟨cs',h2,_⟩:=own_block h' e.symm
  have h3 : _=some (Obj.cells cs t (0,0)):=h
  rw [h3] at h2
  cases h2
  exact ht rfl).trans h
theorem Bk.set {w : World} {g i : Nat} {cs : Array Value} {T : TypeId} (h : Bk w g cs T) (v : Value) : Bk (w.setCell ⟨g,i,none⟩ v) g (cs.setIfInBounds i v) T:=heap_setCell_same w g i cs T v h
theorem Bk.away {w : World} {g q : Nat} {cs : Array Value} {T : TypeId} (h : Bk w g cs T) (hq : g≠q) (j : Nat) (v : Value) : Bk (w.setCell ⟨q,j,none⟩ v) g cs T:=(heap_setCell_other _ ⟨q,j,none⟩ g _ hq).trans h
def Ty (P : Program) (e k : Nat) : Bool:=match P.info? e with
 | some i => match i.zero with
  | some z => decide (i.size=k∧z.cells.size=k∧i.bytes≤200)
  | none => false
 | none => false
theorem Ty.parts {P : Program} {e k : Nat} (h : Ty P e k=true) : ∃ i z,P.info? e=some i∧i.zero=some z∧i.size=k∧z.cells.size=k∧i.bytes≤200:=by
 unfold Ty at h
 split at h
 ·rename_i i hi
  split at h
  ·rename_i z hz
   obtain ⟨h1,h2,h3⟩:=of_decide_eq_true h
   exact ⟨i,z,hi,hz,h1,h2,h3⟩
  ·cases h
 ·cases h
theorem wpList_append_one (W : World) {ops : Array Oper} {rest : List Oper} {o : Oper} {a : Act} {Q : Exit→Act→World→Prop} (hgd : o.guard=none) (s x : Operand) {st e k : Nat} (hU : Tryz.prog.underlying st=some (.slice e)) (hT : Ty Tryz.prog e k=true) (hk0 : 0 < k)
  (ho : o.op=.call { callee:=.builtin .append,args:=#[s,x],argTypes:=#[st,st] })
  (B : Nat) (v : Value) (n : Nat) (xs cs : List Value) (gS : Nat) (hs : a.eval s=v) (hown : W.ownsRow B e k v n xs) (hx : a.eval x=.slice (some ⟨gS,0,none⟩) 1 1) (hu : Bk W gS cs.toArray e) (hl : cs.length=k) (h1 : ∀ v ∈ cs,v.oneCell'=true) (hB : B≤W.heap.size) (hn : n≤1000000)
  (h : ∀ v' w',w'.ownsRow B e k v' (n+1) (xs++cs)→W.grownBy w' v.ownBlock→Below B W w'→(v'.ownBlock=v.ownBlock∨v'.ownBlock=some W.heap.size)→wpList Tryz.prog ops Q rest (a.put o.dst v') w') : wpList Tryz.prog ops Q (o::rest) a W:=by
 obtain ⟨i0,z,hi,hz0,hz1,hz2,hz3⟩:=Ty.parts hT
 refine wpList_append_own_at W hgd s x st ho B e i0 z k i0.bytes hU hi hz0 hz1 rfl hz2 hk0 v n xs hs hown ⟨gS,0,none⟩ 1 1 cs hx (by omega) ?_ h1 ?_ ?_ hB ?_
 ·intro j u hj
  rw [Addr.add_mid,Nat.zero_add,cell_of_row _ _ _ _ _ _ hu]
  simpa using hj
 ·unfold maxLen; omega
 ·have:=Nat.mul_le_mul (show n+1≤1000001 by omega) hz3
  omega
 ·intro v' w' r1 r2 _ r4
  exact h v' w' r1 r2 ((Below.refl B W).grown r2 hB (fun g hg => (hown.lt g hg).1)) r4
theorem alloc_at {w : World} {g : Nat} (cs : Array Value) (t : TypeId) (hg : g=w.heap.size) : Bk (w.alloc (.cells cs t)) g cs t:=by
 subst hg
 exact heap_alloc_new w _
end Go.Proofs.YtjfjliobencppaaGreatDoor.Cf

namespace Go.Proofs.YtjfjliobencppaaGreatDoor.Cf
open Go.RowKit
theorem flat_at {α : Type} {f : α→List Value} {k : Nat} : ∀ {l : List α} (hk : ∀ a ∈ l,(f a).length=k) {i : Nat} (hi : i < l.length) (j : Nat) (v : Value),(f l[i])[j]?=some v→(l.flatMap f)[i * k+j]?=some v
 | [],_,i,hi,_,_,_ => absurd hi (by simp)
 | a::R,hk,0,hi,j,v,hv => by
  have hv' : (f a)[j]?=some v:=hv
  have hj:=(List.getElem?_eq_some_iff.1 hv').1
  simp only [List.flatMap_cons,Nat.zero_mul,Nat.zero_add]
  rw [List.getElem?_append_left hj]
  exact hv'
 | a::R,hk,i+1,hi,j,v,hv => by
  have ih:=flat_at (l:=R) (fun a ha => hk a (List.mem_cons_of_mem _ ha)) (i:=i) (by simpa using hi) j v (by simpa using hv)
  have h0:=hk a (List.mem_cons_self ..)
  simp only [List.flatMap_cons]
  rw [List.getElem?_append_right (by rw [h0,Nat.succ_mul]; omega),h0,show (i+1) * k+j - k=i * k+j by rw [Nat.succ_mul]; omega]
  exact ih
theorem rw_of_own {α : Type} {k t B : Nat} {w : World} {v : Value} {l : List α} {f : α→List Value} {R : World→List Value→α→Prop} (hk : ∀ a ∈ l,(f a).length=k) (h : w.ownsRow B t k v l.length (l.flatMap f)) (hR : ∀ a ∈ l,R w (f a) a) : Rw k R w v l:=by
 rcases h.2 with ⟨rfl,hn⟩ | ⟨g,cap,cur,rfl,h0,hg,h1,h2,h3,h4⟩
 ·have e:=List.eq_nil_of_length_eq_zero hn
  subst e
  exact ⟨none,0,0,0,rfl,fun h => absurd h (by simp),fun i h => absurd h (by simp)⟩
 ·refine ⟨_,cap,g,0,rfl,fun _ => ⟨rfl,lt_of_heap hg⟩,fun i hi => ⟨f l[i],fun j u hj => ?_,hR _ (List.getElem_mem hi)⟩⟩
  have:=h.cells (g:=g) rfl (i * k+j) u (flat_at hk hi j u hj)
  rw [Addr.add_mid] at this
  rw [Nat.add_assoc]
  exact this
theorem rw_map {α β : Type} {k : Nat} {w : World} {v : Value} {l : List β} (g : β→α) {R : World→List Value→α→Prop} (h : Rw k (fun w cs b => R w cs (g b)) w v l) : Rw k R w v (l.map g):=by
 obtain ⟨o,cap,b,off,h1,h2,h3⟩:=h
 refine ⟨o,cap,b,off,by rw [h1,List.length_map],fun hp => h2 (by rwa [List.length_map] at hp),fun i hi => ?_⟩
 rw [List.length_map] at hi
 obtain ⟨cs,h4,h5⟩:=h3 i hi
 exact ⟨cs,h4,by rw [List.getElem_map]; exact h5⟩
theorem rt_len (r : Rt) : r.cs.length=4:=rfl
theorem ep_len (e : Ep) : e.cs.length=6:=rfl
theorem rt_one (r : Rt) : ∀ v ∈ r.cs,v.oneCell'=true:=by
 intro v hv
 simp only [Rt.cs,List.mem_cons,List.not_mem_nil,or_false] at hv
 rcases hv with rfl | rfl | rfl | rfl <;> rfl
theorem ep_one (e : Ep) : ∀ v ∈ e.cs,v.oneCell'=true:=by
 intro v hv
 simp only [Ep.cs,Pl.cs,List.cons_append,List.nil_append,List.mem_cons,List.not_mem_nil,or_false] at hv
 rcases hv with rfl | rfl | rfl | rfl | rfl | rfl <;> rfl
def llcs (p : Ls × Value) : List Value:=.string p.1.name::(p.1.p.cs++[p.2])
theorem ll_len (p : Ls × Value) : (llcs p).length=7:=rfl
def LlR (w : World) (B : Nat) (V : Value) (L : List Ls) : Prop :=
 ∃ PL : List (Ls × Value),PL.map Prod.fst=L∧w.ownsRow B 85 7 V PL.length (PL.flatMap llcs)∧∀ p ∈ PL,w.ownsRow B 86 4 p.2 p.1.r.length (p.1.r.flatMap Rt.cs)
theorem LlR.nil (w : World) (B : Nat) : LlR w B (.slice none 0 0) []:=⟨[],rfl,World.ownsRow_nil _ _ _ _,fun p hp => by cases hp⟩
theorem LlR.later {w w' : World} {B : Nat} {V : Value} {L : List Ls} (h : LlR w B V L) (hb : Below w.heap.size w w') : LlR w' B V L:=by
 obtain ⟨PL,h1,h2,h3⟩:=h
 exact ⟨PL,h1,own_later h2 hb,fun p hp => own_later (h3 p hp) hb⟩
theorem LlR.set {w : World} {B q t' : Nat} {V : Value} {L : List Ls} {cs : Array Value} (h : LlR w B V L) (hq : Bk w q cs t') (h1 : 85≠t') (h2 : 86≠t') (j : Nat) (u : Value) : LlR (w.setCell ⟨q,j,none⟩ u) B V L:=by
 obtain ⟨PL,e1,e2,e3⟩:=h
 exact ⟨PL,e1,own_set e2 hq h1 j u,fun p hp => own_set (e3 p hp) hq h2 j u⟩
theorem LlR.grown {w w' : World} {B B' t' k' n' : Nat} {V v' : Value} {L : List Ls} {xs' : List Value} (h : LlR w B V L) (h' : w.ownsRow B' t' k' v' n' xs') (hg : w.grownBy w' v'.ownBlock) (h1 : 85≠t') (h2 : 86≠t') : LlR w' B V L:=by
 obtain ⟨PL,e1,e2,e3⟩:=h
 exact ⟨PL,e1,own_grown e2 h' hg h1,fun p hp => own_grown (e3 p hp) h' hg h2⟩
theorem LlR.rows {w : World} {B : Nat} {V : Value} {L : List Ls} (h : LlR w B V L) (hok : ∀ l ∈ L,l.name.size≤maxLen∧l.p.ok∧∀ r ∈ l.r,r.ok) : Rw 7 LsIn w V L:=by
 obtain ⟨PL,rfl,h2,h3⟩:=h
 refine rw_map Prod.fst (rw_of_own (fun p _ => ll_len p) h2 fun p hp => ?_)
 have hk:=hok p.1 (List.mem_map.2 ⟨p,hp,rfl⟩)
 exact ⟨p.2,rfl,hk.1,hk.2.1,rw_of_own (fun r _ => rt_len r) (h3 p hp) fun r hr => ⟨rfl,hk.2.2 r hr⟩⟩
def cccs (p : Cl × Value) : List Value:=[.string p.1.name,p.2]
theorem cc_len (p : Cl × Value) : (cccs p).length=2:=rfl
def CcR (w : World) (B : Nat) (V : Value) (L : List Cl) : Prop :=
 ∃ PL : List (Cl × Value),PL.map Prod.fst=L∧w.ownsRow B 74 2 V PL.length (PL.flatMap cccs)∧∀ p ∈ PL,w.ownsRow B 77 6 p.2 p.1.e.length (p.1.e.flatMap Ep.cs)
theorem CcR.nil (w : World) (B : Nat) : CcR w B (.slice none 0 0) []:=⟨[],rfl,World.ownsRow_nil _ _ _ _,fun p hp => by cases hp⟩
theorem CcR.later {w w' : World} {B : Nat} {V : Value} {L : List Cl} (h : CcR w B V L) (hb : Below w.heap.size w w') : CcR w' B V L:=by
 obtain ⟨PL,h1,h2,h3⟩:=h
 exact ⟨PL,h1,own_later h2 hb,fun p hp => own_later (h3 p hp) hb⟩
theorem CcR.set {w : World} {B q t' : Nat} {V : Value} {L : List Cl} {cs : Array Value} (h : CcR w B V L) (hq : Bk w q cs t') (h1 : 74≠t') (h2 : 77≠t') (j : Nat) (u : Value) : CcR (w.setCell ⟨q,j,none⟩ u) B V L:=by
 obtain ⟨PL,e1,e2,e3⟩:=h
 exact ⟨PL,e1,own_set e2 hq h1 j u,fun p hp => own_set (e3 p hp) hq h2 j u⟩
theorem CcR.rows {w : World} {B : Nat} {V : Value} {L : List Cl} (h : CcR w B V L) (hok : ∀ l ∈ L,l.name.size≤maxLen∧∀ r ∈ l.e,r.ok) : Rw 2 ClIn w V L:=by
 obtain ⟨PL,rfl,h2,h3⟩:=h
 refine rw_map Prod.fst (rw_of_own (fun p _ => cc_len p) h2 fun p hp => ?_)
 have hk:=hok p.1 (List.mem_map.2 ⟨p,hp,rfl⟩)
 exact ⟨p.2,rfl,hk.1,rw_of_own (fun r _ => ep_len r) (h3 p hp) fun r hr => ⟨rfl,hk.2 r hr⟩⟩
end Go.Proofs.YtjfjliobencppaaGreatDoor.Cf
