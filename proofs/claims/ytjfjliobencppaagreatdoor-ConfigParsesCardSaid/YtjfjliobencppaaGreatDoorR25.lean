/- The library's cut, equality of slices, and a path's parts.; A path's parts by definition; whether a path is under another one.; Numbers read: word.Number, its answer by definition, and the closure of spot.Parse.; Which place is ahead. -/
import Derived.Test.YtjfjliobencppaaGreatDoorR21
import Derived.Test.YtjfjliobencppaaGreatDoorR24
import Derived.WalkSmall
set_option linter.unusedVariables false
set_option linter.unusedSimpArgs false
namespace Go.Proofs.YtjfjliobencppaaGreatDoor.Sp
open Go.RowKit
end Go.Proofs.YtjfjliobencppaaGreatDoor.Sp

namespace Go.Proofs.YtjfjliobencppaaGreatDoor.Sp
open Go.RowKit
def Mx (w : World) (m : Int) : Prop:=w.cell? ⟨0,0,none⟩=some (.int .i64 m)
theorem Mx.later {w w' : World} {m : Int} (h : Mx w m) (hb : Below w.heap.size w w') : Mx w' m:=by
 unfold Mx at *
 rw [hb.cell (p:=⟨0,0,none⟩) (World.block_lt_of_cell? _ _ h)]; exact h
end Go.Proofs.YtjfjliobencppaaGreatDoor.Sp

set_option maxRecDepth 1000000
namespace Go.Proofs.YtjfjliobencppaaGreatDoor.Sp
open Go.RowKit
def Lay (w : World) : Prop := (∃ m, Mx w m) ∧ Lib.TabIs Tryz.prog w "internal/strconv.uint64pow10" .u64 Lib.pow10Tab ∧ ∃ tp pv, w.var? Tryz.prog "strconv.ErrRange" = some #[.iface tp pv]
theorem gER : Tryz.prog.globalNamed "strconv.ErrRange" = some 2 := by kernel_rfl
theorem Lay.later {w w' : World} (h : Lay w) (hb : Below w.heap.size w w') : Lay w':=by
 obtain ⟨⟨m,hm⟩,ht,tp,pv,hv⟩:=h
 have hlt : 2 < w.heap.size:=by
  have hc:=World.var?_cell gER hv 0
  rcases Nat.lt_or_ge 2 w.heap.size with h | h
  ·exact h
  ·simp [World.cell?,Array.getElem?_eq_none h] at hc
 exact ⟨⟨m,hm.later hb⟩,Lib.tabBelow_of_tabIs ht w' hb,tp,pv,var?_below hb gER hlt hv⟩
def NumR (l : List UInt8) (w : World) (e : Ending) (w' : World) : Prop :=
 ∃ n k : Nat,e=.returned (.tuple #[.int .u64 n,.int .i64 k])∧n≤18446744073709551615∧(k=0∨(k≠0∧((k : Int) == 0)=false))∧(k=0→W.good l∧W.val l=n)∧(k≠0→∀ m,m≤18446744073709551615→¬ ∃ x,Num l m x)∧Below w.heap.size w w'
theorem good_cases (s : ByteArray) : s.size=0∨(1 < s.size∧∃ h : 0 < s.size,s[0].toNat=48) ∨
  (1≤s.size∧(¬ ∃ h : 1 < s.size,s[0].toNat=48)∧∃ j,∃ h : j < s.size,¬ (48≤s[j].toNat∧s[j].toNat≤57)) ∨
  (1≤s.size∧(¬ ∃ h : 1 < s.size,s[0].toNat=48)∧∀ j,(h : j < s.size)→48≤s[j].toNat∧s[j].toNat≤57):=by
 rcases Nat.eq_zero_or_pos s.size with h0 | h0
 ·exact Or.inl h0
 ·by_cases h1 : ∃ h : 1 < s.size,s[0].toNat=48
  ·obtain ⟨a,b⟩:=h1
   exact Or.inr (Or.inl ⟨a,h0,b⟩)
  ·by_cases hb : ∃ j,∃ h : j < s.size,¬ (48≤s[j].toNat∧s[j].toNat≤57)
   ·exact Or.inr (Or.inr (Or.inl ⟨h0,h1,hb⟩))
   ·refine Or.inr (Or.inr (Or.inr ⟨h0,h1,fun j h => ?_⟩))
    by_cases e : 48≤s[j].toNat∧s[j].toNat≤57
    ·exact e
    ·exact absurd ⟨j,h,e⟩ hb
theorem number_any (s : ByteArray) (hs : s.size≤100) (w : World) (hl : Lay w) : Calls Tryz.prog 120 #[.string s] w (NumR s.data.toList w):=by
 obtain ⟨_,ht,tp,pv,hv⟩:=hl
 have z0 : (0 : Nat)=0∨((0 : Nat)≠0∧(((0 : Nat) : Int) == 0)=false):=Or.inl rfl
 have z4 : (4 : Nat)=0∨((4 : Nat)≠0∧(((4 : Nat) : Int) == 0)=false):=Or.inr ⟨by decide,by decide⟩
 have z7 : (7 : Nat)=0∨((7 : Nat)≠0∧(((7 : Nat) : Int) == 0)=false):=Or.inr ⟨by decide,by decide⟩
 rcases good_cases s with h0 | ⟨h1,h0,h48⟩ | ⟨h1,hz,hb⟩ | ⟨h1,hz,ha⟩
 ·refine (W.number_empty s h0 w).mono ?_
  rintro e w' ⟨rfl,hb⟩
  refine ⟨0,4,rfl,by decide,z4,fun h => absurd h (by decide),fun _ m _ => ?_,hb⟩
  rintro ⟨x,hg,_⟩
  exact hg.1 (List.eq_nil_of_length_eq_zero (by rw [← Lib.size_eq]; exact h0))
 ·refine (W.number_nought s h1 h48 w).mono ?_
  rintro e w' ⟨rfl,hb⟩
  refine ⟨0,4,rfl,by decide,z4,fun h => absurd h (by decide),fun _ m _ => ?_,hb⟩
  rintro ⟨x,hg,_⟩
  exact (W.of_good s hg (by omega)).1 ⟨h1,h48⟩
 ·have hz' : ¬ (1 < s.size∧s[0].toNat=48):=fun ⟨a,b⟩ => hz ⟨a,b⟩
  refine (W.number_bad s h1 hz' hb hs w).mono ?_
  rintro e w' ⟨rfl,hb1⟩
  refine ⟨0,4,rfl,by decide,z4,fun h => absurd h (by decide),fun _ m _ => ?_,hb1⟩
  rintro ⟨x,hg,_⟩
  obtain ⟨j,h,hn⟩:=hb
  exact hn ((W.of_good s hg h1).2 j h)
 ·have hz' : ¬ (1 < s.size∧s[0].toNat=48):=fun ⟨a,b⟩ => hz ⟨a,b⟩
  have hg:=W.good_of s h1 hz' ha
  by_cases hu : W.val s.data.toList≤18446744073709551615
  ·refine (W.number_ok s h1 hz' ha _ (W.parse_ok _ hg.1 hg.2.1 hu) hs w).mono ?_
   rintro e w' ⟨rfl,hb1⟩
   exact ⟨_,0,rfl,hu,z0,fun _ => ⟨hg,rfl⟩,fun h => absurd rfl h,hb1⟩
  ·refine (W.number_range s h1 hz' ha w (W.parse_range _ hg.1 hg.2.1 hu) tp pv hv hs).mono ?_
   rintro e w' ⟨rfl,hb1⟩
   refine ⟨0,7,rfl,by decide,z7,fun h => absurd h (by decide),fun _ m hm => ?_,hb1⟩
   rintro ⟨x,_,he,hx⟩
   omega
def CloR (l : List UInt8) (most fb : Nat) (w : World) (e : Ending) (w' : World) : Prop :=
 ∃ (n : Nat) (v : Bool) (w1 : World),e=.returned (.int .u64 n)∧n≤18446744073709551615∧(v=true→Num l most n)∧(v=false→¬ ∃ x,Num l most x)∧Below w.heap.size w w1∧w'=w1.setCell ⟨fb,0,none⟩ (.bool v)
theorem clo_any (s : ByteArray) (hs : s.size≤100) (most fb : Nat) (hm : most≤18446744073709551615) (w : World) (hl : Lay w) (hc : w.cell? ⟨fb,0,none⟩=some (.bool true)) (hf : w.frozen? ⟨fb,0,none⟩=false) :
  Calls Tryz.prog 119 #[.string s,.int .u64 most,.pointer (some ⟨fb,0,none⟩)] w (CloR s.data.toList most fb w):=by
 have hfb : fb < w.heap.size:=World.block_lt_of_cell? _ _ hc
 have K1:=Lib.hid (number_any s hs w hl)
 have HM:=Lib.hid hm
 clear hm
 go_enter Tryz.func119,Tryz.ntmps119
 go_wp2_with fail
 refine (K1.out).mono ?_
 rintro e w1 ⟨n,k,rfl,hn,hk,h1,h2,hb⟩
 have H1:=Lib.hid h1
 have H2:=Lib.hid h2
 have HN:=Lib.hid hn
 have HB:=Lib.hid hb
 have hc1 : w1.cell? ⟨fb,0,none⟩=some (.bool true):=by rw [hb.cell (p:=⟨fb,0,none⟩) hfb]; exact hc
 have hf1 : w1.frozen? ⟨fb,0,none⟩=false:=by rw [hb.frozen (p:=⟨fb,0,none⟩) hfb]; exact hf
 clear h1 h2 hn hb hc hf
 rcases hk with rfl | ⟨hk,hkb⟩
 ·by_cases hle : n≤most
  ·have d1 : decide ((n : Int)≤(most : Int))=true:=decide_eq_true (by omega)
   go_wp2
   go_ret
   exact ⟨n,true,w1,rfl,HN.out,fun _ => ⟨(H1.out (by trivial)).1,(H1.out (by trivial)).2,hle⟩,(fun h => by cases h),HB.out,rfl⟩
  ·have d1 : decide ((n : Int)≤(most : Int))=false:=decide_eq_false (by omega)
   go_wp2
   go_ret
   refine ⟨n,false,w1,rfl,HN.out,(fun h => by cases h),fun _ => ?_,HB.out,rfl⟩
   rintro ⟨x,_,e,hx⟩
   have:=(H1.out (by trivial)).2
   omega
 ·go_wp2
  go_ret
  exact ⟨n,false,w1,rfl,HN.out,(fun h => by cases h),fun _ => H2.out hk most HM.out,HB.out,rfl⟩
end Go.Proofs.YtjfjliobencppaaGreatDoor.Sp

namespace Go.Proofs.YtjfjliobencppaaGreatDoor.Sp
open Go.RowKit
def PlAt (g a b c d p : Nat) (w : World) : Prop :=
 w.cell? ⟨g,0,none⟩=some (.int .u8 a)∧w.cell? ⟨g,1,none⟩=some (.int .u8 b)∧w.cell? ⟨g,2,none⟩=some (.int .u8 c)∧w.cell? ⟨g,3,none⟩=some (.int .u8 d)∧w.cell? ⟨g,4,none⟩=some (.int .u16 p)
def cmpN (a b c d p a2 b2 c2 d2 p2 : Nat) : Int:=Lib.compareBytes (bytesN a b c d p) (bytesN a2 b2 c2 d2 p2)
end Go.Proofs.YtjfjliobencppaaGreatDoor.Sp
