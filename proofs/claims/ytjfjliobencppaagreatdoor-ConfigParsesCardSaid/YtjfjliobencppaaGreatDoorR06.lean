/- codec.write: a value's writing, handed to 'add' part by part. -/
import Derived.Test.YtjfjliobencppaaGreatDoorR04
import Derived.Test.YtjfjliobencppaaGreatDoorR00
set_option linter.unusedVariables false
set_option linter.unusedSimpArgs false
set_option maxRecDepth 100000
set_option maxHeartbeats 1000000
namespace Go.Proofs.YtjfjliobencppaaGreatDoor
open Go.RowKit
def AddQ (g : Nat) (ρ : Option Nat) (L T : List UInt8) (w : World) (ok : Bool) (w' : World) : Prop :=
 Chg g ρ w w'∧(ok=true→L.length+T.length≤8192∧∃ ρ',Nxt ρ ρ' w∧Buf g ρ' (L++T) w')∧(ok=false→8192 < L.length+T.length)
theorem add_q {g : Nat} {ρ : Option Nat} {L : List UInt8} {ps : List ByteArray} {w0 w : World} {e : Ending} {w' : World} (hb : Below w0.heap.size w0 w) (h : AddP g ρ L ps w e w') : ∃ ok,e=.returned (.bool ok)∧AddQ g ρ L (catA ps) w0 ok w':=by
 obtain ⟨h1,h2⟩:=h
 have h3 : Chg g ρ w0 w':=(Chg.of_below hb).trans (Or.inl rfl) h1
 rcases h2 with ⟨a,rfl,ρ',hn,hB⟩ | ⟨a,rfl⟩
 ·exact ⟨true,rfl,h3,fun _ => ⟨a,ρ',Nxt.trans (Or.inl rfl) hb.size hn,hB⟩,fun e => by cases e⟩
 ·exact ⟨false,rfl,h3,fun e => (by cases e),fun _ => a⟩
theorem add_two (g : Nat) (ρ : Option Nat) (L : List UInt8) (hL : L.length≤8192) (a b : ByteArray) (ha : a.size≤1000000000) (hb : b.size≤1000000000) (w : World) (hB : Buf g ρ L w) :
  Calls Tryz.prog 55 #[.slice (some ⟨w.heap.size,0,none⟩) 2 2,.pointer (some ⟨g,0,none⟩)] (w.alloc (.cells #[.string a,.string b] 9)) fun e w' => ∃ ok,e=.returned (.bool ok)∧AddQ g ρ L (a.data.toList++b.data.toList) w ok w':=by
 have hbl:=alloc_below w (.cells #[.string a,.string b] 9)
 have h:=add_any g w.heap.size [a,b] (by simp) (by simp) (by intro p hp; simp at hp; rcases hp with rfl | rfl <;> assumption) ρ L _ (hB.later hbl) hL (by
  intro j hj
  match j,hj with
  | 0,_ => exact cell_new w _ 9 0
  | 1,_ => exact cell_new w _ 9 1)
 refine h.mono fun e w' hp => ?_
 have:=add_q hbl hp
 simpa [catA] using this
theorem add_three (g : Nat) (ρ : Option Nat) (L : List UInt8) (hL : L.length≤8192) (a b c : ByteArray) (ha : a.size≤1000000000) (hb : b.size≤1000000000) (hc : c.size≤1000000000) (w : World) (hB : Buf g ρ L w) :
  Calls Tryz.prog 55 #[.slice (some ⟨w.heap.size,0,none⟩) 3 3,.pointer (some ⟨g,0,none⟩)] (w.alloc (.cells #[.string a,.string b,.string c] 9)) fun e w' => ∃ ok,e=.returned (.bool ok)∧AddQ g ρ L (a.data.toList++(b.data.toList++c.data.toList)) w ok w':=by
 have hbl:=alloc_below w (.cells #[.string a,.string b,.string c] 9)
 have h:=add_any g w.heap.size [a,b,c] (by simp) (by simp) (by intro p hp; simp at hp; rcases hp with rfl | rfl | rfl <;> assumption) ρ L _ (hB.later hbl) hL (by
  intro j hj
  match j,hj with
  | 0,_ => exact cell_new w _ 9 0
  | 1,_ => exact cell_new w _ 9 1
  | 2,_ => exact cell_new w _ 9 2)
 refine h.mono fun e w' hp => ?_
 have:=add_q hbl hp
 simpa [catA] using this
theorem put_one (k : Nat) (hk : k < 256) (w : World) : Calls Tryz.prog 93 #[.int .u64 (k : Int),.int .i64 1] w fun e w' => e=.returned (.string (str [UInt8.ofNat k]))∧Below w.heap.size w w':=by
 have h:=put_any k 1 (by omega) w
 rw [show clip 1=1 from rfl,be_one] at h
 exact h
theorem AddQ.pre {g : Nat} {ρ : Option Nat} {L T : List UInt8} {w w1 w' : World} {ok : Bool} (hb : Below w.heap.size w w1) (h : AddQ g ρ L T w1 ok w') : AddQ g ρ L T w ok w':=by
 obtain ⟨h1,h2,h3⟩:=h
 exact ⟨(Chg.of_below hb).trans (Or.inl rfl) h1,fun e => ⟨(h2 e).1,(h2 e).2.elim fun ρ' hh => ⟨ρ',Nxt.trans (Or.inl rfl) hb.size hh.1,hh.2⟩⟩,h3⟩
def WrP (g : Nat) (ρ : Option Nat) (L T : List UInt8) (w : World) (e : Ending) (w' : World) : Prop:=∃ ok,e=.returned (.bool ok)∧AddQ g ρ L T w ok w'
theorem write_one (n : Nat) (hn : n≤18446744073709551615) (s : ByteArray) (o : Option Addr) (m cap : Nat) (g : Nat) (ρ : Option Nat) (L : List UInt8) (hL : L.length≤8192) (w : World) (hB : Buf g ρ L w) :
  Calls Tryz.prog 58 #[.agg #[.int .i64 1,.int .u64 (n : Int),.string s,.slice o m cap],.func (Fn.func 55) #[] #[.pointer (some ⟨g,0,none⟩)]] w (WrP g ρ L (1::sh n) w):=by
 have K1:=Lib.hid (put_one 1 (by omega))
 rw [show UInt8.ofNat 1=1 from rfl] at K1
 have KS:=Lib.hid (fun w => short_any n hn w)
 have hsl:=sh_ten n hn
 have KA : Hid (∀ w,Buf g ρ L w→Calls Tryz.prog 55 #[.slice (some ⟨w.heap.size,0,none⟩) 2 2,.pointer (some ⟨g,0,none⟩)] (w.alloc (.cells #[.string (str [1]),.string (str (sh n))] 9)) fun e w' => ∃ ok,e=.returned (.bool ok)∧AddQ g ρ L (1::sh n) w ok w') :=
  Lib.hid (fun w h => add_two g ρ L hL (str [1]) (str (sh n)) (by rw [size_str]; simp) (by rw [size_str]; omega) w h)
 generalize (1 : UInt8)::sh n=T at *
 generalize str [1]=S1 at *
 generalize str (sh n)=S2 at *
 clear hn hsl
 have H0:=Lib.hid (VW.new w (.int .i64 1) (.int .u64 (n : Int)) (.string s) (.slice o m cap) 69)
 have HB0:=Lib.hid (hB.later (alloc_below w (.cells #[.int .i64 1,.int .u64 (n : Int),.string s,.slice o m cap] 69)))
 obtain ⟨c0,c1,c2,c3⟩:=H0.out.1
 clear hB
 go_enter Tryz.func58,Tryz.ntmps58
 go_wp2_with fail
 refine (K1.out _).mono ?_
 rintro r w1 ⟨rfl,hb1⟩
 have H1:=Lib.hid (H0.out.later hb1)
 have HB1:=Lib.hid (HB0.out.later hb1)
 clear c0 c1 c2 c3 hb1
 obtain ⟨c0,c1,c2,c3⟩:=H1.out.1
 go_wp2_with fail
 refine (KS.out _).mono ?_
 rintro r w2 ⟨rfl,hb2⟩
 have HBL:=Lib.hid (H1.out.2.2.trans (hb2.mono H1.out.2.2.size))
 have HB2:=Lib.hid (HB1.out.later hb2)
 clear c0 c1 c2 c3 hb2
 go_wp2_with fail
 refine (KA.out w2 HB2.out).mono ?_
 rintro r w3 ⟨ok,rfl,hq⟩
 have HQ:=Lib.hid (AddQ.pre HBL.out hq)
 clear hq
 go_wp2
 go_ret
 exact ⟨ok,rfl,HQ.out⟩
theorem write_two (n : Int) (s : ByteArray) (hs : s.size≤1000000000) (o : Option Addr) (m cap : Nat) (g : Nat) (ρ : Option Nat) (L : List UInt8) (hL : L.length≤8192) (w : World) (hB : Buf g ρ L w) :
  Calls Tryz.prog 58 #[.agg #[.int .i64 2,.int .u64 n,.string s,.slice o m cap],.func (Fn.func 55) #[] #[.pointer (some ⟨g,0,none⟩)]] w (WrP g ρ L (2::(sh s.size++s.data.toList)) w):=by
 have K1:=Lib.hid (put_one 2 (by omega))
 rw [show UInt8.ofNat 2=2 from rfl] at K1
 have KS:=Lib.hid (fun w => short_any s.size (by omega) w)
 have hsl:=sh_ten s.size (by omega)
 have hwr : IntKind.u64.wrap (s.size : Int)=(s.size : Int):=IntWalk.u64_in _ (by omega)
 have KA : Hid (∀ w,Buf g ρ L w→Calls Tryz.prog 55 #[.slice (some ⟨w.heap.size,0,none⟩) 3 3,.pointer (some ⟨g,0,none⟩)] (w.alloc (.cells #[.string (str [2]),.string (str (sh s.size)),.string s] 9)) fun e w' => ∃ ok,e=.returned (.bool ok)∧AddQ g ρ L (2::(sh s.size++s.data.toList)) w ok w') :=
  Lib.hid (fun w h => add_three g ρ L hL (str [2]) (str (sh s.size)) s (by rw [size_str]; simp) (by rw [size_str]; omega) hs w h)
 generalize (2 : UInt8)::(sh s.size++s.data.toList)=T at *
 generalize str [2]=S1 at *
 generalize str (sh s.size)=S2 at *
 clear hsl
 have H0:=Lib.hid (VW.new w (.int .i64 2) (.int .u64 n) (.string s) (.slice o m cap) 69)
 have HB0:=Lib.hid (hB.later (alloc_below w (.cells #[.int .i64 2,.int .u64 n,.string s,.slice o m cap] 69)))
 obtain ⟨c0,c1,c2,c3⟩:=H0.out.1
 clear hB
 go_enter Tryz.func58,Tryz.ntmps58
 go_wp2_with fail
 refine (K1.out _).mono ?_
 rintro r w1 ⟨rfl,hb1⟩
 have H1:=Lib.hid (H0.out.later hb1)
 have HB1:=Lib.hid (HB0.out.later hb1)
 clear c0 c1 c2 c3 hb1
 obtain ⟨c0,c1,c2,c3⟩:=H1.out.1
 go_upto_region 5 with fail
 have HBd : Hid (Buf g ρ L w1.drew):=Lib.hid (HB1.out.later ((Below.refl _ _).drew))
 have H1d:=Lib.hid H1.out.drew
 go_region_with (first
  | (go_at_call 94; refine (KS.out _).mono ?_; rintro x w3 ⟨rfl,hb3⟩; have H3:=Lib.hid (H1d.out.later hb3); have HB3:=Lib.hid (HBd.out.later hb3); obtain ⟨d0,d1,d2,d3⟩:=H3.out.1)
  | (go_at_call 55; refine (KA.out _ HB3.out).mono ?_; rintro x w4 ⟨ok,rfl,hq⟩))
 all_goals
  have HQ:=Lib.hid (AddQ.pre (H3.out.2.2) hq)
  clear hq
  simp only [Exit.then]
  apply_assumption
  go_wp2
  go_ret
  exact ⟨ok,rfl,HQ.out⟩
end Go.Proofs.YtjfjliobencppaaGreatDoor
