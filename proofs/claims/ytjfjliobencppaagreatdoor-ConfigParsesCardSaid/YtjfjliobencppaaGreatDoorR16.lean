/- codec.read: at a value's beginning. -/
import Derived.Test.YtjfjliobencppaaGreatDoorR15
set_option linter.unusedVariables false
set_option linter.unusedSimpArgs false
set_option maxRecDepth 1000000
set_option maxHeartbeats 4000000
namespace Go.Proofs.YtjfjliobencppaaGreatDoor
open Go.RowKit
theorem cut_rd {w wz : World} {sρ : Option Nat} {so : Option Addr} {scap : Nat} {L : List Ent} {s : ByteArray} {k0 : Int} {n0 : Nat} {s0 : ByteArray} {o0 : Option Addr} {l0 p0 : Nat} (h : RdW w sρ so scap L s k0 n0 s0 o0 l0 p0 wz) (k : Nat) (hk : k≤s.size) (hs : s.size≤1000000000) :
  Calls Tryz.prog 104 #[.int .i64 (k : Int),.pointer (some ⟨w.heap.size,0,none⟩)] wz fun e w' => e=.returned (.string (s.extract 0 k))∧RdW w sρ so scap L (s.extract k s.size) k0 n0 s0 o0 l0 p0 w':=by
 refine (cut_any w.heap.size k s wz h.bs hk hs).mono ?_
 rintro e w' ⟨rfl,rfl⟩
 exact ⟨rfl,h.setS _⟩
theorem pv_empty (w : World) (A : Nat × Tr × List UInt8) (n : Nat) (u : Nat→Value) (sρ : Option Nat) (so : Option Addr) (scap : Nat) (L : List Ent) (s : ByteArray) (k0 : Int) (n0 : Nat) (s0 : ByteArray) (o0 : Option Addr) (l0 p0 : Nat) (wz : World) (HR : Hid (RdW w sρ so scap L s k0 n0 s0 o0 l0 p0 wz)) (hs : s.size≤8192)
  (h0 : s=⟨#[]⟩) (HA : Hid (A=(3,t0,[]))) :
  Code.wp Tryz.prog (labT 0) (Exit.jumps (fun l a' w' => ∃ m,m < n∧JR w A l m a' w') (bodyPost Tryz.prog Tryz.f71 (RdQ w A))) ⟨List.toArray (u 0::.pointer (some ⟨w.heap.size,0,none⟩)::.pointer (some ⟨w.heap.size+1,0,none⟩)::.string ⟨#[]⟩::.int .i64 0::.pointer (some ⟨w.heap.size+2,0,none⟩)::.pointer (some ⟨w.heap.size+3,0,none⟩)::u 7::u 8::u 9::u 10::.func (Fn.func 104) #[] #[.pointer (some ⟨w.heap.size,0,none⟩)]::.func (Fn.func 105) #[] #[.pointer (some ⟨w.heap.size+2,0,none⟩)]::u 13::u 14::u 15::u 16::u 17::u 18::u 19::u 20::u 21::u 22::u 23::u 24::u 25::u 26::u 27::u 28::u 29::u 30::u 31::u 32::u 33::u 34::u 35::u 36::u 37::u 38::u 39::u 40::u 41::u 42::u 43::u 44::u 45::u 46::u 47::u 48::u 49::u 50::u 51::u 52::u 53::u 54::u 55::u 56::u 57::u 58::u 59::u 60::u 61::u 62::u 63::u 64::u 65::u 66::u 67::u 68::u 69::u 70::u 71::u 72::u 73::u 74::u 75::u 76::u 77::u 78::u 79::u 80::u 81::u 82::u 83::u 84::u 85::u 86::u 87::u 88::u 89::u 90::u 91::u 92::u 93::u 94::u 95::u 96::u 97::u 98::List.nil),[]⟩ wz:=by
 subst h0
 obtain ⟨x0,x1⟩:=HR.out.cs
 obtain ⟨r0,r1,r2,r3,rf⟩:=HR.out.cr
 have g0:=rf 0
 have g1:=rf 1
 have g2:=rf 2
 have g3:=rf 3
 clear rf
 conv => arg 2; whnf
 go_wp2
 simp only [Exit.jumps]
 refine bodyPost_ret (v:=crV (.int .i64 0) (.int .u64 0) (.string ⟨#[]⟩) (.slice none 0 0) ⟨#[]⟩ 3) (by simp [results,Tryz.results71,go_sem,crV, *]) rfl ?_
 exact HR.out.err HA.out
theorem pv_kind (w : World) (A : Nat × Tr × List UInt8) (n : Nat) (u : Nat→Value) (sρ : Option Nat) (so : Option Addr) (scap : Nat) (L : List Ent) (s : ByteArray) (k0 : Int) (n0 : Nat) (s0 : ByteArray) (o0 : Option Addr) (l0 p0 : Nat) (wz : World) (HR : Hid (RdW w sρ so scap L s k0 n0 s0 o0 l0 p0 wz)) (hs : s.size≤8192)
  (b1 s1 : ByteArray) (kc : Nat) (h1 : 1≤s.size) (hb1 : b1=s.extract 0 1) (hs1 : s1=s.extract 1 s.size) (hbs : 0 < b1.size) (hbc : (b1[0]'hbs).toNat=kc) (hkc : kc < 256) (hbad : kc < 1∨3 < kc) (HA : Hid (A=(10,t0,[]))) :
  Code.wp Tryz.prog (labT 0) (Exit.jumps (fun l a' w' => ∃ m,m < n∧JR w A l m a' w') (bodyPost Tryz.prog Tryz.f71 (RdQ w A))) ⟨List.toArray (u 0::.pointer (some ⟨w.heap.size,0,none⟩)::.pointer (some ⟨w.heap.size+1,0,none⟩)::.string ⟨#[]⟩::.int .i64 0::.pointer (some ⟨w.heap.size+2,0,none⟩)::.pointer (some ⟨w.heap.size+3,0,none⟩)::u 7::u 8::u 9::u 10::.func (Fn.func 104) #[] #[.pointer (some ⟨w.heap.size,0,none⟩)]::.func (Fn.func 105) #[] #[.pointer (some ⟨w.heap.size+2,0,none⟩)]::u 13::u 14::u 15::u 16::u 17::u 18::u 19::u 20::u 21::u 22::u 23::u 24::u 25::u 26::u 27::u 28::u 29::u 30::u 31::u 32::u 33::u 34::u 35::u 36::u 37::u 38::u 39::u 40::u 41::u 42::u 43::u 44::u 45::u 46::u 47::u 48::u 49::u 50::u 51::u 52::u 53::u 54::u 55::u 56::u 57::u 58::u 59::u 60::u 61::u 62::u 63::u 64::u 65::u 66::u 67::u 68::u 69::u 70::u 71::u 72::u 73::u 74::u 75::u 76::u 77::u 78::u 79::u 80::u 81::u 82::u 83::u 84::u 85::u 86::u 87::u 88::u 89::u 90::u 91::u 92::u 93::u 94::u 95::u 96::u 97::u 98::List.nil),[]⟩ wz:=by
 obtain ⟨x0,x1⟩:=HR.out.cs
 have hse : s.toList.isEmpty=false:=empty_no s h1
 have hse2 : (s.toList == (⟨#[]⟩ : ByteArray).toList)=false:=by rw [beq_eq_false_iff_ne]; intro e; rw [e] at hse; simp at hse
 have K1 : Hid (Calls Tryz.prog 104 #[.int .i64 1,.pointer (some ⟨w.heap.size,0,none⟩)] wz fun e w' => e=.returned (.string b1)∧RdW w sρ so scap L s1 k0 n0 s0 o0 l0 p0 w'):=Lib.hid (by
  have h:=cut_rd HR.out 1 h1 (by omega)
  rw [← hb1,← hs1] at h
  exact h)
 have hkw : IntKind.i64.wrap (kc : Int)=(kc : Int):=IntWalk.i64_in _ ⟨by omega,by omega⟩
 have ibs : (0 : Int) < (b1.size : Int):=by omega
 have hs1s : s1.size≤8192:=by
  have h2 : s1.data.toList.length≤s.data.toList.length:=by rw [hs1,ext_drop,List.length_drop]; omega
  simpa using Nat.le_trans (by simpa using h2) hs
 clear h1 hb1 hs1 hs hs1s
 have harm : Hid (∀ wy,RdW w sρ so scap L s1 k0 n0 s0 o0 l0 p0 wy→wy.cell? ⟨w.heap.size+1,0,none⟩=some (.int .i64 0)∧wy.cell? ⟨w.heap.size+1,1,none⟩=some (.int .u64 0)∧wy.cell? ⟨w.heap.size+1,2,none⟩=some (.string ⟨#[]⟩)∧wy.cell? ⟨w.heap.size+1,3,none⟩=some (.slice none 0 0)∧wy.frozen? ⟨w.heap.size+1,0,none⟩=false∧wy.frozen? ⟨w.heap.size+1,1,none⟩=false∧wy.frozen? ⟨w.heap.size+1,2,none⟩=false∧wy.frozen? ⟨w.heap.size+1,3,none⟩=false):=Lib.hid (fun wy h => ⟨h.cr.1,h.cr.2.1,h.cr.2.2.1,h.cr.2.2.2.1,h.cr.2.2.2.2 0,h.cr.2.2.2.2 1,h.cr.2.2.2.2 2,h.cr.2.2.2.2 3⟩)
 rcases hbad with hbad | hbad
 ·have q1 : (kc : Int) < 1:=by omega
  conv => arg 2; whnf
  go_wp2_with (first
   | (go_at_call 104; ((with_reducible refine (K1.out).mono ?_); rintro x w2 ⟨rfl,h2⟩; have H2:=Lib.hid h2; obtain ⟨r0,r1,r2,r3,g0,g1,g2,g3⟩:=harm.out _ h2; clear h2)))
  simp only [Exit.jumps]
  refine bodyPost_ret (v:=crV (.int .i64 0) (.int .u64 0) (.string ⟨#[]⟩) (.slice none 0 0) ⟨#[]⟩ 10) (by simp [results,Tryz.results71,go_sem,crV, *]) rfl ?_
  exact H2.out.err HA.out
 ·have q1 : ¬ (kc : Int) < 1:=by omega
  have q2 : (3 : Int) < (kc : Int):=by omega
  conv => arg 2; whnf
  go_wp2_with (first
   | (go_at_call 104; ((with_reducible refine (K1.out).mono ?_); rintro x w2 ⟨rfl,h2⟩; have H2:=Lib.hid h2; obtain ⟨r0,r1,r2,r3,g0,g1,g2,g3⟩:=harm.out _ h2; clear h2)))
  simp only [Exit.jumps]
  refine bodyPost_ret (v:=crV (.int .i64 0) (.int .u64 0) (.string ⟨#[]⟩) (.slice none 0 0) ⟨#[]⟩ 10) (by simp [results,Tryz.results71,go_sem,crV, *]) rfl ?_
  exact H2.out.err HA.out
end Go.Proofs.YtjfjliobencppaaGreatDoor
