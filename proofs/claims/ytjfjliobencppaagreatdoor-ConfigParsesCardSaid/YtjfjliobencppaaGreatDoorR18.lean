/- codec.read: a list begins. -/
import Derived.Test.YtjfjliobencppaaGreatDoorR17
set_option linter.unusedVariables false
set_option linter.unusedSimpArgs false
set_option maxRecDepth 1000000
set_option maxHeartbeats 4000000
namespace Go.Proofs.YtjfjliobencppaaGreatDoor
open Go.RowKit
theorem RdW.boxB {w wz w1 : World} {sρ : Option Nat} {so : Option Addr} {scap : Nat} {L : List Ent} {s : ByteArray} {k0 : Int} {n0 : Nat} {s0 : ByteArray} {o0 : Option Addr} {l0 p0 g : Nat} (h : RdW w sρ so scap L s k0 n0 s0 o0 l0 p0 wz) (hc : Chg g sρ wz w1) (hg : wz.heap.size≤g) :
  w1.cell? ⟨w.heap.size+2,0,none⟩=some (.slice so L.length scap)∧w1.frozen? ⟨w.heap.size+2,0,none⟩=false:=by
 have hs4:=h.size
 have hb:=(hc.2.2.2.2 (w.heap.size+2) (by omega) (by omega) (fun e => by have:=h.st.lo _ e; omega)).trans h.bb
 exact ⟨by rw [cell_of_row w1 _ _ _ _ _ hb]; rfl,frozen_of_row w1 _ 0 _ _ hb⟩
theorem two_new (w : World) (vs : List Value) (T : TypeId) : ∀ j u,vs[j]?=some u→(w.alloc (.cells vs.toArray T)).cell? ((⟨w.heap.size,0,none⟩ : Addr).add j)=some u:=news_at w vs T _ rfl
theorem pv_push (w : World) (A : Nat × Tr × List UInt8) (n : Nat) (u : Nat→Value) (sρ : Option Nat) (so : Option Addr) (scap : Nat) (L : List Ent) (s : ByteArray) (k0 : Int) (n0 : Nat) (s0 : ByteArray) (o0 : Option Addr) (l0 p0 : Nat) (wz : World) (HR : Hid (RdW w sρ so scap L s k0 n0 s0 o0 l0 p0 wz)) (hs : s.size≤8192)
  (b1 s1 : ByteArray) (h1 : 1≤s.size) (hb1 : b1=s.extract 0 1) (hs1 : s1=s.extract 1 s.size) (hbs : 0 < b1.size) (hbc : (b1[0]'hbs).toNat=3) (nn sz : Nat) (hlg : lngA 0 0 s1.data.toList=(nn,sz,0)) (s2 : ByteArray) (hsz : sz≤s1.size) (hs2 : s2=s1.extract sz s1.size) (hs2s : s2.size≤8192) (hdp : L.length≤5) (HW : Hid (∀ (a' : Act) (w' : World) (sρ' : Option Nat) (so' : Option Addr) (scap' : Nat),a'=⟨List.toArray (a'.tmps.getD 0 undef::.pointer (some ⟨w.heap.size,0,none⟩)::.pointer (some ⟨w.heap.size+1,0,none⟩)::.string ⟨#[]⟩::.int .i64 0::.pointer (some ⟨w.heap.size+2,0,none⟩)::.pointer (some ⟨w.heap.size+3,0,none⟩)::a'.tmps.getD 7 undef::a'.tmps.getD 8 undef::a'.tmps.getD 9 undef::a'.tmps.getD 10 undef::.func (Fn.func 104) #[] #[.pointer (some ⟨w.heap.size,0,none⟩)]::.func (Fn.func 105) #[] #[.pointer (some ⟨w.heap.size+2,0,none⟩)]::a'.tmps.getD 13 undef::a'.tmps.getD 14 undef::a'.tmps.getD 15 undef::a'.tmps.getD 16 undef::a'.tmps.getD 17 undef::a'.tmps.getD 18 undef::a'.tmps.getD 19 undef::a'.tmps.getD 20 undef::a'.tmps.getD 21 undef::a'.tmps.getD 22 undef::a'.tmps.getD 23 undef::a'.tmps.getD 24 undef::a'.tmps.getD 25 undef::a'.tmps.getD 26 undef::a'.tmps.getD 27 undef::a'.tmps.getD 28 undef::a'.tmps.getD 29 undef::a'.tmps.getD 30 undef::a'.tmps.getD 31 undef::a'.tmps.getD 32 undef::a'.tmps.getD 33 undef::a'.tmps.getD 34 undef::a'.tmps.getD 35 undef::a'.tmps.getD 36 undef::a'.tmps.getD 37 undef::a'.tmps.getD 38 undef::a'.tmps.getD 39 undef::a'.tmps.getD 40 undef::a'.tmps.getD 41 undef::a'.tmps.getD 42 undef::a'.tmps.getD 43 undef::a'.tmps.getD 44 undef::a'.tmps.getD 45 undef::a'.tmps.getD 46 undef::a'.tmps.getD 47 undef::a'.tmps.getD 48 undef::a'.tmps.getD 49 undef::a'.tmps.getD 50 undef::a'.tmps.getD 51 undef::a'.tmps.getD 52 undef::a'.tmps.getD 53 undef::a'.tmps.getD 54 undef::a'.tmps.getD 55 undef::a'.tmps.getD 56 undef::a'.tmps.getD 57 undef::a'.tmps.getD 58 undef::a'.tmps.getD 59 undef::a'.tmps.getD 60 undef::a'.tmps.getD 61 undef::a'.tmps.getD 62 undef::a'.tmps.getD 63 undef::a'.tmps.getD 64 undef::a'.tmps.getD 65 undef::a'.tmps.getD 66 undef::a'.tmps.getD 67 undef::a'.tmps.getD 68 undef::a'.tmps.getD 69 undef::a'.tmps.getD 70 undef::a'.tmps.getD 71 undef::a'.tmps.getD 72 undef::a'.tmps.getD 73 undef::a'.tmps.getD 74 undef::a'.tmps.getD 75 undef::a'.tmps.getD 76 undef::a'.tmps.getD 77 undef::a'.tmps.getD 78 undef::a'.tmps.getD 79 undef::a'.tmps.getD 80 undef::a'.tmps.getD 81 undef::a'.tmps.getD 82 undef::a'.tmps.getD 83 undef::a'.tmps.getD 84 undef::a'.tmps.getD 85 undef::a'.tmps.getD 86 undef::a'.tmps.getD 87 undef::a'.tmps.getD 88 undef::a'.tmps.getD 89 undef::a'.tmps.getD 90 undef::a'.tmps.getD 91 undef::a'.tmps.getD 92 undef::a'.tmps.getD 93 undef::a'.tmps.getD 94 undef::a'.tmps.getD 95 undef::a'.tmps.getD 96 undef::a'.tmps.getD 97 undef::a'.tmps.getD 98 undef::List.nil),[]⟩→RdW w sρ' so' scap' (L++[⟨nn,[],none,none,0,[]⟩]) s2 k0 n0 s0 o0 l0 p0 w'→Code.wp Tryz.prog (labT 2) (Exit.jumps (fun l a' w' => ∃ m,m < n∧JR w A l m a' w') (bodyPost Tryz.prog Tryz.f71 (RdQ w A))) a' w')) :
  Code.wp Tryz.prog (labT 0) (Exit.jumps (fun l a' w' => ∃ m,m < n∧JR w A l m a' w') (bodyPost Tryz.prog Tryz.f71 (RdQ w A))) ⟨List.toArray (u 0::.pointer (some ⟨w.heap.size,0,none⟩)::.pointer (some ⟨w.heap.size+1,0,none⟩)::.string ⟨#[]⟩::.int .i64 0::.pointer (some ⟨w.heap.size+2,0,none⟩)::.pointer (some ⟨w.heap.size+3,0,none⟩)::u 7::u 8::u 9::u 10::.func (Fn.func 104) #[] #[.pointer (some ⟨w.heap.size,0,none⟩)]::.func (Fn.func 105) #[] #[.pointer (some ⟨w.heap.size+2,0,none⟩)]::u 13::u 14::u 15::u 16::u 17::u 18::u 19::u 20::u 21::u 22::u 23::u 24::u 25::u 26::u 27::u 28::u 29::u 30::u 31::u 32::u 33::u 34::u 35::u 36::u 37::u 38::u 39::u 40::u 41::u 42::u 43::u 44::u 45::u 46::u 47::u 48::u 49::u 50::u 51::u 52::u 53::u 54::u 55::u 56::u 57::u 58::u 59::u 60::u 61::u 62::u 63::u 64::u 65::u 66::u 67::u 68::u 69::u 70::u 71::u 72::u 73::u 74::u 75::u 76::u 77::u 78::u 79::u 80::u 81::u 82::u 83::u 84::u 85::u 86::u 87::u 88::u 89::u 90::u 91::u 92::u 93::u 94::u 95::u 96::u 97::u 98::List.nil),[]⟩ wz:=by
 obtain ⟨x0,x1⟩:=HR.out.cs
 have hse : s.toList.isEmpty=false:=empty_no s h1
 have hse2 : (s.toList == (⟨#[]⟩ : ByteArray).toList)=false:=by rw [beq_eq_false_iff_ne]; intro e; rw [e] at hse; simp at hse
 have K1 : Hid (Calls Tryz.prog 104 #[.int .i64 1,.pointer (some ⟨w.heap.size,0,none⟩)] wz fun e w' => e=.returned (.string b1)∧RdW w sρ so scap L s1 k0 n0 s0 o0 l0 p0 w'):=Lib.hid (by
  have h:=cut_rd HR.out 1 h1 (by omega)
  rw [← hb1,← hs1] at h
  exact h)
 have ibs : (0 : Int) < (b1.size : Int):=by omega
 have hs1s : s1.size≤8192:=by
  have h2 : s1.data.toList.length≤s.data.toList.length:=by rw [hs1,ext_drop,List.length_drop]; omega
  simpa using Nat.le_trans (by simpa using h2) hs
 have K2 : Hid (∀ wy,Calls Tryz.prog 106 #[.string s1] wy fun e w' => e=.returned (.tuple #[.int .u64 (nn : Int),.int .i64 (sz : Int),.int .i64 0])∧wy=w'):=Lib.hid (fun wy => by
  have h:=long_any s1 (by omega) wy
  rw [hlg] at h
  exact h)
 have K3 : Hid (∀ wy,RdW w sρ so scap L s1 k0 n0 s0 o0 l0 p0 wy→Calls Tryz.prog 104 #[.int .i64 (sz : Int),.pointer (some ⟨w.heap.size,0,none⟩)] wy fun e w' => (∃ b,e=.returned (.string b))∧RdW w sρ so scap L s2 k0 n0 s0 o0 l0 p0 w'):=Lib.hid (fun wy hy => by
  refine (cut_rd hy sz hsz (by omega)).mono ?_
  rintro e w' ⟨rfl,h⟩
  rw [← hs2] at h
  exact ⟨⟨_,rfl⟩,h⟩)
 have q6 : ((L.length : Int) == 6)=false:=by rw [beq_eq_false_iff_ne]; omega
 clear h1 hb1 hs1 hs hs1s hlg hsz hs2
 conv => arg 2; whnf
 go_wp2_with (first
  | (go_at_call 104; ((with_reducible refine (K1.out).mono ?_); rintro x w2 ⟨rfl,h2⟩; have H2:=Lib.hid h2; obtain ⟨y0,y1⟩:=h2.cs; clear h2))
  | (go_at_call 106; ((with_reducible refine (K2.out _).mono ?_); rintro x w3 ⟨rfl,rfl⟩))
  | (go_at_call 104; ((with_reducible refine (K3.out _ H2.out).mono ?_); rintro x w4 ⟨⟨b,rfl⟩,h4⟩; have H4:=Lib.hid h4; obtain ⟨a0,a1⟩:=h4.cs; obtain ⟨e0,e1⟩:=h4.cb; clear h4 y0 y1))
  | (at_builtin; go_must (refine wpList_srow rfl (.tmp 68) (.tmp 71) rfl (w4.alloc (.cells #[.int .u64 (nn : Int),.slice none 0 0] 169)).heap.size sρ so scap L.length (entL L) (H4.out.later (alloc_below w4 _)).st.row (by omega) ⟨w4.heap.size,0,none⟩ [.int .u64 (nn : Int),.slice none 0 0] rfl (two_new w4 _ 169) (by intro u hu; simp at hu; rcases hu with rfl | rfl <;> rfl) rfl rfl ?_); intro o7 cap7 w7 ρ7 hr7 hn7 hc7; have H7:=Lib.hid ((H4.out.later (alloc_below w4 _)).push hr7 hn7 hc7 (Nat.le_refl _)); obtain ⟨p1,p2⟩:=(H4.out.later (alloc_below w4 _)).boxB hc7 (Nat.le_refl _); clear hr7 hn7 hc7 e0 e1))
 go_step3
 simp only [Exit.then]
 apply_assumption
 refine HW.out _ _ _ _ _ ?_ H7.out
 rfl
end Go.Proofs.YtjfjliobencppaaGreatDoor
