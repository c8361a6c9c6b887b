/- config: ConfigParses, over awake and the document's Of. -/
import Derived.Test.YtjfjliobencppaaGreatDoorR00
import Derived.Test.YtjfjliobencppaaGreatDoorR38
set_option linter.unusedVariables false
set_option linter.unusedSimpArgs false
set_option maxRecDepth 100000
set_option maxHeartbeats 4000000
namespace Go.Proofs.YtjfjliobencppaaGreatDoor.Cf
open Go.RowKit
theorem law_parses (hOf : ∀ (t : Tr) (c0 c1 c2 c3 : Value) (w : World),VT w t c0 c1 c2 c3→Calls Tryz.prog 37 #[.agg #[c0,c1,c2,c3]] w (OfP t w)) (s : ByteArray) (w : World) (hw : ∀ wz,Below w.heap.size w wz→Calls Tryz.prog 7 #[] wz (TrP true wz)) :
  Calls Tryz.prog 4 #[.string s] w (TrP true w):=by
 have KW:=Lib.hid (hw w (Below.refl _ _))
 have KOF:=Lib.hid hOf
 clear hw hOf
 go_enter Tryz.func4,Tryz.ntmps4
 go_wp2_with fail
 refine (KW.out).mono ?_
 rintro e w1 ⟨rfl,hb⟩
 have HB1:=Lib.hid hb
 clear hb
 by_cases hs : s.size≤9000
 ·have q1 : ¬ (9000 : Int) < (s.size : Int):=by omega
  have K12:=Lib.hid (fun w => parse_any s (by omega) w)
  have K16:=Lib.hid (fun w => rparse_any KOF.out s (by omega) w)
  have HBK:=Lib.hid (fun h => parse_back (s:=s) h)
  have HSZ:=Lib.hid (psC_sized s)
  have HZ:=Lib.hid (fun h => ps_zero (s:=s) h)
  generalize psC s=C at *
  generalize psE s=E at *
  go_wp2_with fail
  refine (K12.out _).mono ?_
  rintro e w2 ⟨⟨x0,x1,x2,rfl,hp⟩,hb⟩
  have HB2:=Lib.hid (HB1.out.trans (hb.mono HB1.out.size))
  have HP2:=Lib.hid hp
  obtain ⟨ox1,cx1,hx1⟩:=hp.2.2.1.form
  obtain ⟨ox2,cx2,hx2⟩:=hp.2.2.2.form
  have hx0:=hp.1
  subst hx0 hx1 hx2
  clear hp hb
  go_upto_region 6 with fail
  have hb:=alloc_below w2 (.cells #[.int .u64 (C.v : Int),.slice ox1 C.l.length cx1,.slice ox2 C.c.length cx2] 26)
  have HB3:=Lib.hid (HB2.out.trans (hb.mono HB2.out.size))
  have HP3:=Lib.hid (HP2.out.later hb)
  have HX3:=Lib.hid (alloc_at (w:=w2) (g:=w2.heap.size) #[.int .u64 (C.v : Int),.slice ox1 C.l.length cx1,.slice ox2 C.c.length cx2] 26 rfl)
  clear hb
  generalize w2.alloc (.cells #[.int .u64 (C.v : Int),.slice ox1 C.l.length cx1,.slice ox2 C.c.length cx2] 26)=w3 at *
  generalize w2.heap.size=g3 at *
  go_wp2_with fail
  refine (K16.out _).mono ?_
  rintro e w4 ⟨⟨y0,y1,y2,rfl,hq⟩,hb⟩
  have HB4:=Lib.hid (HB3.out.trans (hb.mono HB3.out.size))
  have HP4:=Lib.hid (HP3.out.later hb)
  have HX4:=Lib.hid (HX3.out.later hb)
  have HQ4:=Lib.hid hq
  obtain ⟨oy1,cy1,hy1⟩:=hq.2.2.1.form
  obtain ⟨oy2,cy2,hy2⟩:=hq.2.2.2.form
  have hy0:=hq.1
  subst hy0 hy1 hy2
  clear hq hb
  go_upto_region 7 with fail
  have hb:=alloc_below w4 (.cells #[.int .u64 (C.v : Int),.slice oy1 C.l.length cy1,.slice oy2 C.c.length cy2] 37)
  have HB5:=Lib.hid (HB4.out.trans (hb.mono HB4.out.size))
  have HP5:=Lib.hid (HP4.out.later hb)
  have HX5:=Lib.hid (HX4.out.later hb)
  have HQ5:=Lib.hid (HQ4.out.later hb)
  have HY5:=Lib.hid (alloc_at (w:=w4) (g:=w4.heap.size) #[.int .u64 (C.v : Int),.slice oy1 C.l.length cy1,.slice oy2 C.c.length cy2] 37 rfl)
  clear hb
  generalize w4.alloc (.cells #[.int .u64 (C.v : Int),.slice oy1 C.l.length cy1,.slice oy2 C.c.length cy2] 37)=w5 at *
  generalize w4.heap.size=g5 at *
  have KTX : Hid (∀ wz,CoIn wz (.int .u64 (C.v : Int)) (.slice ox1 C.l.length cx1) (.slice ox2 C.c.length cx2) C→Calls Tryz.prog 11 #[.agg #[.int .u64 (C.v : Int),.slice ox1 C.l.length cx1,.slice ox2 C.c.length cx2]] wz fun e w' => (∃ d1 d2,e=.returned (.agg #[.int .u64 (C.v : Int),d1,d2])∧CoIn w' (.int .u64 (C.v : Int)) d1 d2 C)∧Below wz.heap.size wz w'):=Lib.hid (fun wz h => to_any h HSZ.out)
  have KRS : Hid (∀ wz t1 t2,CoIn wz (.int .u64 (C.v : Int)) t1 t2 C→CoIn wz (.int .u64 (C.v : Int)) (.slice oy1 C.l.length cy1) (.slice oy2 C.c.length cy2) C→Calls Tryz.prog 15 #[.agg #[.int .u64 (C.v : Int),t1,t2],.agg #[.int .u64 (C.v : Int),.slice oy1 C.l.length cy1,.slice oy2 C.c.length cy2]] wz (TrP true wz)):=Lib.hid (fun wz t1 t2 h1 h2 => by
   have k:=rsame_co h1 h2 HSZ.out HSZ.out
   rwa [decide_eq_true (rfl : C=C)] at k)
  have KZ : Hid (E≠0→∀ wz,CoIn wz (.int .u64 (C.v : Int)) (.slice ox1 C.l.length cx1) (.slice ox2 C.c.length cx2) C→Calls Tryz.prog 14 #[.agg #[.int .u64 (C.v : Int),.slice ox1 C.l.length cx1,.slice ox2 C.c.length cx2],.agg #[.int .u64 0,.slice none 0 0,.slice none 0 0]] wz (TrP true wz)):=Lib.hid (fun hE wz h => by
   have k:=same_co h (CoIn.zero wz) HSZ.out
   rwa [decide_eq_true (HZ.out hE)] at k)
  have K9 : Hid (∀ wz,CoIn wz (.int .u64 (C.v : Int)) (.slice ox1 C.l.length cx1) (.slice ox2 C.c.length cx2) C→Calls Tryz.prog 9 #[.agg #[.int .u64 (C.v : Int),.slice ox1 C.l.length cx1,.slice ox2 C.c.length cx2]] wz fun e w' => e=.returned (.tuple #[.string C.out,.int .i64 (C.err : Nat)])∧Below wz.heap.size wz w'):=Lib.hid (fun wz h => bytes_any h HSZ.out)
  have HX20:=Lib.hid (show Bk w5.drew g3 #[.int .u64 (C.v : Int),.slice ox1 C.l.length cx1,.slice ox2 C.c.length cx2] 26 from HX5.out)
  have HY20:=Lib.hid (show Bk w5.drew g5 #[.int .u64 (C.v : Int),.slice oy1 C.l.length cy1,.slice oy2 C.c.length cy2] 37 from HY5.out)
  have HB20:=Lib.hid HB5.out.drew
  have HP20:=Lib.hid (HP5.out.later (w':=w5.drew) ⟨rfl,rfl,rfl,Nat.le_refl _,fun _ _ => rfl⟩)
  have HQ20:=Lib.hid (HQ5.out.later (w':=w5.drew) ⟨rfl,rfl,rfl,Nat.le_refl _,fun _ _ => rfl⟩)
  have mkS : Hid (∀ wz,Bk wz g3 #[.int .u64 (C.v : Int),.slice ox1 C.l.length cx1,.slice ox2 C.c.length cx2] 26→Bk wz g5 #[.int .u64 (C.v : Int),.slice oy1 C.l.length cy1,.slice oy2 C.c.length cy2] 37→wz.cell? ⟨g3,0,none⟩=some (.int .u64 (C.v : Int))∧wz.cell? ⟨g3,1,none⟩=some (.slice ox1 C.l.length cx1)∧wz.cell? ⟨g3,2,none⟩=some (.slice ox2 C.c.length cx2)∧wz.cell? ⟨g5,0,none⟩=some (.int .u64 (C.v : Int))∧wz.cell? ⟨g5,1,none⟩=some (.slice oy1 C.l.length cy1)∧wz.cell? ⟨g5,2,none⟩=some (.slice oy2 C.c.length cy2)):=Lib.hid (fun wz h k => ⟨(bk3 h).1,(bk3 h).2.1,(bk3 h).2.2,(bk3 k).1,(bk3 k).2.1,(bk3 k).2.2⟩)
  by_cases hE : E=0
  ·obtain ⟨hb1,hb2⟩:=HBK.out hE
   subst hE
   rw [hb1,hb2] at K9
   clear KZ HZ HBK
   refine wp_region_held_drew (S:=fun wz => wz.cell? ⟨g3,0,none⟩=some (.int .u64 (C.v : Int))∧wz.cell? ⟨g3,1,none⟩=some (.slice ox1 C.l.length cx1)∧wz.cell? ⟨g3,2,none⟩=some (.slice ox2 C.c.length cx2)∧wz.cell? ⟨g5,0,none⟩=some (.int .u64 (C.v : Int))∧wz.cell? ⟨g5,1,none⟩=some (.slice oy1 C.l.length cy1)∧wz.cell? ⟨g5,2,none⟩=some (.slice oy2 C.c.length cy2)) (by kernel_rfl) (mkS.out _ HX20.out HY20.out) (fun hj9 => ?_)
   generalize w5.drew=wc20 at *
   refine tkH (i:=0) (oi:=⟨some 24,_,_,_,_,_⟩) (v:=?_) rfl (Or.inl ⟨by rfl,by (intro w hSw; (try dsimp only at hSw); go_simp; try with_reducible rfl)⟩) hj9 ?_
   try simp only [Act.put,pS,p0,p1]
   refine tkH (i:=1) (oi:=⟨some 25,_,_,_,_,_⟩) (v:=?_) rfl (Or.inl ⟨by rfl,by (intro w hSw; (try dsimp only at hSw); go_simp; try with_reducible rfl)⟩) hj9 ?_
   try simp only [Act.put,pS,p0,p1]
   refine tkH (i:=2) (oi:=⟨some 26,_,_,_,_,_⟩) (v:=?_) rfl (Or.inl ⟨by rfl,by (intro w hSw; (try dsimp only at hSw); go_simp; try with_reducible rfl)⟩) hj9 ?_
   try simp only [Act.put,pS,p0,p1]
   refine tkH (i:=3) (oi:=⟨some 27,_,_,_,_,_⟩) (v:=?_) rfl (Or.inl ⟨by rfl,by (intro w hSw; (try dsimp only at hSw); go_simp; try with_reducible rfl)⟩) hj9 ?_
   try simp only [Act.put,pS,p0,p1]
   refine tkH (i:=4) (oi:=⟨some 28,_,_,_,_,_⟩) (v:=?_) rfl (Or.inl ⟨by rfl,by (intro w hSw; (try dsimp only at hSw); go_simp; try with_reducible rfl)⟩) hj9 ?_
   try simp only [Act.put,pS,p0,p1]
   refine tkH (i:=5) (oi:=⟨some 29,_,_,_,_,_⟩) (v:=?_) rfl (Or.inl ⟨by rfl,by (intro w hSw; (try dsimp only at hSw); go_simp; try with_reducible rfl)⟩) hj9 ?_
   try simp only [Act.put,pS,p0,p1]
   refine tkH (i:=6) (oi:=⟨some 30,_,_,_,_,_⟩) (v:=?_) rfl (Or.inl ⟨by rfl,by (intro w hSw; (try dsimp only at hSw); go_simp; try with_reducible rfl)⟩) hj9 ?_
   try simp only [Act.put,pS,p0,p1]
   refine wpAnyH_take (i:=7) (oi:=⟨some 31,_,_,_,_,_⟩) (v:=undef) rfl (by kernel_rfl) (by kernel_rfl) (by kernel_rfl) (fun _ _ _ h => h) (Or.inr ⟨by rfl,rfl⟩) hj9 ?_
   try simp only [Act.put,pS,p0,p1]
   refine wpAnyH_take (i:=8) (oi:=⟨some 32,_,_,_,_,_⟩) (v:=undef) rfl (by kernel_rfl) (by kernel_rfl) (by kernel_rfl) (fun _ _ _ h => h) (Or.inr ⟨by rfl,rfl⟩) hj9 ?_
   try simp only [Act.put,pS,p0,p1]
   refine wpAnyH_take (i:=9) (oi:=⟨some 33,_,_,_,_,_⟩) (v:=undef) rfl (by kernel_rfl) (by kernel_rfl) (by kernel_rfl) (fun _ _ _ h => h) (Or.inr ⟨by rfl,rfl⟩) hj9 ?_
   try simp only [Act.put,pS,p0,p1]
   refine wpAnyH_take (i:=10) (oi:=⟨some 34,_,_,_,_,_⟩) (v:=undef) rfl (by kernel_rfl) (by kernel_rfl) (by kernel_rfl) (fun _ _ _ h => h) (Or.inr ⟨by rfl,rfl⟩) hj9 ?_
   try simp only [Act.put,pS,p0,p1]
   refine tkH (i:=11) (oi:=⟨some 35,_,_,_,_,_⟩) (v:=?_) rfl (Or.inl ⟨by rfl,by (intro w hSw; (try dsimp only at hSw); go_simp; try with_reducible rfl)⟩) hj9 ?_
   try simp only [Act.put,pS,p0,p1]
   refine tkH (i:=12) (oi:=⟨some 36,_,_,_,_,_⟩) (v:=?_) rfl (Or.inl ⟨by rfl,by (intro w hSw; (try dsimp only at hSw); go_simp; try with_reducible rfl)⟩) hj9 ?_
   try simp only [Act.put,pS,p0,p1]
   refine tkH (i:=13) (oi:=⟨some 37,_,_,_,_,_⟩) (v:=?_) rfl (Or.inl ⟨by rfl,by (intro w hSw; (try dsimp only at hSw); go_simp; try with_reducible rfl)⟩) hj9 ?_
   try simp only [Act.put,pS,p0,p1]
   refine tkH (i:=14) (oi:=⟨some 38,_,_,_,_,_⟩) (v:=?_) rfl (Or.inl ⟨by rfl,by (intro w hSw; (try dsimp only at hSw); go_simp; try with_reducible rfl)⟩) hj9 ?_
   try simp only [Act.put,pS,p0,p1]
   refine tkH (i:=15) (oi:=⟨some 39,_,_,_,_,_⟩) (v:=?_) rfl (Or.inl ⟨by rfl,by (intro w hSw; (try dsimp only at hSw); go_simp; try with_reducible rfl)⟩) hj9 ?_
   try simp only [Act.put,pS,p0,p1]
   refine tkH (i:=16) (oi:=⟨some 40,_,_,_,_,_⟩) (v:=?_) rfl (Or.inl ⟨by rfl,by (intro w hSw; (try dsimp only at hSw); go_simp; try with_reducible rfl)⟩) hj9 ?_
   try simp only [Act.put,pS,p0,p1]
   refine tkH (i:=17) (oi:=⟨some 41,_,_,_,_,_⟩) (v:=?_) rfl (Or.inl ⟨by rfl,by (intro w hSw; (try dsimp only at hSw); go_simp; try with_reducible rfl)⟩) hj9 ?_
   try simp only [Act.put,pS,p0,p1]
   refine tkH (i:=19) (oi:=⟨some 43,_,_,_,_,_⟩) (v:=?_) rfl (Or.inl ⟨by rfl,by (intro w hSw; (try dsimp only at hSw); go_simp; try with_reducible rfl)⟩) hj9 ?_
   try simp only [Act.put,pS,p0,p1]
   refine wpAnyH_ready (rs:=[18]) (by kernel_rfl) (by simp) ?_
   refine AllReadyH.cons (o:=⟨some 42,_,_,_,_,_⟩) rfl (fun K hK => ?_) ?_
   ·go_simp
    refine (KTX.out _ HP20.out).mono ?_
    rintro ze wc21 ⟨⟨t1,t2,rfl,hta⟩,hbn⟩
    try go_simp
    have HX21:=Lib.hid (Bk.later HX20.out hbn)
    have HY21:=Lib.hid (Bk.later HY20.out hbn)
    have HP21:=Lib.hid (HP20.out.later hbn)
    have HQ21:=Lib.hid (HQ20.out.later hbn)
    have HB21:=Lib.hid (HB20.out.trans (hbn.mono HB20.out.size))
    have HTA21:=Lib.hid hta
    obtain ⟨ot1,ct1,hft1⟩:=hta.2.2.1.form
    obtain ⟨ot2,ct2,hft2⟩:=hta.2.2.2.form
    subst hft1
    subst hft2
    clear hta
    refine hK.out _ _ (mkS.out _ HX21.out HY21.out) (fun hj8 => ?_)
    clear hK K hj9
    have hj9:=hj8
    clear hj8
    clear hbn
    try simp only [Act.put,pS,p0,p1]
    refine wpAnyH_ready (rs:=[20]) (by kernel_rfl) (by simp) ?_
    refine AllReadyH.cons (o:=⟨some 44,_,_,_,_,_⟩) rfl (fun K hK => ?_) ?_
    ·go_simp
     refine (KRS.out _ _ _ HTA21.out HQ21.out).mono ?_
     rintro ze wc22 ⟨rfl,hbn⟩
     try go_simp
     have HX22:=Lib.hid (Bk.later HX21.out hbn)
     have HY22:=Lib.hid (Bk.later HY21.out hbn)
     have HP22:=Lib.hid (HP21.out.later hbn)
     have HQ22:=Lib.hid (HQ21.out.later hbn)
     have HB22:=Lib.hid (HB21.out.trans (hbn.mono HB21.out.size))
     have HTA22:=Lib.hid (HTA21.out.later hbn)
     refine hK.out _ _ (mkS.out _ HX22.out HY22.out) (fun hj8 => ?_)
     clear hK K hj9
     have hj9:=hj8
     clear hj8
     clear hbn
     try simp only [Act.put,pS,p0,p1]
     refine tkH (i:=21) (oi:=⟨some 45,_,_,_,_,_⟩) (v:=?_) rfl (Or.inl ⟨by rfl,by (intro w hSw; (try dsimp only at hSw); go_simp; try with_reducible rfl)⟩) hj9 ?_
     try simp only [Act.put,pS,p0,p1]
     refine tkH (i:=22) (oi:=⟨some 46,_,_,_,_,_⟩) (v:=?_) rfl (Or.inl ⟨by rfl,by (intro w hSw; (try dsimp only at hSw); go_simp; try with_reducible rfl)⟩) hj9 ?_
     try simp only [Act.put,pS,p0,p1]
     refine tkH (i:=23) (oi:=⟨some 47,_,_,_,_,_⟩) (v:=?_) rfl (Or.inl ⟨by rfl,by (intro w hSw; (try dsimp only at hSw); go_simp; try with_reducible rfl)⟩) hj9 ?_
     try simp only [Act.put,pS,p0,p1]
     refine wpAnyH_done (by kernel_rfl) ?_ _
     simp only [Exit.then]
     apply_assumption
     obtain ⟨f0,f1,f2⟩:=bk3 HX22.out
     go_wp2_with fail
     refine (K9.out _ HP22.out).mono ?_
     rintro e wl ⟨rfl,hb⟩
     have HBl:=Lib.hid (HB22.out.trans (hb.mono HB22.out.size))
     clear hb
     go_wp2_with fail
     go_ret
     exact ⟨rfl,HBl.out⟩
    ·exact AllReadyH.nil
   ·exact AllReadyH.nil
  ·have KZ : Hid _:=Lib.hid (KZ.out hE)
   have q2 : ((E : Int) != 0)=true:=by rw [bne_iff_ne]; omega
   have q3 : ((E : Int) == 0)=false:=by rw [beq_eq_false_iff_ne]; omega
   clear hE HZ HBK
   generalize C.out=s1 at *
   generalize C.err=e1 at *
   refine wp_region_held_drew (S:=fun wz => wz.cell? ⟨g3,0,none⟩=some (.int .u64 (C.v : Int))∧wz.cell? ⟨g3,1,none⟩=some (.slice ox1 C.l.length cx1)∧wz.cell? ⟨g3,2,none⟩=some (.slice ox2 C.c.length cx2)∧wz.cell? ⟨g5,0,none⟩=some (.int .u64 (C.v : Int))∧wz.cell? ⟨g5,1,none⟩=some (.slice oy1 C.l.length cy1)∧wz.cell? ⟨g5,2,none⟩=some (.slice oy2 C.c.length cy2)) (by kernel_rfl) (mkS.out _ HX20.out HY20.out) (fun hj9 => ?_)
   generalize w5.drew=wc20 at *
   refine tkH (i:=0) (oi:=⟨some 24,_,_,_,_,_⟩) (v:=?_) rfl (Or.inl ⟨by rfl,by (intro w hSw; (try dsimp only at hSw); go_simp; try with_reducible rfl)⟩) hj9 ?_
   try simp only [Act.put,pS,p0,p1]
   refine tkH (i:=1) (oi:=⟨some 25,_,_,_,_,_⟩) (v:=?_) rfl (Or.inl ⟨by rfl,by (intro w hSw; (try dsimp only at hSw); go_simp; try with_reducible rfl)⟩) hj9 ?_
   try simp only [Act.put,pS,p0,p1]
   refine tkH (i:=2) (oi:=⟨some 26,_,_,_,_,_⟩) (v:=?_) rfl (Or.inl ⟨by rfl,by (intro w hSw; (try dsimp only at hSw); go_simp; try with_reducible rfl)⟩) hj9 ?_
   try simp only [Act.put,pS,p0,p1]
   refine tkH (i:=3) (oi:=⟨some 27,_,_,_,_,_⟩) (v:=?_) rfl (Or.inl ⟨by rfl,by (intro w hSw; (try dsimp only at hSw); go_simp; try with_reducible rfl)⟩) hj9 ?_
   try simp only [Act.put,pS,p0,p1]
   refine tkH (i:=4) (oi:=⟨some 28,_,_,_,_,_⟩) (v:=?_) rfl (Or.inl ⟨by rfl,by (intro w hSw; (try dsimp only at hSw); go_simp; try with_reducible rfl)⟩) hj9 ?_
   try simp only [Act.put,pS,p0,p1]
   refine tkH (i:=5) (oi:=⟨some 29,_,_,_,_,_⟩) (v:=?_) rfl (Or.inl ⟨by rfl,by (intro w hSw; (try dsimp only at hSw); go_simp; try with_reducible rfl)⟩) hj9 ?_
   try simp only [Act.put,pS,p0,p1]
   refine tkH (i:=6) (oi:=⟨some 30,_,_,_,_,_⟩) (v:=?_) rfl (Or.inl ⟨by rfl,by (intro w hSw; (try dsimp only at hSw); go_simp; try with_reducible rfl)⟩) hj9 ?_
   try simp only [Act.put,pS,p0,p1]
   refine tkH (i:=7) (oi:=⟨some 31,_,_,_,_,_⟩) (v:=?_) rfl (Or.inl ⟨by rfl,by (intro w hSw; (try dsimp only at hSw); go_simp; try with_reducible rfl)⟩) hj9 ?_
   try simp only [Act.put,pS,p0,p1]
   refine tkH (i:=8) (oi:=⟨some 32,_,_,_,_,_⟩) (v:=?_) rfl (Or.inl ⟨by rfl,by (intro w hSw; (try dsimp only at hSw); go_simp; try with_reducible rfl)⟩) hj9 ?_
   try simp only [Act.put,pS,p0,p1]
   refine wpAnyH_ready (rs:=[9]) (by kernel_rfl) (by simp) ?_
   refine AllReadyH.cons (o:=⟨some 33,_,_,_,_,_⟩) rfl (fun K hK => ?_) ?_
   ·go_simp
    refine (KZ.out _ HP20.out).mono ?_
    rintro ze wc21 ⟨rfl,hbn⟩
    try go_simp
    have HX21:=Lib.hid (Bk.later HX20.out hbn)
    have HY21:=Lib.hid (Bk.later HY20.out hbn)
    have HP21:=Lib.hid (HP20.out.later hbn)
    have HQ21:=Lib.hid (HQ20.out.later hbn)
    have HB21:=Lib.hid (HB20.out.trans (hbn.mono HB20.out.size))
    refine hK.out _ _ (mkS.out _ HX21.out HY21.out) (fun hj8 => ?_)
    clear hK K hj9
    have hj9:=hj8
    clear hj8
    clear hbn
    try simp only [Act.put,pS,p0,p1]
    refine tkH (i:=10) (oi:=⟨some 34,_,_,_,_,_⟩) (v:=?_) rfl (Or.inl ⟨by rfl,by (intro w hSw; (try dsimp only at hSw); go_simp; try with_reducible rfl)⟩) hj9 ?_
    try simp only [Act.put,pS,p0,p1]
    refine tkH (i:=11) (oi:=⟨some 35,_,_,_,_,_⟩) (v:=?_) rfl (Or.inl ⟨by rfl,by (intro w hSw; (try dsimp only at hSw); go_simp; try with_reducible rfl)⟩) hj9 ?_
    try simp only [Act.put,pS,p0,p1]
    refine tkH (i:=12) (oi:=⟨some 36,_,_,_,_,_⟩) (v:=?_) rfl (Or.inl ⟨by rfl,by (intro w hSw; (try dsimp only at hSw); go_simp; try with_reducible rfl)⟩) hj9 ?_
    try simp only [Act.put,pS,p0,p1]
    refine tkH (i:=13) (oi:=⟨some 37,_,_,_,_,_⟩) (v:=?_) rfl (Or.inl ⟨by rfl,by (intro w hSw; (try dsimp only at hSw); go_simp; try with_reducible rfl)⟩) hj9 ?_
    try simp only [Act.put,pS,p0,p1]
    refine tkH (i:=14) (oi:=⟨some 38,_,_,_,_,_⟩) (v:=?_) rfl (Or.inl ⟨by rfl,by (intro w hSw; (try dsimp only at hSw); go_simp; try with_reducible rfl)⟩) hj9 ?_
    try simp only [Act.put,pS,p0,p1]
    refine tkH (i:=15) (oi:=⟨some 39,_,_,_,_,_⟩) (v:=?_) rfl (Or.inl ⟨by rfl,by (intro w hSw; (try dsimp only at hSw); go_simp; try with_reducible rfl)⟩) hj9 ?_
    try simp only [Act.put,pS,p0,p1]
    refine tkH (i:=16) (oi:=⟨some 40,_,_,_,_,_⟩) (v:=?_) rfl (Or.inl ⟨by rfl,by (intro w hSw; (try dsimp only at hSw); go_simp; try with_reducible rfl)⟩) hj9 ?_
    try simp only [Act.put,pS,p0,p1]
    refine wpAnyH_take (i:=17) (oi:=⟨some 41,_,_,_,_,_⟩) (v:=undef) rfl (by kernel_rfl) (by kernel_rfl) (by kernel_rfl) (fun _ _ _ h => h) (Or.inr ⟨by rfl,rfl⟩) hj9 ?_
    try simp only [Act.put,pS,p0,p1]
    refine wpAnyH_take (i:=18) (oi:=⟨some 42,_,_,_,_,_⟩) (v:=undef) rfl (by kernel_rfl) (by kernel_rfl) (by kernel_rfl) (fun _ _ _ h => h) (Or.inr ⟨by rfl,rfl⟩) hj9 ?_
    try simp only [Act.put,pS,p0,p1]
    refine wpAnyH_take (i:=19) (oi:=⟨some 43,_,_,_,_,_⟩) (v:=undef) rfl (by kernel_rfl) (by kernel_rfl) (by kernel_rfl) (fun _ _ _ h => h) (Or.inr ⟨by rfl,rfl⟩) hj9 ?_
    try simp only [Act.put,pS,p0,p1]
    refine wpAnyH_take (i:=20) (oi:=⟨some 44,_,_,_,_,_⟩) (v:=undef) rfl (by kernel_rfl) (by kernel_rfl) (by kernel_rfl) (fun _ _ _ h => h) (Or.inr ⟨by rfl,rfl⟩) hj9 ?_
    try simp only [Act.put,pS,p0,p1]
    refine wpAnyH_take (i:=21) (oi:=⟨some 45,_,_,_,_,_⟩) (v:=undef) rfl (by kernel_rfl) (by kernel_rfl) (by kernel_rfl) (fun _ _ _ h => h) (Or.inr ⟨by rfl,rfl⟩) hj9 ?_
    try simp only [Act.put,pS,p0,p1]
    refine tkH (i:=22) (oi:=⟨some 46,_,_,_,_,_⟩) (v:=?_) rfl (Or.inl ⟨by rfl,by (intro w hSw; (try dsimp only at hSw); go_simp; try with_reducible rfl)⟩) hj9 ?_
    try simp only [Act.put,pS,p0,p1]
    refine tkH (i:=23) (oi:=⟨some 47,_,_,_,_,_⟩) (v:=?_) rfl (Or.inl ⟨by rfl,by (intro w hSw; (try dsimp only at hSw); go_simp; try with_reducible rfl)⟩) hj9 ?_
    try simp only [Act.put,pS,p0,p1]
    refine wpAnyH_done (by kernel_rfl) ?_ _
    simp only [Exit.then]
    apply_assumption
    obtain ⟨f0,f1,f2⟩:=bk3 HX21.out
    go_wp2_with fail
    refine (K9.out _ HP21.out).mono ?_
    rintro e wl ⟨rfl,hb⟩
    have HBl:=Lib.hid (HB21.out.trans (hb.mono HB21.out.size))
    clear hb
    go_wp2_with fail
    go_ret
    exact ⟨rfl,HBl.out⟩
   ·exact AllReadyH.nil
 ·have q1 : (9000 : Int) < (s.size : Int):=by omega
  go_wp2_with fail
  go_ret
  exact ⟨rfl,HB1.out⟩
end Go.Proofs.YtjfjliobencppaaGreatDoor.Cf
