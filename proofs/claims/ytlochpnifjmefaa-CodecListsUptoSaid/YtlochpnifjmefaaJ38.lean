/- CodecLists: what Made answers, as a value that is always there; the writing of a list of two.; CodecLists, where there is nothing to say. -/
import Derived.Test.YtlochpnifjmefaaJ37
import Derived.Test.YtlochpnifjmefaaJ22
set_option linter.unusedVariables false
set_option linter.unusedSimpArgs false
namespace Go.Proofs.Ytlochpnifjmefaa
open Go.RowKit

/-- What Made answers: a value, and whether it was made. -/
def MdB (w : World) (t : Tr) (ok : Bool) (e : Ending) (w' : World) : Prop :=
  ∃ (k : Int) (n : Nat) (s : ByteArray) (o : Option Addr) (l c : Nat), e = .returned (.tuple #[.agg #[.int .i64 k, .int .u64 (n : Int), .string s, .slice o l c], .bool ok]) ∧ Below w.heap.size w w' ∧ Hid (VIn w' t (.int .i64 k) (.int .u64 (n : Int)) (.string s) (.slice o l c))
theorem made_tree (l : List Nd) (o : Option Addr) (cap b off : Nat) (w : World) (hlen : l.length ≤ 2000000) (ho : 0 < l.length → o = some ⟨b, off, none⟩ ∧ b < w.heap.size) (hl : NdsIn w b off l) :
    ∃ (t : Tr) (ok : Bool), (okN t ∧ tsz t ≤ 2000) ∧ ∀ (wy : World), Below w.heap.size w wy → Calls Try.prog 10 #[.slice o l.length cap] wy (MdB wy t ok) := by
  have any := fun (wy : World) (hy : Below w.heap.size w wy) => made_any l o cap b off wy hlen (fun hp => ⟨(ho hp).1, Nat.lt_of_lt_of_le (ho hp).2 hy.size⟩) (hl.later hy (fun hp => (ho hp).2))
  unfold MdQ at any
  cases hr : (madeF l.length l [] []).bind fun all => all.getLast? with
  | none =>
    rw [hr] at any
    refine ⟨.mk 0 0 ⟨#[]⟩ [], false, ⟨by unfold okN okNL; exact ⟨by omega, by show (0 : Nat) ≤ 9000; omega, trivial⟩, by decide⟩, fun wy hy => (any wy hy).mono ?_⟩
    rintro e w' ⟨rfl, hb⟩
    refine ⟨0, 0, ⟨#[]⟩, none, 0, 0, rfl, hb, Lib.hid ?_⟩
    unfold VIn
    exact ⟨rfl, rfl, by omega, rfl, ⟨by show (0 : Nat) ≤ 1000000000; omega, by simp⟩, none, 0, 0, 0, rfl, fun h => absurd h (by simp), by unfold VInL; trivial⟩
  | some t =>
    rw [hr] at any
    by_cases hex : ∃ (wy : World) (e : Ending) (w' : World), Below w.heap.size w wy ∧ (∃ d0 d1 d2 d3, e = .returned (.tuple #[.agg #[d0, d1, d2, d3], .bool true]) ∧ VInP w' (fun b => wy.heap.size ≤ b) t d0 d1 d2 d3 ∧ Below wy.heap.size wy w' ∧ okN t ∧ tsz t ≤ 2000)
    · obtain ⟨wy, e, w', _, d0, d1, d2, d3, _, _, _, h1, h2⟩ := hex
      refine ⟨t, true, ⟨h1, h2⟩, fun wy hy => (any wy hy).mono ?_⟩
      rintro e w' ⟨d0, d1, d2, d3, rfl, hv, hb, _⟩
      obtain ⟨k, n, s, o, l, c, rfl, rfl, rfl, rfl⟩ := hv.cells
      exact ⟨k, n, s, o, l, c, rfl, hb, Lib.hid (VInP.plain t hv)⟩
    · refine ⟨.mk 0 0 ⟨#[]⟩ [], false, ⟨by unfold okN okNL; exact ⟨by omega, by show (0 : Nat) ≤ 9000; omega, trivial⟩, by decide⟩, fun wy hy => (any wy hy).mono ?_⟩
      intro e w' h
      exact absurd ⟨wy, e, w', hy, h⟩ hex

theorem list2_txt (t u : Tr) : txtT (.mk 3 0 ⟨#[]⟩ [t, u]) = 3 :: 2 :: (txtT t ++ txtT u) := by
  have h : sh 2 = [2] := by rw [sh, dif_neg (by omega)]; rfl
  rw [txtT]
  simp [txtL, h]
theorem list2_good (t u : Tr) (ht : putC t = 0) (hu : putC u = 0) (hl : (txtT t).length + (txtT u).length + 2 ≤ 8192) (hdt : deepT t ≤ 5) (hdu : deepT u ≤ 5) :
    putC (.mk 3 0 ⟨#[]⟩ [t, u]) = 0 := by
  obtain ⟨a1, _, _, _⟩ := put_good t ht
  obtain ⟨b1, _, _, _⟩ := put_good u hu
  unfold putC
  have h1 : sndT (.mk 3 0 ⟨#[]⟩ [t, u]) = true := by
    rw [sndT]
    have h0 : (ByteArray.mk #[]).size = 0 := rfl
    simp [sndL, a1, b1, h0]
  have h2 : deepT (.mk 3 0 ⟨#[]⟩ [t, u]) ≤ 6 := by
    rw [deepT]
    simp only [if_pos, deepL]
    omega
  have h3 : (txtT (.mk 3 0 ⟨#[]⟩ [t, u])).length ≤ 8192 := by
    rw [list2_txt]
    simp
    omega
  rw [h1, if_neg (by simp), if_neg (by omega), if_neg (by omega)]

/-- A row of two values that was just built. -/
theorem two_in {w : World} {t u : Tr} {c0 c1 c2 c3 d0 d1 d2 d3 : Value} (hv : VIn w t c0 c1 c2 c3) (hu : VIn w u d0 d1 d2 d3) :
    VInL (w.alloc (.cells #[c0, c1, c2, c3, d0, d1, d2, d3] 27)) w.heap.size 0 [t, u] := by
  have hb := alloc_below w (.cells #[c0, c1, c2, c3, d0, d1, d2, d3] 27)
  unfold VInL
  refine ⟨⟨c0, c1, c2, c3, cell_new w _ 27 0, cell_new w _ 27 1, cell_new w _ 27 2, cell_new w _ 27 3, hv.later hb⟩, ?_⟩
  unfold VInL
  refine ⟨⟨d0, d1, d2, d3, cell_new w _ 27 4, cell_new w _ 27 5, cell_new w _ 27 6, cell_new w _ 27 7, hu.later hb⟩, ?_⟩
  unfold VInL
  trivial
/-- A row of two, and that it lies below the world's end. -/
def Two (t u : Tr) (g : Nat) (w : World) : Prop := g < w.heap.size ∧ VInL w g 0 [t, u]
theorem Two.new {w : World} {t u : Tr} {c0 c1 c2 c3 d0 d1 d2 d3 : Value} (hv : VIn w t c0 c1 c2 c3) (hu : VIn w u d0 d1 d2 d3) :
    Two t u w.heap.size (w.alloc (.cells #[c0, c1, c2, c3, d0, d1, d2, d3] 27)) := ⟨alloc_lt _ _, two_in hv hu⟩
theorem Two.later {t u : Tr} {g : Nat} {w w' : World} (h : Two t u g w) (hb : Below w.heap.size w w') : Two t u g w' :=
  ⟨Nat.lt_of_lt_of_le h.1 hb.size, VInL.keep hb (fun _ => h.1) h.2⟩
theorem list_two (t u : Tr) (g : Nat) (w : World) (h : Two t u g w) : Calls Try.prog 20 #[.slice (some ⟨g, 0, none⟩) 2 2] w fun e w' => ∃ (a : Int) (b : Nat) (s : ByteArray) (o : Option Addr) (l c : Nat), e = .returned (.agg #[.int .i64 a, .int .u64 (b : Int), .string s, .slice o l c]) ∧ Below w.heap.size w w' ∧ Hid (VIn w' (.mk 3 0 ⟨#[]⟩ [t, u]) (.int .i64 a) (.int .u64 (b : Int)) (.string s) (.slice o l c)) := by
  refine (list_any [t, u] (by simp) (some ⟨g, 0, none⟩) 2 g 0 w (fun _ => ⟨rfl, h.1⟩) h.2).mono ?_
  rintro e w' ⟨d0, d1, d2, d3, rfl, hv, hb⟩
  obtain ⟨a, b, s, o, l, c, rfl, rfl, rfl, rfl⟩ := hv.cells
  exact ⟨a, b, s, o, l, c, rfl, hb, Lib.hid (VInP.plain _ hv)⟩
theorem str_app (a b : List UInt8) : str a ++ str b = str (a ++ b) := by
  apply ByteArray.ext
  apply Array.ext'
  simp [str]
theorem next_two (t u : Tr) (h1 : sndT t = true) (h2 : okT t) (h3 : deepT t ≤ 6) (h4 : (txtT t).length + (txtT u).length ≤ 8192) (w : World) :
    Calls Try.prog 19 #[.string (str (txtT t) ++ str (txtT u))] w fun x w' => ∃ (a : Int) (b : Nat) (s : ByteArray) (o : Option Addr) (l c : Nat), x = .returned (.tuple #[.agg #[.int .i64 a, .int .u64 (b : Int), .string s, .slice o l c], .string (str (txtT u)), .int .i64 0]) ∧ Below w.heap.size w w' ∧ Hid (VIn w' t (.int .i64 a) (.int .u64 (b : Int)) (.string s) (.slice o l c)) := by
  rw [str_app]
  have hr := rdA_txt t (txtT u) h1 h2 h3 h4
  refine (cnext_any (str (txtT t ++ txtT u)) (by rw [str_size, List.length_append]; omega) w).mono ?_
  rintro x w' ⟨d0, d1, d2, d3, rfl, hv, hb⟩
  rw [hr] at hv ⊢
  obtain ⟨a, b, s, o, l, c, rfl, rfl, rfl, rfl⟩ := hv.cells
  exact ⟨a, b, s, o, l, c, rfl, hb, Lib.hid (VInP.plain t hv)⟩
theorem put_list2 (t u : Tr) (ht : putC t = 0) (hu : putC u = 0) (hl : (txtT t).length + (txtT u).length + 2 ≤ 8192) (hdt : deepT t ≤ 5) (hdu : deepT u ≤ 5) (c0 c1 c2 c3 : Value) (w : World) (hv : VIn w (.mk 3 0 ⟨#[]⟩ [t, u]) c0 c1 c2 c3) :
    Calls Try.prog 11 #[.agg #[c0, c1, c2, c3]] w fun e w' => e = .returned (.tuple #[.string (⟨#[3, 2]⟩ ++ str (txtT t) ++ str (txtT u)), .int .i64 0]) ∧ Below w.heap.size w w' := by
  have h := list2_good t u ht hu hl hdt hdu
  obtain ⟨_, h2, _, h4⟩ := put_good _ h
  have hp := put_tree (.mk 3 0 ⟨#[]⟩ [t, u]) c0 c1 c2 c3 w (by omega) hv
  have hs : str (txtT (.mk 3 0 ⟨#[]⟩ [t, u])) = ⟨#[3, 2]⟩ ++ str (txtT t) ++ str (txtT u) := by
    rw [list2_txt]
    apply ByteArray.ext
    apply Array.ext'
    simp [str]
  rw [h4, h, hs] at hp
  exact hp
/-- Four boxes, each with a value. -/
structure QB (w : World) (X Y Z1 Z2 : Nat) (t u : Tr) (a : Int) (b : Nat) (s : ByteArray) (o : Option Addr) (l c : Nat) (a2 : Int) (b2 : Nat) (s2 : ByteArray) (o2 : Option Addr) (l2 c2 : Nat) (a3 : Int) (b3 : Nat) (s3 : ByteArray) (o3 : Option Addr) (l3 c3 : Nat) (a4 : Int) (b4 : Nat) (s4 : ByteArray) (o4 : Option Addr) (l4 c4 : Nat) (wz : World) : Prop where
  one : PB w X Y t u a b s o l c a2 b2 s2 o2 l2 c2 wz
  two : PB w Z1 Z2 t u a3 b3 s3 o3 l3 c3 a4 b4 s4 o4 l4 c4 wz
theorem QB.later {w : World} {X Y Z1 Z2 : Nat} {t u : Tr} {a : Int} {b : Nat} {s : ByteArray} {o : Option Addr} {l c : Nat} {a2 : Int} {b2 : Nat} {s2 : ByteArray} {o2 : Option Addr} {l2 c2 : Nat} {a3 : Int} {b3 : Nat} {s3 : ByteArray} {o3 : Option Addr} {l3 c3 : Nat} {a4 : Int} {b4 : Nat} {s4 : ByteArray} {o4 : Option Addr} {l4 c4 : Nat} {wz w1 : World} (h : QB w X Y Z1 Z2 t u a b s o l c a2 b2 s2 o2 l2 c2 a3 b3 s3 o3 l3 c3 a4 b4 s4 o4 l4 c4 wz) (hb : Below wz.heap.size wz w1) : QB w X Y Z1 Z2 t u a b s o l c a2 b2 s2 o2 l2 c2 a3 b3 s3 o3 l3 c3 a4 b4 s4 o4 l4 c4 w1 :=
  ⟨h.one.later hb, h.two.later hb⟩
/-- A row of eight cells that was built. -/
def Row8 (cs : Array Value) (g : Nat) (w : World) : Prop := g < w.heap.size ∧ ∀ (j : Nat) (h : j < cs.size), w.cell? ⟨g, j, none⟩ = some cs[j]
theorem Row8.new (cs : Array Value) (g : Nat) (w : World) (hg : g = w.heap.size) : Row8 cs g (w.alloc (.cells cs 27)) := by
  subst hg
  refine ⟨alloc_lt _ _, fun j h => ?_⟩
  rw [cell_new w cs 27 j]
  simp [h]
theorem Row8.later {cs : Array Value} {g : Nat} {w w' : World} (h : Row8 cs g w) (hb : Below w.heap.size w w') : Row8 cs g w' :=
  ⟨Nat.lt_of_lt_of_le h.1 hb.size, fun j hj => (hb.cell (p := ⟨g, j, none⟩) h.1).trans (h.2 j hj)⟩
theorem Row8.two {w : World} {t u : Tr} {c0 c1 c2 c3 d0 d1 d2 d3 : Value} {g : Nat} (h : Row8 #[c0, c1, c2, c3, d0, d1, d2, d3] g w) (hv : VIn w t c0 c1 c2 c3) (hu : VIn w u d0 d1 d2 d3) : Two t u g w := by
  refine ⟨h.1, ?_⟩
  have hc := h.2
  unfold VInL
  refine ⟨⟨c0, c1, c2, c3, hc 0 (by simp), hc 1 (by simp), hc 2 (by simp), hc 3 (by simp), hv⟩, ?_⟩
  unfold VInL
  refine ⟨⟨d0, d1, d2, d3, hc 4 (by simp), hc 5 (by simp), hc 6 (by simp), hc 7 (by simp), hu⟩, ?_⟩
  unfold VInL
  trivial
theorem hv_later {w1 w2 : World} {t : Tr} {c0 c1 c2 c3 : Value} (hv : Hid (VIn w1 t c0 c1 c2 c3)) (hb : Below w1.heap.size w1 w2) : VIn w2 t c0 c1 c2 c3 := hv.out.later hb
theorem hv_later2 {w1 w2 : World} {o : Obj} {t : Tr} {c0 c1 c2 c3 : Value} (hv : Hid (VIn w1 t c0 c1 c2 c3)) (hb : Below (w1.alloc o).heap.size (w1.alloc o) w2) : VIn w2 t c0 c1 c2 c3 := (hv.out.later (alloc_below _ _)).later hb
theorem row_a {cs : Array Value} {w : World} : Row8 cs w.heap.size (w.alloc (.cells cs 27)) := Row8.new cs _ w rfl
theorem row_a1 {cs : Array Value} {w : World} {o : Obj} : Row8 cs (w.heap.size + 1) ((w.alloc o).alloc (.cells cs 27)) := Row8.new cs _ (w.alloc o) (by simp)
theorem row_b {cs : Array Value} {w : World} {o : Obj} : Row8 cs w.heap.size ((w.alloc (.cells cs 27)).alloc o) := row_a.later (alloc_below _ _)
theorem row_c {cs : Array Value} {w w2 : World} (hb : Below (w.alloc (.cells cs 27)).heap.size (w.alloc (.cells cs 27)) w2) : Row8 cs w.heap.size w2 := row_a.later hb
theorem row_c1 {cs : Array Value} {w w2 : World} {o : Obj} (hb : Below ((w.alloc o).alloc (.cells cs 27)).heap.size ((w.alloc o).alloc (.cells cs 27)) w2) : Row8 cs (w.heap.size + 1) w2 := row_a1.later hb
theorem row_d {cs : Array Value} {w w2 : World} {o : Obj} (hb : Below ((w.alloc (.cells cs 27)).alloc o).heap.size ((w.alloc (.cells cs 27)).alloc o) w2) : Row8 cs w.heap.size w2 := row_b.later hb
end Go.Proofs.Ytlochpnifjmefaa

namespace Go.Proofs.Ytlochpnifjmefaa
open Go.RowKit

set_option maxRecDepth 100000 in
set_option maxHeartbeats 4000000 in
theorem lists_walk (o p : Option Addr) (cap cap2 ln mn : Nat) (t u : Tr) (ok is : Bool) (w : World)
    (ht : Hid (okN t ∧ tsz t ≤ 2000)) (hu : Hid (okN u ∧ tsz u ≤ 2000))
    (h1 : ∀ wy, Below w.heap.size w wy → Calls Try.prog 10 #[.slice o ln cap] wy (MdB wy t ok)) (h2 : ∀ wy, Below w.heap.size w wy → Calls Try.prog 10 #[.slice p mn cap2] wy (MdB wy u is)) :
    Calls Try.prog 4 #[.slice o ln cap, .slice p mn cap2] w fun e w' => e = .returned (.bool true) ∧ Below w.heap.size w w' := by
  have K9 := Lib.hid awake7_any
  have K1 := Lib.hid h1
  have K2 := Lib.hid h2
  clear h1 h2
  go_enter Try.func4, Try.ntmps4
  go_upto_region 5 with (first
    | (go_at_call 9; ((with_reducible refine (K9.out _).mono ?_); rintro x w1 ⟨rfl, hb1⟩; have HB1 := Lib.hid hb1; clear hb1))
    | (go_at_call 10; ((with_reducible refine (K1.out _ HB1.out).mono ?_); rintro x w2 ⟨k, n, s, o2, l, c, rfl, hb2, HV2⟩; have HB2 := Lib.hid (HB1.out.trans (hb2.mono HB1.out.size)); have HA2 := Lib.hid (HB2.out.trans ((alloc_below w2 (.cells #[.int .i64 k, .int .u64 (n : Int), .string s, .slice o2 l c] 27)).mono HB2.out.size)); have hst := store27 w2 k n s o2 l c; clear hb2))
    | (go_at_call 10; ((with_reducible refine (K2.out _ HA2.out).mono ?_); rintro x w3 ⟨k3, n3, s3, o3, l3, c3, rfl, hb3, HV3⟩; have HB3 := Lib.hid hb3; have hst3 := store27 w3 k3 n3 s3 o3 l3 c3; clear hb3)))
  refine gen_wp (S := fun wz => Hid (PB w w2.heap.size w3.heap.size t u k n s o2 l c k3 n3 s3 o3 l3 c3 wz)) (Lib.hid (by
    have b2 : Bx w2.heap.size (.int .i64 k) (.int .u64 (n : Int)) (.string s) (.slice o2 l c) (w2.alloc (.cells #[.int .i64 k, .int .u64 (n : Int), .string s, .slice o2 l c] 27)) := ⟨four_new _ _ _ _ _ _, alloc_lt _ _⟩
    have a3 := alloc_below w3 (.cells #[.int .i64 k3, .int .u64 (n3 : Int), .string s3, .slice o3 l3 c3] 27)
    have b3 : Bx w3.heap.size (.int .i64 k3) (.int .u64 (n3 : Int)) (.string s3) (.slice o3 l3 c3) (w3.alloc (.cells #[.int .i64 k3, .int .u64 (n3 : Int), .string s3, .slice o3 l3 c3] 27)) := ⟨four_new _ _ _ _ _ _, alloc_lt _ _⟩
    have a2 := alloc_below w2 (.cells #[.int .i64 k, .int .u64 (n : Int), .string s, .slice o2 l c] 27)
    have z3 := HA2.out.trans (HB3.out.mono HA2.out.size)
    exact ⟨z3.trans (a3.mono z3.size), (b2.later HB3.out).later a3, b3, ((HV2.out).later a2 |>.later HB3.out).later a3, (HV3.out).later a3⟩)) ?_
  intro W5 H5
  clear hst hst3 HV2 HV3 HB1 HB2 HA2 HB3 K9 K1 K2
  generalize w2.heap.size = X at *
  generalize w3.heap.size = Y at *
  obtain ⟨x0, x1, x2, x3⟩ := H5.out.bx.1
  obtain ⟨y0, y1, y2, y3⟩ := H5.out.bY.1
  have hdt : deepT t ≤ 1000000000 := by have := (great_no t ht.out.1).1; have := ht.out.2; omega
  have hdu : deepT u ≤ 1000000000 := by have := (great_no u hu.out.1).1; have := hu.out.2; omega
  have K11 := Lib.hid (put_tree t _ _ _ _ W5 hdt H5.out.vx)
  have K11u := Lib.hid (fun (wy : World) (hy : Below W5.heap.size W5 wy) => put_tree u _ _ _ _ wy hdu (H5.out.vy.later hy))
  clear hdt hdu
  go_upto_region 7 with (first
    | (go_at_call 11; ((with_reducible refine (K11.out).mono ?_); rintro x w6 ⟨rfl, hb6⟩; have HB6 := Lib.hid hb6; have H6 := Lib.hid (H5.out.later hb6); obtain ⟨z0, z1, z2, z3⟩ := H6.out.bY.1; clear hb6))
    | (go_at_call 11; ((with_reducible refine (K11u.out _ HB6.out).mono ?_); rintro x w7 ⟨rfl, hb7⟩; have H7 := Lib.hid (H6.out.later hb7); clear hb7)))
  clear x0 x1 x2 x3 y0 y1 y2 y3 z0 z1 z2 z3
  refine gen_wp (S := fun wz => Hid (PB w X Y t u k n s o2 l c k3 n3 s3 o3 l3 c3 wz)) H7 ?_
  intro W8 H8
  clear K11 K11u HB6 H6 H7 H5
  have HB8 := Lib.hid H8.out.below
  by_cases hct : putC t = 0
  · by_cases hcu : putC u = 0
    · cases ok
      · have q1 : ((putC t : Int) != 0) = false := by rw [bne_eq_false_iff_eq]; omega
        clear hct hcu
        generalize putC t = pc at *
        generalize putC u = pu at *
        generalize putS t = ps at *
        generalize putS u = pt at *
        clear H8 ht hu
        go_wp2
        go_quiet ((fail)); go_wp2
        go_ret
        exact ⟨rfl, HB8.out.trans ((bdn _ _).mono HB8.out.size)⟩
      · cases is
        · generalize putC t = pc at *
          generalize putC u = pu at *
          generalize putS t = ps at *
          generalize putS u = pt at *
          clear H8 ht hu hct hcu
          go_wp2
          go_quiet ((fail)); go_wp2
          go_ret
          exact ⟨rfl, HB8.out.trans ((bdn _ _).mono HB8.out.size)⟩
        · obtain ⟨a1, a2, a3, a4⟩ := put_good t hct
          obtain ⟨b1, b2, b3, b4⟩ := put_good u hcu
          have q1 : ((putC t : Nat) : Int) = 0 := by rw [hct]; rfl
          have q2 : ((putC u : Nat) : Int) = 0 := by rw [hcu]; rfl
          rw [a4, b4, q1, q2]
          obtain ⟨ps, hps⟩ : ∃ ps, str (txtT t) = ps := ⟨_, rfl⟩
          obtain ⟨pt, hpt⟩ : ∃ pt, str (txtT u) = pt := ⟨_, rfl⟩
          have hn1 : ps.size = (txtT t).length := by rw [← hps, str_size]
          have hn2 : pt.size = (txtT u).length := by rw [← hpt, str_size]
          rw [hps, hpt]
          have z1 : ps.size ≤ 8192 := by omega
          have z2 : pt.size ≤ 8192 := by omega
          have HF := Lib.hid (show putC t = 0 ∧ putC u = 0 ∧ str (txtT t) = ps ∧ str (txtT u) = pt ∧ ps.size = (txtT t).length ∧ pt.size = (txtT u).length from ⟨hct, hcu, hps, hpt, hn1, hn2⟩)
          clear a1 a2 a3 a4 b1 b2 b3 b4 q1 q2 hps hpt hn1 hn2 hct hcu
          by_cases hlen : (8192 : Int) < (ps.size : Int) + (pt.size : Int) + 2
          · clear HF H8 ht hu
            go_wp2
            go_quiet ((fail)); go_wp2
            go_ret
            exact ⟨rfl, HB8.out.trans ((bdn _ _).mono HB8.out.size)⟩
          · have hdt : deepT t ≤ 1000000000 := by have := (great_no t ht.out.1).1; have := ht.out.2; omega
            have hdu : deepT u ≤ 1000000000 := by have := (great_no u hu.out.1).1; have := hu.out.2; omega
            have mk : Hid (∀ wz, PB w X Y t u k n s o2 l c k3 n3 s3 o3 l3 c3 wz → wz.cell? ⟨X, 0, none⟩ = some (.int .i64 k) ∧ wz.cell? ⟨X, 1, none⟩ = some (.int .u64 (n : Int)) ∧ wz.cell? ⟨X, 2, none⟩ = some (.string s) ∧ wz.cell? ⟨X, 3, none⟩ = some (.slice o2 l c) ∧ wz.cell? ⟨Y, 0, none⟩ = some (.int .i64 k3) ∧ wz.cell? ⟨Y, 1, none⟩ = some (.int .u64 (n3 : Int)) ∧ wz.cell? ⟨Y, 2, none⟩ = some (.string s3) ∧ wz.cell? ⟨Y, 3, none⟩ = some (.slice o3 l3 c3) ∧ Hid (PB w X Y t u k n s o2 l c k3 n3 s3 o3 l3 c3 wz)) := Lib.hid (fun wz h => ⟨h.bx.1.1, h.bx.1.2.1, h.bx.1.2.2.1, h.bx.1.2.2.2, h.bY.1.1, h.bY.1.2.1, h.bY.1.2.2.1, h.bY.1.2.2.2, Lib.hid h⟩)
            have K14 : Hid (∀ wy, Hid (PB w X Y t u k n s o2 l c k3 n3 s3 o3 l3 c3 wy) → Calls Try.prog 14 #[.agg #[.int .i64 k, .int .u64 (n : Int), .string s, .slice o2 l c]] wy fun e w' => e = .returned (.int .i64 (deepT t : Nat)) ∧ Below wy.heap.size wy w') := Lib.hid (fun wy h => deep_any t _ _ _ _ wy hdt h.out.vx)
            have K14u : Hid (∀ wy, Hid (PB w X Y t u k n s o2 l c k3 n3 s3 o3 l3 c3 wy) → Calls Try.prog 14 #[.agg #[.int .i64 k3, .int .u64 (n3 : Int), .string s3, .slice o3 l3 c3]] wy fun e w' => e = .returned (.int .i64 (deepT u : Nat)) ∧ Below wy.heap.size wy w') := Lib.hid (fun wy h => deep_any u _ _ _ _ wy hdu h.out.vy)
            have HD9 := Lib.hid (show Below W8.heap.size W8 W8.drew from (Below.refl _ _).drew)
            have hst := Lib.hid (H8.out.later HD9.out)
            have HDT := Lib.hid (And.intro hdt hdu)
            clear hdt hdu HD9
            have e0 : (0 : Int) ≤ ((deepT t : Nat) : Int) := by omega
            have e1 : (0 : Int) ≤ ((deepT u : Nat) : Int) := by omega
            obtain ⟨dt, hdt⟩ : ∃ dt, dt = deepT t := ⟨_, rfl⟩
            obtain ⟨du, hdu⟩ : ∃ du, du = deepT u := ⟨_, rfl⟩
            rw [← hdt, ← hdu] at HDT
            rw [← hdt] at K14 e0
            rw [← hdu] at K14u e1
            have HDD := Lib.hid (And.intro hdt hdu)
            clear hdt hdu
            have hz3 : decide ((8192 : Int) < (ps.size : Int) + (pt.size : Int) + 2) = false := by simpa using hlen
            have hz1 : IntKind.i64.wrap ((ps.size : Int) + (pt.size : Int)) = (ps.size : Int) + (pt.size : Int) := IntWalk.i64_in _ (by omega)
            have hz2 : IntKind.i64.wrap ((ps.size : Int) + (pt.size : Int) + 2) = (ps.size : Int) + (pt.size : Int) + 2 := IntWalk.i64_in _ (by omega)
            go_wp2
            go_region_held3 (fun wz => wz.cell? ⟨X, 0, none⟩ = some (.int .i64 k) ∧ wz.cell? ⟨X, 1, none⟩ = some (.int .u64 (n : Int)) ∧ wz.cell? ⟨X, 2, none⟩ = some (.string s) ∧ wz.cell? ⟨X, 3, none⟩ = some (.slice o2 l c) ∧ wz.cell? ⟨Y, 0, none⟩ = some (.int .i64 k3) ∧ wz.cell? ⟨Y, 1, none⟩ = some (.int .u64 (n3 : Int)) ∧ wz.cell? ⟨Y, 2, none⟩ = some (.string s3) ∧ wz.cell? ⟨Y, 3, none⟩ = some (.slice o3 l3 c3) ∧ Hid (PB w X Y t u k n s o2 l c k3 n3 s3 o3 l3 c3 wz))
              (first
                | exact mk.out _ hst.out
                | (refine mk.out _ (PB.later ?_ (by assumption)); go_split_ands; (refine Hid.out ?_; assumption))
                | (refine mk.out _ (show PB w X Y t u k n s o2 l c k3 n3 s3 o3 l3 c3 _ from ?_); go_split_ands; (refine Hid.out ?_; assumption)))
              (first
                | (go_at_call 14; ((with_reducible refine (K14.out _ (by go_split_ands; assumption)).mono ?_); rintro x wa ⟨rfl, hba⟩))
                | (go_at_call 14; ((with_reducible refine (K14u.out _ (by go_split_ands; assumption)).mono ?_); rintro x wb ⟨rfl, hbb⟩)))
            all_goals
              try simp only [Exit.then]
              try apply_assumption
              refine gen_wp (S := fun wz => Hid (PB w X Y t u k n s o2 l c k3 n3 s3 o3 l3 c3 wz)) (by go_split_ands; assumption) ?_
              intro W10 H10
              clear mk hst K14 K14u hz1 hz2 H8
              obtain ⟨x0, x1, x2, x3⟩ := H10.out.bx.1
              obtain ⟨y0, y1, y2, y3⟩ := H10.out.bY.1
              by_cases hdeep : (6 : Int) ≤ max (dt : Int) (du : Int)
              · have HE := Lib.hid H10.out.below
                clear H10 HF ht hu
                go_wp2
                go_ret
                exact ⟨rfl, HE.out⟩
              · obtain ⟨f1, f2, f3, f4, f5, f6⟩ := HF.out
                have g1 : deepT t ≤ 5 := by rw [← HDD.out.1]; omega
                have g2 : deepT u ≤ 5 := by rw [← HDD.out.2]; omega
                obtain ⟨a1, a2, a3, a4⟩ := put_good t f1
                obtain ⟨b1, b2, b3, b4⟩ := put_good u f2
                have okt : okT t := ((great_no t ht.out.1).2 (by have := ht.out.2; omega)).2
                have oku : okT u := ((great_no u hu.out.1).2 (by have := hu.out.2; omega)).2
                have hlen' : (txtT t).length + (txtT u).length + 2 ≤ 8192 := by omega
                have K20 : Hid (∀ wy g, Two t u g wy → Calls Try.prog 20 #[.slice (some ⟨g, 0, none⟩) 2 2] wy fun e w' => ∃ (a : Int) (b : Nat) (s : ByteArray) (o : Option Addr) (l c : Nat), e = .returned (.agg #[.int .i64 a, .int .u64 (b : Int), .string s, .slice o l c]) ∧ Below wy.heap.size wy w' ∧ Hid (VIn w' (.mk 3 0 ⟨#[]⟩ [t, u]) (.int .i64 a) (.int .u64 (b : Int)) (.string s) (.slice o l c))) := Lib.hid (fun wy g h => list_two t u g wy h)
                have K11 : Hid (∀ wy (a : Int) (b : Nat) (s : ByteArray) (o : Option Addr) (l c : Nat), VIn wy (.mk 3 0 ⟨#[]⟩ [t, u]) (.int .i64 a) (.int .u64 (b : Int)) (.string s) (.slice o l c) → Calls Try.prog 11 #[.agg #[.int .i64 a, .int .u64 (b : Int), .string s, .slice o l c]] wy fun e w' => e = .returned (.tuple #[.string (⟨#[3, 2]⟩ ++ ps ++ pt), .int .i64 0]) ∧ Below wy.heap.size wy w') := Lib.hid (fun wy a b s o l c h => by rw [← f3, ← f4]; exact put_list2 t u f1 f2 hlen' g1 g2 _ _ _ _ wy h)
                have KN := Lib.hid (next_two t u a1 okt a2 (by omega))
                have KG := Lib.hid (get_good u b1 oku b2 b3)
                rw [f3, f4] at KN
                rw [f4] at KG
                clear f1 f2 f3 f4 f5 f6 g1 g2 a1 a2 a3 a4 b1 b2 b3 b4 okt oku hlen'
                go_upto_region 10 with (first
                  | (go_at_call 20; ((with_reducible refine (K20.out _ _ (Two.new H10.out.vx H10.out.vy)).mono ?_); rintro x w11 ⟨k7, n7, s7, o7, l7, c7, rfl, hb11, hv7⟩; have HB11 := Lib.hid ((alloc_below W10 (.cells #[.int .i64 k, .int .u64 (n : Int), .string s, .slice o2 l c, .int .i64 k3, .int .u64 (n3 : Int), .string s3, .slice o3 l3 c3] 27)).trans (hb11.mono (Nat.le_of_lt (alloc_lt _ _)))); clear hb11))
                  | (go_at_call 11; ((with_reducible refine (K11.out _ _ _ _ _ _ _ hv7.out).mono ?_); rintro x w12 ⟨rfl, hb12⟩; have HB12 := Lib.hid (HB11.out.trans (hb12.mono HB11.out.size)); clear hb12)))
                clear x0 x1 x2 x3 y0 y1 y2 y3
                refine gen_wp (S := fun wz => Hid (PB w X Y t u k n s o2 l c k3 n3 s3 o3 l3 c3 wz)) (Lib.hid (H10.out.later HB12.out)) ?_
                intro W12 H12
                clear hv7 HB11 HB12 H10
                go_upto_region 11 with (first
                  | (go_at_call 19; ((with_reducible refine (KN.out _).mono ?_); rintro x w13 ⟨k5, n5, s5, o5, l5, c5, rfl, hb13, hv5⟩; have H13 := Lib.hid (H12.out.later hb13); have hst5 := store27 w13 k5 n5 s5 o5 l5 c5; clear hb13)))
                refine gen_wp (S := fun wz => Hid (PB w X Y t u k n s o2 l c k3 n3 s3 o3 l3 c3 wz ∧ Bx w13.heap.size (.int .i64 k5) (.int .u64 (n5 : Int)) (.string s5) (.slice o5 l5 c5) wz ∧ VIn wz t (.int .i64 k5) (.int .u64 (n5 : Int)) (.string s5) (.slice o5 l5 c5))) (Lib.hid ⟨H13.out.later (alloc_below w13 _), ⟨four_new _ _ _ _ _ _, alloc_lt _ _⟩, hv5.out.later (alloc_below w13 _)⟩) ?_
                intro W14 H14
                clear hst5 hv5 H13 H12
                generalize w13.heap.size = X5 at *
                go_upto_region 12 with (first
                  | (go_at_call 18; ((with_reducible refine (KG.out _).mono ?_); rintro x w15 ⟨k6, n6, s6, o6, l6, c6, rfl, hb15, hv6⟩; have HB15 := Lib.hid hb15; have hst6 := store27 w15 k6 n6 s6 o6 l6 c6; clear hb15)))
                have A15 := Lib.hid (alloc_below w15 (.cells #[.int .i64 k6, .int .u64 (n6 : Int), .string s6, .slice o6 l6 c6] 27))
                refine gen_wp (S := fun wz => Hid (QB w X Y X5 w15.heap.size t u k n s o2 l c k3 n3 s3 o3 l3 c3 k5 n5 s5 o5 l5 c5 k6 n6 s6 o6 l6 c6 wz)) (Lib.hid (by
                  have h1 := (H14.out.1.later HB15.out).later A15.out
                  exact ⟨h1, h1.below, (H14.out.2.1.later HB15.out).later A15.out, ⟨four_new _ _ _ _ _ _, alloc_lt _ _⟩, (H14.out.2.2.later HB15.out).later A15.out, hv6.out.later A15.out⟩)) ?_
                intro W16 H16
                clear hst6 hv6 HB15 A15 H14 KN KG K11
                generalize w15.heap.size = X6 at *
                have mk : Hid (∀ wz, QB w X Y X5 X6 t u k n s o2 l c k3 n3 s3 o3 l3 c3 k5 n5 s5 o5 l5 c5 k6 n6 s6 o6 l6 c6 wz → wz.cell? ⟨X, 0, none⟩ = some (.int .i64 k) ∧ wz.cell? ⟨X, 1, none⟩ = some (.int .u64 (n : Int)) ∧ wz.cell? ⟨X, 2, none⟩ = some (.string s) ∧ wz.cell? ⟨X, 3, none⟩ = some (.slice o2 l c) ∧ wz.cell? ⟨Y, 0, none⟩ = some (.int .i64 k3) ∧ wz.cell? ⟨Y, 1, none⟩ = some (.int .u64 (n3 : Int)) ∧ wz.cell? ⟨Y, 2, none⟩ = some (.string s3) ∧ wz.cell? ⟨Y, 3, none⟩ = some (.slice o3 l3 c3) ∧ wz.cell? ⟨X5, 0, none⟩ = some (.int .i64 k5) ∧ wz.cell? ⟨X5, 1, none⟩ = some (.int .u64 (n5 : Int)) ∧ wz.cell? ⟨X5, 2, none⟩ = some (.string s5) ∧ wz.cell? ⟨X5, 3, none⟩ = some (.slice o5 l5 c5) ∧ wz.cell? ⟨X6, 0, none⟩ = some (.int .i64 k6) ∧ wz.cell? ⟨X6, 1, none⟩ = some (.int .u64 (n6 : Int)) ∧ wz.cell? ⟨X6, 2, none⟩ = some (.string s6) ∧ wz.cell? ⟨X6, 3, none⟩ = some (.slice o6 l6 c6) ∧ Hid (QB w X Y X5 X6 t u k n s o2 l c k3 n3 s3 o3 l3 c3 k5 n5 s5 o5 l5 c5 k6 n6 s6 o6 l6 c6 wz)) := Lib.hid (fun wz h => ⟨h.one.bx.1.1, h.one.bx.1.2.1, h.one.bx.1.2.2.1, h.one.bx.1.2.2.2, h.one.bY.1.1, h.one.bY.1.2.1, h.one.bY.1.2.2.1, h.one.bY.1.2.2.2, h.two.bx.1.1, h.two.bx.1.2.1, h.two.bx.1.2.2.1, h.two.bx.1.2.2.2, h.two.bY.1.1, h.two.bY.1.2.1, h.two.bY.1.2.2.1, h.two.bY.1.2.2.2, Lib.hid h⟩)
                have K16a : Hid (∀ wy, Hid (QB w X Y X5 X6 t u k n s o2 l c k3 n3 s3 o3 l3 c3 k5 n5 s5 o5 l5 c5 k6 n6 s6 o6 l6 c6 wy) → Calls Try.prog 16 #[.agg #[.int .i64 k5, .int .u64 (n5 : Int), .string s5, .slice o5 l5 c5], .agg #[.int .i64 k, .int .u64 (n : Int), .string s, .slice o2 l c]] wy fun e w' => e = .returned (.bool true) ∧ Below wy.heap.size wy w') := Lib.hid (fun wy h => by have h2 := same_any t t _ _ _ _ _ _ _ _ wy h.out.two.vx h.out.one.vx; rw [sameL_refl] at h2; exact h2)
                have K16b : Hid (∀ wy, Hid (QB w X Y X5 X6 t u k n s o2 l c k3 n3 s3 o3 l3 c3 k5 n5 s5 o5 l5 c5 k6 n6 s6 o6 l6 c6 wy) → Calls Try.prog 16 #[.agg #[.int .i64 k6, .int .u64 (n6 : Int), .string s6, .slice o6 l6 c6], .agg #[.int .i64 k3, .int .u64 (n3 : Int), .string s3, .slice o3 l3 c3]] wy fun e w' => e = .returned (.bool true) ∧ Below wy.heap.size wy w') := Lib.hid (fun wy h => by have h2 := same_any u u _ _ _ _ _ _ _ _ wy h.out.two.vy h.out.one.vy; rw [sameL_refl] at h2; exact h2)
                have K16L : Hid (∀ wy (a : Int) (b : Nat) (s : ByteArray) (o : Option Addr) (l c : Nat) (a2 : Int) (b2 : Nat) (s2 : ByteArray) (o2 : Option Addr) (l2 c2 : Nat), VIn wy (.mk 3 0 ⟨#[]⟩ [t, u]) (.int .i64 a) (.int .u64 (b : Int)) (.string s) (.slice o l c) → VIn wy (.mk 3 0 ⟨#[]⟩ [t, u]) (.int .i64 a2) (.int .u64 (b2 : Int)) (.string s2) (.slice o2 l2 c2) → Calls Try.prog 16 #[.agg #[.int .i64 a, .int .u64 (b : Int), .string s, .slice o l c], .agg #[.int .i64 a2, .int .u64 (b2 : Int), .string s2, .slice o2 l2 c2]] wy fun e w' => e = .returned (.bool true) ∧ Below wy.heap.size wy w') := Lib.hid (fun wy a b s o l c a2 b2 s2 o2 l2 c2 h h' => by have h2 := same_any _ _ _ _ _ _ _ _ _ _ wy h h'; rw [sameL_refl] at h2; exact h2)
                have K16s : Hid (∀ wy, Calls Try.prog 16 #[.agg #[.int .i64 2, .int .u64 0, .string ps, .slice none 0 0], .agg #[.int .i64 2, .int .u64 0, .string ps, .slice none 0 0]] wy fun e w' => e = .returned (.bool true) ∧ Below wy.heap.size wy w') := Lib.hid (fun wy => by
                  have hv : VIn wy (.mk 2 0 ps []) (.int .i64 2) (.int .u64 ((0 : Nat) : Int)) (.string ps) (.slice none 0 0) := by
                    unfold VIn
                    exact ⟨rfl, rfl, by omega, rfl, ⟨by omega, by simp⟩, none, 0, 0, 0, rfl, fun h => absurd h (by simp), by unfold VInL; trivial⟩
                  have h2 := same_any _ _ _ _ _ _ _ _ _ _ wy hv hv
                  rw [sameL_refl] at h2
                  exact h2)
                have K21 := Lib.hid (fun wy => text_any ps (by omega) wy)
                have hst := Lib.hid (H16.out.later (show Below W16.heap.size W16 W16.drew from (Below.refl _ _).drew))
                have NV : ∀ wy g, Hid (QB w X Y X5 X6 t u k n s o2 l c k3 n3 s3 o3 l3 c3 k5 n5 s5 o5 l5 c5 k6 n6 s6 o6 l6 c6 wy) → Row8 #[.int .i64 k, .int .u64 (n : Int), .string s, .slice o2 l c, .int .i64 k3, .int .u64 (n3 : Int), .string s3, .slice o3 l3 c3] g wy → Two t u g wy := fun wy g h hr => hr.two h.out.one.vx h.out.one.vy
                have NX : ∀ wy g, Hid (QB w X Y X5 X6 t u k n s o2 l c k3 n3 s3 o3 l3 c3 k5 n5 s5 o5 l5 c5 k6 n6 s6 o6 l6 c6 wy) → Row8 #[.int .i64 k5, .int .u64 (n5 : Int), .string s5, .slice o5 l5 c5, .int .i64 k6, .int .u64 (n6 : Int), .string s6, .slice o6 l6 c6] g wy → Two t u g wy := fun wy g h hr => hr.two h.out.two.vx h.out.two.vy
                have NV := Lib.hid NV
                have NX := Lib.hid NX
                have hs1 : (ByteArray.mk #[3, 2]).size = 2 := rfl
                have hs2 : ((ByteArray.mk #[3, 2]) ++ ps).size = 2 + ps.size := by rw [ByteArray.size_append, hs1]
                have hr1 : ∀ W, (Op.stringOp .add (ByteArray.mk #[3, 2]) ps).run Try.prog W = .ok (.string (ByteArray.mk #[3, 2] ++ ps)) W := fun W => run_string_add_sum _ _ _ (by omega)
                have hr2 : ∀ W, (Op.stringOp .add (ByteArray.mk #[3, 2] ++ ps) pt).run Try.prog W = .ok (.string (ByteArray.mk #[3, 2] ++ ps ++ pt)) W := fun W => run_string_add_sum _ _ _ (by omega)
                clear hs1 hs2
                clear HF HDD HDT e0 e1 hdeep
                go_region_held3 (fun wz => wz.cell? ⟨X, 0, none⟩ = some (.int .i64 k) ∧ wz.cell? ⟨X, 1, none⟩ = some (.int .u64 (n : Int)) ∧ wz.cell? ⟨X, 2, none⟩ = some (.string s) ∧ wz.cell? ⟨X, 3, none⟩ = some (.slice o2 l c) ∧ wz.cell? ⟨Y, 0, none⟩ = some (.int .i64 k3) ∧ wz.cell? ⟨Y, 1, none⟩ = some (.int .u64 (n3 : Int)) ∧ wz.cell? ⟨Y, 2, none⟩ = some (.string s3) ∧ wz.cell? ⟨Y, 3, none⟩ = some (.slice o3 l3 c3) ∧ wz.cell? ⟨X5, 0, none⟩ = some (.int .i64 k5) ∧ wz.cell? ⟨X5, 1, none⟩ = some (.int .u64 (n5 : Int)) ∧ wz.cell? ⟨X5, 2, none⟩ = some (.string s5) ∧ wz.cell? ⟨X5, 3, none⟩ = some (.slice o5 l5 c5) ∧ wz.cell? ⟨X6, 0, none⟩ = some (.int .i64 k6) ∧ wz.cell? ⟨X6, 1, none⟩ = some (.int .u64 (n6 : Int)) ∧ wz.cell? ⟨X6, 2, none⟩ = some (.string s6) ∧ wz.cell? ⟨X6, 3, none⟩ = some (.slice o6 l6 c6) ∧ Hid (QB w X Y X5 X6 t u k n s o2 l c k3 n3 s3 o3 l3 c3 k5 n5 s5 o5 l5 c5 k6 n6 s6 o6 l6 c6 wz))
                  (first
                    | exact mk.out _ hst.out
                    | (refine mk.out _ (QB.later ?_ (by assumption)); go_split_ands; (refine Hid.out ?_; assumption))
                    | (refine mk.out _ (QB.later ?_ (alloc_below _ _)); go_split_ands; (refine Hid.out ?_; assumption))
                    | (refine mk.out _ (show QB w X Y X5 X6 t u k n s o2 l c k3 n3 s3 o3 l3 c3 k5 n5 s5 o5 l5 c5 k6 n6 s6 o6 l6 c6 _ from ?_); go_split_ands; (refine Hid.out ?_; assumption)))
                  (first
                    | (go_at_call 16; ((with_reducible refine (K16a.out _ (by go_split_ands; assumption)).mono ?_); rintro x wa ⟨rfl, hba⟩))
                    | (go_at_call 16; ((with_reducible refine (K16b.out _ (by go_split_ands; assumption)).mono ?_); rintro x wb ⟨rfl, hbb⟩))
                    | (go_at_call 16; ((with_reducible refine (K16s.out _).mono ?_); rintro x wc ⟨rfl, hbc⟩))
                    | (go_at_call 21; ((with_reducible refine (K21.out _).mono ?_); rintro x wd ⟨rfl, hbd⟩))
                    | (go_at_call 20; ((with_reducible refine (K20.out _ _ ?_).mono ?_); (go_split_ands; (first | ((with_reducible refine NX.out _ _ ?_ ?_); (with_reducible assumption); (first | with_reducible exact row_a | with_reducible exact row_a1 | with_reducible exact row_b | ((with_reducible apply row_c); (with_reducible assumption)) | ((with_reducible apply row_c1); (with_reducible assumption)) | ((with_reducible apply row_d); (with_reducible assumption)))) | ((with_reducible refine NV.out _ _ ?_ ?_); (with_reducible assumption); (first | with_reducible exact row_a | with_reducible exact row_a1 | with_reducible exact row_b | ((with_reducible apply row_c); (with_reducible assumption)) | ((with_reducible apply row_c1); (with_reducible assumption)) | ((with_reducible apply row_d); (with_reducible assumption)))))); rintro x we ⟨k7, n7, s7, o7, l7, c7, rfl, hbe, hv7⟩))
                    | (go_at_call 16; ((with_reducible refine (K16L.out _ _ _ _ _ _ _ _ _ _ _ _ _ ?_ ?_).mono ?_); (first | (with_reducible apply hv_later2 <;> with_reducible assumption) | (with_reducible apply hv_later <;> with_reducible assumption)); ((refine Hid.out ?_); with_reducible assumption); rintro x wf ⟨rfl, hbf⟩)))
                all_goals
                  try simp only [Exit.then]
                  try apply_assumption
                  refine gen_wp (S := fun wz => Hid (QB w X Y X5 X6 t u k n s o2 l c k3 n3 s3 o3 l3 c3 k5 n5 s5 o5 l5 c5 k6 n6 s6 o6 l6 c6 wz)) (by go_split_ands; assumption) ?_
                  intro W20 H20
                  have HE := Lib.hid H20.out.one.below
                  go_wp2
                  go_ret
                  exact ⟨rfl, HE.out⟩
    · have q1 : ((putC t : Int) != 0) = false := by rw [bne_eq_false_iff_eq]; omega
      have q2 : ((putC u : Int) != 0) = true := by rw [bne_iff_ne]; omega
      clear hct hcu
      generalize putC t = pc at *
      generalize putC u = pu at *
      generalize putS t = ps at *
      generalize putS u = pt at *
      clear H8 ht hu
      cases ok
      · go_wp2
        go_quiet ((fail)); go_wp2
        go_ret
        exact ⟨rfl, HB8.out.trans ((bdn _ _).mono HB8.out.size)⟩
      · cases is
        · go_wp2
          go_quiet ((fail)); go_wp2
          go_ret
          exact ⟨rfl, HB8.out.trans ((bdn _ _).mono HB8.out.size)⟩
        · go_wp2
          go_quiet ((fail)); go_wp2
          go_ret
          exact ⟨rfl, HB8.out.trans ((bdn _ _).mono HB8.out.size)⟩
  · have q1 : ((putC t : Int) != 0) = true := by rw [bne_iff_ne]; omega
    clear hct
    generalize putC t = pc at *
    generalize putC u = pu at *
    generalize putS t = ps at *
    generalize putS u = pt at *
    clear H8 ht hu
    cases ok
    · go_wp2
      go_quiet ((fail)); go_wp2
      go_ret
      exact ⟨rfl, HB8.out.trans ((bdn _ _).mono HB8.out.size)⟩
    · cases is
      · go_wp2
        go_quiet ((fail)); go_wp2
        go_ret
        exact ⟨rfl, HB8.out.trans ((bdn _ _).mono HB8.out.size)⟩
      · go_wp2
        go_quiet ((fail)); go_wp2
        go_ret
        exact ⟨rfl, HB8.out.trans ((bdn _ _).mono HB8.out.size)⟩
end Go.Proofs.Ytlochpnifjmefaa
