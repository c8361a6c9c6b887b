/- The order of an entry and a print: bytes.Compare, order.; The order of an entry and a print. -/
import Derived.Test.YtpcmmejlmhbcdaaGreatJ02
import Derived.BigQuiet
set_option linter.unusedVariables false
set_option linter.unusedSimpArgs false
namespace Go.Proofs.YtpcmmejlmhbcdaaGreat
open Go.RowKit

theorem bytes_of {P : Program} (w : World) (b off cap : Nat) (l : List UInt8) (h : w.rangeAt b off (W.bcells l)) :
    (Extern.Bytes.bytesOf (.slice (some ⟨b, off, none⟩) l.length cap)).run P w = .ok ⟨l.toArray⟩ w := by
  have hl := Lib.run_loadBytesX (P := P) w (l.map fun c => (c.toNat : Int)) ⟨b, off, none⟩ .empty (fun j x hj => by
    rw [Addr.add_mid]
    rw [List.getElem?_map] at hj
    cases hc : l[j]? with
    | none => rw [hc] at hj; cases hj
    | some c =>
      rw [hc] at hj; cases hj
      exact h j _ (by simp [W.bcells, hc]))
  rw [List.length_map] at hl
  have e : Lib.bytesOf (l.map fun c => (c.toNat : Int)) = l := by
    unfold Lib.bytesOf
    rw [List.map_map]
    conv => rhs; rw [← List.map_id l]
    apply List.map_congr_left
    intro c _
    simp
  rw [e] at hl
  simpa [Extern.Bytes.bytesOf] using hl
theorem run_cmp (b o c b2 o2 c2 x y : Nat) (hx : x < top) (hy : y < top) (w : World) (h1 : w.rangeAt b o (pc x)) (h2 : w.rangeAt b2 o2 (pc y)) :
    (callFunc 91 #[.slice (some ⟨b, o, none⟩) 16 c, .slice (some ⟨b2, o2, none⟩) 16 c2]).run Tryz.prog w = .ok (.value (.int .i64 (ordN x y))) w := by
  have e1 := bytes_of (P := Tryz.prog) w b o c (W.be x 16) h1
  have e2 := bytes_of (P := Tryz.prog) w b2 o2 c2 (W.be y 16) h2
  rw [W.be_length] at e1 e2
  rw [run_callFunc_extern Tryz.func91 (by kernel_rfl) (by kernel_rfl) (by kernel_rfl) (e := Extern.BytealgCompare.compare) (by kernel_rfl)]
  have hc : (Extern.BytealgCompare.compare #[.slice (some ⟨b, o, none⟩) 16 c, .slice (some ⟨b2, o2, none⟩) 16 c2]).run Tryz.prog w = .ok (.int .i64 (ordN x y)) w := by
    change Sem.run Tryz.prog (do pure (goInt (Extern.BytealgCompare.cmp (← Extern.Bytes.bytesOf (.slice (some ⟨b, o, none⟩) 16 c)) (← Extern.Bytes.bytesOf (.slice (some ⟨b2, o2, none⟩) 16 c2))))) w = _
    simp only [Sem.run_bind, Sem.run_pure, e1, e2, Result.andThen]
    rw [Lib.cmp_eq]
    show Result.ok (goInt (Lib.compareBytes (W.be x 16) (W.be y 16))) w = _
    rw [cmp_prints x y hx hy]
    rfl
  rw [hc]
  rfl
theorem compare_any (b o c b2 o2 c2 x y : Nat) (hx : x < top) (hy : y < top) (w : World) (h1 : w.rangeAt b o (pc x)) (h2 : w.rangeAt b2 o2 (pc y)) :
    Calls Tryz.prog 60 #[.slice (some ⟨b, o, none⟩) 16 c, .slice (some ⟨b2, o2, none⟩) 16 c2] w fun e w' => e = .returned (.int .i64 (ordN x y)) ∧ w = w' := by
  have hr := run_cmp b o c b2 o2 c2 x y hx hy w h1 h2
  generalize ordN x y = r at *
  clear h1 h2 hx hy
  go_enter Tryz.func60, Tryz.ntmps60
  go_wp2
  go_ret
  exact ⟨rfl, rfl⟩
end Go.Proofs.YtpcmmejlmhbcdaaGreat

namespace Go.Proofs.YtpcmmejlmhbcdaaGreat
open Go.RowKit

theorem alloc_below (w : World) (o : Obj) : Below w.heap.size w (w.alloc o) := (Below.refl _ _).alloc (Nat.le_refl _) _
theorem bdn (B : Nat) (w : World) (n : Nat) : Below B w (w.drewN n) := ⟨rfl, rfl, rfl, Nat.le_refl _, fun _ _ => rfl⟩
def ev (e : En) : Value := .agg (ec e).toArray
def pv (k : Nat) : Value := .agg (pc k).toArray
theorem range_alloc {w w' : World} {cs : List Value} {t : TypeId} (hb : Below (w.alloc (.cells cs.toArray t)).heap.size (w.alloc (.cells cs.toArray t)) w') : w'.rangeAt w.heap.size 0 cs := fun j v hj => by
  have h1 : (w.alloc (.cells cs.toArray t)).cell? ⟨w.heap.size, 0 + j, none⟩ = some v := by
    rw [World.cell?_alloc_new]; simpa using hj
  exact (hb.cell (by simp)).trans h1
theorem range_head {w : World} {b o : Nat} {A B : List Value} (h : w.rangeAt b o (A ++ B)) : w.rangeAt b o A := fun j v hj => h j v (by
  have hl : j < A.length := by
    rcases Nat.lt_or_ge j A.length with h | h
    · exact h
    · rw [List.getElem?_eq_none h] at hj; cases hj
  rw [List.getElem?_append_left hl]; exact hj)
theorem range_tail {w : World} {b o : Nat} {A B : List Value} (h : w.rangeAt b o (A ++ B)) : w.rangeAt b (o + A.length) B := fun j v hj => by
  rw [Nat.add_assoc]
  exact h _ v (by rw [List.getElem?_append_right (by omega), Nat.add_sub_cancel_left]; exact hj)
set_option maxRecDepth 100000 in
theorem order_any (e : En) (q : Nat) (he : e.k < top) (hq : q < top) (w : World) :
    Calls Tryz.prog 40 #[ev e, pv q] w fun x w' => x = .returned (.int .i64 (ordN e.k q)) ∧ Below w.heap.size w w' := by
  have H1 := range_alloc (w := w) (cs := ec e) (t := 46) (w' := ((w.alloc (.cells (ec e).toArray 46)).alloc (.cells (pc q).toArray 24))) (alloc_below _ _)
  have H2 := range_alloc (w := w.alloc (.cells (ec e).toArray 46)) (cs := pc q) (t := 24) (w' := ((w.alloc (.cells (ec e).toArray 46)).alloc (.cells (pc q).toArray 24))) (Below.refl _ _)
  have hs1 : (w.alloc (.cells (ec e).toArray 46)).heap.size = w.heap.size + 1 := by simp
  rw [hs1] at H2
  have HB : Hid (Below w.heap.size w ((w.alloc (.cells (ec e).toArray 46)).alloc (.cells (pc q).toArray 24))) := Lib.hid ((alloc_below w _).trans ((alloc_below _ _).mono (by simp)))
  have K : Hid (∀ wz, wz.rangeAt w.heap.size 0 (pc e.k) ∧ wz.rangeAt (w.heap.size + 1) 0 (pc q) ∧ Hid (Below w.heap.size w wz) → Calls Tryz.prog 60 #[.slice (some ⟨w.heap.size, 0, none⟩) 16 16, .slice (some ⟨w.heap.size + 1, 0, none⟩) 16 16] wz fun x w' => x = .returned (.int .i64 (ordN e.k q)) ∧ wz = w') :=
    Lib.hid (fun wz h => compare_any w.heap.size 0 16 (w.heap.size + 1) 0 16 e.k q he hq wz h.1 h.2.1)
  have HS : ((w.alloc (.cells (ec e).toArray 46)).alloc (.cells (pc q).toArray 24)).drew.rangeAt w.heap.size 0 (pc e.k) ∧ ((w.alloc (.cells (ec e).toArray 46)).alloc (.cells (pc q).toArray 24)).drew.rangeAt (w.heap.size + 1) 0 (pc q) ∧ Hid (Below w.heap.size w ((w.alloc (.cells (ec e).toArray 46)).alloc (.cells (pc q).toArray 24)).drew) := ⟨range_head H1, H2, Lib.hid HB.out.drew⟩
  clear H1 H2 he hq hs1
  generalize ordN e.k q = r at *
  have HSS := HS
  unfold ev pv
  go_enter Tryz.func40, Tryz.ntmps40
  go_wp2_with fail
  generalize ((w.alloc (.cells (ec e).toArray 46)).alloc (.cells (pc q).toArray 24)) = W2 at *
  go_region_held3 (fun wz => wz.rangeAt w.heap.size 0 (pc e.k) ∧ wz.rangeAt (w.heap.size + 1) 0 (pc q) ∧ Hid (Below w.heap.size w wz))
    (first | exact HS | assumption)
    (first | (go_at_call 60; ((with_reducible refine (K.out _ ?_).mono ?_); (first | exact HS | assumption); rintro x w5 ⟨rfl, rfl⟩)))
  all_goals
    simp only [Exit.then]
    apply_assumption
    go_wp2
    go_ret
    exact ⟨rfl, HB.out.drew⟩
end Go.Proofs.YtpcmmejlmhbcdaaGreat
