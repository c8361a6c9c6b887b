/- find, tells.; tells, Get. -/
import Derived.Test.YtpcmmejlmhbcdaaGreatJ04
import Derived.Laws.Tables
set_option linter.unusedVariables false
set_option linter.unusedSimpArgs false
namespace Go.Proofs.YtpcmmejlmhbcdaaGreat
open Go.RowKit

/-- A ledger as a value. -/
def lv (o : Option Addr) (n cap : Nat) : Value := .agg #[.slice o n cap]
theorem box_l {w w1 : World} {v : Value} {t : TypeId} (h : Below (w.alloc (.cells #[v] t)).heap.size (w.alloc (.cells #[v] t)) w1) : w1.cell? ⟨w.heap.size, 0, none⟩ = some v :=
  (h.cell (p := ⟨w.heap.size, 0, none⟩) (by simp)).trans (by simp)
theorem bt {w w1 : World} {o : Obj} (h : Below (w.alloc o).heap.size (w.alloc o) w1) : Below w.heap.size w w1 := (alloc_below w o).trans (h.mono (by simp))

set_option maxRecDepth 100000 in
theorem find_any (L : List En) (hs : srt L) (hf : fit L) (hl : L.length ≤ 1000000) (o : Option Addr) (cap q : Nat) (hq : q < top) (w : World) (hr : RowE w o L) :
    Calls Tryz.prog 35 #[.agg #[.slice o L.length cap], .agg (pc q).toArray] w fun e w' => e = .returned (.tuple #[.int .i64 (plc L q : Nat), .bool (has L q)]) ∧ Below w.heap.size w w' := by
  have K : Hid (∀ wz, Below w.heap.size w wz → Calls Tryz.prog 58 #[.slice o L.length cap, .agg (pc q).toArray, .func (.func 40) #[] #[]] wz fun e w' => e = .returned (.tuple #[.int .i64 (plc L q : Nat), .bool (has L q)]) ∧ Below wz.heap.size wz w') :=
    Lib.hid (fun wz hb => search_any L hs hf hl o cap q hq wz (hr.later hb))
  have hp0 := range_alloc (w := w.alloc (.cells #[.slice o L.length cap] 28)) (cs := pc q) (t := 24) (w' := (w.alloc (.cells #[.slice o L.length cap] 28)).alloc (.cells (pc q).toArray 24)) (Below.refl _ _)
  have HL0 : Hid (((w.alloc (.cells #[.slice o L.length cap] 28)).alloc (.cells (pc q).toArray 24)).cell? ⟨w.heap.size, 0, none⟩ = some (.slice o L.length cap)) := Lib.hid (box_l (alloc_below _ _))
  have HB0 : Hid (Below w.heap.size w ((w.alloc (.cells #[.slice o L.length cap] 28)).alloc (.cells (pc q).toArray 24))) := Lib.hid (bt (alloc_below _ _))
  have hsz : (w.alloc (.cells #[.slice o L.length cap] 28)).heap.size = w.heap.size + 1 := by simp
  rw [hsz] at hp0
  have HP := Lib.hid hp0
  have hi24 := Lib.hid (info24 q)
  clear hs hf hl hq hr hp0 hsz
  generalize L.length = n at *
  generalize plc L q = pl at *
  generalize has L q = hh at *
  go_enter Tryz.func35, Tryz.ntmps35
  go_upto_region 1 with (fail)
  have hc := HL0.out
  generalize ((w.alloc (.cells #[.slice o n cap] 28)).alloc (.cells (pc q).toArray 24)) = W2 at *
  have hp := HP.out
  go_wp2_with (first
    | (refine wpList_load_mid (w := W2) rfl 24 (.tmp 3) rfl (w.heap.size + 1) 0 rfl (pc q) _ hp Tryz.underlying24 rfl hi24.out ?_)
    | (go_at_call 58; ((with_reducible refine (K.out _ HB0.out).mono ?_); rintro x w5 ⟨rfl, hb5⟩)))
  go_ret2
  exact ⟨rfl, HB0.out.trans (hb5.mono HB0.out.size)⟩
end Go.Proofs.YtpcmmejlmhbcdaaGreat

namespace Go.Proofs.YtpcmmejlmhbcdaaGreat
open Go.RowKit

theorem ec16 (e : En) : (ec e)[16]? = some (.int .i64 (e.d : Int)) := by unfold ec; rw [List.getElem?_append_right (by rw [pc_len]; omega), pc_len]; rfl
theorem ec17 (e : En) : (ec e)[17]? = some (.bool e.h) := by unfold ec; rw [List.getElem?_append_right (by rw [pc_len]; omega), pc_len]; rfl
theorem pc_one (k : Nat) : ∀ v ∈ pc k, v.oneCell' = true := by
  intro v hv
  simp only [pc, W.bcells, List.mem_map] at hv
  obtain ⟨c, _, rfl⟩ := hv
  rfl
theorem ec_one (e : En) : ∀ v ∈ ec e, v.oneCell' = true := by
  intro v hv
  unfold ec at hv
  rcases List.mem_append.1 hv with h | h
  · exact pc_one _ v h
  · simp at h
    rcases h with rfl | rfl <;> rfl
theorem ent_cells {w : World} {b o : Nat} {e : En} (h : w.rangeAt b o (ec e)) : w.cell? ⟨b, o + 16, none⟩ = some (.int .i64 (e.d : Int)) ∧ w.cell? ⟨b, o + 17, none⟩ = some (.bool e.h) := ⟨h 16 _ (ec16 e), h 17 _ (ec17 e)⟩

set_option maxRecDepth 100000 in
theorem tells_any (e : En) (w : World) : Calls Tryz.prog 56 #[.agg (ec e).toArray] w fun x w' => x = .returned (.bool e.tells) ∧ Below w.heap.size w w' := by
  have hr := range_alloc (w := w) (cs := ec e) (t := 46) (w' := w.alloc (.cells (ec e).toArray 46)) (Below.refl _ _)
  obtain ⟨c16, c17⟩ := ent_cells hr
  have HB : Hid (Below w.heap.size w (w.alloc (.cells (ec e).toArray 46))) := Lib.hid (alloc_below _ _)
  rw [Nat.zero_add] at c16 c17
  clear hr
  generalize hcs : (ec e).toArray = cs at *
  clear hcs
  obtain ⟨k, d, h⟩ := e
  simp only at c16 c17
  by_cases hd : 0 < d
  · have ht : En.tells ⟨k, d, h⟩ = true := by unfold En.tells; simp [hd]
    rw [ht]
    have q : decide ((0 : Int) < (d : Int)) = true := by rw [decide_eq_true_iff]; omega
    go_enter Tryz.func56, Tryz.ntmps56
    go_upto_region 1 with (fail)
    generalize w.alloc (.cells cs 46) = W1 at *
    go_wp2
    go_ret
    exact ⟨rfl, HB.out⟩
  · have hd0 : d = 0 := by omega
    subst hd0
    have ht : En.tells ⟨k, 0, h⟩ = h := by unfold En.tells; simp
    rw [ht]
    simp only [Int.ofNat_zero, Int.natCast_zero] at c16
    go_enter Tryz.func56, Tryz.ntmps56
    go_upto_region 1 with (fail)
    generalize w.alloc (.cells cs 46) = W1 at *
    go_wp2
    go_ret
    exact ⟨rfl, HB.out⟩
theorem built46a (a0 a1 a2 a3 a4 a5 a6 a7 a8 a9 a10 a11 a12 a13 a14 a15 : Value) : Tryz.prog.built 46 [(0, .agg #[a0, a1, a2, a3, a4, a5, a6, a7, a8, a9, a10, a11, a12, a13, a14, a15])] = some #[a0, a1, a2, a3, a4, a5, a6, a7, a8, a9, a10, a11, a12, a13, a14, a15, .int .i64 0, .bool false] := by kernel_rfl
theorem built46 (q : Nat) : Tryz.prog.built 46 [(0, .agg (pc q).toArray)] = some (ec ⟨q, 0, false⟩).toArray := by
  have h := pc_len q
  unfold ec
  show Tryz.prog.built 46 [(0, .agg (pc q).toArray)] = some (pc q ++ [Value.int .i64 0, Value.bool false]).toArray
  generalize pc q = l at *
  match l, h with
  | [a0, a1, a2, a3, a4, a5, a6, a7, a8, a9, a10, a11, a12, a13, a14, a15], _ => exact built46a a0 a1 a2 a3 a4 a5 a6 a7 a8 a9 a10 a11 a12 a13 a14 a15
/-- What a call leaves in a result's box, and what it laid. -/
theorem there_new {w w' : World} {cs : Array Value} {t : TypeId} (hb : Below (w.alloc (.cells cs t)).heap.size (w.alloc (.cells cs t)) w') : w'.there w.heap.size 0 cs.size := fun j hj => by
  have h1 := hb.cell (p := ⟨w.heap.size, 0 + j, none⟩) (by simp)
  have h2 := hb.frozen (p := ⟨w.heap.size, 0 + j, none⟩) (by simp)
  rw [h1, h2, World.cell?_alloc_new]
  exact ⟨by simpa using hj, by simp⟩
theorem below_setCells {B : Nat} {b : Nat} (hb : B ≤ b) : ∀ (vs : List Value) (o : Nat) {a w : World}, Below B a w → Below B a (w.setCells b o vs)
  | [], _, _, _, h => h
  | v :: r, o, _, _, h => below_setCells hb r (o + 1) (h.setCell hb v)
end Go.Proofs.YtpcmmejlmhbcdaaGreat
