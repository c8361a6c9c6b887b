/- config: clones.; config: clones (EAb).; config: clones (EAc).; config: clones (EAd).; config: clones (EAe).; config: clones (EAf). -/
import Derived.Test.YtjfjliobencppaaGreatDoorJ21
set_option linter.unusedVariables false
set_option linter.unusedSimpArgs false
namespace Go.Proofs.YtjfjliobencppaaGreatDoor.Cf
open Go.RowKit

/-- A row of them that the call has made. -/
def LcR (w : World) (B : Nat) (V : Value) (L : List Ls) : Prop :=
  ∃ PL : List (Ls × Value), PL.map Prod.fst = L ∧ w.ownsRow B 52 7 V PL.length (PL.flatMap llcs) ∧ ∀ p ∈ PL, w.ownsRow B 62 4 p.2 p.1.r.length (p.1.r.flatMap Rt.cs)
theorem LcR.nil (w : World) (B : Nat) : LcR w B (.slice none 0 0) [] := ⟨[], rfl, World.ownsRow_nil _ _ _ _, fun p hp => by cases hp⟩
theorem LcR.later {w w' : World} {B : Nat} {V : Value} {L : List Ls} (h : LcR w B V L) (hb : Below w.heap.size w w') : LcR w' B V L := by
  obtain ⟨PL, h1, h2, h3⟩ := h
  exact ⟨PL, h1, own_later h2 hb, fun p hp => own_later (h3 p hp) hb⟩
theorem LcR.rows {w : World} {B : Nat} {V : Value} {L : List Ls} (h : LcR w B V L) (hok : ∀ l ∈ L, l.name.size ≤ maxLen ∧ l.p.ok ∧ ∀ r ∈ l.r, r.ok) : Rw 7 LsIn w V L := by
  obtain ⟨PL, rfl, h2, h3⟩ := h
  refine rw_map Prod.fst (rw_of_own (fun p _ => ll_len p) h2 fun p hp => ?_)
  have hk := hok p.1 (List.mem_map.2 ⟨p, hp, rfl⟩)
  exact ⟨p.2, rfl, hk.1, hk.2.1, rw_of_own (fun r _ => rt_len r) (h3 p hp) fun r hr => ⟨rfl, hk.2.2 r hr⟩⟩

/-- A row of them that the call has made. -/
def KcR (w : World) (B : Nat) (V : Value) (L : List Cl) : Prop :=
  ∃ PL : List (Cl × Value), PL.map Prod.fst = L ∧ w.ownsRow B 57 2 V PL.length (PL.flatMap cccs) ∧ ∀ p ∈ PL, w.ownsRow B 64 6 p.2 p.1.e.length (p.1.e.flatMap Ep.cs)
theorem KcR.nil (w : World) (B : Nat) : KcR w B (.slice none 0 0) [] := ⟨[], rfl, World.ownsRow_nil _ _ _ _, fun p hp => by cases hp⟩
theorem KcR.later {w w' : World} {B : Nat} {V : Value} {L : List Cl} (h : KcR w B V L) (hb : Below w.heap.size w w') : KcR w' B V L := by
  obtain ⟨PL, h1, h2, h3⟩ := h
  exact ⟨PL, h1, own_later h2 hb, fun p hp => own_later (h3 p hp) hb⟩
theorem KcR.rows {w : World} {B : Nat} {V : Value} {L : List Cl} (h : KcR w B V L) (hok : ∀ l ∈ L, l.name.size ≤ maxLen ∧ ∀ r ∈ l.e, r.ok) : Rw 2 ClIn w V L := by
  obtain ⟨PL, rfl, h2, h3⟩ := h
  refine rw_map Prod.fst (rw_of_own (fun p _ => cc_len p) h2 fun p hp => ?_)
  have hk := hok p.1 (List.mem_map.2 ⟨p, hp, rfl⟩)
  exact ⟨p.2, rfl, hk.1, rw_of_own (fun r _ => ep_len r) (h3 p hp) fun r hr => ⟨rfl, hk.2 r hr⟩⟩

/-- Cells of a block, stored one by one. -/
def sets (w : World) (g i : Nat) : List Value → World
  | [] => w
  | v :: r => sets (w.setCell ⟨g, i, none⟩ v) g (i + 1) r
theorem sets_other (g b : Nat) (hb : b ≠ g) : ∀ (vs : List Value) (i : Nat) (w : World), (sets w g i vs).heap[b]? = w.heap[b]?
  | [], _, _ => rfl
  | v :: r, i, w => (sets_other g b hb r (i + 1) _).trans (heap_setCell_other _ ⟨g, i, none⟩ b _ hb)
theorem sets_below {n g : Nat} {w0 : World} : ∀ (vs : List Value) (i : Nat) (w : World), Below n w0 w → n ≤ g → Below n w0 (sets w g i vs)
  | [], _, _, h, _ => h
  | v :: r, i, w, h, hg => sets_below r (i + 1) _ (h.setCell (p := ⟨g, i, none⟩) hg v) hg
theorem sets_bk {g : Nat} {T : TypeId} : ∀ (vs rest pre : List Value) {w : World}, vs.length = rest.length → Bk w g (pre ++ rest).toArray T → Bk (sets w g pre.length vs) g (pre ++ vs).toArray T
  | [], [], pre, w, _, h => h
  | v :: r, q :: s, pre, w, hl, h => by
    have h1 : Bk (w.setCell ⟨g, pre.length, none⟩ v) g ((pre ++ [v]) ++ s).toArray T := by
      have h2 := Bk.set (i := pre.length) h v
      have e : (pre ++ q :: s).toArray.setIfInBounds pre.length v = ((pre ++ [v]) ++ s).toArray := by simp
      rwa [e] at h2
    have h3 := sets_bk r s (pre ++ [v]) (by simpa using hl) h1
    rw [List.length_append, List.append_assoc] at h3
    exact h3
theorem sets_own {w : World} {B t k n q T : Nat} {v : Value} {xs : List Value} {cs : Array Value} (h : w.ownsRow B t k v n xs) (hq : Bk w q cs T) (ht : t ≠ T) (vs : List Value) (i : Nat) : (sets w q i vs).ownsRow B t k v n xs :=
  own_keep h fun g c _ _ hgg => sets_other q g (fun e => by
    subst e
    have h2 : _ = some (Obj.cells cs T (0, 0)) := hq
    rw [hgg] at h2
    cases h2
    exact ht rfl) vs i w
theorem LcR.sets {w : World} {B q T : Nat} {V : Value} {L : List Ls} {cs : Array Value} (h : LcR w B V L) (hq : Bk w q cs T) (h1 : 52 ≠ T) (h2 : 62 ≠ T) (vs : List Value) (i : Nat) : LcR (sets w q i vs) B V L := by
  obtain ⟨PL, e1, e2, e3⟩ := h
  exact ⟨PL, e1, sets_own e2 hq h1 vs i, fun p hp => sets_own (e3 p hp) hq h2 vs i⟩
theorem KcR.sets {w : World} {B q T : Nat} {V : Value} {L : List Cl} {cs : Array Value} (h : KcR w B V L) (hq : Bk w q cs T) (h1 : 57 ≠ T) (h2 : 64 ≠ T) (vs : List Value) (i : Nat) : KcR (sets w q i vs) B V L := by
  obtain ⟨PL, e1, e2, e3⟩ := h
  exact ⟨PL, e1, sets_own e2 hq h1 vs i, fun p hp => sets_own (e3 p hp) hq h2 vs i⟩
theorem LcR.mono {w : World} {B B' : Nat} {V : Value} {L : List Ls} (h : LcR w B V L) (hb : B' ≤ B) : LcR w B' V L := by
  obtain ⟨PL, h1, h2, h3⟩ := h
  exact ⟨PL, h1, own_mono h2 hb, fun p hp => own_mono (h3 p hp) hb⟩
theorem KcR.mono {w : World} {B B' : Nat} {V : Value} {L : List Cl} (h : KcR w B V L) (hb : B' ≤ B) : KcR w B' V L := by
  obtain ⟨PL, h1, h2, h3⟩ := h
  exact ⟨PL, h1, own_mono h2 hb, fun p hp => own_mono (h3 p hp) hb⟩

set_option maxRecDepth 100000 in
set_option maxHeartbeats 1000000 in
theorem clo87 (a b c d port : Nat) (wt : Int) (w : World) : Calls Tryz.prog 87 #[.agg #[.int .u8 (a : Int), .int .u8 (b : Int), .int .u8 (c : Int), .int .u8 (d : Int), .int .u16 (port : Int), .int .i64 wt]] w fun e w' => e = .returned (.agg #[.int .u8 (a : Int), .int .u8 (b : Int), .int .u8 (c : Int), .int .u8 (d : Int), .int .u16 (port : Int), .int .i64 wt]) ∧ Below w.heap.size w w' := by
  have HB0 := Lib.hid (show Below w.heap.size w ((w.alloc (.cells #[.int .u8 (a : Int), .int .u8 (b : Int), .int .u8 (c : Int), .int .u8 (d : Int), .int .u16 (port : Int), .int .i64 wt] 64)).alloc (.cells #[.int .u8 0, .int .u8 0, .int .u8 0, .int .u8 0, .int .u16 0, .int .i64 0] 64)) from (alloc_below _ _).trans ((alloc_below _ _).mono (by simp)))
  have HX0 := Lib.hid (show Bk ((w.alloc (.cells #[.int .u8 (a : Int), .int .u8 (b : Int), .int .u8 (c : Int), .int .u8 (d : Int), .int .u16 (port : Int), .int .i64 wt] 64)).alloc (.cells #[.int .u8 0, .int .u8 0, .int .u8 0, .int .u8 0, .int .u16 0, .int .i64 0] 64)) w.heap.size #[.int .u8 (a : Int), .int .u8 (b : Int), .int .u8 (c : Int), .int .u8 (d : Int), .int .u16 (port : Int), .int .i64 wt] 64 from (alloc_at (w := w) (g := w.heap.size) _ _ rfl).later (alloc_below _ _))
  have HY0 := Lib.hid (alloc_at (w := w.alloc (.cells #[.int .u8 (a : Int), .int .u8 (b : Int), .int .u8 (c : Int), .int .u8 (d : Int), .int .u16 (port : Int), .int .i64 wt] 64)) (g := w.heap.size + 1) #[.int .u8 0, .int .u8 0, .int .u8 0, .int .u8 0, .int .u16 0, .int .i64 0] 64 (by simp))
  obtain ⟨W0, hW0⟩ : ∃ W0, W0 = ((w.alloc (.cells #[.int .u8 (a : Int), .int .u8 (b : Int), .int .u8 (c : Int), .int .u8 (d : Int), .int .u16 (port : Int), .int .i64 wt] 64)).alloc (.cells #[.int .u8 0, .int .u8 0, .int .u8 0, .int .u8 0, .int .u16 0, .int .i64 0] 64)) := ⟨_, rfl⟩
  rw [← hW0] at HB0 HX0 HY0
  have HYn : Hid (Bk (sets W0 (w.heap.size + 1) 0 [.int .u8 (a : Int), .int .u8 (b : Int), .int .u8 (c : Int), .int .u8 (d : Int), .int .u16 (port : Int), .int .i64 wt]) (w.heap.size + 1) #[.int .u8 (a : Int), .int .u8 (b : Int), .int .u8 (c : Int), .int .u8 (d : Int), .int .u16 (port : Int), .int .i64 wt] 64) := Lib.hid (sets_bk [.int .u8 (a : Int), .int .u8 (b : Int), .int .u8 (c : Int), .int .u8 (d : Int), .int .u16 (port : Int), .int .i64 wt] [.int .u8 0, .int .u8 0, .int .u8 0, .int .u8 0, .int .u16 0, .int .i64 0] [] rfl HY0.out)
  have HBn := Lib.hid (sets_below [.int .u8 (a : Int), .int .u8 (b : Int), .int .u8 (c : Int), .int .u8 (d : Int), .int .u16 (port : Int), .int .i64 wt] 0 W0 HB0.out (show w.heap.size ≤ w.heap.size + 1 by omega))
  go_enter Tryz.func87, Tryz.ntmps87
  go_upto_region 1 with (fail)
  rw [← hW0]
  clear hW0
  have x0 := (cell_of_row _ _ 0 _ _ _ HX0.out).trans rfl
  have x1 := (cell_of_row _ _ 1 _ _ _ HX0.out).trans rfl
  have x2 := (cell_of_row _ _ 2 _ _ _ HX0.out).trans rfl
  have x3 := (cell_of_row _ _ 3 _ _ _ HX0.out).trans rfl
  have x4 := (cell_of_row _ _ 4 _ _ _ HX0.out).trans rfl
  have x5 := (cell_of_row _ _ 5 _ _ _ HX0.out).trans rfl
  have y0 := (cell_of_row _ _ 0 _ _ _ HY0.out).trans rfl
  have y1 := (cell_of_row _ _ 1 _ _ _ HY0.out).trans rfl
  have y2 := (cell_of_row _ _ 2 _ _ _ HY0.out).trans rfl
  have y3 := (cell_of_row _ _ 3 _ _ _ HY0.out).trans rfl
  have y4 := (cell_of_row _ _ 4 _ _ _ HY0.out).trans rfl
  have y5 := (cell_of_row _ _ 5 _ _ _ HY0.out).trans rfl
  have z0 := frozen_of_row _ _ 0 _ _ HY0.out
  have z1 := frozen_of_row _ _ 1 _ _ HY0.out
  have z2 := frozen_of_row _ _ 2 _ _ HY0.out
  have z3 := frozen_of_row _ _ 3 _ _ HY0.out
  have z4 := frozen_of_row _ _ 4 _ _ HY0.out
  have z5 := frozen_of_row _ _ 5 _ _ HY0.out
  go_wp2
  have hch : ((((((W0.setCell ⟨w.heap.size + 1, 0, none⟩ (.int .u8 (a : Int))).setCell ⟨w.heap.size + 1, 1, none⟩ (.int .u8 (b : Int))).setCell ⟨w.heap.size + 1, 2, none⟩ (.int .u8 (c : Int))).setCell ⟨w.heap.size + 1, 3, none⟩ (.int .u8 (d : Int))).setCell ⟨w.heap.size + 1, 4, none⟩ (.int .u16 (port : Int))).setCell ⟨w.heap.size + 1, 5, none⟩ (.int .i64 wt)) = sets W0 (w.heap.size + 1) 0 [.int .u8 (a : Int), .int .u8 (b : Int), .int .u8 (c : Int), .int .u8 (d : Int), .int .u16 (port : Int), .int .i64 wt] := rfl
  rw [hch]
  clear hch
  generalize sets W0 (w.heap.size + 1) 0 [.int .u8 (a : Int), .int .u8 (b : Int), .int .u8 (c : Int), .int .u8 (d : Int), .int .u16 (port : Int), .int .i64 wt] = W1 at *
  clear x0 y0 z0 x1 y1 z1 x2 y2 z2 x3 y3 z3 x4 y4 z4 x5 y5 z5
  have y0 := (cell_of_row _ _ 0 _ _ _ HYn.out).trans rfl
  have y1 := (cell_of_row _ _ 1 _ _ _ HYn.out).trans rfl
  have y2 := (cell_of_row _ _ 2 _ _ _ HYn.out).trans rfl
  have y3 := (cell_of_row _ _ 3 _ _ _ HYn.out).trans rfl
  have y4 := (cell_of_row _ _ 4 _ _ _ HYn.out).trans rfl
  have y5 := (cell_of_row _ _ 5 _ _ _ HYn.out).trans rfl
  refine bodyPost_ret (v := .agg #[.int .u8 (a : Int), .int .u8 (b : Int), .int .u8 (c : Int), .int .u8 (d : Int), .int .u16 (port : Int), .int .i64 wt]) (by simp [results, Tryz.results87, go_sem, *]) rfl ⟨rfl, HBn.out⟩

set_option maxRecDepth 100000 in
set_option maxHeartbeats 1500000 in
theorem clone_rt (host path cluster : ByteArray) (idle : Nat) (hh : host.size ≤ 1000000000) (hp : path.size ≤ 1000000000) (hc : cluster.size ≤ 1000000000) (w : World) : Calls Tryz.prog 85 #[.agg #[.string host, .string path, .string cluster, .int .u64 (idle : Int)]] w fun e w' => e = .returned (.agg #[.string host, .string path, .string cluster, .int .u64 (idle : Int)]) ∧ Below w.heap.size w w' := by
  have HBs := Lib.hid (show Below w.heap.size w ((w.alloc (.cells #[.string host, .string path, .string cluster, .int .u64 (idle : Int)] 62)).alloc (.cells #[.string ⟨#[]⟩, .string ⟨#[]⟩, .string ⟨#[]⟩, .int .u64 0] 62)) from (alloc_below _ _).trans ((alloc_below _ _).mono (by simp)))
  have HXs := Lib.hid (show Bk ((w.alloc (.cells #[.string host, .string path, .string cluster, .int .u64 (idle : Int)] 62)).alloc (.cells #[.string ⟨#[]⟩, .string ⟨#[]⟩, .string ⟨#[]⟩, .int .u64 0] 62)) w.heap.size #[.string host, .string path, .string cluster, .int .u64 (idle : Int)] 62 from ((alloc_below _ _).block _ (by simp)).trans (heap_alloc_new w _))
  have HYs := Lib.hid (alloc_at (w := (w.alloc (.cells #[.string host, .string path, .string cluster, .int .u64 (idle : Int)] 62))) (g := w.heap.size + 1) #[.string ⟨#[]⟩, .string ⟨#[]⟩, .string ⟨#[]⟩, .int .u64 0] 62 (by simp))
  have K1 := Lib.hid (fun w => clone_any host w hh)
  have K2 := Lib.hid (fun w => clone_any path w hp)
  have K3 := Lib.hid (fun w => clone_any cluster w hc)
  clear hh hp hc
  obtain ⟨W0, hW0⟩ : ∃ W0, W0 = ((w.alloc (.cells #[.string host, .string path, .string cluster, .int .u64 (idle : Int)] 62)).alloc (.cells #[.string ⟨#[]⟩, .string ⟨#[]⟩, .string ⟨#[]⟩, .int .u64 0] 62)) := ⟨_, rfl⟩
  rw [← hW0] at HBs HXs HYs
  go_enter Tryz.func85, Tryz.ntmps85
  go_upto_region 1 with (fail)
  rw [← hW0]
  clear hW0
  have HB0 := Lib.hid (show Below w.heap.size w W0.drew from HBs.out.drew)
  have HX0 := Lib.hid (show Bk W0.drew w.heap.size #[.string host, .string path, .string cluster, .int .u64 (idle : Int)] 62 from HXs.out)
  have HY0 := Lib.hid (show Bk W0.drew (w.heap.size + 1) #[.string ⟨#[]⟩, .string ⟨#[]⟩, .string ⟨#[]⟩, .int .u64 0] 62 from HYs.out)
  have mkS : Hid (∀ wz, Bk wz w.heap.size #[.string host, .string path, .string cluster, .int .u64 (idle : Int)] 62 → wz.cell? ⟨w.heap.size, 0, none⟩ = some (.string host) ∧ wz.cell? ⟨w.heap.size, 1, none⟩ = some (.string path) ∧ wz.cell? ⟨w.heap.size, 2, none⟩ = some (.string cluster) ∧ wz.cell? ⟨w.heap.size, 3, none⟩ = some (.int .u64 (idle : Int)) ∧ Hid True) := Lib.hid (fun wz h => ⟨(cell_of_row _ _ 0 _ _ _ h).trans rfl, (cell_of_row _ _ 1 _ _ _ h).trans rfl, (cell_of_row _ _ 2 _ _ _ h).trans rfl, (cell_of_row _ _ 3 _ _ _ h).trans rfl, Lib.hid True.intro⟩)
  refine wp_region_held_drew (S := fun wz => wz.cell? ⟨w.heap.size, 0, none⟩ = some (.string host) ∧ wz.cell? ⟨w.heap.size, 1, none⟩ = some (.string path) ∧ wz.cell? ⟨w.heap.size, 2, none⟩ = some (.string cluster) ∧ wz.cell? ⟨w.heap.size, 3, none⟩ = some (.int .u64 (idle : Int)) ∧ Hid True) (by kernel_rfl) (mkS.out _ HX0.out) (fun hHeld => ?_)
  generalize W0.drew = wc0 at *
  refine wpAnyH_take (i := 0) (oi := ⟨some 3, _, _, _, _, _⟩) (v := ?_) rfl (by kernel_rfl) (by kernel_rfl) (by kernel_rfl) (fun _ _ _ h => h) (Or.inl ⟨by rfl, by (intro w hSw; (try dsimp only at hSw); go_simp; try with_reducible rfl)⟩) hHeld ?_
  try simp only [Act.put, List.setIfInBounds_toArray, List.set_cons_zero, List.set_cons_succ]
  refine wpAnyH_take (i := 1) (oi := ⟨some 4, _, _, _, _, _⟩) (v := ?_) rfl (by kernel_rfl) (by kernel_rfl) (by kernel_rfl) (fun _ _ _ h => h) (Or.inl ⟨by rfl, by (intro w hSw; (try dsimp only at hSw); go_simp; try with_reducible rfl)⟩) hHeld ?_
  try simp only [Act.put, List.setIfInBounds_toArray, List.set_cons_zero, List.set_cons_succ]
  refine wpAnyH_take (i := 3) (oi := ⟨some 6, _, _, _, _, _⟩) (v := ?_) rfl (by kernel_rfl) (by kernel_rfl) (by kernel_rfl) (fun _ _ _ h => h) (Or.inl ⟨by rfl, by (intro w hSw; (try dsimp only at hSw); go_simp; try with_reducible rfl)⟩) hHeld ?_
  try simp only [Act.put, List.setIfInBounds_toArray, List.set_cons_zero, List.set_cons_succ]
  refine wpAnyH_take (i := 4) (oi := ⟨some 7, _, _, _, _, _⟩) (v := ?_) rfl (by kernel_rfl) (by kernel_rfl) (by kernel_rfl) (fun _ _ _ h => h) (Or.inl ⟨by rfl, by (intro w hSw; (try dsimp only at hSw); go_simp; try with_reducible rfl)⟩) hHeld ?_
  try simp only [Act.put, List.setIfInBounds_toArray, List.set_cons_zero, List.set_cons_succ]
  refine wpAnyH_take (i := 6) (oi := ⟨some 9, _, _, _, _, _⟩) (v := ?_) rfl (by kernel_rfl) (by kernel_rfl) (by kernel_rfl) (fun _ _ _ h => h) (Or.inl ⟨by rfl, by (intro w hSw; (try dsimp only at hSw); go_simp; try with_reducible rfl)⟩) hHeld ?_
  try simp only [Act.put, List.setIfInBounds_toArray, List.set_cons_zero, List.set_cons_succ]
  refine wpAnyH_take (i := 7) (oi := ⟨some 10, _, _, _, _, _⟩) (v := ?_) rfl (by kernel_rfl) (by kernel_rfl) (by kernel_rfl) (fun _ _ _ h => h) (Or.inl ⟨by rfl, by (intro w hSw; (try dsimp only at hSw); go_simp; try with_reducible rfl)⟩) hHeld ?_
  try simp only [Act.put, List.setIfInBounds_toArray, List.set_cons_zero, List.set_cons_succ]
  refine wpAnyH_take (i := 9) (oi := ⟨some 12, _, _, _, _, _⟩) (v := ?_) rfl (by kernel_rfl) (by kernel_rfl) (by kernel_rfl) (fun _ _ _ h => h) (Or.inl ⟨by rfl, by (intro w hSw; (try dsimp only at hSw); go_simp; try with_reducible rfl)⟩) hHeld ?_
  try simp only [Act.put, List.setIfInBounds_toArray, List.set_cons_zero, List.set_cons_succ]
  refine wpAnyH_take (i := 10) (oi := ⟨some 13, _, _, _, _, _⟩) (v := ?_) rfl (by kernel_rfl) (by kernel_rfl) (by kernel_rfl) (fun _ _ _ h => h) (Or.inl ⟨by rfl, by (intro w hSw; (try dsimp only at hSw); go_simp; try with_reducible rfl)⟩) hHeld ?_
  try simp only [Act.put, List.setIfInBounds_toArray, List.set_cons_zero, List.set_cons_succ]
  refine wpAnyH_ready (rs := [2]) (by kernel_rfl) (by simp) ?_
  refine AllReadyH.cons (o := ⟨some 5, _, _, _, _, _⟩) rfl (fun K hK => ?_) ?_
  · go_simp
    refine (K1.out _).mono ?_
    rintro ze wc1 ⟨rfl, hbn⟩
    try go_simp
    have HX1 := Lib.hid (Bk.later HX0.out hbn)
    have HY1 := Lib.hid (Bk.later HY0.out hbn)
    have HB1 := Lib.hid (HB0.out.trans (hbn.mono HB0.out.size))
    refine hK.out _ _ (mkS.out _ HX1.out) (fun hHeld2 => ?_)
    clear hK K hHeld
    have hHeld := hHeld2
    clear hHeld2
    clear hbn
    try simp only [Act.put, List.setIfInBounds_toArray, List.set_cons_zero, List.set_cons_succ]
    refine wpAnyH_ready (rs := [5]) (by kernel_rfl) (by simp) ?_
    refine AllReadyH.cons (o := ⟨some 8, _, _, _, _, _⟩) rfl (fun K hK => ?_) ?_
    · go_simp
      refine (K2.out _).mono ?_
      rintro ze wc2 ⟨rfl, hbn⟩
      try go_simp
      have HX2 := Lib.hid (Bk.later HX1.out hbn)
      have HY2 := Lib.hid (Bk.later HY1.out hbn)
      have HB2 := Lib.hid (HB1.out.trans (hbn.mono HB1.out.size))
      refine hK.out _ _ (mkS.out _ HX2.out) (fun hHeld2 => ?_)
      clear hK K hHeld
      have hHeld := hHeld2
      clear hHeld2
      clear hbn
      try simp only [Act.put, List.setIfInBounds_toArray, List.set_cons_zero, List.set_cons_succ]
      refine wpAnyH_ready (rs := [8]) (by kernel_rfl) (by simp) ?_
      refine AllReadyH.cons (o := ⟨some 11, _, _, _, _, _⟩) rfl (fun K hK => ?_) ?_
      · go_simp
        refine (K3.out _).mono ?_
        rintro ze wc3 ⟨rfl, hbn⟩
        try go_simp
        have HX3 := Lib.hid (Bk.later HX2.out hbn)
        have HY3 := Lib.hid (Bk.later HY2.out hbn)
        have HB3 := Lib.hid (HB2.out.trans (hbn.mono HB2.out.size))
        refine hK.out _ _ (mkS.out _ HX3.out) (fun hHeld2 => ?_)
        clear hK K hHeld
        have hHeld := hHeld2
        clear hHeld2
        clear hbn
        try simp only [Act.put, List.setIfInBounds_toArray, List.set_cons_zero, List.set_cons_succ]
        refine wpAnyH_take (i := 11) (oi := ⟨some 14, _, _, _, _, _⟩) (v := ?_) rfl (by kernel_rfl) (by kernel_rfl) (by kernel_rfl) (fun _ _ _ h => h) (Or.inl ⟨by rfl, by (intro w hSw; (try dsimp only at hSw); go_simp; try with_reducible rfl)⟩) hHeld ?_
        try simp only [Act.put, List.setIfInBounds_toArray, List.set_cons_zero, List.set_cons_succ]
        refine wpAnyH_ready (rs := [12]) (by kernel_rfl) (by simp) ?_
        refine AllReadyH.cons (o := ⟨none, _, _, _, _, _⟩) rfl (fun K hK => ?_) ?_
        · have y0 := (cell_of_row _ _ 0 _ _ _ HY3.out).trans rfl
          have z0 := frozen_of_row _ _ 0 _ _ HY3.out
          have y1 := (cell_of_row _ _ 1 _ _ _ HY3.out).trans rfl
          have z1 := frozen_of_row _ _ 1 _ _ HY3.out
          have y2 := (cell_of_row _ _ 2 _ _ _ HY3.out).trans rfl
          have z2 := frozen_of_row _ _ 2 _ _ HY3.out
          have y3 := (cell_of_row _ _ 3 _ _ _ HY3.out).trans rfl
          have z3 := frozen_of_row _ _ 3 _ _ HY3.out
          go_simp
          have hch : ((((wc3.setCell ⟨w.heap.size + 1, 0, none⟩ (.string host)).setCell ⟨w.heap.size + 1, 1, none⟩ (.string path)).setCell ⟨w.heap.size + 1, 2, none⟩ (.string cluster)).setCell ⟨w.heap.size + 1, 3, none⟩ (.int .u64 (idle : Int))) = sets wc3 (w.heap.size + 1) 0 [.string host, .string path, .string cluster, .int .u64 (idle : Int)] := rfl
          have HY4 : Hid (Bk (sets wc3 (w.heap.size + 1) 0 [.string host, .string path, .string cluster, .int .u64 (idle : Int)]) (w.heap.size + 1) #[.string host, .string path, .string cluster, .int .u64 (idle : Int)] 62) := Lib.hid (sets_bk [.string host, .string path, .string cluster, .int .u64 (idle : Int)] [.string ⟨#[]⟩, .string ⟨#[]⟩, .string ⟨#[]⟩, .int .u64 0] [] rfl HY3.out)
          have HB4 := Lib.hid (sets_below [.string host, .string path, .string cluster, .int .u64 (idle : Int)] 0 wc3 HB3.out (show w.heap.size ≤ w.heap.size + 1 by omega))
          have HX4 := Lib.hid (show Bk (sets wc3 (w.heap.size + 1) 0 [.string host, .string path, .string cluster, .int .u64 (idle : Int)]) w.heap.size _ _ from (sets_other (w.heap.size + 1) w.heap.size (by omega) [.string host, .string path, .string cluster, .int .u64 (idle : Int)] 0 wc3).trans HX3.out)
          refine hK.out _ _ (mkS.out _ HX4.out) (fun hHeld2 => ?_)
          clear hK K hHeld
          have hHeld := hHeld2
          clear hHeld2
          clear y0 z0 y1 z1 y2 z2 y3 z3
          try simp only [Act.put, List.setIfInBounds_toArray, List.set_cons_zero, List.set_cons_succ]
          rw [hch]
          clear hch
          generalize sets wc3 (w.heap.size + 1) 0 [.string host, .string path, .string cluster, .int .u64 (idle : Int)] = wc4 at *
          refine wpAnyH_done (by kernel_rfl) ?_ _
          simp only [Exit.then]
          apply_assumption
          have y0 := (cell_of_row _ _ 0 _ _ _ HY4.out).trans rfl
          have y1 := (cell_of_row _ _ 1 _ _ _ HY4.out).trans rfl
          have y2 := (cell_of_row _ _ 2 _ _ _ HY4.out).trans rfl
          have y3 := (cell_of_row _ _ 3 _ _ _ HY4.out).trans rfl
          try go_wp2
          refine bodyPost_ret (v := .agg #[.string host, .string path, .string cluster, .int .u64 (idle : Int)]) (by simp [results, Tryz.results85, go_sem, *]) rfl ?_
          exact ⟨rfl, HB4.out⟩
        · exact AllReadyH.nil
      · exact AllReadyH.nil
    · exact AllReadyH.nil
  · exact AllReadyH.nil

end Go.Proofs.YtjfjliobencppaaGreatDoor.Cf

namespace Go.Proofs.YtjfjliobencppaaGreatDoor.Cf
open Go.RowKit

set_option maxRecDepth 100000 in
set_option maxHeartbeats 1500000 in
theorem cl_rou (L : List Rt) (o : Option Addr) (cap b off : Nat) (hlen : L.length ≤ 1000000) (w : World) (ho : 0 < L.length → o = some ⟨b, off, none⟩ ∧ b < w.heap.size)
    (hE : ∀ i (h : i < L.length), w.cell? ⟨b, off + i * 4, none⟩ = some (.string L[i].host) ∧ w.cell? ⟨b, off + i * 4 + 1, none⟩ = some (.string L[i].path) ∧ w.cell? ⟨b, off + i * 4 + 2, none⟩ = some (.string L[i].cluster) ∧ w.cell? ⟨b, off + i * 4 + 3, none⟩ = some (.int .u64 (L[i].idle : Int)) ∧ ∀ wz, Below w.heap.size w wz → Calls Tryz.prog 85 #[.agg #[.string L[i].host, .string L[i].path, .string L[i].cluster, .int .u64 (L[i].idle : Int)]] wz fun e w' => e = .returned (.agg #[.string L[i].host, .string L[i].path, .string L[i].cluster, .int .u64 (L[i].idle : Int)]) ∧ Below wz.heap.size wz w') :
    Calls Tryz.prog 84 #[.slice o L.length cap, (.func (.func 85) #[] #[])] w fun e w' => ∃ oo cc, e = .returned (.slice oo L.length cc) ∧ w'.ownsRow w.heap.size 62 4 (.slice oo L.length cc) L.length (L.flatMap Rt.cs) ∧ Below w.heap.size w w' := by
  have HO := Lib.hid ho
  have HE := Lib.hid hE
  clear ho hE
  go_enter Tryz.func84, Tryz.ntmps84
  go_wp2
  refine wp_scope_again 0 (fun a' w' => ∃ (j : Nat) (oo : Option Addr) (cc : Nat) (u2 u3 u4 u6 u7 u8 u9 u10 u11 u12 u13 u14 u15 u16 u17 u18 u19 u20 u21 : Value), j ≤ L.length ∧ a' = { tmps := #[.slice o L.length cap, (.func (.func 85) #[] #[]), u2, u3, u4, .slice oo j cc, u6, u7, u8, u9, u10, u11, u12, u13, u14, u15, u16, u17, u18, u19, u20, u21], defers := [] } ∧ Hid (w'.ownsRow w.heap.size 62 4 (.slice oo j cc) j ((L.take j).flatMap Rt.cs) ∧ Below w.heap.size w w')) (fun a' _ => L.length - slen (a'.tmps.getD 5 undef)) rfl ?_ ?_
  · intro K Qe hK
    go_wp2
    first | exact hK _ _ ⟨0, none, 0, _, _, _, _, _, _, _, _, _, _, _, _, _, _, _, _, _, _, _, Nat.zero_le _, rfl, Lib.hid ⟨(by rw [List.take_zero]; exact World.ownsRow_nil _ _ _ _), Below.refl _ _⟩⟩ | exact ⟨0, none, 0, _, _, _, _, _, _, _, _, _, _, _, _, _, _, _, _, _, _, _, Nat.zero_le _, rfl, Lib.hid ⟨(by rw [List.take_zero]; exact World.ownsRow_nil _ _ _ _), Below.refl _ _⟩⟩
  · rintro a' wr ⟨j, oo, cc, u2, u3, u4, u6, u7, u8, u9, u10, u11, u12, u13, u14, u15, u16, u17, u18, u19, u20, u21, hj, rfl, hT⟩
    by_cases hjl : j < L.length
    · have hjm : (j : Int) < (L.length : Int) := by omega
      obtain ⟨ho', hb'⟩ := HO.out (by omega)
      subst ho'
      obtain ⟨e0, e1, e2, e3, hK⟩ := HE.out j hjl
      have f0 := (hT.out.2.cell (p := ⟨b, off + j * 4, none⟩) hb').trans e0
      have f1 := (hT.out.2.cell (p := ⟨b, off + j * 4 + 1, none⟩) hb').trans e1
      have f2 := (hT.out.2.cell (p := ⟨b, off + j * 4 + 2, none⟩) hb').trans e2
      have f3 := (hT.out.2.cell (p := ⟨b, off + j * 4 + 3, none⟩) hb').trans e3
      have K1 := Lib.hid (hK wr hT.out.2)
      have HTK : Hid (L.take j ++ [L[j]] = L.take (j + 1)) := Lib.hid (by rw [List.take_append_getElem])
      have HNJ : Hid (j ≤ 1000000) := Lib.hid (by omega)
      clear e0 e1 e2 e3 hK
      generalize L[j] = x at *
      have HJL := Lib.hid hjl
      go_wp2_with fail
      refine (K1.out).mono ?_
      rintro r w5 ⟨rfl, hb5⟩
      obtain ⟨hrow, hB⟩ := hT.out
      have HAB := Lib.hid (alloc_below w5 (.cells #[.string x.host, .string x.path, .string x.cluster, .int .u64 (x.idle : Int)] 62))
      have HRW := Lib.hid (own_later (own_later hrow hb5) HAB.out)
      have HN5 := Lib.hid (alloc_at (w := w5) (g := w5.heap.size) #[.string x.host, .string x.path, .string x.cluster, .int .u64 (x.idle : Int)] 62 rfl)
      have HB5 := Lib.hid ((hB.trans (hb5.mono hB.size)).trans (HAB.out.mono (Nat.le_trans hB.size hb5.size)))
      have HGE := Lib.hid HB5.out.size
      have HONE := Lib.hid (show ∀ u ∈ ([.string x.host, .string x.path, .string x.cluster, .int .u64 (x.idle : Int)] : List Value), u.oneCell' = true by intro u hu; simp only [List.mem_cons, List.not_mem_nil, or_false] at hu; rcases hu with rfl | rfl | rfl | rfl <;> rfl)
      clear hrow hB hb5
      go_wp2_with (first
        | (at_builtin; go_must (refine wpList_append_one (w5.alloc (.cells #[.string x.host, .string x.path, .string x.cluster, .int .u64 (x.idle : Int)] 62)) rfl (.tmp 11) (.tmp 19) (e := 62) (k := 4) Tryz.underlying50 (by kernel_rfl) (by decide) rfl (w.heap.size) (.slice oo j cc) j ((L.take j).flatMap Rt.cs) [.string x.host, .string x.path, .string x.cluster, .int .u64 (x.idle : Int)] w5.heap.size rfl HRW.out rfl HN5.out rfl HONE.out HGE.out HNJ.out ?_); intro v6 w6 hv6 hg6 hb6 hn6; obtain ⟨o6, c6, hf6⟩ := own_form hv6; subst hf6; have HV6 := Lib.hid hv6; have HB6 := Lib.hid (HB5.out.trans hb6); clear hv6 hg6 hb6 hn6))
      go_step3
      refine ⟨rfl, ⟨j + 1, o6, c6, _, _, _, _, _, _, _, _, _, _, _, _, _, _, _, _, _, _, _, HJL.out, rfl, Lib.hid ⟨?_, HB6.out⟩⟩, ?_⟩
      · rw [← HTK.out, List.flatMap_append, List.flatMap_cons, List.flatMap_nil, List.append_nil]
        exact HV6.out
      · have HJM := HJL.out
        simp [slen]
        omega
    · obtain rfl : j = L.length := by omega
      have HX := Lib.hid (show wr.ownsRow w.heap.size 62 4 (.slice oo L.length cc) L.length (L.flatMap Rt.cs) ∧ Below w.heap.size w wr by have h := hT.out; rwa [List.take_length] at h)
      have hjm : ¬ ((L.length : Int) < (L.length : Int)) := by omega
      clear hT
      go_wp2
      try simp only [Exit.jump]
      go_ret
      exact ⟨_, _, rfl, HX.out.1, HX.out.2⟩

set_option maxRecDepth 100000 in
set_option maxHeartbeats 1500000 in
theorem cl_end (L : List Ep) (o : Option Addr) (cap b off : Nat) (hlen : L.length ≤ 1000000) (w : World) (ho : 0 < L.length → o = some ⟨b, off, none⟩ ∧ b < w.heap.size)
    (hE : ∀ i (h : i < L.length), w.cell? ⟨b, off + i * 6, none⟩ = some (.int .u8 (L[i].p.a : Int)) ∧ w.cell? ⟨b, off + i * 6 + 1, none⟩ = some (.int .u8 (L[i].p.b : Int)) ∧ w.cell? ⟨b, off + i * 6 + 2, none⟩ = some (.int .u8 (L[i].p.c : Int)) ∧ w.cell? ⟨b, off + i * 6 + 3, none⟩ = some (.int .u8 (L[i].p.d : Int)) ∧ w.cell? ⟨b, off + i * 6 + 4, none⟩ = some (.int .u16 (L[i].p.port : Int)) ∧ w.cell? ⟨b, off + i * 6 + 5, none⟩ = some (.int .i64 L[i].w) ∧ ∀ wz, Below w.heap.size w wz → Calls Tryz.prog 87 #[.agg #[.int .u8 (L[i].p.a : Int), .int .u8 (L[i].p.b : Int), .int .u8 (L[i].p.c : Int), .int .u8 (L[i].p.d : Int), .int .u16 (L[i].p.port : Int), .int .i64 L[i].w]] wz fun e w' => e = .returned (.agg #[.int .u8 (L[i].p.a : Int), .int .u8 (L[i].p.b : Int), .int .u8 (L[i].p.c : Int), .int .u8 (L[i].p.d : Int), .int .u16 (L[i].p.port : Int), .int .i64 L[i].w]) ∧ Below wz.heap.size wz w') :
    Calls Tryz.prog 86 #[.slice o L.length cap, (.func (.func 87) #[] #[])] w fun e w' => ∃ oo cc, e = .returned (.slice oo L.length cc) ∧ w'.ownsRow w.heap.size 64 6 (.slice oo L.length cc) L.length (L.flatMap Ep.cs) ∧ Below w.heap.size w w' := by
  have HO := Lib.hid ho
  have HE := Lib.hid hE
  clear ho hE
  go_enter Tryz.func86, Tryz.ntmps86
  go_wp2
  refine wp_scope_again 0 (fun a' w' => ∃ (j : Nat) (oo : Option Addr) (cc : Nat) (u2 u3 u4 u6 u7 u8 u9 u10 u11 u12 u13 u14 u15 u16 u17 u18 u19 u20 u21 : Value), j ≤ L.length ∧ a' = { tmps := #[.slice o L.length cap, (.func (.func 87) #[] #[]), u2, u3, u4, .slice oo j cc, u6, u7, u8, u9, u10, u11, u12, u13, u14, u15, u16, u17, u18, u19, u20, u21], defers := [] } ∧ Hid (w'.ownsRow w.heap.size 64 6 (.slice oo j cc) j ((L.take j).flatMap Ep.cs) ∧ Below w.heap.size w w')) (fun a' _ => L.length - slen (a'.tmps.getD 5 undef)) rfl ?_ ?_
  · intro K Qe hK
    go_wp2
    first | exact hK _ _ ⟨0, none, 0, _, _, _, _, _, _, _, _, _, _, _, _, _, _, _, _, _, _, _, Nat.zero_le _, rfl, Lib.hid ⟨(by rw [List.take_zero]; exact World.ownsRow_nil _ _ _ _), Below.refl _ _⟩⟩ | exact ⟨0, none, 0, _, _, _, _, _, _, _, _, _, _, _, _, _, _, _, _, _, _, _, Nat.zero_le _, rfl, Lib.hid ⟨(by rw [List.take_zero]; exact World.ownsRow_nil _ _ _ _), Below.refl _ _⟩⟩
  · rintro a' wr ⟨j, oo, cc, u2, u3, u4, u6, u7, u8, u9, u10, u11, u12, u13, u14, u15, u16, u17, u18, u19, u20, u21, hj, rfl, hT⟩
    by_cases hjl : j < L.length
    · have hjm : (j : Int) < (L.length : Int) := by omega
      obtain ⟨ho', hb'⟩ := HO.out (by omega)
      subst ho'
      obtain ⟨e0, e1, e2, e3, e4, e5, hK⟩ := HE.out j hjl
      have f0 := (hT.out.2.cell (p := ⟨b, off + j * 6, none⟩) hb').trans e0
      have f1 := (hT.out.2.cell (p := ⟨b, off + j * 6 + 1, none⟩) hb').trans e1
      have f2 := (hT.out.2.cell (p := ⟨b, off + j * 6 + 2, none⟩) hb').trans e2
      have f3 := (hT.out.2.cell (p := ⟨b, off + j * 6 + 3, none⟩) hb').trans e3
      have f4 := (hT.out.2.cell (p := ⟨b, off + j * 6 + 4, none⟩) hb').trans e4
      have f5 := (hT.out.2.cell (p := ⟨b, off + j * 6 + 5, none⟩) hb').trans e5
      have K1 := Lib.hid (hK wr hT.out.2)
      have HTK : Hid (L.take j ++ [L[j]] = L.take (j + 1)) := Lib.hid (by rw [List.take_append_getElem])
      have HNJ : Hid (j ≤ 1000000) := Lib.hid (by omega)
      clear e0 e1 e2 e3 e4 e5 hK
      generalize L[j] = x at *
      have HJL := Lib.hid hjl
      go_wp2_with fail
      refine (K1.out).mono ?_
      rintro r w5 ⟨rfl, hb5⟩
      obtain ⟨hrow, hB⟩ := hT.out
      have HAB := Lib.hid (alloc_below w5 (.cells #[.int .u8 (x.p.a : Int), .int .u8 (x.p.b : Int), .int .u8 (x.p.c : Int), .int .u8 (x.p.d : Int), .int .u16 (x.p.port : Int), .int .i64 x.w] 64))
      have HRW := Lib.hid (own_later (own_later hrow hb5) HAB.out)
      have HN5 := Lib.hid (alloc_at (w := w5) (g := w5.heap.size) #[.int .u8 (x.p.a : Int), .int .u8 (x.p.b : Int), .int .u8 (x.p.c : Int), .int .u8 (x.p.d : Int), .int .u16 (x.p.port : Int), .int .i64 x.w] 64 rfl)
      have HB5 := Lib.hid ((hB.trans (hb5.mono hB.size)).trans (HAB.out.mono (Nat.le_trans hB.size hb5.size)))
      have HGE := Lib.hid HB5.out.size
      have HONE := Lib.hid (show ∀ u ∈ ([.int .u8 (x.p.a : Int), .int .u8 (x.p.b : Int), .int .u8 (x.p.c : Int), .int .u8 (x.p.d : Int), .int .u16 (x.p.port : Int), .int .i64 x.w] : List Value), u.oneCell' = true by intro u hu; simp only [List.mem_cons, List.not_mem_nil, or_false] at hu; rcases hu with rfl | rfl | rfl | rfl | rfl | rfl <;> rfl)
      clear hrow hB hb5
      go_wp2_with (first
        | (at_builtin; go_must (refine wpList_append_one (w5.alloc (.cells #[.int .u8 (x.p.a : Int), .int .u8 (x.p.b : Int), .int .u8 (x.p.c : Int), .int .u8 (x.p.d : Int), .int .u16 (x.p.port : Int), .int .i64 x.w] 64)) rfl (.tmp 11) (.tmp 19) (e := 64) (k := 6) Tryz.underlying55 (by kernel_rfl) (by decide) rfl (w.heap.size) (.slice oo j cc) j ((L.take j).flatMap Ep.cs) [.int .u8 (x.p.a : Int), .int .u8 (x.p.b : Int), .int .u8 (x.p.c : Int), .int .u8 (x.p.d : Int), .int .u16 (x.p.port : Int), .int .i64 x.w] w5.heap.size rfl HRW.out rfl HN5.out rfl HONE.out HGE.out HNJ.out ?_); intro v6 w6 hv6 hg6 hb6 hn6; obtain ⟨o6, c6, hf6⟩ := own_form hv6; subst hf6; have HV6 := Lib.hid hv6; have HB6 := Lib.hid (HB5.out.trans hb6); clear hv6 hg6 hb6 hn6))
      go_step3
      refine ⟨rfl, ⟨j + 1, o6, c6, _, _, _, _, _, _, _, _, _, _, _, _, _, _, _, _, _, _, _, HJL.out, rfl, Lib.hid ⟨?_, HB6.out⟩⟩, ?_⟩
      · rw [← HTK.out, List.flatMap_append, List.flatMap_cons, List.flatMap_nil, List.append_nil]
        exact HV6.out
      · have HJM := HJL.out
        simp [slen]
        omega
    · obtain rfl : j = L.length := by omega
      have HX := Lib.hid (show wr.ownsRow w.heap.size 64 6 (.slice oo L.length cc) L.length (L.flatMap Ep.cs) ∧ Below w.heap.size w wr by have h := hT.out; rwa [List.take_length] at h)
      have hjm : ¬ ((L.length : Int) < (L.length : Int)) := by omega
      clear hT
      go_wp2
      try simp only [Exit.jump]
      go_ret
      exact ⟨_, _, rfl, HX.out.1, HX.out.2⟩

end Go.Proofs.YtjfjliobencppaaGreatDoor.Cf

namespace Go.Proofs.YtjfjliobencppaaGreatDoor.Cf
open Go.RowKit

set_option maxRecDepth 100000 in
set_option maxHeartbeats 1500000 in
theorem clone_ls (name : ByteArray) (a b c d port : Nat) (o : Option Addr) (n cap : Nat) (xs : List Value) (hn : name.size ≤ 1000000000) (w : World) (hK : ∀ wz, Below w.heap.size w wz → Calls Tryz.prog 84 #[.slice o n cap, .func (.func 85) #[] #[]] wz fun e w' => ∃ oo cc, e = .returned (.slice oo n cc) ∧ w'.ownsRow wz.heap.size 62 4 (.slice oo n cc) n xs ∧ Below wz.heap.size wz w') : Calls Tryz.prog 40 #[.agg #[.string name, .int .u8 (a : Int), .int .u8 (b : Int), .int .u8 (c : Int), .int .u8 (d : Int), .int .u16 (port : Int), .slice o n cap]] w fun e w' => ∃ oo cc, e = .returned (.agg #[.string name, .int .u8 (a : Int), .int .u8 (b : Int), .int .u8 (c : Int), .int .u8 (d : Int), .int .u16 (port : Int), .slice oo n cc]) ∧ w'.ownsRow w.heap.size 62 4 (.slice oo n cc) n xs ∧ Below w.heap.size w w' := by
  have HBs := Lib.hid (show Below w.heap.size w ((w.alloc (.cells #[.string name, .int .u8 (a : Int), .int .u8 (b : Int), .int .u8 (c : Int), .int .u8 (d : Int), .int .u16 (port : Int), .slice o n cap] 52)).alloc (.cells #[.string ⟨#[]⟩, .int .u8 0, .int .u8 0, .int .u8 0, .int .u8 0, .int .u16 0, .slice none 0 0] 52)) from (alloc_below _ _).trans ((alloc_below _ _).mono (by simp)))
  have HXs := Lib.hid (show Bk ((w.alloc (.cells #[.string name, .int .u8 (a : Int), .int .u8 (b : Int), .int .u8 (c : Int), .int .u8 (d : Int), .int .u16 (port : Int), .slice o n cap] 52)).alloc (.cells #[.string ⟨#[]⟩, .int .u8 0, .int .u8 0, .int .u8 0, .int .u8 0, .int .u16 0, .slice none 0 0] 52)) w.heap.size #[.string name, .int .u8 (a : Int), .int .u8 (b : Int), .int .u8 (c : Int), .int .u8 (d : Int), .int .u16 (port : Int), .slice o n cap] 52 from ((alloc_below _ _).block _ (by simp)).trans (heap_alloc_new w _))
  have HYs := Lib.hid (alloc_at (w := (w.alloc (.cells #[.string name, .int .u8 (a : Int), .int .u8 (b : Int), .int .u8 (c : Int), .int .u8 (d : Int), .int .u16 (port : Int), .slice o n cap] 52))) (g := w.heap.size + 1) #[.string ⟨#[]⟩, .int .u8 0, .int .u8 0, .int .u8 0, .int .u8 0, .int .u16 0, .slice none 0 0] 52 (by simp))
  have K1 := Lib.hid (fun w => clone_any name w hn)
  have K2 := Lib.hid hK
  clear hn hK
  obtain ⟨W0, hW0⟩ : ∃ W0, W0 = ((w.alloc (.cells #[.string name, .int .u8 (a : Int), .int .u8 (b : Int), .int .u8 (c : Int), .int .u8 (d : Int), .int .u16 (port : Int), .slice o n cap] 52)).alloc (.cells #[.string ⟨#[]⟩, .int .u8 0, .int .u8 0, .int .u8 0, .int .u8 0, .int .u16 0, .slice none 0 0] 52)) := ⟨_, rfl⟩
  rw [← hW0] at HBs HXs HYs
  go_enter Tryz.func40, Tryz.ntmps40
  go_upto_region 1 with (fail)
  rw [← hW0]
  clear hW0
  have HB0 := Lib.hid (show Below w.heap.size w W0.drew from HBs.out.drew)
  have HX0 := Lib.hid (show Bk W0.drew w.heap.size #[.string name, .int .u8 (a : Int), .int .u8 (b : Int), .int .u8 (c : Int), .int .u8 (d : Int), .int .u16 (port : Int), .slice o n cap] 52 from HXs.out)
  have HY0 := Lib.hid (show Bk W0.drew (w.heap.size + 1) #[.string ⟨#[]⟩, .int .u8 0, .int .u8 0, .int .u8 0, .int .u8 0, .int .u16 0, .slice none 0 0] 52 from HYs.out)
  have mkS : Hid (∀ wz, Bk wz w.heap.size #[.string name, .int .u8 (a : Int), .int .u8 (b : Int), .int .u8 (c : Int), .int .u8 (d : Int), .int .u16 (port : Int), .slice o n cap] 52 → wz.cell? ⟨w.heap.size, 0, none⟩ = some (.string name) ∧ wz.cell? ⟨w.heap.size, 1, none⟩ = some (.int .u8 (a : Int)) ∧ wz.cell? ⟨w.heap.size, 2, none⟩ = some (.int .u8 (b : Int)) ∧ wz.cell? ⟨w.heap.size, 3, none⟩ = some (.int .u8 (c : Int)) ∧ wz.cell? ⟨w.heap.size, 4, none⟩ = some (.int .u8 (d : Int)) ∧ wz.cell? ⟨w.heap.size, 5, none⟩ = some (.int .u16 (port : Int)) ∧ wz.cell? ⟨w.heap.size, 6, none⟩ = some (.slice o n cap) ∧ Hid True) := Lib.hid (fun wz h => ⟨(cell_of_row _ _ 0 _ _ _ h).trans rfl, (cell_of_row _ _ 1 _ _ _ h).trans rfl, (cell_of_row _ _ 2 _ _ _ h).trans rfl, (cell_of_row _ _ 3 _ _ _ h).trans rfl, (cell_of_row _ _ 4 _ _ _ h).trans rfl, (cell_of_row _ _ 5 _ _ _ h).trans rfl, (cell_of_row _ _ 6 _ _ _ h).trans rfl, Lib.hid True.intro⟩)
  refine wp_region_held_drew (S := fun wz => wz.cell? ⟨w.heap.size, 0, none⟩ = some (.string name) ∧ wz.cell? ⟨w.heap.size, 1, none⟩ = some (.int .u8 (a : Int)) ∧ wz.cell? ⟨w.heap.size, 2, none⟩ = some (.int .u8 (b : Int)) ∧ wz.cell? ⟨w.heap.size, 3, none⟩ = some (.int .u8 (c : Int)) ∧ wz.cell? ⟨w.heap.size, 4, none⟩ = some (.int .u8 (d : Int)) ∧ wz.cell? ⟨w.heap.size, 5, none⟩ = some (.int .u16 (port : Int)) ∧ wz.cell? ⟨w.heap.size, 6, none⟩ = some (.slice o n cap) ∧ Hid True) (by kernel_rfl) (mkS.out _ HX0.out) (fun hHeld => ?_)
  generalize W0.drew = wc0 at *
  refine wpAnyH_take (i := 0) (oi := ⟨some 3, _, _, _, _, _⟩) (v := ?_) rfl (by kernel_rfl) (by kernel_rfl) (by kernel_rfl) (fun _ _ _ h => h) (Or.inl ⟨by rfl, by (intro w hSw; (try dsimp only at hSw); go_simp; try with_reducible rfl)⟩) hHeld ?_
  try simp only [Act.put, List.setIfInBounds_toArray, List.set_cons_zero, List.set_cons_succ]
  refine wpAnyH_take (i := 1) (oi := ⟨some 4, _, _, _, _, _⟩) (v := ?_) rfl (by kernel_rfl) (by kernel_rfl) (by kernel_rfl) (fun _ _ _ h => h) (Or.inl ⟨by rfl, by (intro w hSw; (try dsimp only at hSw); go_simp; try with_reducible rfl)⟩) hHeld ?_
  try simp only [Act.put, List.setIfInBounds_toArray, List.set_cons_zero, List.set_cons_succ]
  refine wpAnyH_take (i := 3) (oi := ⟨some 6, _, _, _, _, _⟩) (v := ?_) rfl (by kernel_rfl) (by kernel_rfl) (by kernel_rfl) (fun _ _ _ h => h) (Or.inl ⟨by rfl, by (intro w hSw; (try dsimp only at hSw); go_simp; try with_reducible rfl)⟩) hHeld ?_
  try simp only [Act.put, List.setIfInBounds_toArray, List.set_cons_zero, List.set_cons_succ]
  refine wpAnyH_take (i := 4) (oi := ⟨some 7, _, _, _, _, _⟩) (v := ?_) rfl (by kernel_rfl) (by kernel_rfl) (by kernel_rfl) (fun _ _ _ h => h) (Or.inl ⟨by rfl, by (intro w hSw; (try dsimp only at hSw); go_simp; try with_reducible rfl)⟩) hHeld ?_
  try simp only [Act.put, List.setIfInBounds_toArray, List.set_cons_zero, List.set_cons_succ]
  refine wpAnyH_take (i := 5) (oi := ⟨some 8, _, _, _, _, _⟩) (v := ?_) rfl (by kernel_rfl) (by kernel_rfl) (by kernel_rfl) (fun _ _ _ h => h) (Or.inl ⟨by rfl, by (intro w hSw; (try dsimp only at hSw); go_simp; try with_reducible rfl)⟩) hHeld ?_
  try simp only [Act.put, List.setIfInBounds_toArray, List.set_cons_zero, List.set_cons_succ]
  refine wpAnyH_take (i := 6) (oi := ⟨some 9, _, _, _, _, _⟩) (v := ?_) rfl (by kernel_rfl) (by kernel_rfl) (by kernel_rfl) (fun _ _ _ h => h) (Or.inl ⟨by rfl, by (intro w hSw; (try dsimp only at hSw); go_simp; try with_reducible rfl)⟩) hHeld ?_
  try simp only [Act.put, List.setIfInBounds_toArray, List.set_cons_zero, List.set_cons_succ]
  refine wpAnyH_ready (rs := [2]) (by kernel_rfl) (by simp) ?_
  refine AllReadyH.cons (o := ⟨some 5, _, _, _, _, _⟩) rfl (fun K hK => ?_) ?_
  · go_simp
    refine (K1.out _).mono ?_
    rintro ze wc1 ⟨rfl, hbn⟩
    try go_simp
    have HX1 := Lib.hid (Bk.later HX0.out hbn)
    have HY1 := Lib.hid (Bk.later HY0.out hbn)
    have HB1 := Lib.hid (HB0.out.trans (hbn.mono HB0.out.size))
    refine hK.out _ _ (mkS.out _ HX1.out) (fun hHeld2 => ?_)
    clear hK K hHeld
    have hHeld := hHeld2
    clear hHeld2
    clear hbn
    try simp only [Act.put, List.setIfInBounds_toArray, List.set_cons_zero, List.set_cons_succ]
    refine wpAnyH_ready (rs := [7]) (by kernel_rfl) (by simp) ?_
    refine AllReadyH.cons (o := ⟨some 10, _, _, _, _, _⟩) rfl (fun K hK => ?_) ?_
    · go_simp
      refine (K2.out _ HB1.out).mono ?_
      rintro ze wc2 ⟨oV, cV, rfl, hvn, hbn⟩
      try go_simp
      have HX2 := Lib.hid (Bk.later HX1.out hbn)
      have HY2 := Lib.hid (Bk.later HY1.out hbn)
      have HB2 := Lib.hid (HB1.out.trans (hbn.mono HB1.out.size))
      have HV2 := Lib.hid (own_mono (B' := w.heap.size) hvn HB1.out.size)
      clear hvn
      refine hK.out _ _ (mkS.out _ HX2.out) (fun hHeld2 => ?_)
      clear hK K hHeld
      have hHeld := hHeld2
      clear hHeld2
      clear hbn
      try simp only [Act.put, List.setIfInBounds_toArray, List.set_cons_zero, List.set_cons_succ]
      refine wpAnyH_take (i := 8) (oi := ⟨some 11, _, _, _, _, _⟩) (v := ?_) rfl (by kernel_rfl) (by kernel_rfl) (by kernel_rfl) (fun _ _ _ h => h) (Or.inl ⟨by rfl, by (intro w hSw; (try dsimp only at hSw); go_simp; try with_reducible rfl)⟩) hHeld ?_
      try simp only [Act.put, List.setIfInBounds_toArray, List.set_cons_zero, List.set_cons_succ]
      refine wpAnyH_ready (rs := [9]) (by kernel_rfl) (by simp) ?_
      refine AllReadyH.cons (o := ⟨none, _, _, _, _, _⟩) rfl (fun K hK => ?_) ?_
      · have y0 := (cell_of_row _ _ 0 _ _ _ HY2.out).trans rfl
        have z0 := frozen_of_row _ _ 0 _ _ HY2.out
        have y1 := (cell_of_row _ _ 1 _ _ _ HY2.out).trans rfl
        have z1 := frozen_of_row _ _ 1 _ _ HY2.out
        have y2 := (cell_of_row _ _ 2 _ _ _ HY2.out).trans rfl
        have z2 := frozen_of_row _ _ 2 _ _ HY2.out
        have y3 := (cell_of_row _ _ 3 _ _ _ HY2.out).trans rfl
        have z3 := frozen_of_row _ _ 3 _ _ HY2.out
        have y4 := (cell_of_row _ _ 4 _ _ _ HY2.out).trans rfl
        have z4 := frozen_of_row _ _ 4 _ _ HY2.out
        have y5 := (cell_of_row _ _ 5 _ _ _ HY2.out).trans rfl
        have z5 := frozen_of_row _ _ 5 _ _ HY2.out
        have y6 := (cell_of_row _ _ 6 _ _ _ HY2.out).trans rfl
        have z6 := frozen_of_row _ _ 6 _ _ HY2.out
        go_simp
        have hch : (((((((wc2.setCell ⟨w.heap.size + 1, 0, none⟩ (.string name)).setCell ⟨w.heap.size + 1, 1, none⟩ (.int .u8 (a : Int))).setCell ⟨w.heap.size + 1, 2, none⟩ (.int .u8 (b : Int))).setCell ⟨w.heap.size + 1, 3, none⟩ (.int .u8 (c : Int))).setCell ⟨w.heap.size + 1, 4, none⟩ (.int .u8 (d : Int))).setCell ⟨w.heap.size + 1, 5, none⟩ (.int .u16 (port : Int))).setCell ⟨w.heap.size + 1, 6, none⟩ (.slice oV n cV)) = sets wc2 (w.heap.size + 1) 0 [.string name, .int .u8 (a : Int), .int .u8 (b : Int), .int .u8 (c : Int), .int .u8 (d : Int), .int .u16 (port : Int), .slice oV n cV] := rfl
        have HY3 : Hid (Bk (sets wc2 (w.heap.size + 1) 0 [.string name, .int .u8 (a : Int), .int .u8 (b : Int), .int .u8 (c : Int), .int .u8 (d : Int), .int .u16 (port : Int), .slice oV n cV]) (w.heap.size + 1) #[.string name, .int .u8 (a : Int), .int .u8 (b : Int), .int .u8 (c : Int), .int .u8 (d : Int), .int .u16 (port : Int), .slice oV n cV] 52) := Lib.hid (sets_bk [.string name, .int .u8 (a : Int), .int .u8 (b : Int), .int .u8 (c : Int), .int .u8 (d : Int), .int .u16 (port : Int), .slice oV n cV] [.string ⟨#[]⟩, .int .u8 0, .int .u8 0, .int .u8 0, .int .u8 0, .int .u16 0, .slice none 0 0] [] rfl HY2.out)
        have HB3 := Lib.hid (sets_below [.string name, .int .u8 (a : Int), .int .u8 (b : Int), .int .u8 (c : Int), .int .u8 (d : Int), .int .u16 (port : Int), .slice oV n cV] 0 wc2 HB2.out (show w.heap.size ≤ w.heap.size + 1 by omega))
        have HX3 := Lib.hid (show Bk (sets wc2 (w.heap.size + 1) 0 [.string name, .int .u8 (a : Int), .int .u8 (b : Int), .int .u8 (c : Int), .int .u8 (d : Int), .int .u16 (port : Int), .slice oV n cV]) w.heap.size _ _ from (sets_other (w.heap.size + 1) w.heap.size (by omega) [.string name, .int .u8 (a : Int), .int .u8 (b : Int), .int .u8 (c : Int), .int .u8 (d : Int), .int .u16 (port : Int), .slice oV n cV] 0 wc2).trans HX2.out)
        have HV3 := Lib.hid (sets_own HV2.out HY2.out (by decide) [.string name, .int .u8 (a : Int), .int .u8 (b : Int), .int .u8 (c : Int), .int .u8 (d : Int), .int .u16 (port : Int), .slice oV n cV] 0)
        refine hK.out _ _ (mkS.out _ HX3.out) (fun hHeld2 => ?_)
        clear hK K hHeld
        have hHeld := hHeld2
        clear hHeld2
        clear y0 z0 y1 z1 y2 z2 y3 z3 y4 z4 y5 z5 y6 z6
        try simp only [Act.put, List.setIfInBounds_toArray, List.set_cons_zero, List.set_cons_succ]
        rw [hch]
        clear hch
        generalize sets wc2 (w.heap.size + 1) 0 [.string name, .int .u8 (a : Int), .int .u8 (b : Int), .int .u8 (c : Int), .int .u8 (d : Int), .int .u16 (port : Int), .slice oV n cV] = wc3 at *
        refine wpAnyH_done (by kernel_rfl) ?_ _
        simp only [Exit.then]
        apply_assumption
        have y0 := (cell_of_row _ _ 0 _ _ _ HY3.out).trans rfl
        have y1 := (cell_of_row _ _ 1 _ _ _ HY3.out).trans rfl
        have y2 := (cell_of_row _ _ 2 _ _ _ HY3.out).trans rfl
        have y3 := (cell_of_row _ _ 3 _ _ _ HY3.out).trans rfl
        have y4 := (cell_of_row _ _ 4 _ _ _ HY3.out).trans rfl
        have y5 := (cell_of_row _ _ 5 _ _ _ HY3.out).trans rfl
        have y6 := (cell_of_row _ _ 6 _ _ _ HY3.out).trans rfl
        try go_wp2
        refine bodyPost_ret (v := .agg #[.string name, .int .u8 (a : Int), .int .u8 (b : Int), .int .u8 (c : Int), .int .u8 (d : Int), .int .u16 (port : Int), .slice oV n cV]) (by simp [results, Tryz.results40, go_sem, *]) rfl ?_
        exact ⟨_, _, rfl, HV3.out, HB3.out⟩
      · exact AllReadyH.nil
    · exact AllReadyH.nil
  · exact AllReadyH.nil

end Go.Proofs.YtjfjliobencppaaGreatDoor.Cf

namespace Go.Proofs.YtjfjliobencppaaGreatDoor.Cf
open Go.RowKit

set_option maxRecDepth 100000 in
set_option maxHeartbeats 1500000 in
theorem clone_cl (name : ByteArray) (o : Option Addr) (n cap : Nat) (xs : List Value) (hn : name.size ≤ 1000000000) (w : World) (hK : ∀ wz, Below w.heap.size w wz → Calls Tryz.prog 86 #[.slice o n cap, .func (.func 87) #[] #[]] wz fun e w' => ∃ oo cc, e = .returned (.slice oo n cc) ∧ w'.ownsRow wz.heap.size 64 6 (.slice oo n cc) n xs ∧ Below wz.heap.size wz w') : Calls Tryz.prog 43 #[.agg #[.string name, .slice o n cap]] w fun e w' => ∃ oo cc, e = .returned (.agg #[.string name, .slice oo n cc]) ∧ w'.ownsRow w.heap.size 64 6 (.slice oo n cc) n xs ∧ Below w.heap.size w w' := by
  have HBs := Lib.hid (show Below w.heap.size w ((w.alloc (.cells #[.string name, .slice o n cap] 57)).alloc (.cells #[.string ⟨#[]⟩, .slice none 0 0] 57)) from (alloc_below _ _).trans ((alloc_below _ _).mono (by simp)))
  have HXs := Lib.hid (show Bk ((w.alloc (.cells #[.string name, .slice o n cap] 57)).alloc (.cells #[.string ⟨#[]⟩, .slice none 0 0] 57)) w.heap.size #[.string name, .slice o n cap] 57 from ((alloc_below _ _).block _ (by simp)).trans (heap_alloc_new w _))
  have HYs := Lib.hid (alloc_at (w := (w.alloc (.cells #[.string name, .slice o n cap] 57))) (g := w.heap.size + 1) #[.string ⟨#[]⟩, .slice none 0 0] 57 (by simp))
  have K1 := Lib.hid (fun w => clone_any name w hn)
  have K2 := Lib.hid hK
  clear hn hK
  obtain ⟨W0, hW0⟩ : ∃ W0, W0 = ((w.alloc (.cells #[.string name, .slice o n cap] 57)).alloc (.cells #[.string ⟨#[]⟩, .slice none 0 0] 57)) := ⟨_, rfl⟩
  rw [← hW0] at HBs HXs HYs
  go_enter Tryz.func43, Tryz.ntmps43
  go_upto_region 1 with (fail)
  rw [← hW0]
  clear hW0
  have HB0 := Lib.hid (show Below w.heap.size w W0.drew from HBs.out.drew)
  have HX0 := Lib.hid (show Bk W0.drew w.heap.size #[.string name, .slice o n cap] 57 from HXs.out)
  have HY0 := Lib.hid (show Bk W0.drew (w.heap.size + 1) #[.string ⟨#[]⟩, .slice none 0 0] 57 from HYs.out)
  have mkS : Hid (∀ wz, Bk wz w.heap.size #[.string name, .slice o n cap] 57 → wz.cell? ⟨w.heap.size, 0, none⟩ = some (.string name) ∧ wz.cell? ⟨w.heap.size, 1, none⟩ = some (.slice o n cap) ∧ Hid True) := Lib.hid (fun wz h => ⟨(cell_of_row _ _ 0 _ _ _ h).trans rfl, (cell_of_row _ _ 1 _ _ _ h).trans rfl, Lib.hid True.intro⟩)
  refine wp_region_held_drew (S := fun wz => wz.cell? ⟨w.heap.size, 0, none⟩ = some (.string name) ∧ wz.cell? ⟨w.heap.size, 1, none⟩ = some (.slice o n cap) ∧ Hid True) (by kernel_rfl) (mkS.out _ HX0.out) (fun hHeld => ?_)
  generalize W0.drew = wc0 at *
  refine wpAnyH_take (i := 0) (oi := ⟨some 3, _, _, _, _, _⟩) (v := ?_) rfl (by kernel_rfl) (by kernel_rfl) (by kernel_rfl) (fun _ _ _ h => h) (Or.inl ⟨by rfl, by (intro w hSw; (try dsimp only at hSw); go_simp; try with_reducible rfl)⟩) hHeld ?_
  try simp only [Act.put, List.setIfInBounds_toArray, List.set_cons_zero, List.set_cons_succ]
  refine wpAnyH_take (i := 1) (oi := ⟨some 4, _, _, _, _, _⟩) (v := ?_) rfl (by kernel_rfl) (by kernel_rfl) (by kernel_rfl) (fun _ _ _ h => h) (Or.inl ⟨by rfl, by (intro w hSw; (try dsimp only at hSw); go_simp; try with_reducible rfl)⟩) hHeld ?_
  try simp only [Act.put, List.setIfInBounds_toArray, List.set_cons_zero, List.set_cons_succ]
  refine wpAnyH_take (i := 3) (oi := ⟨some 6, _, _, _, _, _⟩) (v := ?_) rfl (by kernel_rfl) (by kernel_rfl) (by kernel_rfl) (fun _ _ _ h => h) (Or.inl ⟨by rfl, by (intro w hSw; (try dsimp only at hSw); go_simp; try with_reducible rfl)⟩) hHeld ?_
  try simp only [Act.put, List.setIfInBounds_toArray, List.set_cons_zero, List.set_cons_succ]
  refine wpAnyH_take (i := 4) (oi := ⟨some 7, _, _, _, _, _⟩) (v := ?_) rfl (by kernel_rfl) (by kernel_rfl) (by kernel_rfl) (fun _ _ _ h => h) (Or.inl ⟨by rfl, by (intro w hSw; (try dsimp only at hSw); go_simp; try with_reducible rfl)⟩) hHeld ?_
  try simp only [Act.put, List.setIfInBounds_toArray, List.set_cons_zero, List.set_cons_succ]
  refine wpAnyH_ready (rs := [2]) (by kernel_rfl) (by simp) ?_
  refine AllReadyH.cons (o := ⟨some 5, _, _, _, _, _⟩) rfl (fun K hK => ?_) ?_
  · go_simp
    refine (K1.out _).mono ?_
    rintro ze wc1 ⟨rfl, hbn⟩
    try go_simp
    have HX1 := Lib.hid (Bk.later HX0.out hbn)
    have HY1 := Lib.hid (Bk.later HY0.out hbn)
    have HB1 := Lib.hid (HB0.out.trans (hbn.mono HB0.out.size))
    refine hK.out _ _ (mkS.out _ HX1.out) (fun hHeld2 => ?_)
    clear hK K hHeld
    have hHeld := hHeld2
    clear hHeld2
    clear hbn
    try simp only [Act.put, List.setIfInBounds_toArray, List.set_cons_zero, List.set_cons_succ]
    refine wpAnyH_ready (rs := [5]) (by kernel_rfl) (by simp) ?_
    refine AllReadyH.cons (o := ⟨some 8, _, _, _, _, _⟩) rfl (fun K hK => ?_) ?_
    · go_simp
      refine (K2.out _ HB1.out).mono ?_
      rintro ze wc2 ⟨oV, cV, rfl, hvn, hbn⟩
      try go_simp
      have HX2 := Lib.hid (Bk.later HX1.out hbn)
      have HY2 := Lib.hid (Bk.later HY1.out hbn)
      have HB2 := Lib.hid (HB1.out.trans (hbn.mono HB1.out.size))
      have HV2 := Lib.hid (own_mono (B' := w.heap.size) hvn HB1.out.size)
      clear hvn
      refine hK.out _ _ (mkS.out _ HX2.out) (fun hHeld2 => ?_)
      clear hK K hHeld
      have hHeld := hHeld2
      clear hHeld2
      clear hbn
      try simp only [Act.put, List.setIfInBounds_toArray, List.set_cons_zero, List.set_cons_succ]
      refine wpAnyH_take (i := 6) (oi := ⟨some 9, _, _, _, _, _⟩) (v := ?_) rfl (by kernel_rfl) (by kernel_rfl) (by kernel_rfl) (fun _ _ _ h => h) (Or.inl ⟨by rfl, by (intro w hSw; (try dsimp only at hSw); go_simp; try with_reducible rfl)⟩) hHeld ?_
      try simp only [Act.put, List.setIfInBounds_toArray, List.set_cons_zero, List.set_cons_succ]
      refine wpAnyH_ready (rs := [7]) (by kernel_rfl) (by simp) ?_
      refine AllReadyH.cons (o := ⟨none, _, _, _, _, _⟩) rfl (fun K hK => ?_) ?_
      · have y0 := (cell_of_row _ _ 0 _ _ _ HY2.out).trans rfl
        have z0 := frozen_of_row _ _ 0 _ _ HY2.out
        have y1 := (cell_of_row _ _ 1 _ _ _ HY2.out).trans rfl
        have z1 := frozen_of_row _ _ 1 _ _ HY2.out
        go_simp
        have hch : ((wc2.setCell ⟨w.heap.size + 1, 0, none⟩ (.string name)).setCell ⟨w.heap.size + 1, 1, none⟩ (.slice oV n cV)) = sets wc2 (w.heap.size + 1) 0 [.string name, .slice oV n cV] := rfl
        have HY3 : Hid (Bk (sets wc2 (w.heap.size + 1) 0 [.string name, .slice oV n cV]) (w.heap.size + 1) #[.string name, .slice oV n cV] 57) := Lib.hid (sets_bk [.string name, .slice oV n cV] [.string ⟨#[]⟩, .slice none 0 0] [] rfl HY2.out)
        have HB3 := Lib.hid (sets_below [.string name, .slice oV n cV] 0 wc2 HB2.out (show w.heap.size ≤ w.heap.size + 1 by omega))
        have HX3 := Lib.hid (show Bk (sets wc2 (w.heap.size + 1) 0 [.string name, .slice oV n cV]) w.heap.size _ _ from (sets_other (w.heap.size + 1) w.heap.size (by omega) [.string name, .slice oV n cV] 0 wc2).trans HX2.out)
        have HV3 := Lib.hid (sets_own HV2.out HY2.out (by decide) [.string name, .slice oV n cV] 0)
        refine hK.out _ _ (mkS.out _ HX3.out) (fun hHeld2 => ?_)
        clear hK K hHeld
        have hHeld := hHeld2
        clear hHeld2
        clear y0 z0 y1 z1
        try simp only [Act.put, List.setIfInBounds_toArray, List.set_cons_zero, List.set_cons_succ]
        rw [hch]
        clear hch
        generalize sets wc2 (w.heap.size + 1) 0 [.string name, .slice oV n cV] = wc3 at *
        refine wpAnyH_done (by kernel_rfl) ?_ _
        simp only [Exit.then]
        apply_assumption
        have y0 := (cell_of_row _ _ 0 _ _ _ HY3.out).trans rfl
        have y1 := (cell_of_row _ _ 1 _ _ _ HY3.out).trans rfl
        try go_wp2
        refine bodyPost_ret (v := .agg #[.string name, .slice oV n cV]) (by simp [results, Tryz.results43, go_sem, *]) rfl ?_
        exact ⟨_, _, rfl, HV3.out, HB3.out⟩
      · exact AllReadyH.nil
    · exact AllReadyH.nil
  · exact AllReadyH.nil

end Go.Proofs.YtjfjliobencppaaGreatDoor.Cf

namespace Go.Proofs.YtjfjliobencppaaGreatDoor.Cf
open Go.RowKit

set_option maxRecDepth 100000 in
set_option maxHeartbeats 1500000 in
theorem cl_lis (L : List Ls) (o : Option Addr) (cap b off : Nat) (hlen : L.length ≤ 1000000) (w : World) (ho : 0 < L.length → o = some ⟨b, off, none⟩ ∧ b < w.heap.size)
    (hE : ∀ i (h : i < L.length), ∃ u : Value, w.cell? ⟨b, off + i * 7, none⟩ = some (.string L[i].name) ∧ w.cell? ⟨b, off + i * 7 + 1, none⟩ = some (.int .u8 (L[i].p.a : Int)) ∧ w.cell? ⟨b, off + i * 7 + 2, none⟩ = some (.int .u8 (L[i].p.b : Int)) ∧ w.cell? ⟨b, off + i * 7 + 3, none⟩ = some (.int .u8 (L[i].p.c : Int)) ∧ w.cell? ⟨b, off + i * 7 + 4, none⟩ = some (.int .u8 (L[i].p.d : Int)) ∧ w.cell? ⟨b, off + i * 7 + 5, none⟩ = some (.int .u16 (L[i].p.port : Int)) ∧ w.cell? ⟨b, off + i * 7 + 6, none⟩ = some (u) ∧ ∀ wz, Below w.heap.size w wz → Calls Tryz.prog 40 #[.agg #[.string L[i].name, .int .u8 (L[i].p.a : Int), .int .u8 (L[i].p.b : Int), .int .u8 (L[i].p.c : Int), .int .u8 (L[i].p.d : Int), .int .u16 (L[i].p.port : Int), u]] wz fun e w' => ∃ o c, e = .returned (.agg #[.string L[i].name, .int .u8 (L[i].p.a : Int), .int .u8 (L[i].p.b : Int), .int .u8 (L[i].p.c : Int), .int .u8 (L[i].p.d : Int), .int .u16 (L[i].p.port : Int), .slice o L[i].r.length c]) ∧ w'.ownsRow wz.heap.size 62 4 (.slice o L[i].r.length c) L[i].r.length (L[i].r.flatMap Rt.cs) ∧ Below wz.heap.size wz w') :
    Calls Tryz.prog 44 #[.slice o L.length cap, (.func (.func 40) #[] #[])] w fun e w' => ∃ oo cc, e = .returned (.slice oo L.length cc) ∧ LcR w' w.heap.size (.slice oo L.length cc) L ∧ Below w.heap.size w w' := by
  have HO := Lib.hid ho
  have HE := Lib.hid hE
  clear ho hE
  go_enter Tryz.func44, Tryz.ntmps44
  go_wp2
  refine wp_scope_again 0 (fun a' w' => ∃ (j : Nat) (oo : Option Addr) (cc : Nat) (u2 u3 u4 u6 u7 u8 u9 u10 u11 u12 u13 u14 u15 u16 u17 u18 u19 u20 u21 : Value), j ≤ L.length ∧ a' = { tmps := #[.slice o L.length cap, (.func (.func 40) #[] #[]), u2, u3, u4, .slice oo j cc, u6, u7, u8, u9, u10, u11, u12, u13, u14, u15, u16, u17, u18, u19, u20, u21], defers := [] } ∧ Hid (LcR w' w.heap.size (.slice oo j cc) (L.take j) ∧ Below w.heap.size w w')) (fun a' _ => L.length - slen (a'.tmps.getD 5 undef)) rfl ?_ ?_
  · intro K Qe hK
    go_wp2
    first | exact hK _ _ ⟨0, none, 0, _, _, _, _, _, _, _, _, _, _, _, _, _, _, _, _, _, _, _, Nat.zero_le _, rfl, Lib.hid ⟨(by rw [List.take_zero]; exact LcR.nil _ _), Below.refl _ _⟩⟩ | exact ⟨0, none, 0, _, _, _, _, _, _, _, _, _, _, _, _, _, _, _, _, _, _, _, Nat.zero_le _, rfl, Lib.hid ⟨(by rw [List.take_zero]; exact LcR.nil _ _), Below.refl _ _⟩⟩
  · rintro a' wr ⟨j, oo, cc, u2, u3, u4, u6, u7, u8, u9, u10, u11, u12, u13, u14, u15, u16, u17, u18, u19, u20, u21, hj, rfl, hT⟩
    by_cases hjl : j < L.length
    · have hjm : (j : Int) < (L.length : Int) := by omega
      obtain ⟨ho', hb'⟩ := HO.out (by omega)
      subst ho'
      obtain ⟨u, e0, e1, e2, e3, e4, e5, e6, hK⟩ := HE.out j hjl
      have f0 := (hT.out.2.cell (p := ⟨b, off + j * 7, none⟩) hb').trans e0
      have f1 := (hT.out.2.cell (p := ⟨b, off + j * 7 + 1, none⟩) hb').trans e1
      have f2 := (hT.out.2.cell (p := ⟨b, off + j * 7 + 2, none⟩) hb').trans e2
      have f3 := (hT.out.2.cell (p := ⟨b, off + j * 7 + 3, none⟩) hb').trans e3
      have f4 := (hT.out.2.cell (p := ⟨b, off + j * 7 + 4, none⟩) hb').trans e4
      have f5 := (hT.out.2.cell (p := ⟨b, off + j * 7 + 5, none⟩) hb').trans e5
      have f6 := (hT.out.2.cell (p := ⟨b, off + j * 7 + 6, none⟩) hb').trans e6
      have K1 := Lib.hid (hK wr hT.out.2)
      have HTK : Hid (L.take j ++ [L[j]] = L.take (j + 1)) := Lib.hid (by rw [List.take_append_getElem])
      have HNJ : Hid (j ≤ 1000000) := Lib.hid (by omega)
      clear e0 e1 e2 e3 e4 e5 e6 hK
      generalize L[j] = x at *
      have HJL := Lib.hid hjl
      go_wp2_with fail
      refine (K1.out).mono ?_
      rintro r w5 ⟨o2, c2, rfl, hv5, hb5⟩
      obtain ⟨⟨PL, hPL, hrow, hin⟩, hB⟩ := hT.out
      have HPL := Lib.hid hPL
      have HIN := Lib.hid hin
      have HAB := Lib.hid (alloc_below w5 (.cells #[.string x.name, .int .u8 (x.p.a : Int), .int .u8 (x.p.b : Int), .int .u8 (x.p.c : Int), .int .u8 (x.p.d : Int), .int .u16 (x.p.port : Int), .slice o2 x.r.length c2] 52))
      have HRW := Lib.hid (own_later (own_later hrow hb5) HAB.out)
      have HN5 := Lib.hid (alloc_at (w := w5) (g := w5.heap.size) #[.string x.name, .int .u8 (x.p.a : Int), .int .u8 (x.p.b : Int), .int .u8 (x.p.c : Int), .int .u8 (x.p.d : Int), .int .u16 (x.p.port : Int), .slice o2 x.r.length c2] 52 rfl)
      have HVB := Lib.hid (own_mono (B' := w.heap.size) (own_later hv5 HAB.out) hB.size)
      have HI5 := Lib.hid (fun p hp => own_later (own_later (HIN.out p hp) hb5) HAB.out)
      have HB5 := Lib.hid ((hB.trans (hb5.mono hB.size)).trans (HAB.out.mono (Nat.le_trans hB.size hb5.size)))
      have HLN : Hid (PL.length = j) := Lib.hid (by have h := congrArg List.length hPL; rw [List.length_map, List.length_take] at h; omega)
      have HONE := Lib.hid (show ∀ u ∈ ([.string x.name, .int .u8 (x.p.a : Int), .int .u8 (x.p.b : Int), .int .u8 (x.p.c : Int), .int .u8 (x.p.d : Int), .int .u16 (x.p.port : Int), .slice o2 x.r.length c2] : List Value), u.oneCell' = true by intro u hu; simp only [List.mem_cons, List.not_mem_nil, or_false] at hu; rcases hu with rfl | rfl | rfl | rfl | rfl | rfl | rfl <;> rfl)
      have HRW2 : Hid ((w5.alloc (.cells #[.string x.name, .int .u8 (x.p.a : Int), .int .u8 (x.p.b : Int), .int .u8 (x.p.c : Int), .int .u8 (x.p.d : Int), .int .u16 (x.p.port : Int), .slice o2 x.r.length c2] 52)).ownsRow w.heap.size 52 7 (.slice oo j cc) j (PL.flatMap llcs)) := Lib.hid (by have h := HRW.out; rwa [HLN.out] at h)
      have HGE := Lib.hid HB5.out.size
      clear hPL hrow hin hB hv5 hb5
      go_wp2_with (first
        | (at_builtin; go_must (refine wpList_append_one (w5.alloc (.cells #[.string x.name, .int .u8 (x.p.a : Int), .int .u8 (x.p.b : Int), .int .u8 (x.p.c : Int), .int .u8 (x.p.d : Int), .int .u16 (x.p.port : Int), .slice o2 x.r.length c2] 52)) rfl (.tmp 11) (.tmp 19) (e := 52) (k := 7) Tryz.underlying23 (by kernel_rfl) (by decide) rfl (w.heap.size) (.slice oo j cc) j (PL.flatMap llcs) [.string x.name, .int .u8 (x.p.a : Int), .int .u8 (x.p.b : Int), .int .u8 (x.p.c : Int), .int .u8 (x.p.d : Int), .int .u16 (x.p.port : Int), .slice o2 x.r.length c2] w5.heap.size rfl HRW2.out rfl HN5.out rfl HONE.out HGE.out HNJ.out ?_); intro v6 w6 hv6 hg6 hb6 hn6; obtain ⟨o6, c6, hf6⟩ := own_form hv6; subst hf6; have HV6 := Lib.hid hv6; have HI6 := Lib.hid (fun p hp => own_grown (HI5.out p hp) HRW2.out hg6 (by decide)); have HX6 := Lib.hid (own_grown HVB.out HRW2.out hg6 (by decide)); have HB6 := Lib.hid (HB5.out.trans hb6); clear hv6 hg6 hb6 hn6))
      go_step3
      refine ⟨rfl, ⟨j + 1, o6, c6, _, _, _, _, _, _, _, _, _, _, _, _, _, _, _, _, _, _, _, HJL.out, rfl, Lib.hid ⟨?_, HB6.out⟩⟩, ?_⟩
      · rw [← HTK.out, ← HPL.out]
        refine ⟨PL ++ [(x, .slice o2 x.r.length c2)], by simp, ?_, fun p hp => ?_⟩
        · rw [List.length_append, HLN.out, List.flatMap_append]
          exact HV6.out
        · rcases List.mem_append.1 hp with hp | hp
          · exact HI6.out p hp
          · obtain rfl := List.mem_singleton.1 hp
            exact HX6.out
      · have HJM := HJL.out
        simp [slen]
        omega
    · obtain rfl : j = L.length := by omega
      have HX := Lib.hid (show LcR wr w.heap.size (.slice oo L.length cc) L ∧ Below w.heap.size w wr by have h := hT.out; rwa [List.take_length] at h)
      have hjm : ¬ ((L.length : Int) < (L.length : Int)) := by omega
      clear hT
      go_wp2
      try simp only [Exit.jump]
      go_ret
      exact ⟨_, _, rfl, HX.out.1, HX.out.2⟩

set_option maxRecDepth 100000 in
set_option maxHeartbeats 1500000 in
theorem cl_clu (L : List Cl) (o : Option Addr) (cap b off : Nat) (hlen : L.length ≤ 1000000) (w : World) (ho : 0 < L.length → o = some ⟨b, off, none⟩ ∧ b < w.heap.size)
    (hE : ∀ i (h : i < L.length), ∃ u : Value, w.cell? ⟨b, off + i * 2, none⟩ = some (.string L[i].name) ∧ w.cell? ⟨b, off + i * 2 + 1, none⟩ = some (u) ∧ ∀ wz, Below w.heap.size w wz → Calls Tryz.prog 43 #[.agg #[.string L[i].name, u]] wz fun e w' => ∃ o c, e = .returned (.agg #[.string L[i].name, .slice o L[i].e.length c]) ∧ w'.ownsRow wz.heap.size 64 6 (.slice o L[i].e.length c) L[i].e.length (L[i].e.flatMap Ep.cs) ∧ Below wz.heap.size wz w') :
    Calls Tryz.prog 45 #[.slice o L.length cap, (.func (.func 43) #[] #[])] w fun e w' => ∃ oo cc, e = .returned (.slice oo L.length cc) ∧ KcR w' w.heap.size (.slice oo L.length cc) L ∧ Below w.heap.size w w' := by
  have HO := Lib.hid ho
  have HE := Lib.hid hE
  clear ho hE
  go_enter Tryz.func45, Tryz.ntmps45
  go_wp2
  refine wp_scope_again 0 (fun a' w' => ∃ (j : Nat) (oo : Option Addr) (cc : Nat) (u2 u3 u4 u6 u7 u8 u9 u10 u11 u12 u13 u14 u15 u16 u17 u18 u19 u20 u21 : Value), j ≤ L.length ∧ a' = { tmps := #[.slice o L.length cap, (.func (.func 43) #[] #[]), u2, u3, u4, .slice oo j cc, u6, u7, u8, u9, u10, u11, u12, u13, u14, u15, u16, u17, u18, u19, u20, u21], defers := [] } ∧ Hid (KcR w' w.heap.size (.slice oo j cc) (L.take j) ∧ Below w.heap.size w w')) (fun a' _ => L.length - slen (a'.tmps.getD 5 undef)) rfl ?_ ?_
  · intro K Qe hK
    go_wp2
    first | exact hK _ _ ⟨0, none, 0, _, _, _, _, _, _, _, _, _, _, _, _, _, _, _, _, _, _, _, Nat.zero_le _, rfl, Lib.hid ⟨(by rw [List.take_zero]; exact KcR.nil _ _), Below.refl _ _⟩⟩ | exact ⟨0, none, 0, _, _, _, _, _, _, _, _, _, _, _, _, _, _, _, _, _, _, _, Nat.zero_le _, rfl, Lib.hid ⟨(by rw [List.take_zero]; exact KcR.nil _ _), Below.refl _ _⟩⟩
  · rintro a' wr ⟨j, oo, cc, u2, u3, u4, u6, u7, u8, u9, u10, u11, u12, u13, u14, u15, u16, u17, u18, u19, u20, u21, hj, rfl, hT⟩
    by_cases hjl : j < L.length
    · have hjm : (j : Int) < (L.length : Int) := by omega
      obtain ⟨ho', hb'⟩ := HO.out (by omega)
      subst ho'
      obtain ⟨u, e0, e1, hK⟩ := HE.out j hjl
      have f0 := (hT.out.2.cell (p := ⟨b, off + j * 2, none⟩) hb').trans e0
      have f1 := (hT.out.2.cell (p := ⟨b, off + j * 2 + 1, none⟩) hb').trans e1
      have K1 := Lib.hid (hK wr hT.out.2)
      have HTK : Hid (L.take j ++ [L[j]] = L.take (j + 1)) := Lib.hid (by rw [List.take_append_getElem])
      have HNJ : Hid (j ≤ 1000000) := Lib.hid (by omega)
      clear e0 e1 hK
      generalize L[j] = x at *
      have HJL := Lib.hid hjl
      go_wp2_with fail
      refine (K1.out).mono ?_
      rintro r w5 ⟨o2, c2, rfl, hv5, hb5⟩
      obtain ⟨⟨PL, hPL, hrow, hin⟩, hB⟩ := hT.out
      have HPL := Lib.hid hPL
      have HIN := Lib.hid hin
      have HAB := Lib.hid (alloc_below w5 (.cells #[.string x.name, .slice o2 x.e.length c2] 57))
      have HRW := Lib.hid (own_later (own_later hrow hb5) HAB.out)
      have HN5 := Lib.hid (alloc_at (w := w5) (g := w5.heap.size) #[.string x.name, .slice o2 x.e.length c2] 57 rfl)
      have HVB := Lib.hid (own_mono (B' := w.heap.size) (own_later hv5 HAB.out) hB.size)
      have HI5 := Lib.hid (fun p hp => own_later (own_later (HIN.out p hp) hb5) HAB.out)
      have HB5 := Lib.hid ((hB.trans (hb5.mono hB.size)).trans (HAB.out.mono (Nat.le_trans hB.size hb5.size)))
      have HLN : Hid (PL.length = j) := Lib.hid (by have h := congrArg List.length hPL; rw [List.length_map, List.length_take] at h; omega)
      have HONE := Lib.hid (show ∀ u ∈ ([.string x.name, .slice o2 x.e.length c2] : List Value), u.oneCell' = true by intro u hu; simp only [List.mem_cons, List.not_mem_nil, or_false] at hu; rcases hu with rfl | rfl <;> rfl)
      have HRW2 : Hid ((w5.alloc (.cells #[.string x.name, .slice o2 x.e.length c2] 57)).ownsRow w.heap.size 57 2 (.slice oo j cc) j (PL.flatMap cccs)) := Lib.hid (by have h := HRW.out; rwa [HLN.out] at h)
      have HGE := Lib.hid HB5.out.size
      clear hPL hrow hin hB hv5 hb5
      go_wp2_with (first
        | (at_builtin; go_must (refine wpList_append_one (w5.alloc (.cells #[.string x.name, .slice o2 x.e.length c2] 57)) rfl (.tmp 11) (.tmp 19) (e := 57) (k := 2) Tryz.underlying24 (by kernel_rfl) (by decide) rfl (w.heap.size) (.slice oo j cc) j (PL.flatMap cccs) [.string x.name, .slice o2 x.e.length c2] w5.heap.size rfl HRW2.out rfl HN5.out rfl HONE.out HGE.out HNJ.out ?_); intro v6 w6 hv6 hg6 hb6 hn6; obtain ⟨o6, c6, hf6⟩ := own_form hv6; subst hf6; have HV6 := Lib.hid hv6; have HI6 := Lib.hid (fun p hp => own_grown (HI5.out p hp) HRW2.out hg6 (by decide)); have HX6 := Lib.hid (own_grown HVB.out HRW2.out hg6 (by decide)); have HB6 := Lib.hid (HB5.out.trans hb6); clear hv6 hg6 hb6 hn6))
      go_step3
      refine ⟨rfl, ⟨j + 1, o6, c6, _, _, _, _, _, _, _, _, _, _, _, _, _, _, _, _, _, _, _, HJL.out, rfl, Lib.hid ⟨?_, HB6.out⟩⟩, ?_⟩
      · rw [← HTK.out, ← HPL.out]
        refine ⟨PL ++ [(x, .slice o2 x.e.length c2)], by simp, ?_, fun p hp => ?_⟩
        · rw [List.length_append, HLN.out, List.flatMap_append]
          exact HV6.out
        · rcases List.mem_append.1 hp with hp | hp
          · exact HI6.out p hp
          · obtain rfl := List.mem_singleton.1 hp
            exact HX6.out
      · have HJM := HJL.out
        simp [slen]
        omega
    · obtain rfl : j = L.length := by omega
      have HX := Lib.hid (show KcR wr w.heap.size (.slice oo L.length cc) L ∧ Below w.heap.size w wr by have h := hT.out; rwa [List.take_length] at h)
      have hjm : ¬ ((L.length : Int) < (L.length : Int)) := by omega
      clear hT
      go_wp2
      try simp only [Exit.jump]
      go_ret
      exact ⟨_, _, rfl, HX.out.1, HX.out.2⟩

end Go.Proofs.YtjfjliobencppaaGreatDoor.Cf

namespace Go.Proofs.YtjfjliobencppaaGreatDoor.Cf
open Go.RowKit

set_option maxRecDepth 100000 in
set_option maxHeartbeats 1500000 in
theorem clone_walk (v : Nat) (o1 o2 : Option Addr) (n1 n2 C1 C2 : Nat) (L1 : List Ls) (L2 : List Cl) (w : World) (h1 : ∀ wz, Below w.heap.size w wz → Calls Tryz.prog 44 #[.slice o1 n1 C1, .func (.func 40) #[] #[]] wz fun e w' => ∃ oo cc, e = .returned (.slice oo n1 cc) ∧ LcR w' wz.heap.size (.slice oo n1 cc) L1 ∧ Below wz.heap.size wz w') (h2 : ∀ wz, Below w.heap.size w wz → Calls Tryz.prog 45 #[.slice o2 n2 C2, .func (.func 43) #[] #[]] wz fun e w' => ∃ oo cc, e = .returned (.slice oo n2 cc) ∧ KcR w' wz.heap.size (.slice oo n2 cc) L2 ∧ Below wz.heap.size wz w') : Calls Tryz.prog 19 #[.agg #[.int .u64 (v : Int), .slice o1 n1 C1, .slice o2 n2 C2]] w fun e w' => ∃ oV cV oK cK, e = .returned (.agg #[.int .u64 (v : Int), .slice oV n1 cV, .slice oK n2 cK]) ∧ LcR w' w.heap.size (.slice oV n1 cV) L1 ∧ KcR w' w.heap.size (.slice oK n2 cK) L2 ∧ Below w.heap.size w w' := by
  have HBs := Lib.hid (show Below w.heap.size w ((w.alloc (.cells #[.int .u64 (v : Int), .slice o1 n1 C1, .slice o2 n2 C2] 26)).alloc (.cells #[.int .u64 0, .slice none 0 0, .slice none 0 0] 26)) from (alloc_below _ _).trans ((alloc_below _ _).mono (by simp)))
  have HXs := Lib.hid (show Bk ((w.alloc (.cells #[.int .u64 (v : Int), .slice o1 n1 C1, .slice o2 n2 C2] 26)).alloc (.cells #[.int .u64 0, .slice none 0 0, .slice none 0 0] 26)) w.heap.size #[.int .u64 (v : Int), .slice o1 n1 C1, .slice o2 n2 C2] 26 from ((alloc_below _ _).block _ (by simp)).trans (heap_alloc_new w _))
  have HYs := Lib.hid (alloc_at (w := (w.alloc (.cells #[.int .u64 (v : Int), .slice o1 n1 C1, .slice o2 n2 C2] 26))) (g := w.heap.size + 1) #[.int .u64 0, .slice none 0 0, .slice none 0 0] 26 (by simp))
  have K1 := Lib.hid h1
  have K2 := Lib.hid h2
  clear h1 h2
  obtain ⟨W0, hW0⟩ : ∃ W0, W0 = ((w.alloc (.cells #[.int .u64 (v : Int), .slice o1 n1 C1, .slice o2 n2 C2] 26)).alloc (.cells #[.int .u64 0, .slice none 0 0, .slice none 0 0] 26)) := ⟨_, rfl⟩
  rw [← hW0] at HBs HXs HYs
  go_enter Tryz.func19, Tryz.ntmps19
  go_upto_region 1 with (fail)
  rw [← hW0]
  clear hW0
  have HB0 := Lib.hid (show Below w.heap.size w W0.drew from HBs.out.drew)
  have HX0 := Lib.hid (show Bk W0.drew w.heap.size #[.int .u64 (v : Int), .slice o1 n1 C1, .slice o2 n2 C2] 26 from HXs.out)
  have HY0 := Lib.hid (show Bk W0.drew (w.heap.size + 1) #[.int .u64 0, .slice none 0 0, .slice none 0 0] 26 from HYs.out)
  have mkS : Hid (∀ wz, Bk wz w.heap.size #[.int .u64 (v : Int), .slice o1 n1 C1, .slice o2 n2 C2] 26 → wz.cell? ⟨w.heap.size, 0, none⟩ = some (.int .u64 (v : Int)) ∧ wz.cell? ⟨w.heap.size, 1, none⟩ = some (.slice o1 n1 C1) ∧ wz.cell? ⟨w.heap.size, 2, none⟩ = some (.slice o2 n2 C2) ∧ Hid True) := Lib.hid (fun wz h => ⟨(cell_of_row _ _ 0 _ _ _ h).trans rfl, (cell_of_row _ _ 1 _ _ _ h).trans rfl, (cell_of_row _ _ 2 _ _ _ h).trans rfl, Lib.hid True.intro⟩)
  refine wp_region_held_drew (S := fun wz => wz.cell? ⟨w.heap.size, 0, none⟩ = some (.int .u64 (v : Int)) ∧ wz.cell? ⟨w.heap.size, 1, none⟩ = some (.slice o1 n1 C1) ∧ wz.cell? ⟨w.heap.size, 2, none⟩ = some (.slice o2 n2 C2) ∧ Hid True) (by kernel_rfl) (mkS.out _ HX0.out) (fun hHeld => ?_)
  generalize W0.drew = wc0 at *
  refine wpAnyH_take (i := 0) (oi := ⟨some 3, _, _, _, _, _⟩) (v := ?_) rfl (by kernel_rfl) (by kernel_rfl) (by kernel_rfl) (fun _ _ _ h => h) (Or.inl ⟨by rfl, by (intro w hSw; (try dsimp only at hSw); go_simp; try with_reducible rfl)⟩) hHeld ?_
  try simp only [Act.put, List.setIfInBounds_toArray, List.set_cons_zero, List.set_cons_succ]
  refine wpAnyH_take (i := 1) (oi := ⟨some 4, _, _, _, _, _⟩) (v := ?_) rfl (by kernel_rfl) (by kernel_rfl) (by kernel_rfl) (fun _ _ _ h => h) (Or.inl ⟨by rfl, by (intro w hSw; (try dsimp only at hSw); go_simp; try with_reducible rfl)⟩) hHeld ?_
  try simp only [Act.put, List.setIfInBounds_toArray, List.set_cons_zero, List.set_cons_succ]
  refine wpAnyH_take (i := 2) (oi := ⟨some 5, _, _, _, _, _⟩) (v := ?_) rfl (by kernel_rfl) (by kernel_rfl) (by kernel_rfl) (fun _ _ _ h => h) (Or.inl ⟨by rfl, by (intro w hSw; (try dsimp only at hSw); go_simp; try with_reducible rfl)⟩) hHeld ?_
  try simp only [Act.put, List.setIfInBounds_toArray, List.set_cons_zero, List.set_cons_succ]
  refine wpAnyH_take (i := 3) (oi := ⟨some 6, _, _, _, _, _⟩) (v := ?_) rfl (by kernel_rfl) (by kernel_rfl) (by kernel_rfl) (fun _ _ _ h => h) (Or.inl ⟨by rfl, by (intro w hSw; (try dsimp only at hSw); go_simp; try with_reducible rfl)⟩) hHeld ?_
  try simp only [Act.put, List.setIfInBounds_toArray, List.set_cons_zero, List.set_cons_succ]
  refine wpAnyH_take (i := 5) (oi := ⟨some 8, _, _, _, _, _⟩) (v := ?_) rfl (by kernel_rfl) (by kernel_rfl) (by kernel_rfl) (fun _ _ _ h => h) (Or.inl ⟨by rfl, by (intro w hSw; (try dsimp only at hSw); go_simp; try with_reducible rfl)⟩) hHeld ?_
  try simp only [Act.put, List.setIfInBounds_toArray, List.set_cons_zero, List.set_cons_succ]
  refine wpAnyH_take (i := 6) (oi := ⟨some 9, _, _, _, _, _⟩) (v := ?_) rfl (by kernel_rfl) (by kernel_rfl) (by kernel_rfl) (fun _ _ _ h => h) (Or.inl ⟨by rfl, by (intro w hSw; (try dsimp only at hSw); go_simp; try with_reducible rfl)⟩) hHeld ?_
  try simp only [Act.put, List.setIfInBounds_toArray, List.set_cons_zero, List.set_cons_succ]
  refine wpAnyH_ready (rs := [4]) (by kernel_rfl) (by simp) ?_
  refine AllReadyH.cons (o := ⟨some 7, _, _, _, _, _⟩) rfl (fun K hK => ?_) ?_
  · go_simp
    refine (K1.out _ HB0.out).mono ?_
    rintro ze wc1 ⟨oV, cV, rfl, hvn, hbn⟩
    try go_simp
    have HX1 := Lib.hid (Bk.later HX0.out hbn)
    have HY1 := Lib.hid (Bk.later HY0.out hbn)
    have HB1 := Lib.hid (HB0.out.trans (hbn.mono HB0.out.size))
    have HV1 := Lib.hid (hvn.mono (B' := w.heap.size) HB0.out.size)
    clear hvn
    refine hK.out _ _ (mkS.out _ HX1.out) (fun hHeld2 => ?_)
    clear hK K hHeld
    have hHeld := hHeld2
    clear hHeld2
    clear hbn
    try simp only [Act.put, List.setIfInBounds_toArray, List.set_cons_zero, List.set_cons_succ]
    refine wpAnyH_ready (rs := [7]) (by kernel_rfl) (by simp) ?_
    refine AllReadyH.cons (o := ⟨some 10, _, _, _, _, _⟩) rfl (fun K hK => ?_) ?_
    · go_simp
      refine (K2.out _ HB1.out).mono ?_
      rintro ze wc2 ⟨oK, cK, rfl, hkn, hbn⟩
      try go_simp
      have HX2 := Lib.hid (Bk.later HX1.out hbn)
      have HY2 := Lib.hid (Bk.later HY1.out hbn)
      have HB2 := Lib.hid (HB1.out.trans (hbn.mono HB1.out.size))
      have HV2 := Lib.hid (HV1.out.later hbn)
      have HK2 := Lib.hid (hkn.mono (B' := w.heap.size) HB1.out.size)
      clear hkn
      refine hK.out _ _ (mkS.out _ HX2.out) (fun hHeld2 => ?_)
      clear hK K hHeld
      have hHeld := hHeld2
      clear hHeld2
      clear hbn
      try simp only [Act.put, List.setIfInBounds_toArray, List.set_cons_zero, List.set_cons_succ]
      refine wpAnyH_take (i := 8) (oi := ⟨some 11, _, _, _, _, _⟩) (v := ?_) rfl (by kernel_rfl) (by kernel_rfl) (by kernel_rfl) (fun _ _ _ h => h) (Or.inl ⟨by rfl, by (intro w hSw; (try dsimp only at hSw); go_simp; try with_reducible rfl)⟩) hHeld ?_
      try simp only [Act.put, List.setIfInBounds_toArray, List.set_cons_zero, List.set_cons_succ]
      refine wpAnyH_ready (rs := [9]) (by kernel_rfl) (by simp) ?_
      refine AllReadyH.cons (o := ⟨none, _, _, _, _, _⟩) rfl (fun K hK => ?_) ?_
      · have y0 := (cell_of_row _ _ 0 _ _ _ HY2.out).trans rfl
        have z0 := frozen_of_row _ _ 0 _ _ HY2.out
        have y1 := (cell_of_row _ _ 1 _ _ _ HY2.out).trans rfl
        have z1 := frozen_of_row _ _ 1 _ _ HY2.out
        have y2 := (cell_of_row _ _ 2 _ _ _ HY2.out).trans rfl
        have z2 := frozen_of_row _ _ 2 _ _ HY2.out
        go_simp
        have hch : (((wc2.setCell ⟨w.heap.size + 1, 0, none⟩ (.int .u64 (v : Int))).setCell ⟨w.heap.size + 1, 1, none⟩ (.slice oV n1 cV)).setCell ⟨w.heap.size + 1, 2, none⟩ (.slice oK n2 cK)) = sets wc2 (w.heap.size + 1) 0 [.int .u64 (v : Int), .slice oV n1 cV, .slice oK n2 cK] := rfl
        have HY3 : Hid (Bk (sets wc2 (w.heap.size + 1) 0 [.int .u64 (v : Int), .slice oV n1 cV, .slice oK n2 cK]) (w.heap.size + 1) #[.int .u64 (v : Int), .slice oV n1 cV, .slice oK n2 cK] 26) := Lib.hid (sets_bk [.int .u64 (v : Int), .slice oV n1 cV, .slice oK n2 cK] [.int .u64 0, .slice none 0 0, .slice none 0 0] [] rfl HY2.out)
        have HB3 := Lib.hid (sets_below [.int .u64 (v : Int), .slice oV n1 cV, .slice oK n2 cK] 0 wc2 HB2.out (show w.heap.size ≤ w.heap.size + 1 by omega))
        have HX3 := Lib.hid (show Bk (sets wc2 (w.heap.size + 1) 0 [.int .u64 (v : Int), .slice oV n1 cV, .slice oK n2 cK]) w.heap.size _ _ from (sets_other (w.heap.size + 1) w.heap.size (by omega) [.int .u64 (v : Int), .slice oV n1 cV, .slice oK n2 cK] 0 wc2).trans HX2.out)
        have HV3 := Lib.hid (HV2.out.sets HY2.out (by decide) (by decide) [.int .u64 (v : Int), .slice oV n1 cV, .slice oK n2 cK] 0)
        have HK3 := Lib.hid (HK2.out.sets HY2.out (by decide) (by decide) [.int .u64 (v : Int), .slice oV n1 cV, .slice oK n2 cK] 0)
        refine hK.out _ _ (mkS.out _ HX3.out) (fun hHeld2 => ?_)
        clear hK K hHeld
        have hHeld := hHeld2
        clear hHeld2
        clear y0 z0 y1 z1 y2 z2
        try simp only [Act.put, List.setIfInBounds_toArray, List.set_cons_zero, List.set_cons_succ]
        rw [hch]
        clear hch
        generalize sets wc2 (w.heap.size + 1) 0 [.int .u64 (v : Int), .slice oV n1 cV, .slice oK n2 cK] = wc3 at *
        refine wpAnyH_done (by kernel_rfl) ?_ _
        simp only [Exit.then]
        apply_assumption
        have y0 := (cell_of_row _ _ 0 _ _ _ HY3.out).trans rfl
        have y1 := (cell_of_row _ _ 1 _ _ _ HY3.out).trans rfl
        have y2 := (cell_of_row _ _ 2 _ _ _ HY3.out).trans rfl
        try go_wp2
        refine bodyPost_ret (v := .agg #[.int .u64 (v : Int), .slice oV n1 cV, .slice oK n2 cK]) (by simp [results, Tryz.results19, go_sem, *]) rfl ?_
        exact ⟨_, _, _, _, rfl, HV3.out, HK3.out, HB3.out⟩
      · exact AllReadyH.nil
    · exact AllReadyH.nil
  · exact AllReadyH.nil

end Go.Proofs.YtjfjliobencppaaGreatDoor.Cf
