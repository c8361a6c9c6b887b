/- The document's Bytes of a frame. -/
import Derived.Test.YtdojepkmjifoeaaJ08
set_option linter.unusedVariables false
set_option linter.unusedSimpArgs false
namespace Go.Proofs.Ytdojepkmjifoeaa
open Go.RowKit

theorem keep_alloc (X : World) (o : Obj) (g j : Nat) (hg : g < X.heap.size) : (X.alloc o).cell? ⟨g, j, none⟩ = X.cell? ⟨g, j, none⟩ := ((Below.refl X.heap.size X).alloc (Nat.le_refl _) o).cell (p := ⟨g, j, none⟩) hg
theorem keep_allocd (X : World) (o : Obj) (g j : Nat) (hg : g < X.heap.size) : (X.alloc o).drew.cell? ⟨g, j, none⟩ = X.cell? ⟨g, j, none⟩ := keep_alloc X o g j hg
theorem lt_alloc {B : Nat} {X : World} {o : Obj} (h : B < X.heap.size) : B < (X.alloc o).heap.size := by simp; omega
theorem lt_allocd {B : Nat} {X : World} {o : Obj} (h : B < X.heap.size) : B < (X.alloc o).drew.heap.size := lt_alloc h
theorem below_alloc {w X : World} {o : Obj} (hl : w.heap.size < X.heap.size) (h : Below w.heap.size w X) : Below w.heap.size w (X.alloc o) := h.alloc (Nat.le_of_lt hl) o
theorem below_allocd {w X : World} {o : Obj} (hl : w.heap.size < X.heap.size) (h : Below w.heap.size w X) : Below w.heap.size w (X.alloc o).drew := (h.alloc (Nat.le_of_lt hl) o).drew

theorem later_lt {X w1 : World} (hb : Below X.heap.size X w1) {n : Nat} (h : n < X.heap.size) : n < w1.heap.size := Nat.lt_of_lt_of_le h hb.size
theorem self_lt_allocd (X : World) (o : Obj) : X.heap.size < (X.alloc o).drew.heap.size := by simp
theorem bcell {W w1 : World} (hb : Below W.heap.size W w1) : (∀ b o, b < W.heap.size → w1.cell? ⟨b, o, none⟩ = W.cell? ⟨b, o, none⟩) ∧ (∀ b o, b < W.heap.size → w1.frozen? ⟨b, o, none⟩ = W.frozen? ⟨b, o, none⟩) :=
  ⟨fun b o h => hb.cell (p := ⟨b, o, none⟩) h, fun b o h => hb.frozen (p := ⟨b, o, none⟩) h⟩
theorem conv_later {k : Nat} (hk : k < 256) {X w1 : World} (hb : Below X.heap.size X w1) (g : Nat) (h : X.cell? ⟨g, 0, none⟩ = some (.int .u8 (k : Int))) :
    (convert 94 9 (.slice (some ⟨g, 0, none⟩) 1 1)).run Try.prog w1 = .ok (.string (str [UInt8.ofNat k])) w1 := by
  have hg := World.block_lt_of_cell? X _ h
  refine run_convert_bytes_back (P := Try.prog) w1 94 9 5 ⟨g, 0, none⟩ 1 [UInt8.ofNat k] Try.underlying94 Try.underlying5 Try.underlying9 ?_
  intro j hj
  match j, hj with
  | 0, _ =>
    have := (hb.cell (p := ⟨g, 0, none⟩) hg).trans h
    simp [Addr.add, Nat.mod_eq_of_lt hk]
    exact this
theorem cell_later {X w1 : World} (hb : Below X.heap.size X w1) (g : Nat) (v : Value) (h : X.cell? ⟨g, 0, none⟩ = some v) : w1.cell? ⟨g, 0, none⟩ = some v := by
  have hg := World.block_lt_of_cell? X _ h
  exact (hb.cell (p := ⟨g, 0, none⟩) hg).trans h
theorem cell_after {W w1 : World} {v : Value} (hb : Below (W.alloc (.cells #[v] 5)).heap.size (W.alloc (.cells #[v] 5)) w1) : w1.cell? ⟨W.heap.size, 0, none⟩ = some v :=
  (hb.cell (p := ⟨W.heap.size, 0, none⟩) (by simp)).trans (cell_new W _ 5 0)
/-- What holds of each world in the region that puts a frame's bytes together. -/
def RBk (w : World) (g k e : Nat) (b : ByteArray) (X : World) : Prop :=
  (X.cell? ⟨w.heap.size, 0, none⟩ = some (.int .i64 (k : Int)) ∧ X.cell? ⟨w.heap.size, 1, none⟩ = some (.int .u64 (e : Int)) ∧ X.cell? ⟨w.heap.size, 2, none⟩ = some (.string b)) ∧ X.cell? ⟨g, 0, none⟩ = some (.int .u8 (k : Int)) ∧ Below w.heap.size w X
theorem RBk.later {w : World} {g k e : Nat} {b : ByteArray} {X X' : World} (h : RBk w g k e b X) (hb : Below X.heap.size X X') : RBk w g k e b X' := by
  obtain ⟨⟨h0, h1, h2⟩, h3, h4⟩ := h
  have l1 := World.block_lt_of_cell? X _ h0
  have l2 := World.block_lt_of_cell? X _ h3
  exact ⟨⟨(hb.cell (p := ⟨w.heap.size, 0, none⟩) l1).trans h0, (hb.cell (p := ⟨w.heap.size, 1, none⟩) l1).trans h1, (hb.cell (p := ⟨w.heap.size, 2, none⟩) l1).trans h2⟩, (hb.cell (p := ⟨g, 0, none⟩) l2).trans h3, h4.trans (hb.mono h4.size)⟩
theorem rbytes_kind (k : Int) (e : Nat) (b : ByteArray) (hk : k < 1 ∨ 255 < k) (w : World) :
    Calls Try.prog 23 #[.agg #[.int .i64 k, .int .u64 e, .string b]] w fun r w' => r = .returned (.tuple #[.string ⟨#[]⟩, .int .i64 10]) ∧ Below w.heap.size w w' := by
  rcases hk with hk | hk
  · go_enter Try.func23, Try.ntmps23
    go_wp2
    go_ret2
    exact ⟨rfl, (Below.refl _ _).alloc (Nat.le_refl _) _⟩
  · have hk' : ¬ k < 1 := by omega
    go_enter Try.func23, Try.ntmps23
    go_wp2
    go_ret2
    exact ⟨rfl, (Below.refl _ _).alloc (Nat.le_refl _) _⟩
theorem rbytes_long (k : Int) (e : Nat) (b : ByteArray) (h1 : 1 ≤ k) (h2 : k ≤ 255) (hb : 8192 < b.size) (w : World) :
    Calls Try.prog 23 #[.agg #[.int .i64 k, .int .u64 e, .string b]] w fun r w' => r = .returned (.tuple #[.string ⟨#[]⟩, .int .i64 5]) ∧ Below w.heap.size w w' := by
  have h1' : ¬ k < 1 := by omega
  go_enter Try.func23, Try.ntmps23
  go_wp2
  go_ret2
  exact ⟨rfl, (Below.refl _ _).alloc (Nat.le_refl _) _⟩

set_option maxRecDepth 1000000 in
set_option maxHeartbeats 2000000 in
theorem rbytes_ok (k e : Nat) (b : ByteArray) (h1 : 1 ≤ k) (h2 : k ≤ 255) (he : e ≤ 18446744073709551615) (hb : b.size ≤ 8192) (w : World) :
    Calls Try.prog 23 #[.agg #[.int .i64 k, .int .u64 e, .string b]] w fun r w' => r = .returned (.tuple #[.string (str (frameL k e b.data.toList)), .int .i64 0]) ∧ Below w.heap.size w w' := by
  have k2 := fun w => rput_any e 8 he w
  have k3 := fun w => rput_any b.size 4 (by omega) w
  rw [show clip 8 = 8 from rfl] at k2
  rw [show clip 4 = 4 from rfl] at k3
  have l1 := be_length k 1
  have l2 := be_length e 8
  have l3 := be_length b.size 4
  have hF : frameL k e b.data.toList = markL ([79, 70, 1] ++ be k 1 ++ be e 8 ++ be b.size 4 ++ b.data.toList) := by
    unfold frameL hdr; simp
  rw [hF]
  clear hF
  have hk' : ¬ (k : Int) < 1 := by omega
  have hd1 : be k 1 = [UInt8.ofNat k] := by simp [be]
  have hcv : ∀ W : World, (convert 94 9 (.slice (some ⟨W.heap.size, 0, none⟩) 1 1)).run Try.prog (W.alloc (.cells #[.int .u8 (k : Int)] 5)) = .ok (.string (str (be k 1))) (W.alloc (.cells #[.int .u8 (k : Int)] 5)) := fun W => by
    rw [hd1]; exact run_one_byte W (k : Int) k rfl (by omega)
  have hcv2 : ∀ W : World, (convert 94 9 (.slice (some ⟨W.heap.size, 0, none⟩) 1 1)).run Try.prog (W.alloc (.cells #[.int .u8 (k : Int)] 5)).drew = .ok (.string (str (be k 1))) (W.alloc (.cells #[.int .u8 (k : Int)] 5)).drew := fun W => by
    rw [hd1]
    refine run_convert_bytes_back (P := Try.prog) (W.alloc (.cells #[.int .u8 (k : Int)] 5)).drew 94 9 5 ⟨W.heap.size, 0, none⟩ 1 [UInt8.ofNat k] Try.underlying94 Try.underlying5 Try.underlying9 ?_
    intro j hj
    match j, hj with
    | 0, _ => simp [Addr.add]; omega
  have hk256 : k < 256 := by omega
  have KV : Hid (∀ (X : World) {g : Nat}, X.cell? ⟨g, 0, none⟩ = some (.int .u8 (k : Int)) → (convert 94 9 (.slice (some ⟨g, 0, none⟩) 1 1)).run Try.prog X = .ok (.string (str (be k 1))) X) := Lib.hid (fun X g h => by
    rw [hd1]; exact conv_later hk256 (Below.refl _ _) g h)
  clear hd1 hk256
  generalize be k 1 = d1 at *
  generalize be e 8 = d2 at *
  generalize be b.size 4 = d3 at *
  have a1 : ∀ W, (Op.stringOp .add ⟨#[79, 70, 1]⟩ (str d1)).run Try.prog W = .ok (.string (str ([79, 70, 1] ++ d1))) W := fun W => run_add_bytes [79, 70, 1] d1 (by simp; omega) W
  have a2 := fun W => run_add_bytes ([79, 70, 1] ++ d1) d2 (by simp; omega) W
  have a3 := fun W => run_add_bytes ([79, 70, 1] ++ d1 ++ d2) d3 (by simp; omega) W
  have a4 : ∀ W, (Op.stringOp .add (str ([79, 70, 1] ++ d1 ++ d2 ++ d3)) b).run Try.prog W = .ok (.string (str ([79, 70, 1] ++ d1 ++ d2 ++ d3 ++ b.data.toList))) W := by
    intro W
    have := run_add_bytes ([79, 70, 1] ++ d1 ++ d2 ++ d3) b.data.toList (by simp; omega) W
    rw [str_data] at this
    exact this
  have hM : ([79, 70, 1] ++ d1 ++ d2 ++ d3 ++ b.data.toList).length ≤ 10000 := by simp; omega
  generalize [79, 70, 1] ++ d1 = e1 at *
  generalize e1 ++ d2 = e2 at *
  generalize e2 ++ d3 = e3 at *
  generalize e3 ++ b.data.toList = e4 at *
  have k4 := fun w => rmark_any (str e4) w (by rw [size_str]; omega)
  rw [data_str] at k4
  generalize markL e4 = M at *
  generalize str d1 = s1 at *
  generalize str d2 = s2 at *
  generalize str d3 = s3 at *
  generalize str e1 = t1 at *
  generalize str e2 = t2 at *
  generalize str e3 = t3 at *
  generalize str e4 = t4 at *
  generalize str M = t5 at *
  have hbi : (b.size : Int) ≤ 8192 := by omega
  have hk2 : (k : Int) ≤ 255 := by omega
  have hwr8 : IntKind.u8.wrap (k : Int) = (k : Int) := IntWalk.u8_in _ (by omega)
  have hwr : IntKind.u64.wrap (b.size : Int) = (b.size : Int) := IntWalk.u64_in _ (by omega)
  clear hM l1 l2 l3 he
  have K2 := Lib.hid k2
  have K3 := Lib.hid k3
  have K4 := Lib.hid k4
  clear k2 k3 k4
  obtain ⟨w0, hw0⟩ : ∃ w0, w0 = w.alloc (.cells #[.int .i64 (k : Int), .int .u64 (e : Int), .string b] 66) := ⟨_, rfl⟩
  have g6 : Below w.heap.size w w0 := by rw [hw0]; exact (Below.refl _ _).alloc (Nat.le_refl _) _
  have g5 : w.heap.size < w0.heap.size := by rw [hw0]; simp
  have g0 : w0.cell? ⟨w.heap.size, 0, none⟩ = some (.int .i64 k) := by rw [hw0]; exact cell_new w _ 66 0
  have g1 : w0.cell? ⟨w.heap.size, 1, none⟩ = some (.int .u64 e) := by rw [hw0]; exact cell_new w _ 66 1
  have g2 : w0.cell? ⟨w.heap.size, 2, none⟩ = some (.string b) := by rw [hw0]; exact cell_new w _ 66 2
  have HW := Lib.hid hw0
  clear hw0
  go_enter Try.func23, Try.ntmps23
  go_wp2
  rw [← HW.out]
  clear HW
  have z0 : w.heap.size ≠ w0.heap.size := by omega
  have hst : (w0.alloc (.cells #[.int .u8 (k : Int)] 5)).drew.cell? ⟨w0.heap.size, 0, none⟩ = some (.int .u8 (k : Int)) := cell_new w0 _ 5 0
  clear z0
  refine wp_region_held_drew (S := (fun w' => w'.cell? ⟨w.heap.size, 0, none⟩ = some (.int .i64 k) ∧ w'.cell? ⟨w.heap.size, 1, none⟩ = some (.int .u64 e) ∧ w'.cell? ⟨w.heap.size, 2, none⟩ = some (.string b) ∧ w.heap.size < w'.heap.size ∧ Below w.heap.size w w')) (by kernel_rfl) ?_ (fun hHeld => ?_)
  · exact ⟨g0, g1, g2, g5, g6.drew⟩
  refine wpAnyH_take (i := 0) (oi := _) (v := ?_) rfl (by kernel_rfl) (by kernel_rfl) (by kernel_rfl) (fun _ _ _ h => h) (Or.inl ⟨by rfl, by (intro w hSw; (try dsimp only at hSw); go_simp; try with_reducible rfl)⟩) hHeld ?_
  try simp only [Act.put, List.setIfInBounds_toArray]
  refine wpAnyH_take (i := 1) (oi := _) (v := ?_) rfl (by kernel_rfl) (by kernel_rfl) (by kernel_rfl) (fun _ _ _ h => h) (Or.inl ⟨by rfl, by (intro w hSw; (try dsimp only at hSw); go_simp; try with_reducible rfl)⟩) hHeld ?_
  try simp only [Act.put]
  refine wpAnyH_take (i := 2) (oi := _) (v := ?_) rfl (by kernel_rfl) (by kernel_rfl) (by kernel_rfl) (fun _ _ _ h => h) (Or.inl ⟨by rfl, by (intro w hSw; (try dsimp only at hSw); go_simp; try with_reducible rfl)⟩) hHeld ?_
  try simp only [Act.put]
  refine wpAnyH_take (i := 6) (oi := _) (v := ?_) rfl (by kernel_rfl) (by kernel_rfl) (by kernel_rfl) (fun _ _ _ h => h) (Or.inl ⟨by rfl, by (intro w hSw; (try dsimp only at hSw); go_simp; try with_reducible rfl)⟩) hHeld ?_
  try simp only [Act.put]
  refine wpAnyH_take (i := 7) (oi := _) (v := ?_) rfl (by kernel_rfl) (by kernel_rfl) (by kernel_rfl) (fun _ _ _ h => h) (Or.inl ⟨by rfl, by (intro w hSw; (try dsimp only at hSw); go_simp; try with_reducible rfl)⟩) hHeld ?_
  try simp only [Act.put]
  refine wpAnyH_take (i := 10) (oi := _) (v := ?_) rfl (by kernel_rfl) (by kernel_rfl) (by kernel_rfl) (fun _ _ _ h => h) (Or.inl ⟨by rfl, by (intro w hSw; (try dsimp only at hSw); go_simp; try with_reducible rfl)⟩) hHeld ?_
  try simp only [Act.put]
  refine wpAnyH_take (i := 11) (oi := _) (v := ?_) rfl (by kernel_rfl) (by kernel_rfl) (by kernel_rfl) (fun _ _ _ h => h) (Or.inl ⟨by rfl, by (intro w hSw; (try dsimp only at hSw); go_simp; try with_reducible rfl)⟩) hHeld ?_
  try simp only [Act.put]
  refine wpAnyH_take (i := 12) (oi := _) (v := ?_) rfl (by kernel_rfl) (by kernel_rfl) (by kernel_rfl) (fun _ _ _ h => h) (Or.inl ⟨by rfl, by (intro w hSw; (try dsimp only at hSw); go_simp; try with_reducible rfl)⟩) hHeld ?_
  try simp only [Act.put]
  refine wpAnyH_take (i := 13) (oi := _) (v := ?_) rfl (by kernel_rfl) (by kernel_rfl) (by kernel_rfl) (fun _ _ _ h => h) (Or.inl ⟨by rfl, by (intro w hSw; (try dsimp only at hSw); go_simp; try with_reducible rfl)⟩) hHeld ?_
  try simp only [Act.put]
  refine wpAnyH_take (i := 16) (oi := _) (v := ?_) rfl (by kernel_rfl) (by kernel_rfl) (by kernel_rfl) (fun _ _ _ h => h) (Or.inl ⟨by rfl, by (intro w hSw; (try dsimp only at hSw); go_simp; try with_reducible rfl)⟩) hHeld ?_
  try simp only [Act.put]
  refine wpAnyH_take (i := 17) (oi := _) (v := ?_) rfl (by kernel_rfl) (by kernel_rfl) (by kernel_rfl) (fun _ _ _ h => h) (Or.inl ⟨by rfl, by (intro w hSw; (try dsimp only at hSw); go_simp; try with_reducible rfl)⟩) hHeld ?_
  try simp only [Act.put]
  refine wpAnyH_ready (rs := [3, 8]) (by kernel_rfl) (by simp) ?_
  refine AllReadyH.cons (o := _) rfl (fun K hK => ?_) ?_
  · go_simp
    refine hK.out _ _ ?_ (fun hHeld2 => ?_)
    · obtain ⟨p0, p1, p2, p3, p4⟩ := hHeld
      exact ⟨(keep_alloc _ _ _ _ p3).trans p0, (keep_alloc _ _ _ _ p3).trans p1, (keep_alloc _ _ _ _ p3).trans p2, lt_alloc p3, below_alloc p3 p4⟩
    clear hK K hHeld
    have hHeld := hHeld2
    clear hHeld2
    try simp only [Act.put, List.setIfInBounds_toArray, List.set_cons_zero, List.set_cons_succ]
    refine wpAnyH_ready (rs := [4, 8]) (by kernel_rfl) (by simp) ?_
    refine AllReadyH.cons (o := _) rfl (fun K hK => ?_) ?_
    · go_simp
      refine hK.out _ _ ?_ (fun hHeld2 => ?_)
      · exact hHeld
      clear hK K hHeld
      have hHeld := hHeld2
      clear hHeld2
      try simp only [Act.put, List.setIfInBounds_toArray, List.set_cons_zero, List.set_cons_succ]
      refine wpAnyH_take (i := 5) (oi := _) (v := ?_) rfl (by kernel_rfl) (by kernel_rfl) (by kernel_rfl) (fun _ _ _ h => h) (Or.inl ⟨by rfl, by (intro w hSw; (try dsimp only at hSw); go_simp; try with_reducible rfl)⟩) hHeld ?_
      try simp only [Act.put, List.setIfInBounds_toArray]
      refine wpAnyH_ready (rs := [8]) (by kernel_rfl) (by simp) ?_
      refine AllReadyH.cons (o := _) rfl (fun K hK => ?_) ?_
      · go_simp
        refine (K2.out _).mono ?_
        rintro e w1 ⟨rfl, hb1⟩
        try go_simp
        refine hK.out _ _ ?_ (fun hHeld2 => ?_)
        · obtain ⟨p0, p1, p2, p3, p4⟩ := hHeld
          exact ⟨(hb1.cell (p := ⟨w.heap.size, 0, none⟩) p3).trans p0, (hb1.cell (p := ⟨w.heap.size, 1, none⟩) p3).trans p1, (hb1.cell (p := ⟨w.heap.size, 2, none⟩) p3).trans p2, Nat.lt_of_lt_of_le p3 hb1.size, p4.trans (hb1.mono (Nat.le_of_lt p3))⟩
        clear hK K hHeld
        have hHeld := hHeld2
        clear hHeld2
        try simp only [Act.put, List.setIfInBounds_toArray, List.set_cons_zero, List.set_cons_succ]
        refine wpAnyH_take (i := 9) (oi := _) (v := ?_) rfl (by kernel_rfl) (by kernel_rfl) (by kernel_rfl) (fun _ _ _ h => h) (Or.inl ⟨by rfl, by (intro w hSw; (try dsimp only at hSw); go_simp; try with_reducible rfl)⟩) hHeld ?_
        try simp only [Act.put, List.setIfInBounds_toArray]
        refine wpAnyH_ready (rs := [14]) (by kernel_rfl) (by simp) ?_
        refine AllReadyH.cons (o := _) rfl (fun K hK => ?_) ?_
        · go_simp
          refine (K3.out _).mono ?_
          rintro e w1 ⟨rfl, hb1⟩
          try go_simp
          refine hK.out _ _ ?_ (fun hHeld2 => ?_)
          · obtain ⟨p0, p1, p2, p3, p4⟩ := hHeld
            exact ⟨(hb1.cell (p := ⟨w.heap.size, 0, none⟩) p3).trans p0, (hb1.cell (p := ⟨w.heap.size, 1, none⟩) p3).trans p1, (hb1.cell (p := ⟨w.heap.size, 2, none⟩) p3).trans p2, Nat.lt_of_lt_of_le p3 hb1.size, p4.trans (hb1.mono (Nat.le_of_lt p3))⟩
          clear hK K hHeld
          have hHeld := hHeld2
          clear hHeld2
          try simp only [Act.put, List.setIfInBounds_toArray, List.set_cons_zero, List.set_cons_succ]
          refine wpAnyH_take (i := 15) (oi := _) (v := ?_) rfl (by kernel_rfl) (by kernel_rfl) (by kernel_rfl) (fun _ _ _ h => h) (Or.inl ⟨by rfl, by (intro w hSw; (try dsimp only at hSw); go_simp; try with_reducible rfl)⟩) hHeld ?_
          try simp only [Act.put, List.setIfInBounds_toArray]
          refine wpAnyH_take (i := 18) (oi := _) (v := ?_) rfl (by kernel_rfl) (by kernel_rfl) (by kernel_rfl) (fun _ _ _ h => h) (Or.inl ⟨by rfl, by (intro w hSw; (try dsimp only at hSw); go_simp; try with_reducible rfl)⟩) hHeld ?_
          try simp only [Act.put]
          refine wpAnyH_ready (rs := [19]) (by kernel_rfl) (by simp) ?_
          refine AllReadyH.cons (o := _) rfl (fun K hK => ?_) ?_
          · go_simp
            refine (K4.out _).mono ?_
            rintro e w1 ⟨rfl, hb1⟩
            try go_simp
            refine hK.out _ _ ?_ (fun hHeld2 => ?_)
            · obtain ⟨p0, p1, p2, p3, p4⟩ := hHeld
              exact ⟨(hb1.cell (p := ⟨w.heap.size, 0, none⟩) p3).trans p0, (hb1.cell (p := ⟨w.heap.size, 1, none⟩) p3).trans p1, (hb1.cell (p := ⟨w.heap.size, 2, none⟩) p3).trans p2, Nat.lt_of_lt_of_le p3 hb1.size, p4.trans (hb1.mono (Nat.le_of_lt p3))⟩
            clear hK K hHeld
            have hHeld := hHeld2
            clear hHeld2
            try simp only [Act.put, List.setIfInBounds_toArray, List.set_cons_zero, List.set_cons_succ]
            refine wpAnyH_take (i := 20) (oi := ⟨some 2, _, _, _, _, _⟩) (v := ?_) rfl (by kernel_rfl) (by kernel_rfl) (by kernel_rfl) (fun _ _ _ h => h) (Or.inl ⟨by rfl, by (intro w hSw; (try dsimp only at hSw); go_simp; try with_reducible rfl)⟩) hHeld ?_
            try simp only [Act.put, List.setIfInBounds_toArray, List.set_cons_zero, List.set_cons_succ]
            refine wpAnyH_take (i := 21) (oi := ⟨some 3, _, _, _, _, _⟩) (v := ?_) rfl (by kernel_rfl) (by kernel_rfl) (by kernel_rfl) (fun _ _ _ h => h) (Or.inl ⟨by rfl, by (intro w hSw; (try dsimp only at hSw); go_simp; try with_reducible rfl)⟩) hHeld ?_
            try simp only [Act.put, List.setIfInBounds_toArray, List.set_cons_zero, List.set_cons_succ]
            refine wpAnyH_done (by kernel_rfl) ?_ _
            go_wp2
            go_ret2
            exact ⟨rfl, hHeld.2.2.2.2⟩
          exact AllReadyH.nil
        exact AllReadyH.nil
      exact AllReadyH.nil
    refine AllReadyH.cons (o := _) rfl (fun K hK => ?_) ?_
    · go_simp
      refine (K2.out _).mono ?_
      rintro e w1 ⟨rfl, hb1⟩
      have q3 := cell_later hb1 _ _ hst
      have q4 := KV.out _ q3
      try go_simp
      refine hK.out _ _ ?_ (fun hHeld2 => ?_)
      · obtain ⟨p0, p1, p2, p3, p4⟩ := hHeld
        exact ⟨(hb1.cell (p := ⟨w.heap.size, 0, none⟩) p3).trans p0, (hb1.cell (p := ⟨w.heap.size, 1, none⟩) p3).trans p1, (hb1.cell (p := ⟨w.heap.size, 2, none⟩) p3).trans p2, Nat.lt_of_lt_of_le p3 hb1.size, p4.trans (hb1.mono (Nat.le_of_lt p3))⟩
      clear hK K hHeld
      have hHeld := hHeld2
      clear hHeld2
      try simp only [Act.put, List.setIfInBounds_toArray, List.set_cons_zero, List.set_cons_succ]
      refine wpAnyH_ready (rs := [4, 14]) (by kernel_rfl) (by simp) ?_
      refine AllReadyH.cons (o := _) rfl (fun K hK => ?_) ?_
      · go_simp
        refine hK.out _ _ ?_ (fun hHeld2 => ?_)
        · exact hHeld
        clear hK K hHeld
        have hHeld := hHeld2
        clear hHeld2
        try simp only [Act.put, List.setIfInBounds_toArray, List.set_cons_zero, List.set_cons_succ]
        refine wpAnyH_take (i := 5) (oi := _) (v := ?_) rfl (by kernel_rfl) (by kernel_rfl) (by kernel_rfl) (fun _ _ _ h => h) (Or.inl ⟨by rfl, by (intro w hSw; (try dsimp only at hSw); go_simp; try with_reducible rfl)⟩) hHeld ?_
        try simp only [Act.put, List.setIfInBounds_toArray]
        refine wpAnyH_take (i := 9) (oi := _) (v := ?_) rfl (by kernel_rfl) (by kernel_rfl) (by kernel_rfl) (fun _ _ _ h => h) (Or.inl ⟨by rfl, by (intro w hSw; (try dsimp only at hSw); go_simp; try with_reducible rfl)⟩) hHeld ?_
        try simp only [Act.put]
        refine wpAnyH_ready (rs := [14]) (by kernel_rfl) (by simp) ?_
        refine AllReadyH.cons (o := _) rfl (fun K hK => ?_) ?_
        · go_simp
          refine (K3.out _).mono ?_
          rintro e w1 ⟨rfl, hb1⟩
          try go_simp
          refine hK.out _ _ ?_ (fun hHeld2 => ?_)
          · obtain ⟨p0, p1, p2, p3, p4⟩ := hHeld
            exact ⟨(hb1.cell (p := ⟨w.heap.size, 0, none⟩) p3).trans p0, (hb1.cell (p := ⟨w.heap.size, 1, none⟩) p3).trans p1, (hb1.cell (p := ⟨w.heap.size, 2, none⟩) p3).trans p2, Nat.lt_of_lt_of_le p3 hb1.size, p4.trans (hb1.mono (Nat.le_of_lt p3))⟩
          clear hK K hHeld
          have hHeld := hHeld2
          clear hHeld2
          try simp only [Act.put, List.setIfInBounds_toArray, List.set_cons_zero, List.set_cons_succ]
          refine wpAnyH_take (i := 15) (oi := _) (v := ?_) rfl (by kernel_rfl) (by kernel_rfl) (by kernel_rfl) (fun _ _ _ h => h) (Or.inl ⟨by rfl, by (intro w hSw; (try dsimp only at hSw); go_simp; try with_reducible rfl)⟩) hHeld ?_
          try simp only [Act.put, List.setIfInBounds_toArray]
          refine wpAnyH_take (i := 18) (oi := _) (v := ?_) rfl (by kernel_rfl) (by kernel_rfl) (by kernel_rfl) (fun _ _ _ h => h) (Or.inl ⟨by rfl, by (intro w hSw; (try dsimp only at hSw); go_simp; try with_reducible rfl)⟩) hHeld ?_
          try simp only [Act.put]
          refine wpAnyH_ready (rs := [19]) (by kernel_rfl) (by simp) ?_
          refine AllReadyH.cons (o := _) rfl (fun K hK => ?_) ?_
          · go_simp
            refine (K4.out _).mono ?_
            rintro e w1 ⟨rfl, hb1⟩
            try go_simp
            refine hK.out _ _ ?_ (fun hHeld2 => ?_)
            · obtain ⟨p0, p1, p2, p3, p4⟩ := hHeld
              exact ⟨(hb1.cell (p := ⟨w.heap.size, 0, none⟩) p3).trans p0, (hb1.cell (p := ⟨w.heap.size, 1, none⟩) p3).trans p1, (hb1.cell (p := ⟨w.heap.size, 2, none⟩) p3).trans p2, Nat.lt_of_lt_of_le p3 hb1.size, p4.trans (hb1.mono (Nat.le_of_lt p3))⟩
            clear hK K hHeld
            have hHeld := hHeld2
            clear hHeld2
            try simp only [Act.put, List.setIfInBounds_toArray, List.set_cons_zero, List.set_cons_succ]
            refine wpAnyH_take (i := 20) (oi := ⟨some 2, _, _, _, _, _⟩) (v := ?_) rfl (by kernel_rfl) (by kernel_rfl) (by kernel_rfl) (fun _ _ _ h => h) (Or.inl ⟨by rfl, by (intro w hSw; (try dsimp only at hSw); go_simp; try with_reducible rfl)⟩) hHeld ?_
            try simp only [Act.put, List.setIfInBounds_toArray, List.set_cons_zero, List.set_cons_succ]
            refine wpAnyH_take (i := 21) (oi := ⟨some 3, _, _, _, _, _⟩) (v := ?_) rfl (by kernel_rfl) (by kernel_rfl) (by kernel_rfl) (fun _ _ _ h => h) (Or.inl ⟨by rfl, by (intro w hSw; (try dsimp only at hSw); go_simp; try with_reducible rfl)⟩) hHeld ?_
            try simp only [Act.put, List.setIfInBounds_toArray, List.set_cons_zero, List.set_cons_succ]
            refine wpAnyH_done (by kernel_rfl) ?_ _
            go_wp2
            go_ret2
            exact ⟨rfl, hHeld.2.2.2.2⟩
          exact AllReadyH.nil
        exact AllReadyH.nil
      refine AllReadyH.cons (o := _) rfl (fun K hK => ?_) ?_
      · go_simp
        refine (K3.out _).mono ?_
        rintro e w1 ⟨rfl, hb1⟩
        have q3 := cell_later hb1 _ _ q3
        have q4 := KV.out _ q3
        try go_simp
        refine hK.out _ _ ?_ (fun hHeld2 => ?_)
        · obtain ⟨p0, p1, p2, p3, p4⟩ := hHeld
          exact ⟨(hb1.cell (p := ⟨w.heap.size, 0, none⟩) p3).trans p0, (hb1.cell (p := ⟨w.heap.size, 1, none⟩) p3).trans p1, (hb1.cell (p := ⟨w.heap.size, 2, none⟩) p3).trans p2, Nat.lt_of_lt_of_le p3 hb1.size, p4.trans (hb1.mono (Nat.le_of_lt p3))⟩
        clear hK K hHeld
        have hHeld := hHeld2
        clear hHeld2
        try simp only [Act.put, List.setIfInBounds_toArray, List.set_cons_zero, List.set_cons_succ]
        refine wpAnyH_ready (rs := [4]) (by kernel_rfl) (by simp) ?_
        refine AllReadyH.cons (o := _) rfl (fun K hK => ?_) ?_
        · go_simp
          refine hK.out _ _ ?_ (fun hHeld2 => ?_)
          · exact hHeld
          clear hK K hHeld
          have hHeld := hHeld2
          clear hHeld2
          try simp only [Act.put, List.setIfInBounds_toArray, List.set_cons_zero, List.set_cons_succ]
          refine wpAnyH_take (i := 5) (oi := _) (v := ?_) rfl (by kernel_rfl) (by kernel_rfl) (by kernel_rfl) (fun _ _ _ h => h) (Or.inl ⟨by rfl, by (intro w hSw; (try dsimp only at hSw); go_simp; try with_reducible rfl)⟩) hHeld ?_
          try simp only [Act.put, List.setIfInBounds_toArray]
          refine wpAnyH_take (i := 9) (oi := _) (v := ?_) rfl (by kernel_rfl) (by kernel_rfl) (by kernel_rfl) (fun _ _ _ h => h) (Or.inl ⟨by rfl, by (intro w hSw; (try dsimp only at hSw); go_simp; try with_reducible rfl)⟩) hHeld ?_
          try simp only [Act.put]
          refine wpAnyH_take (i := 15) (oi := _) (v := ?_) rfl (by kernel_rfl) (by kernel_rfl) (by kernel_rfl) (fun _ _ _ h => h) (Or.inl ⟨by rfl, by (intro w hSw; (try dsimp only at hSw); go_simp; try with_reducible rfl)⟩) hHeld ?_
          try simp only [Act.put]
          refine wpAnyH_take (i := 18) (oi := _) (v := ?_) rfl (by kernel_rfl) (by kernel_rfl) (by kernel_rfl) (fun _ _ _ h => h) (Or.inl ⟨by rfl, by (intro w hSw; (try dsimp only at hSw); go_simp; try with_reducible rfl)⟩) hHeld ?_
          try simp only [Act.put]
          refine wpAnyH_ready (rs := [19]) (by kernel_rfl) (by simp) ?_
          refine AllReadyH.cons (o := _) rfl (fun K hK => ?_) ?_
          · go_simp
            refine (K4.out _).mono ?_
            rintro e w1 ⟨rfl, hb1⟩
            try go_simp
            refine hK.out _ _ ?_ (fun hHeld2 => ?_)
            · obtain ⟨p0, p1, p2, p3, p4⟩ := hHeld
              exact ⟨(hb1.cell (p := ⟨w.heap.size, 0, none⟩) p3).trans p0, (hb1.cell (p := ⟨w.heap.size, 1, none⟩) p3).trans p1, (hb1.cell (p := ⟨w.heap.size, 2, none⟩) p3).trans p2, Nat.lt_of_lt_of_le p3 hb1.size, p4.trans (hb1.mono (Nat.le_of_lt p3))⟩
            clear hK K hHeld
            have hHeld := hHeld2
            clear hHeld2
            try simp only [Act.put, List.setIfInBounds_toArray, List.set_cons_zero, List.set_cons_succ]
            refine wpAnyH_take (i := 20) (oi := ⟨some 2, _, _, _, _, _⟩) (v := ?_) rfl (by kernel_rfl) (by kernel_rfl) (by kernel_rfl) (fun _ _ _ h => h) (Or.inl ⟨by rfl, by (intro w hSw; (try dsimp only at hSw); go_simp; try with_reducible rfl)⟩) hHeld ?_
            try simp only [Act.put, List.setIfInBounds_toArray, List.set_cons_zero, List.set_cons_succ]
            refine wpAnyH_take (i := 21) (oi := ⟨some 3, _, _, _, _, _⟩) (v := ?_) rfl (by kernel_rfl) (by kernel_rfl) (by kernel_rfl) (fun _ _ _ h => h) (Or.inl ⟨by rfl, by (intro w hSw; (try dsimp only at hSw); go_simp; try with_reducible rfl)⟩) hHeld ?_
            try simp only [Act.put, List.setIfInBounds_toArray, List.set_cons_zero, List.set_cons_succ]
            refine wpAnyH_done (by kernel_rfl) ?_ _
            go_wp2
            go_ret2
            exact ⟨rfl, hHeld.2.2.2.2⟩
          exact AllReadyH.nil
        exact AllReadyH.nil
      exact AllReadyH.nil
    exact AllReadyH.nil
  refine AllReadyH.cons (o := _) rfl (fun K hK => ?_) ?_
  · go_simp
    refine (K2.out _).mono ?_
    rintro e w1 ⟨rfl, hb1⟩
    try go_simp
    refine hK.out _ _ ?_ (fun hHeld2 => ?_)
    · obtain ⟨p0, p1, p2, p3, p4⟩ := hHeld
      exact ⟨(hb1.cell (p := ⟨w.heap.size, 0, none⟩) p3).trans p0, (hb1.cell (p := ⟨w.heap.size, 1, none⟩) p3).trans p1, (hb1.cell (p := ⟨w.heap.size, 2, none⟩) p3).trans p2, Nat.lt_of_lt_of_le p3 hb1.size, p4.trans (hb1.mono (Nat.le_of_lt p3))⟩
    clear hK K hHeld
    have hHeld := hHeld2
    clear hHeld2
    try simp only [Act.put, List.setIfInBounds_toArray, List.set_cons_zero, List.set_cons_succ]
    refine wpAnyH_ready (rs := [3, 14]) (by kernel_rfl) (by simp) ?_
    refine AllReadyH.cons (o := _) rfl (fun K hK => ?_) ?_
    · go_simp
      refine hK.out _ _ ?_ (fun hHeld2 => ?_)
      · obtain ⟨p0, p1, p2, p3, p4⟩ := hHeld
        exact ⟨(keep_alloc _ _ _ _ p3).trans p0, (keep_alloc _ _ _ _ p3).trans p1, (keep_alloc _ _ _ _ p3).trans p2, lt_alloc p3, below_alloc p3 p4⟩
      clear hK K hHeld
      have hHeld := hHeld2
      clear hHeld2
      try simp only [Act.put, List.setIfInBounds_toArray, List.set_cons_zero, List.set_cons_succ]
      refine wpAnyH_ready (rs := [4, 14]) (by kernel_rfl) (by simp) ?_
      refine AllReadyH.cons (o := _) rfl (fun K hK => ?_) ?_
      · go_simp
        refine hK.out _ _ ?_ (fun hHeld2 => ?_)
        · exact hHeld
        clear hK K hHeld
        have hHeld := hHeld2
        clear hHeld2
        try simp only [Act.put, List.setIfInBounds_toArray, List.set_cons_zero, List.set_cons_succ]
        refine wpAnyH_take (i := 5) (oi := _) (v := ?_) rfl (by kernel_rfl) (by kernel_rfl) (by kernel_rfl) (fun _ _ _ h => h) (Or.inl ⟨by rfl, by (intro w hSw; (try dsimp only at hSw); go_simp; try with_reducible rfl)⟩) hHeld ?_
        try simp only [Act.put, List.setIfInBounds_toArray]
        refine wpAnyH_take (i := 9) (oi := _) (v := ?_) rfl (by kernel_rfl) (by kernel_rfl) (by kernel_rfl) (fun _ _ _ h => h) (Or.inl ⟨by rfl, by (intro w hSw; (try dsimp only at hSw); go_simp; try with_reducible rfl)⟩) hHeld ?_
        try simp only [Act.put]
        refine wpAnyH_ready (rs := [14]) (by kernel_rfl) (by simp) ?_
        refine AllReadyH.cons (o := _) rfl (fun K hK => ?_) ?_
        · go_simp
          refine (K3.out _).mono ?_
          rintro e w1 ⟨rfl, hb1⟩
          try go_simp
          refine hK.out _ _ ?_ (fun hHeld2 => ?_)
          · obtain ⟨p0, p1, p2, p3, p4⟩ := hHeld
            exact ⟨(hb1.cell (p := ⟨w.heap.size, 0, none⟩) p3).trans p0, (hb1.cell (p := ⟨w.heap.size, 1, none⟩) p3).trans p1, (hb1.cell (p := ⟨w.heap.size, 2, none⟩) p3).trans p2, Nat.lt_of_lt_of_le p3 hb1.size, p4.trans (hb1.mono (Nat.le_of_lt p3))⟩
          clear hK K hHeld
          have hHeld := hHeld2
          clear hHeld2
          try simp only [Act.put, List.setIfInBounds_toArray, List.set_cons_zero, List.set_cons_succ]
          refine wpAnyH_take (i := 15) (oi := _) (v := ?_) rfl (by kernel_rfl) (by kernel_rfl) (by kernel_rfl) (fun _ _ _ h => h) (Or.inl ⟨by rfl, by (intro w hSw; (try dsimp only at hSw); go_simp; try with_reducible rfl)⟩) hHeld ?_
          try simp only [Act.put, List.setIfInBounds_toArray]
          refine wpAnyH_take (i := 18) (oi := _) (v := ?_) rfl (by kernel_rfl) (by kernel_rfl) (by kernel_rfl) (fun _ _ _ h => h) (Or.inl ⟨by rfl, by (intro w hSw; (try dsimp only at hSw); go_simp; try with_reducible rfl)⟩) hHeld ?_
          try simp only [Act.put]
          refine wpAnyH_ready (rs := [19]) (by kernel_rfl) (by simp) ?_
          refine AllReadyH.cons (o := _) rfl (fun K hK => ?_) ?_
          · go_simp
            refine (K4.out _).mono ?_
            rintro e w1 ⟨rfl, hb1⟩
            try go_simp
            refine hK.out _ _ ?_ (fun hHeld2 => ?_)
            · obtain ⟨p0, p1, p2, p3, p4⟩ := hHeld
              exact ⟨(hb1.cell (p := ⟨w.heap.size, 0, none⟩) p3).trans p0, (hb1.cell (p := ⟨w.heap.size, 1, none⟩) p3).trans p1, (hb1.cell (p := ⟨w.heap.size, 2, none⟩) p3).trans p2, Nat.lt_of_lt_of_le p3 hb1.size, p4.trans (hb1.mono (Nat.le_of_lt p3))⟩
            clear hK K hHeld
            have hHeld := hHeld2
            clear hHeld2
            try simp only [Act.put, List.setIfInBounds_toArray, List.set_cons_zero, List.set_cons_succ]
            refine wpAnyH_take (i := 20) (oi := ⟨some 2, _, _, _, _, _⟩) (v := ?_) rfl (by kernel_rfl) (by kernel_rfl) (by kernel_rfl) (fun _ _ _ h => h) (Or.inl ⟨by rfl, by (intro w hSw; (try dsimp only at hSw); go_simp; try with_reducible rfl)⟩) hHeld ?_
            try simp only [Act.put, List.setIfInBounds_toArray, List.set_cons_zero, List.set_cons_succ]
            refine wpAnyH_take (i := 21) (oi := ⟨some 3, _, _, _, _, _⟩) (v := ?_) rfl (by kernel_rfl) (by kernel_rfl) (by kernel_rfl) (fun _ _ _ h => h) (Or.inl ⟨by rfl, by (intro w hSw; (try dsimp only at hSw); go_simp; try with_reducible rfl)⟩) hHeld ?_
            try simp only [Act.put, List.setIfInBounds_toArray, List.set_cons_zero, List.set_cons_succ]
            refine wpAnyH_done (by kernel_rfl) ?_ _
            go_wp2
            go_ret2
            exact ⟨rfl, hHeld.2.2.2.2⟩
          exact AllReadyH.nil
        exact AllReadyH.nil
      refine AllReadyH.cons (o := _) rfl (fun K hK => ?_) ?_
      · go_simp
        refine (K3.out _).mono ?_
        rintro e w1 ⟨rfl, hb1⟩
        have q3 := cell_after hb1
        have q4 := KV.out _ q3
        try go_simp
        refine hK.out _ _ ?_ (fun hHeld2 => ?_)
        · obtain ⟨p0, p1, p2, p3, p4⟩ := hHeld
          exact ⟨(hb1.cell (p := ⟨w.heap.size, 0, none⟩) p3).trans p0, (hb1.cell (p := ⟨w.heap.size, 1, none⟩) p3).trans p1, (hb1.cell (p := ⟨w.heap.size, 2, none⟩) p3).trans p2, Nat.lt_of_lt_of_le p3 hb1.size, p4.trans (hb1.mono (Nat.le_of_lt p3))⟩
        clear hK K hHeld
        have hHeld := hHeld2
        clear hHeld2
        try simp only [Act.put, List.setIfInBounds_toArray, List.set_cons_zero, List.set_cons_succ]
        refine wpAnyH_ready (rs := [4]) (by kernel_rfl) (by simp) ?_
        refine AllReadyH.cons (o := _) rfl (fun K hK => ?_) ?_
        · go_simp
          refine hK.out _ _ ?_ (fun hHeld2 => ?_)
          · exact hHeld
          clear hK K hHeld
          have hHeld := hHeld2
          clear hHeld2
          try simp only [Act.put, List.setIfInBounds_toArray, List.set_cons_zero, List.set_cons_succ]
          refine wpAnyH_take (i := 5) (oi := _) (v := ?_) rfl (by kernel_rfl) (by kernel_rfl) (by kernel_rfl) (fun _ _ _ h => h) (Or.inl ⟨by rfl, by (intro w hSw; (try dsimp only at hSw); go_simp; try with_reducible rfl)⟩) hHeld ?_
          try simp only [Act.put, List.setIfInBounds_toArray]
          refine wpAnyH_take (i := 9) (oi := _) (v := ?_) rfl (by kernel_rfl) (by kernel_rfl) (by kernel_rfl) (fun _ _ _ h => h) (Or.inl ⟨by rfl, by (intro w hSw; (try dsimp only at hSw); go_simp; try with_reducible rfl)⟩) hHeld ?_
          try simp only [Act.put]
          refine wpAnyH_take (i := 15) (oi := _) (v := ?_) rfl (by kernel_rfl) (by kernel_rfl) (by kernel_rfl) (fun _ _ _ h => h) (Or.inl ⟨by rfl, by (intro w hSw; (try dsimp only at hSw); go_simp; try with_reducible rfl)⟩) hHeld ?_
          try simp only [Act.put]
          refine wpAnyH_take (i := 18) (oi := _) (v := ?_) rfl (by kernel_rfl) (by kernel_rfl) (by kernel_rfl) (fun _ _ _ h => h) (Or.inl ⟨by rfl, by (intro w hSw; (try dsimp only at hSw); go_simp; try with_reducible rfl)⟩) hHeld ?_
          try simp only [Act.put]
          refine wpAnyH_ready (rs := [19]) (by kernel_rfl) (by simp) ?_
          refine AllReadyH.cons (o := _) rfl (fun K hK => ?_) ?_
          · go_simp
            refine (K4.out _).mono ?_
            rintro e w1 ⟨rfl, hb1⟩
            try go_simp
            refine hK.out _ _ ?_ (fun hHeld2 => ?_)
            · obtain ⟨p0, p1, p2, p3, p4⟩ := hHeld
              exact ⟨(hb1.cell (p := ⟨w.heap.size, 0, none⟩) p3).trans p0, (hb1.cell (p := ⟨w.heap.size, 1, none⟩) p3).trans p1, (hb1.cell (p := ⟨w.heap.size, 2, none⟩) p3).trans p2, Nat.lt_of_lt_of_le p3 hb1.size, p4.trans (hb1.mono (Nat.le_of_lt p3))⟩
            clear hK K hHeld
            have hHeld := hHeld2
            clear hHeld2
            try simp only [Act.put, List.setIfInBounds_toArray, List.set_cons_zero, List.set_cons_succ]
            refine wpAnyH_take (i := 20) (oi := ⟨some 2, _, _, _, _, _⟩) (v := ?_) rfl (by kernel_rfl) (by kernel_rfl) (by kernel_rfl) (fun _ _ _ h => h) (Or.inl ⟨by rfl, by (intro w hSw; (try dsimp only at hSw); go_simp; try with_reducible rfl)⟩) hHeld ?_
            try simp only [Act.put, List.setIfInBounds_toArray, List.set_cons_zero, List.set_cons_succ]
            refine wpAnyH_take (i := 21) (oi := ⟨some 3, _, _, _, _, _⟩) (v := ?_) rfl (by kernel_rfl) (by kernel_rfl) (by kernel_rfl) (fun _ _ _ h => h) (Or.inl ⟨by rfl, by (intro w hSw; (try dsimp only at hSw); go_simp; try with_reducible rfl)⟩) hHeld ?_
            try simp only [Act.put, List.setIfInBounds_toArray, List.set_cons_zero, List.set_cons_succ]
            refine wpAnyH_done (by kernel_rfl) ?_ _
            go_wp2
            go_ret2
            exact ⟨rfl, hHeld.2.2.2.2⟩
          exact AllReadyH.nil
        exact AllReadyH.nil
      exact AllReadyH.nil
    refine AllReadyH.cons (o := _) rfl (fun K hK => ?_) ?_
    · go_simp
      refine (K3.out _).mono ?_
      rintro e w1 ⟨rfl, hb1⟩
      try go_simp
      refine hK.out _ _ ?_ (fun hHeld2 => ?_)
      · obtain ⟨p0, p1, p2, p3, p4⟩ := hHeld
        exact ⟨(hb1.cell (p := ⟨w.heap.size, 0, none⟩) p3).trans p0, (hb1.cell (p := ⟨w.heap.size, 1, none⟩) p3).trans p1, (hb1.cell (p := ⟨w.heap.size, 2, none⟩) p3).trans p2, Nat.lt_of_lt_of_le p3 hb1.size, p4.trans (hb1.mono (Nat.le_of_lt p3))⟩
      clear hK K hHeld
      have hHeld := hHeld2
      clear hHeld2
      try simp only [Act.put, List.setIfInBounds_toArray, List.set_cons_zero, List.set_cons_succ]
      refine wpAnyH_ready (rs := [3]) (by kernel_rfl) (by simp) ?_
      refine AllReadyH.cons (o := _) rfl (fun K hK => ?_) ?_
      · go_simp
        refine hK.out _ _ ?_ (fun hHeld2 => ?_)
        · obtain ⟨p0, p1, p2, p3, p4⟩ := hHeld
          exact ⟨(keep_alloc _ _ _ _ p3).trans p0, (keep_alloc _ _ _ _ p3).trans p1, (keep_alloc _ _ _ _ p3).trans p2, lt_alloc p3, below_alloc p3 p4⟩
        clear hK K hHeld
        have hHeld := hHeld2
        clear hHeld2
        try simp only [Act.put, List.setIfInBounds_toArray, List.set_cons_zero, List.set_cons_succ]
        refine wpAnyH_ready (rs := [4]) (by kernel_rfl) (by simp) ?_
        refine AllReadyH.cons (o := _) rfl (fun K hK => ?_) ?_
        · go_simp
          refine hK.out _ _ ?_ (fun hHeld2 => ?_)
          · exact hHeld
          clear hK K hHeld
          have hHeld := hHeld2
          clear hHeld2
          try simp only [Act.put, List.setIfInBounds_toArray, List.set_cons_zero, List.set_cons_succ]
          refine wpAnyH_take (i := 5) (oi := _) (v := ?_) rfl (by kernel_rfl) (by kernel_rfl) (by kernel_rfl) (fun _ _ _ h => h) (Or.inl ⟨by rfl, by (intro w hSw; (try dsimp only at hSw); go_simp; try with_reducible rfl)⟩) hHeld ?_
          try simp only [Act.put, List.setIfInBounds_toArray]
          refine wpAnyH_take (i := 9) (oi := _) (v := ?_) rfl (by kernel_rfl) (by kernel_rfl) (by kernel_rfl) (fun _ _ _ h => h) (Or.inl ⟨by rfl, by (intro w hSw; (try dsimp only at hSw); go_simp; try with_reducible rfl)⟩) hHeld ?_
          try simp only [Act.put]
          refine wpAnyH_take (i := 15) (oi := _) (v := ?_) rfl (by kernel_rfl) (by kernel_rfl) (by kernel_rfl) (fun _ _ _ h => h) (Or.inl ⟨by rfl, by (intro w hSw; (try dsimp only at hSw); go_simp; try with_reducible rfl)⟩) hHeld ?_
          try simp only [Act.put]
          refine wpAnyH_take (i := 18) (oi := _) (v := ?_) rfl (by kernel_rfl) (by kernel_rfl) (by kernel_rfl) (fun _ _ _ h => h) (Or.inl ⟨by rfl, by (intro w hSw; (try dsimp only at hSw); go_simp; try with_reducible rfl)⟩) hHeld ?_
          try simp only [Act.put]
          refine wpAnyH_ready (rs := [19]) (by kernel_rfl) (by simp) ?_
          refine AllReadyH.cons (o := _) rfl (fun K hK => ?_) ?_
          · go_simp
            refine (K4.out _).mono ?_
            rintro e w1 ⟨rfl, hb1⟩
            try go_simp
            refine hK.out _ _ ?_ (fun hHeld2 => ?_)
            · obtain ⟨p0, p1, p2, p3, p4⟩ := hHeld
              exact ⟨(hb1.cell (p := ⟨w.heap.size, 0, none⟩) p3).trans p0, (hb1.cell (p := ⟨w.heap.size, 1, none⟩) p3).trans p1, (hb1.cell (p := ⟨w.heap.size, 2, none⟩) p3).trans p2, Nat.lt_of_lt_of_le p3 hb1.size, p4.trans (hb1.mono (Nat.le_of_lt p3))⟩
            clear hK K hHeld
            have hHeld := hHeld2
            clear hHeld2
            try simp only [Act.put, List.setIfInBounds_toArray, List.set_cons_zero, List.set_cons_succ]
            refine wpAnyH_take (i := 20) (oi := ⟨some 2, _, _, _, _, _⟩) (v := ?_) rfl (by kernel_rfl) (by kernel_rfl) (by kernel_rfl) (fun _ _ _ h => h) (Or.inl ⟨by rfl, by (intro w hSw; (try dsimp only at hSw); go_simp; try with_reducible rfl)⟩) hHeld ?_
            try simp only [Act.put, List.setIfInBounds_toArray, List.set_cons_zero, List.set_cons_succ]
            refine wpAnyH_take (i := 21) (oi := ⟨some 3, _, _, _, _, _⟩) (v := ?_) rfl (by kernel_rfl) (by kernel_rfl) (by kernel_rfl) (fun _ _ _ h => h) (Or.inl ⟨by rfl, by (intro w hSw; (try dsimp only at hSw); go_simp; try with_reducible rfl)⟩) hHeld ?_
            try simp only [Act.put, List.setIfInBounds_toArray, List.set_cons_zero, List.set_cons_succ]
            refine wpAnyH_done (by kernel_rfl) ?_ _
            go_wp2
            go_ret2
            exact ⟨rfl, hHeld.2.2.2.2⟩
          exact AllReadyH.nil
        exact AllReadyH.nil
      exact AllReadyH.nil
    exact AllReadyH.nil
  exact AllReadyH.nil
end Go.Proofs.Ytdojepkmjifoeaa
