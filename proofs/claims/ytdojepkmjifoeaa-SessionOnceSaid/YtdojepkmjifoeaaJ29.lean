/- session.Message; a message is read as it was.; word.Add; a session as a value; own, New.; Sessions: known, New. -/
import Derived.Test.YtdojepkmjifoeaaJ28
import Derived.Test.YtdojepkmjifoeaaJ02
set_option linter.unusedVariables false
set_option linter.unusedSimpArgs false
namespace Go.Proofs.Ytdojepkmjifoeaa
open Go.RowKit

theorem bytes_any (k : Int) (e : Nat) (b : ByteArray) (he : e ≤ 18446744073709551615) (w : World) : Calls Try.prog 21 #[.agg #[.int .i64 k, .int .u64 (e : Int), .string b]] w fun r w' => ∃ c : Nat, r = .returned (.tuple #[.string (if 1 ≤ k ∧ k ≤ 255 ∧ b.size ≤ 8192 then str (frameL k.toNat e b.data.toList) else ⟨#[]⟩), .int .i64 (c : Int)]) ∧ Below w.heap.size w w' := by
  by_cases h1 : k < 1 ∨ 255 < k
  · rw [if_neg (by omega)]
    exact (bytes_kind k e b h1 w).mono fun r w' ⟨h, hb⟩ => ⟨10, h, hb⟩
  · by_cases h2 : 8192 < b.size
    · rw [if_neg (by omega)]
      exact (bytes_long k e b (by omega) (by omega) h2 w).mono fun r w' ⟨h, hb⟩ => ⟨5, h, hb⟩
    · rw [if_pos (by omega)]
      obtain ⟨q, rfl⟩ : ∃ q : Nat, k = q := ⟨k.toNat, by omega⟩
      exact (bytes_ok q e b (by omega) (by omega) he (by omega) w).mono fun r w' ⟨h, hb⟩ => ⟨0, by rw [h]; rfl, hb⟩
/-- A message's text. -/
def msgV (kd : Int) (e : Nat) (b : ByteArray) (ns : List Nat) : ByteArray := if 1 ≤ fdK kd b ns ∧ fdK kd b ns ≤ 255 ∧ (fdB kd b ns).size ≤ 8192 then str (frameL (fdK kd b ns).toNat (fdE kd e b ns) (fdB kd b ns).data.toList) else ⟨#[]⟩
set_option maxRecDepth 100000 in
theorem message_any (kd : Int) (e : Nat) (b : ByteArray) (ns : List Nat) (o : Option Addr) (cap B off : Nat) (hb : b.size ≤ 1000000000) (he : e ≤ 18446744073709551615) (w : World) (ho : 0 < ns.length → o = some ⟨B, off, none⟩ ∧ B < w.heap.size) (hc : NsIn w B off ns) :
    Calls Try.prog 7 #[.int .i64 kd, .int .u64 (e : Int), .string b, .slice o ns.length cap] w fun r w' => r = .returned (.string (msgV kd e b ns)) ∧ Below w.heap.size w w' := by
  have K20 := Lib.hid (framed_any kd e b ns o cap B off hb w ho hc)
  have hfe : fdE kd e b ns ≤ 18446744073709551615 := by unfold fdE; split <;> omega
  have K21 := Lib.hid (fun w => bytes_any (fdK kd b ns) (fdE kd e b ns) (fdB kd b ns) hfe w)
  rw [show (if 1 ≤ fdK kd b ns ∧ fdK kd b ns ≤ 255 ∧ (fdB kd b ns).size ≤ 8192 then str (frameL (fdK kd b ns).toNat (fdE kd e b ns) (fdB kd b ns).data.toList) else ⟨#[]⟩) = msgV kd e b ns from rfl] at K21
  generalize msgV kd e b ns = M at *
  generalize fdK kd b ns = fk at *
  generalize fdE kd e b ns = fe at *
  generalize fdB kd b ns = fb at *
  generalize ns.length = m at *
  clear hb he ho hc hfe
  go_enter Try.func7, Try.ntmps7
  go_wp2_with (first
    | (go_at_call 20; ((with_reducible refine (K20.out).mono ?_); rintro x w1 ⟨rfl, hb1⟩))
    | (go_at_call 21; ((with_reducible refine (K21.out _).mono ?_); rintro x w2 ⟨c, rfl, hb2⟩)))
  go_ret
  exact ⟨rfl, hb1.trans (hb2.mono hb1.size)⟩

theorem txt_nums (ns : List Nat) (r : List Tr) (h : ∀ n ∈ ns, n ≤ 18446744073709551615) : (txtL (ns.map numT ++ r)).length ≤ ns.length * 11 + (txtL r).length := by
  induction ns with
  | nil => simp
  | cons n ns ih =>
    have h1 := ih (fun x hx => h x (List.mem_cons_of_mem _ hx))
    have h2 := sh_ten n (h n List.mem_cons_self)
    have e : txtL (List.map numT (n :: ns) ++ r) = txtT (numT n) ++ txtL (ns.map numT ++ r) := by
      rw [List.map_cons, List.cons_append, txtL]
    have e2 : txtT (numT n) = 1 :: sh n := by unfold numT txtT; simp
    rw [e, List.length_append, e2, List.length_cons, List.length_cons]
    omega
theorem snd_nums (ns : List Nat) (r : List Tr) : sndL (ns.map numT ++ r) = sndL r := by
  induction ns with
  | nil => simp
  | cons n ns ih =>
    rw [List.map_cons, List.cons_append, sndL, ih]
    simp [numT, sndT, sndL, ByteArray.size]
theorem ok_nums (ns : List Nat) (r : List Tr) (h : ∀ n ∈ ns, n ≤ 18446744073709551615) (hr : okL r) : okL (ns.map numT ++ r) := by
  induction ns with
  | nil => simpa using hr
  | cons n ns ih =>
    rw [List.map_cons, List.cons_append, okL]
    refine ⟨?_, ih (fun x hx => h x (List.mem_cons_of_mem _ hx))⟩
    unfold numT okT
    exact ⟨h n List.mem_cons_self, by simp [ByteArray.size], by simp, by unfold okL; trivial⟩
theorem prN_nums (ns : List Nat) (r : List Tr) : prN (ns.map numT ++ r) = ns ++ prN r := by
  unfold prN
  rw [List.filterMap_append]
  congr 1
  induction ns with
  | nil => rfl
  | cons n ns ih => rw [List.map_cons, List.filterMap_cons]; simp [numT]; simpa [numT] using ih
theorem prB_nums (ns : List Nat) (r : List Tr) : prB (ns.map numT ++ r) = prB r := by
  unfold prB
  rw [List.foldl_append]
  congr 1
  induction ns with
  | nil => rfl
  | cons n ns ih => rw [List.map_cons, List.foldl_cons]; simpa [numT] using ih
/-- What a message may have. -/
structure MsOk (k : Nat) (e : Nat) (b : ByteArray) (ns : List Nat) : Prop where
  k1 : 1 ≤ k
  k4 : k ≤ 4
  e : e ≤ 18446744073709551615
  b : b.size ≤ 8000
  n : ∀ n ∈ ns, n ≤ 18446744073709551615
  l : ns.length ≤ 3
theorem ms_put {k e : Nat} {b : ByteArray} {ns : List Nat} (h : MsOk k e b ns) : putC (rowT k b ns) = 0 ∧ sndT (rowT k b ns) = true ∧ okT (rowT k b ns) ∧ (txtT (rowT k b ns)).length ≤ 8100 := by
  have h1 := txt_nums ns (if (k : Int) = 2 then [strT b] else []) h.n
  have h2 : (txtL (if (k : Int) = 2 then [strT b] else [])).length ≤ 8011 := by
    split
    · have := sh_ten b.size (by have := h.b; omega)
      have hb := h.b
      simp only [txtL, strT, txtT]
      simp
      omega
    · simp [txtL]
  have h3 := sh_ten (rowL k b ns).length (by rw [row_len]; have := h.l; split <;> omega)
  have hl := h.l
  have ht : (txtT (rowT k b ns)).length ≤ 8100 := by
    unfold rowT txtT
    rw [if_neg (by omega), if_neg (by omega), List.length_cons, List.length_append]
    unfold rowL at h3 ⊢
    omega
  have hs : sndT (rowT k b ns) = true := by
    unfold rowT sndT rowL
    rw [snd_nums]
    have : sndL (if (k : Int) = 2 then [strT b] else []) = true := by split <;> simp [sndL, strT, sndT]
    rw [this]
    simp [ByteArray.size]
  refine ⟨?_, hs, ?_, ht⟩
  · unfold putC
    rw [if_neg (by rw [hs]; simp), if_neg (by rw [deep_row]; omega), if_neg (by omega)]
  · unfold rowT okT
    refine ⟨by omega, by simp [ByteArray.size], by rw [row_len]; split <;> omega, ?_⟩
    unfold rowL
    refine ok_nums ns _ h.n ?_
    split
    · unfold okL strT okT
      exact ⟨⟨by omega, by have := h.b; omega, by simp, by unfold okL; trivial⟩, by unfold okL; trivial⟩
    · unfold okL; trivial
theorem ms_fd {k e : Nat} {b : ByteArray} {ns : List Nat} (h : MsOk k e b ns) : fdK k b ns = k ∧ fdE k e b ns = e ∧ fdB k b ns = str (txtT (rowT k b ns)) := by
  obtain ⟨h1, h2, h3, h4⟩ := ms_put h
  have hok : fdOk k b ns := ⟨by have := h.l; omega, h1⟩
  unfold fdK fdE fdB putS
  rw [if_pos hok, if_pos hok, if_pos hok, if_pos h1]
  exact ⟨rfl, rfl, rfl⟩
theorem ms_text {k e : Nat} {b : ByteArray} {ns : List Nat} (h : MsOk k e b ns) : msgV k e b ns = str (frameL k e (txtT (rowT k b ns))) := by
  obtain ⟨h1, h2, h3, h4⟩ := ms_put h
  obtain ⟨e1, e2, e3⟩ := ms_fd h
  unfold msgV
  rw [e1, e2, e3, if_pos ⟨by have := h.k1; omega, by have := h.k4; omega, by rw [str_size]; omega⟩]
  have : (str (txtT (rowT (k : Int) b ns))).data.toList = txtT (rowT k b ns) := by simp [str]
  rw [this]
  rfl
theorem ms_size {k e : Nat} {b : ByteArray} {ns : List Nat} (h : MsOk k e b ns) : (msgV k e b ns).size ≤ 8200 ∧ 0 < (msgV k e b ns).size := by
  obtain ⟨h1, h2, h3, h4⟩ := ms_put h
  rw [ms_text h, str_size, frameL_length]
  omega
theorem ms_read {k e : Nat} {b : ByteArray} {ns : List Nat} (h : MsOk k e b ns) (hn : (ns.length : Int) = numK k) (hb : k ≠ 2 → b = ⟨#[]⟩) :
    okM (msgV k e b ns) ∧ pK (msgV k e b ns) = k ∧ pE (msgV k e b ns) = e ∧ msN (msgV k e b ns) = ns ∧ msB (msgV k e b ns) = b := by
  obtain ⟨h1, h2, h3, h4⟩ := ms_put h
  obtain ⟨e1, e2, e3⟩ := ms_fd h
  have hd : (str (txtT (rowT (k : Int) b ns))).data.toList = txtT (rowT k b ns) := by simp [str]
  obtain ⟨p1, p2, p3, p4⟩ := parse_frame k e (str (txtT (rowT k b ns))) h.k1 (by have := h.k4; omega) h.e (by rw [str_size]; omega) (msgV k e b ns) (by rw [ms_text h, hd])
  have hr := rdA_txt (rowT k b ns) [] h2 h3 (by rw [deep_row]; omega) (by simp; omega)
  rw [List.append_nil] at hr
  have hc : getC (pB (msgV k e b ns)) = 0 := by
    rw [p4]; unfold getC; rw [hr]; simp
  have ht : getT (pB (msgV k e b ns)) = rowT k b ns := by
    unfold getT
    rw [if_pos hc, p4, hr]
  have hk : kids (msgV k e b ns) = rowL k b ns := by unfold kids; rw [ht]; rfl
  have hN : msN (msgV k e b ns) = ns := by
    unfold msN; rw [hk]; unfold rowL; rw [prN_nums]
    split <;> simp [prN, strT]
  have hB : msB (msgV k e b ns) = b := by
    unfold msB; rw [hk]; unfold rowL; rw [prB_nums]
    split
    · simp [prB, strT]
    · rename_i hk2
      rw [hb (by omega)]; rfl
  refine ⟨⟨p1, hc, ?_, ?_, ?_, ?_⟩, p2, p3, hN, hB⟩
  · rw [hN, p2]; exact hn
  · rw [hN, hB, p2]; exact e1
  · rw [hN, hB, p2, p3]; exact e2
  · rw [hN, hB, p2, p4]; exact e3
end Go.Proofs.Ytdojepkmjifoeaa

namespace Go.Proofs.Ytdojepkmjifoeaa
open Go.RowKit

def adN (a b : Nat) : Nat := min (a + b) 18446744073709551615
theorem run53 (a b : Nat) (ha : a ≤ 18446744073709551615) (hb : b ≤ 18446744073709551615) (w : World) :
    (callFunc 53 #[.int .u64 (a : Int), .int .u64 (b : Int), .int .u64 0]).run Try.prog w = .ok (.value (.tuple #[.int .u64 (((a + b) % 18446744073709551616 : Nat) : Int), .int .u64 (((a + b) / 18446744073709551616 : Nat) : Int)])) w := by
  rw [run_callFunc_extern Try.func53 (by kernel_rfl) (by kernel_rfl) (by kernel_rfl) (e := add64Entry) (by kernel_rfl), run_add64 (a : Int) (b : Int) 0 (by omega) (by omega) (by omega) (by omega)]
  have e1 : ((a : Int) + b + 0) % 18446744073709551616 = (((a + b) % 18446744073709551616 : Nat) : Int) := by omega
  have e2 : ((a : Int) + b + 0) / 18446744073709551616 = (((a + b) / 18446744073709551616 : Nat) : Int) := by omega
  simp only [Result.andThen, e1, e2]
theorem wadd_any (a b : Nat) (ha : a ≤ 18446744073709551615) (hb : b ≤ 18446744073709551615) (w : World) : Calls Try.prog 31 #[.int .u64 (a : Int), .int .u64 (b : Int)] w fun e w' => e = .returned (.int .u64 (adN a b : Nat)) ∧ w = w' := by
  have hr := fun w => run53 a b ha hb w
  by_cases h : a + b ≤ 18446744073709551615
  · have e1 : (a + b) % 18446744073709551616 = adN a b := by unfold adN; omega
    have e2 : (a + b) / 18446744073709551616 = 0 := by omega
    rw [e1, e2] at hr
    generalize adN a b = s at *
    clear e1 e2 h ha hb
    go_enter Try.func31, Try.ntmps31
    go_wp2
    go_ret
    exact ⟨rfl, rfl⟩
  · have e1 : adN a b = 18446744073709551615 := by unfold adN; omega
    have e2 : (a + b) / 18446744073709551616 = 1 := by omega
    rw [e1]
    rw [e2] at hr
    generalize (a + b) % 18446744073709551616 = s at *
    clear e1 e2 h ha hb
    go_enter Try.func31, Try.ntmps31
    go_wp2
    go_ret
    exact ⟨rfl, rfl⟩

/-- A session. -/
structure Ss where
  e : Nat
  v : Nat
  n : Nat
  x : Nat
  r : ByteArray
  o : Bool
  b : Nat
  c : Nat
  t : Int
def Ss.l (s : Ss) : List Value := [.int .u64 (s.e : Int), .int .u64 (s.v : Int), .int .u64 (s.n : Int), .int .u64 (s.x : Int), .string s.r, .bool s.o, .int .u64 (s.b : Int), .int .u64 (s.c : Int), .int .i64 s.t]
def Ss.val (s : Ss) : Value := .agg #[.int .u64 (s.e : Int), .int .u64 (s.v : Int), .int .u64 (s.n : Int), .int .u64 (s.x : Int), .string s.r, .bool s.o, .int .u64 (s.b : Int), .int .u64 (s.c : Int), .int .i64 s.t]
structure Ss.ok (s : Ss) : Prop where
  e : s.e ≤ 18446744073709551615
  v : s.v ≤ 18446744073709551615
  n : s.n ≤ 18446744073709551615
  x : s.x ≤ 18446744073709551615
  r : s.r.size ≤ 1000000000
  b : s.b ≤ 18446744073709551615
  c : s.c ≤ 18446744073709551615
theorem nine {w : World} {g : Nat} {a0 a1 a2 a3 a4 a5 a6 a7 a8 : Value} {T : TypeId} (h : w.heap[g]? = some (.cells #[a0, a1, a2, a3, a4, a5, a6, a7, a8] T (0, 0))) : (w.cell? ⟨g, 0, none⟩ = some a0 ∧ w.cell? ⟨g, 1, none⟩ = some a1 ∧ w.cell? ⟨g, 2, none⟩ = some a2 ∧ w.cell? ⟨g, 3, none⟩ = some a3 ∧ w.cell? ⟨g, 4, none⟩ = some a4 ∧ w.cell? ⟨g, 5, none⟩ = some a5 ∧ w.cell? ⟨g, 6, none⟩ = some a6 ∧ w.cell? ⟨g, 7, none⟩ = some a7 ∧ w.cell? ⟨g, 8, none⟩ = some a8) ∧ (w.frozen? ⟨g, 0, none⟩ = false ∧ w.frozen? ⟨g, 1, none⟩ = false ∧ w.frozen? ⟨g, 2, none⟩ = false ∧ w.frozen? ⟨g, 3, none⟩ = false ∧ w.frozen? ⟨g, 4, none⟩ = false ∧ w.frozen? ⟨g, 5, none⟩ = false ∧ w.frozen? ⟨g, 6, none⟩ = false ∧ w.frozen? ⟨g, 7, none⟩ = false ∧ w.frozen? ⟨g, 8, none⟩ = false) := by
  have cc := fun (j : Nat) (v : Value) (hj : (#[a0, a1, a2, a3, a4, a5, a6, a7, a8] : Array Value)[j]? = some v) => (cell_of_row w g j _ _ _ h).trans hj
  have ff := fun (j : Nat) => frozen_of_row w g j _ _ h
  exact ⟨⟨cc 0 _ rfl, cc 1 _ rfl, cc 2 _ rfl, cc 3 _ rfl, cc 4 _ rfl, cc 5 _ rfl, cc 6 _ rfl, cc 7 _ rfl, cc 8 _ rfl⟩, ⟨ff 0, ff 1, ff 2, ff 3, ff 4, ff 5, ff 6, ff 7, ff 8⟩⟩
/-- What a block of nine cells holds. -/
def N9 (w : World) (g : Nat) (a0 a1 a2 a3 a4 a5 a6 a7 a8 : Value) : Prop := w.heap[g]? = some (.cells #[a0, a1, a2, a3, a4, a5, a6, a7, a8] 39 (0, 0))
theorem N9.later {w w' : World} {g : Nat} {a0 a1 a2 a3 a4 a5 a6 a7 a8 : Value} (h : N9 w g a0 a1 a2 a3 a4 a5 a6 a7 a8) (hb : Below w.heap.size w w') : N9 w' g a0 a1 a2 a3 a4 a5 a6 a7 a8 := (hb.block _ (lt_of_heap h)).trans h
theorem N9.new (w : World) (a0 a1 a2 a3 a4 a5 a6 a7 a8 : Value) : N9 (w.alloc (.cells #[a0, a1, a2, a3, a4, a5, a6, a7, a8] 39)) w.heap.size a0 a1 a2 a3 a4 a5 a6 a7 a8 := heap_alloc_new w _
theorem N9.lt {w : World} {g : Nat} {a0 a1 a2 a3 a4 a5 a6 a7 a8 : Value} (h : N9 w g a0 a1 a2 a3 a4 a5 a6 a7 a8) : g < w.heap.size := lt_of_heap h
theorem set9 {B : Nat} {w w' : World} {g : Nat} (hg : B ≤ g) (hb : Below B w w') (a0 a1 a2 a3 a4 a5 a6 a7 a8 : Value) : Below B w (((((((((w'.setCell ⟨g, 0, none⟩ a0).setCell ⟨g, 1, none⟩ a1).setCell ⟨g, 2, none⟩ a2).setCell ⟨g, 3, none⟩ a3).setCell ⟨g, 4, none⟩ a4).setCell ⟨g, 5, none⟩ a5).setCell ⟨g, 6, none⟩ a6).setCell ⟨g, 7, none⟩ a7).setCell ⟨g, 8, none⟩ a8) :=
  ((((((((hb.setCell hg _).setCell hg _).setCell hg _).setCell hg _).setCell hg _).setCell hg _).setCell hg _).setCell hg _).setCell hg _
set_option maxRecDepth 100000 in
set_option maxHeartbeats 4000000 in
theorem own_any (s : Ss) (hr : s.r.size ≤ 1000000000) (w : World) : Calls Try.prog 30 #[s.val] w fun e w' => e = .returned s.val ∧ Below w.heap.size w w' := by
  obtain ⟨e, v, n, x, r, o, b, c, t⟩ := s
  have K := Lib.hid (fun w => clone_any r w hr)
  clear hr
  unfold Ss.val
  simp only
  obtain ⟨w0, hw0⟩ : ∃ w0, w0 = (w.alloc (.cells #[.int .u64 (e : Int), .int .u64 (v : Int), .int .u64 (n : Int), .int .u64 (x : Int), .string r, .bool o, .int .u64 (b : Int), .int .u64 (c : Int), .int .i64 t] 39)).alloc (.cells #[.int .u64 0, .int .u64 0, .int .u64 0, .int .u64 0, .string ⟨#[]⟩, .bool false, .int .u64 0, .int .u64 0, .int .i64 0] 39) := ⟨_, rfl⟩
  have HB0 := Lib.hid (show Below w.heap.size w w0 by rw [hw0]; exact Bk.bt (alloc_below _ _))
  have HN0 := Lib.hid (show N9 w0 w.heap.size (.int .u64 (e : Int)) (.int .u64 (v : Int)) (.int .u64 (n : Int)) (.int .u64 (x : Int)) (.string r) (.bool o) (.int .u64 (b : Int)) (.int .u64 (c : Int)) (.int .i64 t) by rw [hw0]; exact (N9.new _ _ _ _ _ _ _ _ _ _).later (alloc_below _ _))
  have HM0 := Lib.hid (show N9 w0 (w.heap.size + 1) (.int .u64 0) (.int .u64 0) (.int .u64 0) (.int .u64 0) (.string ⟨#[]⟩) (.bool false) (.int .u64 0) (.int .u64 0) (.int .i64 0) by
    rw [hw0]; have h := N9.new (w.alloc (.cells #[.int .u64 (e : Int), .int .u64 (v : Int), .int .u64 (n : Int), .int .u64 (x : Int), .string r, .bool o, .int .u64 (b : Int), .int .u64 (c : Int), .int .i64 t] 39)) (.int .u64 0) (.int .u64 0) (.int .u64 0) (.int .u64 0) (.string ⟨#[]⟩) (.bool false) (.int .u64 0) (.int .u64 0) (.int .i64 0)
    have e : (w.alloc (.cells #[.int .u64 (e : Int), .int .u64 (v : Int), .int .u64 (n : Int), .int .u64 (x : Int), .string r, .bool o, .int .u64 (b : Int), .int .u64 (c : Int), .int .i64 t] 39)).heap.size = w.heap.size + 1 := by simp
    rw [e] at h; exact h)
  go_enter Try.func30, Try.ntmps30
  go_wp2_with fail
  rw [← hw0]
  clear hw0
  refine (K.out _).mono ?_
  rintro z w1 ⟨rfl, hb1⟩
  have HB1 := Lib.hid (HB0.out.trans (hb1.mono HB0.out.size))
  obtain ⟨⟨c0, c1, c2, c3, c4, c5, c6, c7, c8⟩, f0, f1, f2, f3, f4, f5, f6, f7, f8⟩ := nine (HN0.out.later hb1)
  obtain ⟨⟨d0, d1, d2, d3, d4, d5, d6, d7, d8⟩, g0, g1, g2, g3, g4, g5, g6, g7, g8⟩ := nine (HM0.out.later hb1)
  clear hb1
  go_wp2
  refine bodyPost_ret (v := .agg #[.int .u64 (e : Int), .int .u64 (v : Int), .int .u64 (n : Int), .int .u64 (x : Int), .string r, .bool o, .int .u64 (b : Int), .int .u64 (c : Int), .int .i64 t]) (by simp [results, Try.results30, go_sem, *]) rfl ⟨rfl, ?_⟩
  exact set9 (Nat.le_succ _) (HB1.out.setCell (p := ⟨w.heap.size, 4, none⟩) (Nat.le_refl _) _) _ _ _ _ _ _ _ _ _
end Go.Proofs.Ytdojepkmjifoeaa

namespace Go.Proofs.Ytdojepkmjifoeaa
open Go.RowKit

def knC (s : Ss) (ep nn : Nat) : Nat := if s.o = false then 18 else if ep ≠ s.e then 18 else if nn < s.n then 18 else if s.n < nn then 0 else if s.r = ⟨#[]⟩ then 18 else 11
def knR (s : Ss) (ep nn : Nat) : ByteArray := if knC s ep nn = 11 then s.r else ⟨#[]⟩
theorem nempty {r : ByteArray} (h : r ≠ ⟨#[]⟩) : r.toList.isEmpty = false := by
  rw [Lib.toList_data]
  cases hh : r.data.toList with
  | nil => exact absurd (ByteArray.ext (Array.ext' (by rw [hh]))) h
  | cons a l => rfl
set_option maxRecDepth 100000 in
set_option maxHeartbeats 4000000 in
theorem known_any (s : Ss) (ep nn : Nat) (hr : s.r.size ≤ 1000000000) (w : World) : Calls Try.prog 32 #[s.val, .int .u64 (ep : Int), .int .u64 (nn : Int)] w fun x w' => x = .returned (.tuple #[.string (knR s ep nn), .int .i64 (knC s ep nn : Nat)]) ∧ Below w.heap.size w w' := by
  obtain ⟨e, v, n, x, r, o, b, c, t⟩ := s
  have K := Lib.hid (fun w => clone_any r w hr)
  clear hr
  obtain ⟨⟨c0, c1, c2, c3, c4, c5, c6, c7, c8⟩, _⟩ := nine (N9.new w (.int .u64 (e : Int)) (.int .u64 (v : Int)) (.int .u64 (n : Int)) (.int .u64 (x : Int)) (.string r) (.bool o) (.int .u64 (b : Int)) (.int .u64 (c : Int)) (.int .i64 t))
  have HB := Lib.hid (alloc_below w (.cells #[.int .u64 (e : Int), .int .u64 (v : Int), .int .u64 (n : Int), .int .u64 (x : Int), .string r, .bool o, .int .u64 (b : Int), .int .u64 (c : Int), .int .i64 t] 39))
  by_cases h0 : o = false
  · have hC : knC ⟨e, v, n, x, r, o, b, c, t⟩ ep nn = 18 := by unfold knC; rw [if_pos h0]
    have hR : knR ⟨e, v, n, x, r, o, b, c, t⟩ ep nn = ⟨#[]⟩ := by unfold knR; rw [if_neg (by omega)]
    rw [hC, hR]
    clear hC hR
    subst h0
    unfold Ss.val
    simp only
    go_enter Try.func32, Try.ntmps32
    go_wp2
    all_goals
      go_ret2
      exact ⟨rfl, HB.out⟩
  by_cases h1 : ep = e
  · by_cases h2 : nn < n
    · have hC : knC ⟨e, v, n, x, r, o, b, c, t⟩ ep nn = 18 := by unfold knC; rw [if_neg h0, if_neg (by simpa using h1), if_pos h2]
      have hR : knR ⟨e, v, n, x, r, o, b, c, t⟩ ep nn = ⟨#[]⟩ := by unfold knR; rw [if_neg (by omega)]
      rw [hC, hR]
      clear hC hR
      obtain rfl : o = true := by simpa using h0
      subst h1
      have t2 : decide ((nn : Int) < (n : Int)) = true := by rw [decide_eq_true_iff]; omega
      unfold Ss.val
      simp only
      go_enter Try.func32, Try.ntmps32
      go_wp2
      all_goals
        go_ret2
        exact ⟨rfl, HB.out⟩
    · have t2 : decide ((nn : Int) < (n : Int)) = false := by rw [decide_eq_false_iff_not]; omega
      by_cases h3 : n < nn
      · have hC : knC ⟨e, v, n, x, r, o, b, c, t⟩ ep nn = 0 := by unfold knC; rw [if_neg h0, if_neg (by simpa using h1), if_neg h2, if_pos h3]
        have hR : knR ⟨e, v, n, x, r, o, b, c, t⟩ ep nn = ⟨#[]⟩ := by unfold knR; rw [if_neg (by omega)]
        rw [hC, hR]
        clear hC hR
        obtain rfl : o = true := by simpa using h0
        subst h1
        have t3 : (n : Int) < (nn : Int) := by omega
        unfold Ss.val
        simp only
        go_enter Try.func32, Try.ntmps32
        go_wp2
        all_goals
          go_ret2
          exact ⟨rfl, HB.out⟩
      · have h4 : nn = n := by omega
        by_cases h5 : r = ⟨#[]⟩
        · have hC : knC ⟨e, v, n, x, r, o, b, c, t⟩ ep nn = 18 := by unfold knC; rw [if_neg h0, if_neg (by simpa using h1), if_neg h2, if_neg h3, if_pos h5]
          have hR : knR ⟨e, v, n, x, r, o, b, c, t⟩ ep nn = ⟨#[]⟩ := by unfold knR; rw [if_neg (by omega)]
          rw [hC, hR]
          clear hC hR
          obtain rfl : o = true := by simpa using h0
          subst h1 h4 h5
          unfold Ss.val
          simp only
          go_enter Try.func32, Try.ntmps32
          go_wp2
          all_goals
            go_ret2
            exact ⟨rfl, HB.out⟩
        · have hC : knC ⟨e, v, n, x, r, o, b, c, t⟩ ep nn = 11 := by unfold knC; rw [if_neg h0, if_neg (by simpa using h1), if_neg h2, if_neg h3, if_neg h5]
          have hR : knR ⟨e, v, n, x, r, o, b, c, t⟩ ep nn = r := by unfold knR; rw [if_pos hC]
          rw [hC, hR]
          clear hC hR
          have t5 := nempty h5
          obtain rfl : o = true := by simpa using h0
          subst h1 h4
          unfold Ss.val
          simp only
          clear h2 h3 h5
          go_enter Try.func32, Try.ntmps32
          go_wp2_with (first | (go_at_call 34; ((with_reducible refine (K.out _).mono ?_); rintro z w1 ⟨rfl, hb1⟩)))
          all_goals
            go_ret2
            exact ⟨rfl, HB.out.trans (hb1.mono HB.out.size)⟩
  · have hC : knC ⟨e, v, n, x, r, o, b, c, t⟩ ep nn = 18 := by unfold knC; rw [if_neg h0, if_pos h1]
    have hR : knR ⟨e, v, n, x, r, o, b, c, t⟩ ep nn = ⟨#[]⟩ := by unfold knR; rw [if_neg (by omega)]
    rw [hC, hR]
    clear hC hR
    obtain rfl : o = true := by simpa using h0
    have t1 : ((ep : Int) == (e : Int)) = false := by rw [beq_eq_false_iff_ne]; omega
    unfold Ss.val
    simp only
    go_enter Try.func32, Try.ntmps32
    go_wp2
    all_goals
      go_ret2
      exact ⟨rfl, HB.out⟩
end Go.Proofs.Ytdojepkmjifoeaa
