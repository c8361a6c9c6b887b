/- codec.Get, out of what codec.read answers.; What codec.read does, plainly: a stack of lists under way.; The document's Next of values, of any text: what it answers where no list begins. -/
import Derived.Test.YtdojepkmjifoeaaJ18
import Derived.Test.YtdojepkmjifoeaaJ01
import Derived.Test.YtdojepkmjifoeaaJ03
import Derived.Test.YtdojepkmjifoeaaJ15
set_option linter.unusedVariables false
set_option linter.unusedSimpArgs false
namespace Go.Proofs.Ytdojepkmjifoeaa
open Go.RowKit

/-- A value, a rest, an error. -/
def crV (a b c d : Value) (r : ByteArray) (e : Nat) : Value := .tuple #[.agg #[a, b, c, d], .string r, .int .i64 (e : Int)]
def cgV (a b c d : Value) (e : Nat) : Value := .tuple #[.agg #[a, b, c, d], .int .i64 (e : Int)]
/-- The zero value's box, at the head of what is new. -/
def Zx (w wz : World) : Prop := wz.heap[w.heap.size]? = some (.cells #[.int .i64 0, .int .u64 0, .string ⟨#[]⟩, .slice none 0 0] 69 (0, 0)) ∧ Below w.heap.size w wz
theorem Zx.new (w : World) : Zx w (w.alloc (.cells #[.int .i64 0, .int .u64 0, .string ⟨#[]⟩, .slice none 0 0] 69)) := ⟨heap_alloc_new w _, alloc_below _ _⟩
theorem Zx.later {w wz w1 : World} (h : Zx w wz) (hb : Below wz.heap.size wz w1) : Zx w w1 := ⟨(hb.block _ (lt_of_heap h.1)).trans h.1, h.2.trans (hb.mono h.2.size)⟩
theorem Zx.cells {w wz : World} (h : Zx w wz) : wz.cell? ⟨w.heap.size, 0, none⟩ = some (.int .i64 0) ∧ wz.cell? ⟨w.heap.size, 1, none⟩ = some (.int .u64 0) ∧ wz.cell? ⟨w.heap.size, 2, none⟩ = some (.string ⟨#[]⟩) ∧ wz.cell? ⟨w.heap.size, 3, none⟩ = some (.slice none 0 0) ∧ wz.frozen? ⟨w.heap.size, 0, none⟩ = false ∧ wz.frozen? ⟨w.heap.size, 1, none⟩ = false ∧ wz.frozen? ⟨w.heap.size, 2, none⟩ = false ∧ wz.frozen? ⟨w.heap.size, 3, none⟩ = false := by
  refine ⟨?_, ?_, ?_, ?_, frozen_of_row wz _ 0 _ _ h.1, frozen_of_row wz _ 1 _ _ h.1, frozen_of_row wz _ 2 _ _ h.1, frozen_of_row wz _ 3 _ _ h.1⟩
  all_goals (rw [cell_of_row wz w.heap.size _ _ _ _ h.1]; rfl)
theorem Zx.put {w wz : World} (h : Below w.heap.size w wz) (a b c d : Value) : Below w.heap.size w ((((wz.setCell ⟨w.heap.size, 0, none⟩ a).setCell ⟨w.heap.size, 1, none⟩ b).setCell ⟨w.heap.size, 2, none⟩ c).setCell ⟨w.heap.size, 3, none⟩ d) :=
  have hle : w.heap.size ≤ w.heap.size := Nat.le_refl _
  (((h.setCell (p := ⟨w.heap.size, 0, none⟩) hle _).setCell (p := ⟨w.heap.size, 1, none⟩) hle _).setCell (p := ⟨w.heap.size, 2, none⟩) hle _).setCell (p := ⟨w.heap.size, 3, none⟩) hle _

set_option maxRecDepth 100000 in
set_option maxHeartbeats 1000000 in
theorem get_bad (s : ByteArray) (c : Nat) (hc0 : c ≠ 0)
    (h : ∀ w, Calls Try.prog 50 #[.string s] w fun x w' => x = .returned (crV (.int .i64 0) (.int .u64 0) (.string ⟨#[]⟩) (.slice none 0 0) ⟨#[]⟩ c) ∧ Below w.heap.size w w') (w : World) :
    Calls Try.prog 25 #[.string s] w fun x w' => x = .returned (cgV (.int .i64 0) (.int .u64 0) (.string ⟨#[]⟩) (.slice none 0 0) c) ∧ Below w.heap.size w w' := by
  have hq : ((c : Int) != 0) = true := by rw [bne_iff_ne]; omega
  have K1 := Lib.hid h
  have Z0 := Lib.hid (Zx.new w)
  clear h hc0
  go_enter Try.func25, Try.ntmps25
  go_wp2_with fail
  refine (K1.out _).mono ?_
  rintro x w2 ⟨rfl, hb2⟩
  have Z2 := Lib.hid ((Z0.out.later hb2).later (alloc_below w2 (.cells #[.int .i64 0, .int .u64 0, .string ⟨#[]⟩, .slice none 0 0] 69)))
  obtain ⟨c0, c1, c2, c3, f0, f1, f2, f3⟩ := Z2.out.cells
  have hst := store27 w2 0 0 ⟨#[]⟩ none 0 0
  clear hb2
  unfold crV
  go_wp2
  refine bodyPost_ret (v := cgV (.int .i64 0) (.int .u64 0) (.string ⟨#[]⟩) (.slice none 0 0) c) (by simp [results, Try.results25, go_sem, cgV, *]) rfl ⟨rfl, ?_⟩
  exact Zx.put Z2.out.2 _ _ _ _

set_option maxRecDepth 100000 in
set_option maxHeartbeats 1000000 in
theorem get_fine (s : ByteArray) (t : Tr)
    (h : ∀ w, Calls Try.prog 50 #[.string s] w fun x w' => ∃ d0 d1 d2 d3, x = .returned (crV d0 d1 d2 d3 ⟨#[]⟩ 0) ∧ VInP w' (fun b => w.heap.size ≤ b) t d0 d1 d2 d3 ∧ Below w.heap.size w w') (w : World) :
    Calls Try.prog 25 #[.string s] w fun x w' => ∃ d0 d1 d2 d3, x = .returned (cgV d0 d1 d2 d3 0) ∧ VInP w' (fun b => w.heap.size ≤ b) t d0 d1 d2 d3 ∧ Below w.heap.size w w' := by
  have K1 := Lib.hid h
  have Z0 := Lib.hid (Zx.new w)
  have HLT := Lib.hid (alloc_lt w (.cells #[.int .i64 0, .int .u64 0, .string ⟨#[]⟩, .slice none 0 0] 69))
  clear h
  go_enter Try.func25, Try.ntmps25
  go_wp2_with fail
  refine (K1.out _).mono ?_
  rintro x w2 ⟨d0, d1, d2, d3, rfl, hv, hb2⟩
  obtain ⟨k, n, v, o, len, cap, rfl, rfl, rfl, rfl⟩ := hv.cells
  have Z2 := Lib.hid ((Z0.out.later hb2).later (alloc_below w2 (.cells #[.int .i64 k, .int .u64 (n : Int), .string v, .slice o len cap] 69)))
  obtain ⟨c0, c1, c2, c3, f0, f1, f2, f3⟩ := Z2.out.cells
  obtain ⟨e0, e1, e2, e3⟩ := four_new w2 (.int .i64 k) (.int .u64 (n : Int)) (.string v) (.slice o len cap) 69
  have hst := store27 w2 k n v o len cap
  have HV := Lib.hid hv
  have HB2 := Lib.hid hb2
  clear hb2 hv
  unfold crV
  go_wp2
  refine bodyPost_ret (v := cgV (.int .i64 k) (.int .u64 (n : Int)) (.string v) (.slice o len cap) 0) (by simp [results, Try.results25, go_sem, cgV, *]) rfl ⟨_, _, _, _, rfl, ?_, ?_⟩
  · refine VInP.keep (by simp) (fun b' hb' hP => ⟨?_, ?_⟩) _ HV.out
    · have hne : b' ≠ w.heap.size := by have := HLT.out; omega
      rw [setfour b' hne]
      exact (alloc_below w2 _).block b' hb'
    · have := HLT.out; omega
  · exact Zx.put Z2.out.2 _ _ _ _

set_option maxRecDepth 100000 in
set_option maxHeartbeats 1000000 in
theorem get_form (s r : ByteArray) (hr : 1 ≤ r.size)
    (h : ∀ w, Calls Try.prog 50 #[.string s] w fun x w' => ∃ (k : Int) (n : Nat) (v : ByteArray) (o : Option Addr) (len cap : Nat), x = .returned (crV (.int .i64 k) (.int .u64 (n : Int)) (.string v) (.slice o len cap) r 0) ∧ Below w.heap.size w w') (w : World) :
    Calls Try.prog 25 #[.string s] w fun x w' => x = .returned (cgV (.int .i64 0) (.int .u64 0) (.string ⟨#[]⟩) (.slice none 0 0) 4) ∧ Below w.heap.size w w' := by
  have hq := empty_no r hr
  have hq2 : (!r.toList.isEmpty) = true := by rw [hq]; rfl
  have K1 := Lib.hid h
  have Z0 := Lib.hid (Zx.new w)
  clear h hr
  go_enter Try.func25, Try.ntmps25
  go_wp2_with fail
  refine (K1.out _).mono ?_
  rintro x w2 ⟨k, n, v, o, len, cap, rfl, hb2⟩
  have Z2 := Lib.hid ((Z0.out.later hb2).later (alloc_below w2 (.cells #[.int .i64 k, .int .u64 (n : Int), .string v, .slice o len cap] 69)))
  obtain ⟨c0, c1, c2, c3, f0, f1, f2, f3⟩ := Z2.out.cells
  have hst := store27 w2 k n v o len cap
  clear hb2
  unfold crV
  go_wp2
  refine bodyPost_ret (v := cgV (.int .i64 0) (.int .u64 0) (.string ⟨#[]⟩) (.slice none 0 0) 4) (by simp [results, Try.results25, go_sem, cgV, *]) rfl ⟨rfl, ?_⟩
  exact Zx.put Z2.out.2 _ _ _ _

end Go.Proofs.Ytdojepkmjifoeaa

namespace Go.Proofs.Ytdojepkmjifoeaa
open Go.RowKit

def t0 : Tr := .mk 0 0 ⟨#[]⟩ []
/-- Where it stands: at a value's beginning, behind a value, with a value in hand. -/
inductive Md where
  | v : Md
  | n : Md
  | w : Tr → Md
def Md.rk : Md → Nat
  | .v => 0
  | .n => 1
  | .w _ => 2
def rd (m : Md) (st : List (Nat × List Tr)) (s : List UInt8) : Nat × Tr × List UInt8 :=
  match m, st, s with
  | .v, _, [] => (3, t0, [])
  | .v, st, k :: s1 =>
    if k.toNat < 1 ∨ 3 < k.toNat then (10, t0, [])
    else if (lngA 0 0 s1).2.2 ≠ 0 then ((lngA 0 0 s1).2.2, t0, [])
    else if k.toNat = 1 then rd (.w (.mk 1 (lngA 0 0 s1).1 ⟨#[]⟩ [])) st (s1.drop (lngA 0 0 s1).2.1)
    else if k.toNat = 2 then
      if (s1.drop (lngA 0 0 s1).2.1).length < (lngA 0 0 s1).1 then (3, t0, [])
      else rd (.w (.mk 2 0 (str ((s1.drop (lngA 0 0 s1).2.1).take (lngA 0 0 s1).1)) [])) st ((s1.drop (lngA 0 0 s1).2.1).drop (lngA 0 0 s1).1)
    else if st.length = 6 then (8, t0, [])
    else rd .n (((lngA 0 0 s1).1, []) :: st) (s1.drop (lngA 0 0 s1).2.1)
  | .n, [], _ => (0, t0, [])
  | .n, (0, h) :: st, s => rd (.w (.mk 3 0 ⟨#[]⟩ h)) st s
  | .n, (k + 1, h) :: st, s => rd .v ((k + 1, h) :: st) s
  | .w t, [], s => (0, t, s)
  | .w t, (k, h) :: st, s => rd .n ((k - 1, h ++ [t]) :: st) s
termination_by (s.length, st.length, m.rk)
decreasing_by
  all_goals simp_wf
  all_goals first
    | (apply Prod.Lex.left; (try simp only [List.length_drop]); omega)
    | (apply Prod.Lex.right; apply Prod.Lex.left; simp; done)
    | (apply Prod.Lex.right; apply Prod.Lex.right; simp [Md.rk]; done)

mutual
/-- Numbers, texts and lists that a machine holds. -/
def okT : Tr → Prop
  | .mk _ n s l => n ≤ 18446744073709551615 ∧ s.size ≤ 1000000000 ∧ l.length ≤ 1000000 ∧ okL l
def okL : List Tr → Prop
  | [] => True
  | t :: ts => okT t ∧ okL ts
end
theorem rd_push (t : Tr) (k : Nat) (h : List Tr) (st : List (Nat × List Tr)) (s : List UInt8) : rd (.w t) ((k, h) :: st) s = rd .n ((k - 1, h ++ [t]) :: st) s := by rw [rd]
theorem rd_more (k : Nat) (h : List Tr) (st : List (Nat × List Tr)) (s : List UInt8) : rd .n ((k + 1, h) :: st) s = rd .v ((k + 1, h) :: st) s := by rw [rd]
theorem rd_none (h : List Tr) (st : List (Nat × List Tr)) (s : List UInt8) : rd .n ((0, h) :: st) s = rd (.w (.mk 3 0 ⟨#[]⟩ h)) st s := by rw [rd]

theorem empty_ba (s : ByteArray) (h : s.size = 0) : s = ⟨#[]⟩ := by
  cases s with | mk d => congr 1; exact Array.eq_empty_of_size_eq_zero h

theorem rd_list (st : List (Nat × List Tr)) (rest : List UInt8) : ∀ (l h : List Tr), (∀ x ∈ l, ∀ st2 rest2, st2.length = st.length + 1 → rd .v st2 (txtT x ++ rest2) = rd (.w x) st2 rest2) →
    rd .n ((l.length, h) :: st) (txtL l ++ rest) = rd (.w (.mk 3 0 ⟨#[]⟩ (h ++ l))) st rest
  | [], h, _ => by
    unfold txtL
    rw [List.length_nil, rd_none, List.nil_append, List.append_nil]
  | x :: xs, h, ih => by
    unfold txtL
    rw [List.length_cons, rd_more, List.append_assoc, ih x (by simp) _ _ (by simp), rd_push, Nat.add_sub_cancel]
    rw [rd_list st rest xs (h ++ [x]) (fun y hy => ih y (by simp [hy]))]
    simp
theorem okL_mem : ∀ (l : List Tr), okL l → ∀ x ∈ l, okT x
  | [], _, _, h => by cases h
  | t :: ts, h, x, hx => by
    unfold okL at h
    rcases List.mem_cons.1 hx with rfl | hx
    · exact h.1
    · exact okL_mem ts h.2 x hx
theorem deepL_mem : ∀ (l : List Tr), ∀ x ∈ l, deepT x ≤ deepL l
  | [], _, h => by cases h
  | t :: ts, x, hx => by
    unfold deepL
    rcases List.mem_cons.1 hx with rfl | hx
    · omega
    · have := deepL_mem ts x hx; omega
/-- What is written is read. -/
theorem rd_txt : ∀ (t : Tr), sndT t = true → okT t → ∀ (st : List (Nat × List Tr)) (rest : List UInt8), deepT t + st.length ≤ 6 → rd .v st (txtT t ++ rest) = rd (.w t) st rest := by
  refine Tr.ind ?_
  intro k n s l ih hs hok st rest hd
  unfold sndT at hs
  simp only [Bool.and_eq_true, Bool.or_eq_true, decide_eq_true_eq] at hs
  obtain ⟨⟨⟨⟨⟨k1, k3⟩, hn⟩, hsz⟩, hl⟩, hsl⟩ := hs
  unfold okT at hok
  obtain ⟨on, os, ol, oll⟩ := hok
  have hk : k = 1 ∨ k = 2 ∨ k = 3 := by omega
  rcases hk with rfl | rfl | rfl
  · obtain rfl : s = ⟨#[]⟩ := empty_ba s (by omega)
    obtain rfl : l = [] := List.eq_nil_of_length_eq_zero (by omega)
    unfold txtT
    rw [if_pos rfl, List.cons_append, rd]
    rw [lngA_ok n rest on]
    rw [if_neg (by decide), if_neg (by simp), if_pos (by decide)]
    simp
  · obtain rfl : n = 0 := by omega
    obtain rfl : l = [] := List.eq_nil_of_length_eq_zero (by omega)
    unfold txtT
    rw [if_neg (by decide), if_pos rfl, List.cons_append, rd, List.append_assoc]
    rw [lngA_ok s.size _ (by omega)]
    rw [if_neg (by decide), if_neg (by simp), if_neg (by decide), if_pos (by decide)]
    have hsl : s.data.toList.length = s.size := by simp
    simp only [List.drop_left']
    rw [if_neg (by rw [List.length_append, hsl]; omega), ← hsl, List.take_left', List.drop_left']
    all_goals simp [str]
  · obtain rfl : n = 0 := by omega
    obtain rfl : s = ⟨#[]⟩ := empty_ba s (by omega)
    unfold deepT at hd
    rw [if_pos rfl] at hd
    unfold txtT
    rw [if_neg (by decide), if_neg (by decide), List.cons_append, rd, List.append_assoc]
    rw [lngA_ok l.length _ (by omega)]
    rw [if_neg (by decide), if_neg (by simp), if_neg (by decide), if_neg (by decide), if_neg (by omega)]
    simp only [List.drop_left']
    rw [rd_list st rest l [] ?_]
    · rfl
    · intro x hx st2 rest2 h2
      refine ih x hx ?_ (okL_mem l oll x hx) st2 rest2 ?_
      · rw [sndL_all, List.all_eq_true] at hsl
        exact hsl x hx
      · have := deepL_mem l x hx
        omega
end Go.Proofs.Ytdojepkmjifoeaa

namespace Go.Proofs.Ytdojepkmjifoeaa
open Go.RowKit

/-- What the document's Next answers: a value in memory, the place behind it, the error. -/
def NxR (s : ByteArray) (p d : Nat) (w : World) (e : Ending) (w' : World) : Prop :=
  Below w.heap.size w w' ∧ ∃ (c p' : Nat) (t : Tr) (c0 c1 c2 c3 : Value), e = .returned (.tuple #[.agg #[c0, c1, c2, c3], .int .i64 (p' : Int), .int .i64 (c : Int)]) ∧ VInP w' (fun b => w.heap.size ≤ b) t c0 c1 c2 c3 ∧
    (c ≠ 0 → ∀ st, st.length = d → rd .v st (s.data.toList.drop p) = (c, t0, [])) ∧
    (c = 0 → p < p' ∧ p' ≤ s.size ∧ ∀ st, st.length = d → rd .v st (s.data.toList.drop p) = rd (.w t) st (s.data.toList.drop p'))
theorem vin_t0 (w : World) (P : Nat → Prop) : VInP w P t0 (.int .i64 0) (.int .u64 0) (.string ⟨#[]⟩) (.slice none 0 0) := by
  unfold t0 VInP
  refine ⟨rfl, rfl, by omega, rfl, ⟨by decide, by decide⟩, none, 0, 0, 0, rfl, fun h => absurd h (by simp), ?_⟩
  unfold VInPL; trivial
theorem NxR.bad {s : ByteArray} {p d : Nat} {w w' : World} (c : Nat) (hc : c ≠ 0) (hb : Below w.heap.size w w') (h : ∀ st, st.length = d → rd .v st (s.data.toList.drop p) = (c, t0, [])) : NxR s p d w (.returned (.tuple #[.agg #[.int .i64 0, .int .u64 0, .string ⟨#[]⟩, .slice none 0 0], .int .i64 0, .int .i64 (c : Int)])) w' :=
  ⟨hb, c, 0, t0, _, _, _, _, rfl, vin_t0 w' _, fun _ => h, fun h0 => absurd h0 hc⟩
theorem rd_nil (st : List (Nat × List Tr)) : rd .v st [] = (3, t0, []) := by rw [rd]
theorem rd_kind (st : List (Nat × List Tr)) (k : UInt8) (l : List UInt8) (h : k.toNat < 1 ∨ 3 < k.toNat) : rd .v st (k :: l) = (10, t0, []) := by rw [rd, if_pos h]
theorem rd_lng (st : List (Nat × List Tr)) (k : UInt8) (l : List UInt8) (h : ¬ (k.toNat < 1 ∨ 3 < k.toNat)) (h2 : (lngA 0 0 l).2.2 ≠ 0) : rd .v st (k :: l) = ((lngA 0 0 l).2.2, t0, []) := by rw [rd, if_neg h, if_pos h2]
theorem rd_num (st : List (Nat × List Tr)) (k : UInt8) (l : List UInt8) (h : k.toNat = 1) (h2 : (lngA 0 0 l).2.2 = 0) : rd .v st (k :: l) = rd (.w (.mk 1 (lngA 0 0 l).1 ⟨#[]⟩ [])) st (l.drop (lngA 0 0 l).2.1) := by rw [rd, if_neg (by omega), if_neg (by simpa using h2), if_pos h]
theorem rd_short (st : List (Nat × List Tr)) (k : UInt8) (l : List UInt8) (h : k.toNat = 2) (h2 : (lngA 0 0 l).2.2 = 0) (h3 : (l.drop (lngA 0 0 l).2.1).length < (lngA 0 0 l).1) : rd .v st (k :: l) = (3, t0, []) := by rw [rd, if_neg (by omega), if_neg (by simpa using h2), if_neg (by omega), if_pos h, if_pos h3]
theorem rd_str (st : List (Nat × List Tr)) (k : UInt8) (l : List UInt8) (h : k.toNat = 2) (h2 : (lngA 0 0 l).2.2 = 0) (h3 : ¬ (l.drop (lngA 0 0 l).2.1).length < (lngA 0 0 l).1) : rd .v st (k :: l) = rd (.w (.mk 2 0 (str ((l.drop (lngA 0 0 l).2.1).take (lngA 0 0 l).1)) [])) st ((l.drop (lngA 0 0 l).2.1).drop (lngA 0 0 l).1) := by rw [rd, if_neg (by omega), if_neg (by simpa using h2), if_neg (by omega), if_pos h, if_neg h3]
theorem rd_deep (st : List (Nat × List Tr)) (k : UInt8) (l : List UInt8) (h : k.toNat = 3) (h2 : (lngA 0 0 l).2.2 = 0) (h3 : st.length = 6) : rd .v st (k :: l) = (8, t0, []) := by rw [rd, if_neg (by omega), if_neg (by simpa using h2), if_neg (by omega), if_neg (by omega), if_pos h3]
theorem rd_open (st : List (Nat × List Tr)) (k : UInt8) (l : List UInt8) (h : k.toNat = 3) (h2 : (lngA 0 0 l).2.2 = 0) (h3 : st.length ≠ 6) : rd .v st (k :: l) = rd .n (((lngA 0 0 l).1, []) :: st) (l.drop (lngA 0 0 l).2.1) := by rw [rd, if_neg (by omega), if_neg (by simpa using h2), if_neg (by omega), if_neg (by omega), if_neg h3]
theorem lng_le : ∀ (l : List UInt8) (acc j : Nat), j ≤ 10 → acc < 128 ^ j → (lngA acc j l).1 ≤ 18446744073709551615 ∧ (lngA acc j l).2.1 ≤ j + l.length ∧ ((lngA acc j l).2.2 = 0 → j < (lngA acc j l).2.1) ∧ (lngA acc j l).2.2 ≤ 4
  | [], acc, j, hj, _ => by
    rw [lngA]
    by_cases h : j = 10
    · rw [if_pos h]; simp
    · rw [if_neg h]; simp
  | c :: cs, acc, j, hj, hacc => by
    rw [lngA]
    by_cases h : j = 10
    · rw [if_pos h]; simp
    · rw [if_neg h]
      by_cases h1 : 128 ≤ c.toNat
      · rw [if_pos h1]
        have ih := lng_le cs (acc + 128 ^ j * (c.toNat % 128)) (j + 1) (by omega) (by
          have : 128 ^ j * (c.toNat % 128) ≤ 128 ^ j * 127 := Nat.mul_le_mul_left _ (by omega)
          rw [Nat.pow_succ]; omega)
        refine ⟨ih.1, ?_, fun h => ?_, ih.2.2.2⟩
        · have := ih.2.1; simp only [List.length_cons]; omega
        · have := ih.2.2.1 h; omega
      · rw [if_neg h1]
        by_cases h2 : 0 < j ∧ c.toNat = 0
        · rw [if_pos h2]; simp
        · rw [if_neg h2]
          by_cases h3 : j = 9 ∧ 1 < c.toNat
          · rw [if_pos h3]; simp
          · rw [if_neg h3]
            refine ⟨?_, by simp only [List.length_cons]; omega, fun _ => by simp, by simp⟩
            show acc + 128 ^ j * c.toNat ≤ _
            have hj9 : j ≤ 9 := by omega
            rcases Nat.lt_or_ge j 9 with h8 | h8
            · have e : (128 : Nat) ^ (j + 1) ≤ 128 ^ 9 := Nat.pow_le_pow_right (by omega) (by omega)
              have e9 : (128 : Nat) ^ 9 = 9223372036854775808 := by rfl
              have : 128 ^ j * c.toNat ≤ 128 ^ j * 127 := Nat.mul_le_mul_left _ (by omega)
              rw [Nat.pow_succ] at e
              omega
            · have e : j = 9 := by omega
              subst e
              have e9 : (128 : Nat) ^ 9 = 9223372036854775808 := by rfl
              rw [e9] at hacc ⊢
              omega
/-- A block of a value's four cells. -/
theorem four_of {w : World} {g : Nat} {a0 a1 a2 a3 : Value} {T : TypeId} (h : w.heap[g]? = some (.cells #[a0, a1, a2, a3] T (0, 0))) : (w.cell? ⟨g, 0, none⟩ = some a0 ∧ w.cell? ⟨g, 1, none⟩ = some a1 ∧ w.cell? ⟨g, 2, none⟩ = some a2 ∧ w.cell? ⟨g, 3, none⟩ = some a3) ∧ (w.frozen? ⟨g, 0, none⟩ = false ∧ w.frozen? ⟨g, 1, none⟩ = false ∧ w.frozen? ⟨g, 2, none⟩ = false ∧ w.frozen? ⟨g, 3, none⟩ = false) := by
  have cc := fun (j : Nat) (v : Value) (hj : (#[a0, a1, a2, a3] : Array Value)[j]? = some v) => (cell_of_row w g j _ _ _ h).trans hj
  exact ⟨⟨cc 0 _ rfl, cc 1 _ rfl, cc 2 _ rfl, cc 3 _ rfl⟩, frozen_of_row w g 0 _ _ h, frozen_of_row w g 1 _ _ h, frozen_of_row w g 2 _ _ h, frozen_of_row w g 3 _ _ h⟩
/-- The answer's box, and the value's. -/
structure F2 (w : World) (g6 g9 : Nat) (a0 a1 a2 a3 : Value) (wz : World) : Prop where
  z : wz.heap[g6]? = some (.cells #[.int .i64 0, .int .u64 0, .string ⟨#[]⟩, .slice none 0 0] 62 (0, 0))
  v : wz.heap[g9]? = some (.cells #[a0, a1, a2, a3] 62 (0, 0))
  b : Below w.heap.size w wz
  g : w.heap.size ≤ g6 ∧ g6 < g9
theorem F2.later {w wz w1 : World} {g6 g9 : Nat} {a0 a1 a2 a3 : Value} (h : F2 w g6 g9 a0 a1 a2 a3 wz) (hb : Below wz.heap.size wz w1) : F2 w g6 g9 a0 a1 a2 a3 w1 :=
  ⟨(hb.block _ (lt_of_heap h.z)).trans h.z, (hb.block _ (lt_of_heap h.v)).trans h.v, h.b.trans (hb.mono h.b.size), h.g⟩
theorem F2.new (w : World) (a0 a1 a2 a3 : Value) : F2 w w.heap.size (w.heap.size + 1) a0 a1 a2 a3 ((w.alloc (.cells #[.int .i64 0, .int .u64 0, .string ⟨#[]⟩, .slice none 0 0] 62)).alloc (.cells #[a0, a1, a2, a3] 62)) := by
  have e : (w.alloc (.cells #[.int .i64 0, .int .u64 0, .string ⟨#[]⟩, .slice none 0 0] 62)).heap.size = w.heap.size + 1 := by simp
  refine ⟨?_, ?_, ((Below.refl _ _).alloc (Nat.le_refl _) _).alloc (by omega) _, Nat.le_refl _, by omega⟩
  · exact (heap_alloc_old _ _ (by omega)).trans (heap_alloc_new w _)
  · rw [← e]; exact heap_alloc_new _ _
theorem below4 {w wz : World} {g : Nat} (h : Below w.heap.size w wz) (hg : w.heap.size ≤ g) (a b c d : Value) : Below w.heap.size w ((((wz.setCell ⟨g, 0, none⟩ a).setCell ⟨g, 1, none⟩ b).setCell ⟨g, 2, none⟩ c).setCell ⟨g, 3, none⟩ d) :=
  (((h.setCell hg _).setCell hg _).setCell hg _).setCell hg _
set_option maxRecDepth 1000000 in
set_option maxHeartbeats 2000000 in
theorem nx_end (s : ByteArray) (hmax : s.size ≤ 1000000000) (p d : Nat) (hp : s.size ≤ p) (hp2 : p ≤ 1000000000) (w : World) : Calls Try.prog 29 #[.string s, .int .i64 (p : Int), .int .i64 (d : Int)] w fun e w' => NxR s p d w e w' := by
  have hpi : (s.size : Int) ≤ (p : Int) := by omega
  have HR : Hid (∀ w' : World, Below w.heap.size w w' → NxR s p d w (.returned (.tuple #[.agg #[.int .i64 0, .int .u64 0, .string ⟨#[]⟩, .slice none 0 0], .int .i64 0, .int .i64 ((3 : Nat) : Int)])) w') := Lib.hid (fun w' hb => NxR.bad 3 (by decide) hb (fun st _ => by rw [List.drop_eq_nil_of_le (by simpa using hp)]; exact rd_nil st))
  go_enter Try.func29, Try.ntmps29
  go_wp2
  exact bodyPost_ret (v := .tuple #[.agg #[.int .i64 0, .int .u64 0, .string ⟨#[]⟩, .slice none 0 0], .int .i64 0, .int .i64 3]) (by simp [results, Try.results29, go_sem]) rfl (HR.out _ ((Below.refl _ _).alloc (Nat.le_refl _) _))
set_option maxRecDepth 1000000 in
set_option maxHeartbeats 2000000 in
theorem nx_kind (s : ByteArray) (hmax : s.size ≤ 1000000000) (p d : Nat) (hp : p < s.size) (hk : s[p].toNat < 1 ∨ 3 < s[p].toNat) (w : World) : Calls Try.prog 29 #[.string s, .int .i64 (p : Int), .int .i64 (d : Int)] w fun e w' => NxR s p d w e w' := by
  have HR : Hid (∀ w' : World, Below w.heap.size w w' → NxR s p d w (.returned (.tuple #[.agg #[.int .i64 0, .int .u64 0, .string ⟨#[]⟩, .slice none 0 0], .int .i64 0, .int .i64 ((10 : Nat) : Int)])) w') := Lib.hid (fun w' hb => NxR.bad 10 (by decide) hb (fun st _ => by rw [drop_one s p hp]; exact rd_kind st _ _ hk))
  obtain ⟨k, hkk⟩ : ∃ k, s[p].toNat = k := ⟨_, rfl⟩
  have hk256 : k < 256 := by rw [← hkk]; exact s[p].toNat_lt
  rw [hkk] at hk
  rcases hk with h1 | h1
  · obtain rfl : k = 0 := by omega
    go_enter Try.func29, Try.ntmps29
    go_wp2
    exact bodyPost_ret (v := .tuple #[.agg #[.int .i64 0, .int .u64 0, .string ⟨#[]⟩, .slice none 0 0], .int .i64 0, .int .i64 10]) (by simp [results, Try.results29, go_sem]) rfl (HR.out _ (((Below.refl _ _).alloc (Nat.le_refl _) _).alloc (by simp) _))
  · have h1i : (3 : Int) < (k : Int) := by omega
    have h0i : ¬ (k : Int) < 1 := by omega
    go_enter Try.func29, Try.ntmps29
    go_wp2
    exact bodyPost_ret (v := .tuple #[.agg #[.int .i64 0, .int .u64 0, .string ⟨#[]⟩, .slice none 0 0], .int .i64 0, .int .i64 10]) (by simp [results, Try.results29, go_sem]) rfl (HR.out _ (((Below.refl _ _).alloc (Nat.le_refl _) _).alloc (by simp) _))
end Go.Proofs.Ytdojepkmjifoeaa
