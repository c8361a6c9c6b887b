/- The document's Read of messages, of any text. -/
import Derived.Test.YtdojepkmjifoeaaJ34
import Derived.Test.YtdojepkmjifoeaaJ36
import Derived.Deep.QuietTactic
import Derived.BigQuiet
set_option linter.unusedVariables false
set_option linter.unusedSimpArgs false
namespace Go.Proofs.Ytdojepkmjifoeaa
open Go.RowKit

def rrBad : Value := .tuple #[.int .i64 0, .int .u64 0, .slice none 0 0, .string ⟨#[]⟩]
/-- What the document's Read answers. -/
def RrR (s : ByteArray) (w : World) (r : Ending) (w' : World) : Prop :=
  Below w.heap.size w w' ∧ ((∃ b ns ρ o cap, okR s b ns ∧ r = .returned (.tuple #[.int .i64 (kindS s : Int), .int .u64 (epS s : Int), .slice o ns.length cap, .string b]) ∧ NRow ρ o cap ns w') ∨ ((¬ ∃ b ns, okR s b ns) ∧ r = .returned rrBad))
/-- A frame's box. -/
def F3 (w : World) (g : Nat) (k e : Nat) (b : ByteArray) : Prop := w.heap[g]? = some (.cells #[.int .i64 (k : Int), .int .u64 (e : Int), .string b] 66 (0, 0))
theorem F3.cells {w : World} {g k e : Nat} {b : ByteArray} (h : F3 w g k e b) : w.cell? ⟨g, 0, none⟩ = some (.int .i64 (k : Int)) ∧ w.cell? ⟨g, 1, none⟩ = some (.int .u64 (e : Int)) ∧ w.cell? ⟨g, 2, none⟩ = some (.string b) := by
  have cc := fun (j : Nat) (v : Value) (hj : (#[.int .i64 (k : Int), .int .u64 (e : Int), .string b] : Array Value)[j]? = some v) => (cell_of_row w g j _ _ _ h).trans hj
  exact ⟨cc 0 _ rfl, cc 1 _ rfl, cc 2 _ rfl⟩
theorem F3.later {w w' : World} {g k e : Nat} {b : ByteArray} (h : F3 w g k e b) (hb : Below w.heap.size w w') : F3 w' g k e b := (hb.block _ (lt_of_heap h)).trans h
theorem F3.new (w : World) (k e : Nat) (b : ByteArray) : F3 (w.alloc (.cells #[.int .i64 (k : Int), .int .u64 (e : Int), .string b] 66)) w.heap.size k e b := heap_alloc_new w _
theorem bel' {w w1 w2 : World} (h : Below w.heap.size w w1) (h2 : Below w1.heap.size w1 w2) : Below w.heap.size w w2 := h.trans (h2.mono h.size)
def kOf : Tr → Int
  | .mk k _ _ _ => k
def nOf : Tr → Nat
  | .mk _ n _ _ => n
def sOf : Tr → ByteArray
  | .mk _ _ s _ => s
def lOf : Tr → List Tr
  | .mk _ _ _ l => l
theorem vcell {w : World} {P : Nat → Prop} {t : Tr} {c0 c1 c2 c3 : Value} (h : VInP w P t c0 c1 c2 c3) : c0 = .int .i64 (kOf t) ∧ c1 = .int .u64 (nOf t : Int) ∧ nOf t ≤ 18446744073709551615 ∧ c2 = .string (sOf t) := by
  obtain ⟨k, n, s, l⟩ := t
  unfold VInP at h
  exact ⟨h.1, h.2.1, h.2.2.1, h.2.2.2.1⟩
/-- A value's box. -/
def F4 (w : World) (g : Nat) (a0 a1 a2 a3 : Value) : Prop := w.heap[g]? = some (.cells #[a0, a1, a2, a3] 62 (0, 0))
theorem F4.later {w w' : World} {g : Nat} {a0 a1 a2 a3 : Value} (h : F4 w g a0 a1 a2 a3) (hb : Below w.heap.size w w') : F4 w' g a0 a1 a2 a3 := (hb.block _ (lt_of_heap h)).trans h
theorem cn1_num {y : Tr} (h : cn1 y) (hk : kOf y = 1) : y = numT (nOf y) := by
  rcases h with ⟨n, _, rfl⟩ | ⟨b, rfl⟩ | ⟨l, rfl⟩
  · rfl
  · simp [kOf, strT] at hk
  · simp [kOf] at hk
theorem cn1_str {y : Tr} (h : cn1 y) (hk : kOf y = 2) : y = strT (sOf y) := by
  rcases h with ⟨n, _, rfl⟩ | ⟨b, rfl⟩ | ⟨l, rfl⟩
  · simp [kOf, numT] at hk
  · rfl
  · simp [kOf] at hk
/-- The first so many are numbers. -/
theorem nums_take {L : List Tr} (hcn : ∀ y ∈ L, cn1 y) : ∀ (n : Nat), n ≤ L.length → (∀ j (h : j < L.length), j < n → kOf L[j] = 1) → L.take n = ((L.map nOf).take n).map numT := by
  intro n hn hk
  apply List.ext_getElem
  · simp
  · intro j h1 h2
    have hj : j < L.length := by simp at h1; omega
    have hjn : j < n := by simp at h1; omega
    simp only [List.getElem_take, List.getElem_map]
    exact cn1_num (hcn _ (List.getElem_mem hj)) (hk j hj hjn)
/-- What holds at each turn. -/
def RLoop (W5 : World) (nums : List Nat) (ρ : Option Nat) (o : Option Addr) (cap : Nat) (L : List Tr) (i : Nat) (wz : World) : Prop :=
  Below W5.heap.size W5 wz ∧ NRow ρ o cap (nums.take i) wz ∧ (∀ r, ρ = some r → W5.heap.size ≤ r) ∧ ∀ j (h : j < L.length), j < i → kOf L[j] = 1
theorem RLoop.next {W5 : World} {nums : List Nat} {ρ ρ' : Option Nat} {o o' : Option Addr} {cap cap' : Nat} {L : List Tr} {i nn : Nat} {wr w7 : World} (H : RLoop W5 nums ρ o cap L i wr) (hi : i < L.length) (hk : kOf L[i] = 1) (hnn : nOf L[i] = nn) (hN : nums = L.map nOf) {ob : Obj}
    (hr : NRow ρ' o' cap' (nums.take i ++ [nn]) w7) (hn : Nxt ρ ρ' (wr.alloc ob)) (hc : Chg (wr.alloc ob).heap.size ρ (wr.alloc ob) w7) : RLoop W5 nums ρ' o' cap' L (i + 1) w7 := by
  obtain ⟨h1, h2, h3, h4⟩ := H
  have hb : Below W5.heap.size W5 (wr.alloc ob) := h1.trans ((alloc_below wr ob).mono h1.size)
  refine ⟨?_, ?_, ?_, ?_⟩
  · exact hb.trans (Chg.below hc hb.size h3 hb.size)
  · have e : nums.take (i + 1) = nums.take i ++ [nn] := by
      subst hN
      rw [List.take_add_one, List.getElem?_map, List.getElem?_eq_getElem hi]
      simp [hnn]
    rw [e]; exact hr
  · intro r hr'
    rcases hn with rfl | ⟨q, rfl, hq⟩
    · exact h3 r hr'
    · cases hr'; exact Nat.le_trans hb.size hq
  · intro j hj hji
    by_cases e : j = i
    · subst e; exact hk
    · exact h4 j hj (by omega)
theorem row_k (k : Int) (b : ByteArray) (ns : List Nat) (L : List Tr) (h : L = rowL k b ns) : L.length = ns.length + (if k = 2 then 1 else 0) ∧ (∀ j (h : j < L.length), j < ns.length → kOf L[j] = 1) ∧ (k = 2 → ∀ h : ns.length < L.length, kOf L[ns.length] = 2) := by
  subst h
  refine ⟨row_len _ _ _, fun j h hj => ?_, fun hk h => ?_⟩
  · rw [row_at _ _ _ j hj h]; rfl
  · subst hk; rw [row_last b ns h]; rfl

set_option maxRecDepth 1000000 in
set_option maxHeartbeats 8000000 in
theorem rread_any (s : ByteArray) (hs : s.size ≤ 100000) (w : World) : Calls Try.prog 10 #[.string s] w fun r w' => RrR s w r w' := by
  have K28 := Lib.hid (fun w => rnext_any s w)
  unfold rnV at K28
  have HBAD : Hid (∀ w', Below w.heap.size w w' → (¬ ∃ b ns, okR s b ns) → RrR s w (.returned (.tuple #[.int .i64 0, .int .u64 0, .slice none 0 0, .string ⟨#[]⟩])) w') := Lib.hid (fun w' h1 h2 => ⟨h1, Or.inr ⟨h2, rfl⟩⟩)
  by_cases hc : codeS s = 0
  case neg =>
    have hci : ((codeS s : Int) == 0) = false := by rw [beq_eq_false_iff_ne]; omega
    have HN : Hid (¬ ∃ b ns, okR s b ns) := Lib.hid (fun ⟨b, ns, h⟩ => hc h.1)
    generalize codeS s = cs at *
    generalize rK s = k at *
    generalize rE s = e at *
    generalize rB s = bd at *
    generalize rN s = rn at *
    go_enter Try.func10, Try.ntmps10
    go_wp2_with (first
      | (go_at_call 28; ((with_reducible refine (K28.out _).mono ?_); rintro r w1 ⟨rfl, hb1⟩; have HB1 := Lib.hid hb1; clear hb1)))
    refine bodyPost_ret (v := .tuple #[.int .i64 0, .int .u64 0, .slice none 0 0, .string ⟨#[]⟩]) (by simp [results, Try.results10, go_sem]) rfl (HBAD.out _ ?_ HN.out)
    exact bel' HB1.out (alloc_below _ _)
  case pos =>
  obtain ⟨hk0, hl8, hl20⟩ := codeS_kind hc
  have hbs := bodyS_size hc
  obtain ⟨r1, r2, r3, _, r5⟩ := r_ok hc
  rw [r1, r2, r3, r5, hc] at K28
  by_cases hz : lenN s + 20 = s.size
  case neg =>
    have HN : Hid (¬ ∃ b ns, okR s b ns) := Lib.hid (fun ⟨b, ns, h⟩ => hz h.2.1)
    obtain ⟨rn, hrn⟩ : ∃ rn, rn = lenN s + 20 := ⟨_, rfl⟩
    rw [← hrn] at K28 hz
    have hci : ((rn : Int) == (s.size : Int)) = false := by rw [beq_eq_false_iff_ne]; omega
    generalize kindS s = k at *
    generalize epS s = e at *
    generalize bodyS s = bd at *
    clear hrn
    go_enter Try.func10, Try.ntmps10
    go_wp2_with (first
      | (go_at_call 28; ((with_reducible refine (K28.out _).mono ?_); rintro r w1 ⟨rfl, hb1⟩; have HB1 := Lib.hid hb1; clear hb1)))
    refine bodyPost_ret (v := .tuple #[.int .i64 0, .int .u64 0, .slice none 0 0, .string ⟨#[]⟩]) (by simp [results, Try.results10, go_sem]) rfl (HBAD.out _ ?_ HN.out)
    exact bel' HB1.out (alloc_below _ _)
  case pos =>
  rw [hz] at K28
  by_cases h4 : kindS s ≤ 4
  case neg =>
    have HN : Hid (¬ ∃ b ns, okR s b ns) := Lib.hid (fun ⟨b, ns, h⟩ => h4 h.2.2.1)
    have h4i : (4 : Int) < (kindS s : Int) := by omega
    generalize kindS s = k at *
    generalize epS s = e at *
    generalize bodyS s = bd at *
    go_enter Try.func10, Try.ntmps10
    go_wp2_with (first
      | (go_at_call 28; ((with_reducible refine (K28.out _).mono ?_); rintro r w1 ⟨rfl, hb1⟩; have HB1 := Lib.hid hb1; clear hb1)))
    refine bodyPost_ret (v := .tuple #[.int .i64 0, .int .u64 0, .slice none 0 0, .string ⟨#[]⟩]) (by simp [results, Try.results10, go_sem]) rfl (HBAD.out _ ?_ HN.out)
    exact bel' HB1.out (alloc_below _ _)
  case pos =>
  have HGOOD : Hid (∀ w' (b : ByteArray) (ns : List Nat) (ρ : Option Nat) (o : Option Addr) (cap q : Nat), Below w.heap.size w w' → okR s b ns → q = ns.length → NRow ρ o cap ns w' → RrR s w (.returned (.tuple #[.int .i64 (kindS s : Int), .int .u64 (epS s : Int), .slice o q cap, .string b])) w') := Lib.hid (fun w' b ns ρ o cap q h1 h2 h3 h4 => ⟨h1, Or.inl ⟨b, ns, ρ, o, cap, h2, by rw [h3], h4⟩⟩)
  have K29 : Hid (∀ w, Calls Try.prog 29 #[.string (bodyS s), .int .i64 0, .int .i64 0] w fun e w' => NxR (bodyS s) 0 0 w e w') := Lib.hid (fun w => nx_any (bodyS s) (by omega) (bodyS s).size 0 0 (by omega) (by omega) (by omega) w)
  have HOK0 : Hid (∀ b ns, okR s b ns ↔ (rd .v [] (bodyS s).data.toList = (0, rowT (kindS s) b ns, []) ∧ (ns.length : Int) = numK (kindS s) ∧ (kindS s ≠ 2 → b = ⟨#[]⟩))) := Lib.hid (fun b ns => ⟨fun h => ⟨h.2.2.2.1, h.2.2.2.2.1, h.2.2.2.2.2⟩, fun h => ⟨hc, hz, h4, h.1, h.2.1, h.2.2⟩⟩)
  have hb8 : (bodyS s).size ≤ 8192 := by omega
  clear hc hz hl20 hbs hl8 r1 r2 r3 r5
  generalize epS s = e at *
  generalize kindS s = k at *
  generalize bodyS s = bd at *
  obtain ⟨n7, hn7⟩ : ∃ n7 : Nat, (n7 : Int) = numK k ∧ ∀ W : World, (W.alloc (.cells #[.int .i64 0, .int .i64 1, .int .i64 2, .int .i64 2, .int .i64 3] 3)).cell? ⟨W.heap.size, k, none⟩ = some (.int .i64 (n7 : Int)) := by
    rcases (by omega : k = 1 ∨ k = 2 ∨ k = 3 ∨ k = 4) with rfl | rfl | rfl | rfl
    · exact ⟨1, rfl, fun W => by simp⟩
    · exact ⟨2, rfl, fun W => by simp⟩
    · exact ⟨2, rfl, fun W => by simp⟩
    · exact ⟨3, rfl, fun W => by simp⟩
  obtain ⟨hn7, h7⟩ := hn7
  have HN7K := Lib.hid hn7
  have H7 := Lib.hid h7
  have h4i : (k : Int) ≤ 4 := by omega
  have h5i : (k : Int) < 5 := by omega
  have hn73 : n7 ≤ 3 := by
    have := numK_len (k := k) ⟨by omega, h4⟩
    rw [this] at hn7
    split at hn7 <;> (try split at hn7) <;> (try split at hn7) <;> omega
  have HK0 := Lib.hid (And.intro hk0 h4)
  clear hn7 h7 h4 hk0
  go_enter Try.func10, Try.ntmps10
  go_upto_region 5 with (first
    | (go_at_call 28; ((with_reducible refine (K28.out _).mono ?_); rintro r w1 ⟨rfl, hb1⟩; have HB1 := Lib.hid hb1; have HF1 := Lib.hid (F3.new w1 k e bd); clear hb1))
    | (go_at_call 29; ((with_reducible refine (K29.out _).mono ?_); rintro r w3 ⟨hb3, c, p', t, c0, c1, c2, c3, rfl, hv, hbad, hok⟩; have HVI := Lib.hid hv; obtain ⟨tk, tn, ts, L⟩ := t; unfold VInP at hv; obtain ⟨rfl, rfl, htn, rfl, htz, oL, capL, bL, offL, rfl, hoL, hLL⟩ := hv; obtain ⟨nL, hnL⟩ : ∃ nL, nL = L.length := ⟨_, rfl⟩; rw [← hnL] at HVI ⊢; have HNL := Lib.hid hnL; have HB3 := Lib.hid hb3; have HBD := Lib.hid hbad; have HOK := Lib.hid hok; have HOL := Lib.hid hoL; have HLL0 := Lib.hid hLL; have HLL := Lib.hid htz.2; clear hb3 hbad hok hnL hoL hLL htn htz)))
  have HF5 := Lib.hid ((HF1.out.later HB3.out).later (alloc_below w3 (.cells #[.int .i64 tk, .int .u64 (tn : Int), .string ts, .slice oL nL capL] 62)))
  have HV5 := Lib.hid (show F4 (w3.alloc (.cells #[.int .i64 tk, .int .u64 (tn : Int), .string ts, .slice oL nL capL] 62)) w3.heap.size _ _ _ _ from heap_alloc_new w3 _)
  have HW5 := Lib.hid (bel' (bel' HB1.out (alloc_below w1 (.cells #[.int .i64 (k : Int), .int .u64 (e : Int), .string bd] 66))) (bel' HB3.out (alloc_below w3 (.cells #[.int .i64 tk, .int .u64 (tn : Int), .string ts, .slice oL nL capL] 62))))
  have HL5 : Hid (VInPL (w3.alloc (.cells #[.int .i64 tk, .int .u64 (tn : Int), .string ts, .slice oL nL capL] 62)) (fun _ => True) bL offL L) := Lib.hid (VInPL.of (fun i hi => by
    obtain ⟨e0, e1, e2, e3, q0, q1, q2, q3, qv⟩ := HLL0.out.at i hi
    have hb := alloc_below w3 (.cells #[.int .i64 tk, .int .u64 (tn : Int), .string ts, .slice oL nL capL] 62)
    have hlt := World.block_lt_of_cell? _ _ q0
    exact ⟨e0, e1, e2, e3, (hb.cell (p := ⟨bL, offL + i * 4, none⟩) hlt).trans q0, (hb.cell (p := ⟨bL, offL + i * 4 + 1, none⟩) hlt).trans q1, (hb.cell (p := ⟨bL, offL + i * 4 + 2, none⟩) hlt).trans q2, (hb.cell (p := ⟨bL, offL + i * 4 + 3, none⟩) hlt).trans q3, VInP.keep hb.size (fun b hb' _ => ⟨hb.block b hb', True.intro⟩) _ qv⟩))
  generalize w3.alloc (.cells #[.int .i64 tk, .int .u64 (tn : Int), .string ts, .slice oL nL capL] 62) = w5 at *
  generalize w3.heap.size = g9 at *
  generalize w1.heap.size = g6 at *
  clear HF1 HB1 HB3 HLL0 HVI K28 K29
  obtain ⟨f0, f1, f2⟩ := HF5.out.cells
  obtain ⟨⟨x0, x1, x2, x3⟩, _⟩ := four_of HV5.out
  by_cases hc0 : c = 0
  case neg =>
    have hci : ((c : Int) == 0) = false := by rw [beq_eq_false_iff_ne]; omega
    have HN : Hid (¬ ∃ b ns, okR s b ns) := Lib.hid (fun ⟨b, ns, h⟩ => by
      have h1 := ((HOK0.out b ns).1 h).1
      have h2 := HBD.out hc0 [] rfl
      rw [List.drop_zero] at h2
      rw [h2] at h1
      simp at h1; exact hc0 h1.1)
    go_wp2
    refine bodyPost_ret (v := .tuple #[.int .i64 0, .int .u64 0, .slice none 0 0, .string ⟨#[]⟩]) (by simp [results, Try.results10, go_sem]) rfl (HBAD.out _ ?_ HN.out)
    exact HW5.out
  case pos =>
  subst hc0
  rw [show ((0 : Nat) : Int) = 0 from rfl]
  obtain ⟨hp1, hp2, hrd⟩ := HOK.out rfl
  have hrd1 := hrd [] rfl
  rw [List.drop_zero, rd_w_nil] at hrd1
  have HRD := Lib.hid hrd1
  clear hrd hrd1 HBD HOK
  by_cases hat : p' = bd.size
  case neg =>
    have hci : ((p' : Int) == (bd.size : Int)) = false := by rw [beq_eq_false_iff_ne]; omega
    have HN : Hid (¬ ∃ b ns, okR s b ns) := Lib.hid (fun ⟨b, ns, h⟩ => by
      have h1 := ((HOK0.out b ns).1 h).1
      rw [HRD.out] at h1
      simp only [Prod.mk.injEq, true_and] at h1
      have h2 := congrArg List.length h1.2
      simp at h2
      have : bd.data.toList.length = bd.size := by simp
      omega)
    go_wp2
    refine bodyPost_ret (v := .tuple #[.int .i64 0, .int .u64 0, .slice none 0 0, .string ⟨#[]⟩]) (by simp [results, Try.results10, go_sem]) rfl (HBAD.out _ ?_ HN.out)
    exact HW5.out
  case pos =>
  subst hat
  by_cases htk : tk = 3
  case neg =>
    have hci : (tk == 3) = false := by rw [beq_eq_false_iff_ne]; exact htk
    have HN : Hid (¬ ∃ b ns, okR s b ns) := Lib.hid (fun ⟨b, ns, h⟩ => by
      have h1 := ((HOK0.out b ns).1 h).1
      rw [HRD.out] at h1
      unfold rowT at h1
      simp only [Prod.mk.injEq, true_and, Tr.mk.injEq] at h1
      exact htk h1.1.1)
    go_wp2
    refine bodyPost_ret (v := .tuple #[.int .i64 0, .int .u64 0, .slice none 0 0, .string ⟨#[]⟩]) (by simp [results, Try.results10, go_sem]) rfl (HBAD.out _ ?_ HN.out)
    exact HW5.out
  case pos =>
  subst htk
  have hrd2 := HRD.out
  have hdr : bd.data.toList.drop bd.size = [] := List.drop_eq_nil_of_le (by simp)
  rw [hdr] at hrd2
  have hcn := (rd_whole hrd2).2
  have hcn' : tn = 0 ∧ ts = ⟨#[]⟩ ∧ ∀ y ∈ L, cn1 y := by
    rcases hcn with ⟨n, _, h⟩ | ⟨b, h⟩ | ⟨l, h, hl⟩
    · simp [numT] at h
    · simp [strT] at h
    · simp only [Tr.mk.injEq, true_and] at h
      obtain ⟨rfl, rfl, rfl⟩ := h
      exact ⟨rfl, rfl, hl⟩
  obtain ⟨htn, hts, hcnl⟩ := hcn'
  rw [htn, hts] at hrd2
  clear htn hts
  have HCN := Lib.hid hcnl
  have HROW : Hid (∀ b ns, okR s b ns → ns.length = n7 ∧ L.length = n7 + (if k = 2 then 1 else 0) ∧ (∀ j (h : j < L.length), j < n7 → kOf L[j] = 1) ∧ (k = 2 → ∀ h : n7 < L.length, kOf L[n7] = 2)) := Lib.hid (fun b ns h => by
    have h1 := (HOK0.out b ns).1 h
    have h2 := h1.1
    rw [hrd2] at h2
    unfold rowT at h2
    simp only [Prod.mk.injEq, true_and, and_true, Tr.mk.injEq] at h2
    obtain ⟨q1, q2, q3⟩ := row_k (k : Int) b ns L h2
    have hnn : ns.length = n7 := by have := HN7K.out; have := h1.2.1; omega
    subst hnn
    refine ⟨rfl, ?_, q2, fun hk2 h => q3 (by omega) h⟩
    rw [q1]; congr 1
    by_cases hk2 : k = 2
    · rw [if_pos hk2, if_pos (by omega)]
    · rw [if_neg hk2, if_neg (by omega)])
  have HMK : Hid (∀ b ns, L = rowL k b ns → ns.length = n7 → (k ≠ 2 → b = ⟨#[]⟩) → okR s b ns) := Lib.hid (fun b ns hL hl hb => (HOK0.out b ns).2 ⟨by rw [hrd2, hL]; rfl, by have := HN7K.out; omega, hb⟩)
  obtain ⟨nums, hnums⟩ : ∃ nums, nums = L.map nOf := ⟨_, rfl⟩
  have HNS := Lib.hid hnums
  clear hrd2 hcn hcnl hnums HRD HOK0 hdr hp1 hp2
  have HLS : Hid (∀ wz, Below w5.heap.size w5 wz → ∀ i (hi : i < L.length), ∃ bL offL, oL = some ⟨bL, offL, none⟩ ∧ ∃ d0 d1 d2 d3, wz.cell? ⟨bL, offL + i * 4, none⟩ = some d0 ∧ wz.cell? ⟨bL, offL + i * 4 + 1, none⟩ = some d1 ∧ wz.cell? ⟨bL, offL + i * 4 + 2, none⟩ = some d2 ∧ wz.cell? ⟨bL, offL + i * 4 + 3, none⟩ = some d3 ∧ VInP wz (fun _ => True) L[i] d0 d1 d2 d3) := Lib.hid (fun wz hb i hi => by
    obtain ⟨e0, e1, e2, e3, q0, q1, q2, q3, qv⟩ := HL5.out.at i hi
    have hlt := World.block_lt_of_cell? _ _ q0
    exact ⟨bL, offL, (HOL.out (by omega)).1, e0, e1, e2, e3, (hb.cell (p := ⟨bL, offL + i * 4, none⟩) hlt).trans q0, (hb.cell (p := ⟨bL, offL + i * 4 + 1, none⟩) hlt).trans q1, (hb.cell (p := ⟨bL, offL + i * 4 + 2, none⟩) hlt).trans q2, (hb.cell (p := ⟨bL, offL + i * 4 + 3, none⟩) hlt).trans q3, VInP.keep hb.size (fun b hb' _ => ⟨hb.block b hb', True.intro⟩) _ qv⟩)
  have h7 := H7.out w5
  have HB7 := Lib.hid (alloc_below w5 (.cells #[.int .i64 0, .int .i64 1, .int .i64 2, .int .i64 2, .int .i64 3] 3))
  obtain ⟨f0d, f1d, f2d⟩ := (HF5.out.later HB7.out).cells
  obtain ⟨⟨x0d, x1d, x2d, x3d⟩, _⟩ := four_of (HV5.out.later HB7.out)
  by_cases hk2 : k = 2
  case neg =>
    have hk2' : ((k : Int) == 2) = false := by rw [beq_eq_false_iff_ne]; omega
    by_cases hlen : nL = n7
    case neg =>
      have hlen' : ((nL : Int) == (n7 : Int)) = false := by rw [beq_eq_false_iff_ne]; omega
      have HN : Hid (¬ ∃ b ns, okR s b ns) := Lib.hid (fun ⟨b, ns, h⟩ => by
        have h1 := (HROW.out b ns h).2.1
        rw [if_neg hk2] at h1
        have := HNL.out
        omega)
      go_wp2
      refine bodyPost_ret (v := .tuple #[.int .i64 0, .int .u64 0, .slice none 0 0, .string ⟨#[]⟩]) (by simp [results, Try.results10, go_sem]) rfl (HBAD.out _ ?_ HN.out)
      exact bel' HW5.out HB7.out
    case pos =>
    have hlen' : ((nL : Int) == (n7 : Int)) = true := by rw [beq_iff_eq]; omega
    have HLE : Hid (n7 ≤ nL) := Lib.hid (by omega)
    have HFIN : Hid ((∀ j (h : j < L.length), j < n7 → kOf L[j] = 1) → okR s ⟨#[]⟩ (nums.take n7)) := Lib.hid (fun h => by
      have h1 := nums_take HCN.out n7 (by have := HNL.out; omega) h
      refine HMK.out _ _ ?_ (by rw [List.length_take, HNS.out, List.length_map]; have := HNL.out; omega) (fun _ => rfl)
      unfold rowL
      rw [if_neg (by omega), List.append_nil, HNS.out, ← h1, List.take_of_length_le (by have := HNL.out; omega)])
    subst hlen
    clear hlen'
    go_upto_region 13 with (fail)
    have HF := Lib.hid (HF5.out.later HB7.out)
    have HV := Lib.hid (HV5.out.later HB7.out)
    have HLS := Lib.hid (fun wz (hb : Below (w5.alloc (.cells #[.int .i64 0, .int .i64 1, .int .i64 2, .int .i64 2, .int .i64 3] 3)).heap.size _ wz) => HLS.out wz (bel' HB7.out hb))
    have HB5 := Lib.hid (bel' HW5.out HB7.out)
    generalize w5.alloc (.cells #[.int .i64 0, .int .i64 1, .int .i64 2, .int .i64 2, .int .i64 3] 3) = W5 at *
    have HWB : Hid (Below W5.heap.size W5 W5) := Lib.hid (Below.refl _ _)
    clear f0 f1 f2 x0 x1 x2 x3 h7 HW5 HB7 HF5 HV5 HL5 f0d f1d f2d x0d x1d x2d x3d
    obtain ⟨f0, f1, f2⟩ := HF.out.cells
    obtain ⟨⟨x0, x1, x2, x3⟩, _⟩ := four_of HV.out
    go_wp2
    go_loopw [13, 14] (fun x13 x14 wz => ∃ (i : Nat) (ρ : Option Nat) (o : Option Addr) (cap : Nat), i ≤ nL ∧ x14 = .int .i64 (i : Int) ∧ x13 = .slice o i cap ∧ Hid (RLoop W5 nums ρ o cap L i wz)) (fun _ x14 _ => nL - (intOf x14).toNat)
    case atStart => exact ⟨0, none, none, 0, by omega, rfl, rfl, Lib.hid ⟨HWB.out, NRow.nil _, fun r h => (by cases h), fun j h h0 => absurd h0 (by omega)⟩⟩
    case round =>
      obtain ⟨i, ρ, o, cap, hi, rfl, rfl, HL⟩ := hrel
      have HBW := Lib.hid (bel' HB5.out HL.out.1)
      obtain ⟨f0, f1, f2⟩ := (HF.out.later HL.out.1).cells
      obtain ⟨⟨x0, x1, x2, x3⟩, _⟩ := four_of (HV.out.later HL.out.1)
      by_cases hlt : i < nL
      · have hiL : i < L.length := by have := HNL.out; have := HLE.out; omega
        obtain ⟨bL, offL, hoL, d0, d1, d2, d3, y0, y1, y2, y3, hd⟩ := HLS.out wr HL.out.1 i hiL
        cases hoL
        obtain ⟨rfl, rfl, hdn, rfl⟩ := vcell hd
        have hil : (i : Int) < (nL : Int) := by have := HNL.out; omega
        have hil2 : (i : Int) < (nL : Int) := by omega
        by_cases hk1 : kOf L[i] = 1
        · have HK1 := Lib.hid hk1
          have hi9 : i + 1 ≤ 1000000000 := by have := HNL.out; have := HLL.out; omega
          have HX : Hid (i = (nums.take i).length) := Lib.hid (by rw [List.length_take, HNS.out, List.length_map]; omega)
          clear hd hdn
          rw [hk1] at y0
          obtain ⟨nn, hnn⟩ : ∃ nn, nOf L[i] = nn := ⟨_, rfl⟩
          rw [hnn] at y1
          have HNN := Lib.hid hnn
          have HIL := Lib.hid hiL
          clear hnn hk1 y2
          go_wp2_with (first
            | (at_builtin; go_must (refine wpList_nrow (.tmp 97) (.tmp 104) rfl rfl (wr.alloc (.cells #[.int .u64 (nn : Int)] 22)).heap.size ρ o cap (nums.take i) (HL.out.2.1.later (alloc_below wr _)) i HX.out hi9 _ nn (num_new wr nn) rfl rfl ?_); intro o7 cap7 w7 ρ7 hr7 hnL hc7; have HN7 := Lib.hid (RLoop.next HL.out HIL.out HK1.out HNN.out HNS.out hr7 hnL hc7); clear hr7 hnL hc7))
          go_roundw
          case rel => exact ⟨i + 1, ρ7, o7, cap7, by omega, by go_num, rfl, HN7⟩
          case measure => simp [intOf]; omega
        · have HN : Hid (¬ ∃ b ns, okR s b ns) := Lib.hid (fun ⟨b, ns, h⟩ => by
            obtain ⟨hnl, _, hkk, _⟩ := HROW.out b ns h
            exact hk1 (hkk i hiL (by omega)))
          obtain ⟨ki, hki⟩ : ∃ ki, kOf L[i] = ki := ⟨_, rfl⟩
          rw [hki] at y0 hk1
          have hk1' : (ki == 1) = false := by rw [beq_eq_false_iff_ne]; exact hk1
          clear hd HL hki y1 y2 hdn
          go_wp2
          refine bodyPost_ret (v := .tuple #[.int .i64 0, .int .u64 0, .slice none 0 0, .string ⟨#[]⟩]) (by simp [results, Try.results10, go_sem]) rfl (HBAD.out _ ?_ HN.out)
          exact HBW.out
      · obtain rfl : i = nL := by omega
        have HOK := Lib.hid (HFIN.out (fun j hj hj2 => HL.out.2.2.2 j hj hj2))
        have HNR := Lib.hid HL.out.2.1
        have HQ : Hid (i = (nums.take i).length) := Lib.hid (by rw [List.length_take, HNS.out, List.length_map]; have := HNL.out; have := HLE.out; omega)
        clear hlt
        go_wp2_with (fail)
        go_quiet (fail)
        go_wp2
        refine bodyPost_ret (v := .tuple #[.int .i64 (k : Int), .int .u64 (e : Int), .slice o i cap, .string ⟨#[]⟩]) (by simp [results, Try.results10, go_sem]) rfl ?_
        exact HGOOD.out _ _ _ ρ o cap i ⟨HBW.out.os, HBW.out.tape, HBW.out.output, HBW.out.size, HBW.out.block⟩ HOK.out HQ.out (HNR.out.keep (fun r _ => rfl))

  case pos =>
  subst hk2
  have hn2 : n7 = 2 := by
    have h1 := HN7K.out
    have h2 : numK ((2 : Nat) : Int) = 2 := rfl
    omega
  subst hn2
  rw [show ((2 : Nat) : Int) = 2 from rfl] at h7 f0 f0d ⊢
  by_cases hlen : nL = 3
  case neg =>
    have hlen' : ((nL : Int) == 3) = false := by rw [beq_eq_false_iff_ne]; omega
    have HN : Hid (¬ ∃ b ns, okR s b ns) := Lib.hid (fun ⟨b, ns, h⟩ => by
      have h1 := (HROW.out b ns h).2.1
      rw [if_pos rfl] at h1
      have := HNL.out
      omega)
    go_wp2
    refine bodyPost_ret (v := .tuple #[.int .i64 0, .int .u64 0, .slice none 0 0, .string ⟨#[]⟩]) (by simp [results, Try.results10, go_sem]) rfl (HBAD.out _ ?_ HN.out)
    exact bel' HW5.out HB7.out
  case pos =>
  have hL3 : L.length = 3 := by rw [← HNL.out]; exact hlen
  subst hlen
  obtain ⟨bM, offM, hoM, d0, d1, d2, d3, y0, y1, y2, y3, hd⟩ := HLS.out _ HB7.out 2 (by omega)
  cases hoM
  obtain ⟨rfl, rfl, hdn, rfl⟩ := vcell hd
  by_cases hk22 : kOf L[2] = 2
  case neg =>
    have HN : Hid (¬ ∃ b ns, okR s b ns) := Lib.hid (fun ⟨b, ns, h⟩ => hk22 ((HROW.out b ns h).2.2.2 rfl (by omega)))
    obtain ⟨ki, hki⟩ : ∃ ki, kOf L[2] = ki := ⟨_, rfl⟩
    rw [hki] at y0 hk22
    have hk1' : (ki == 2) = false := by rw [beq_eq_false_iff_ne]; exact hk22
    clear hd hki y1 y2 hdn
    go_wp2
    refine bodyPost_ret (v := .tuple #[.int .i64 0, .int .u64 0, .slice none 0 0, .string ⟨#[]⟩]) (by simp [results, Try.results10, go_sem]) rfl (HBAD.out _ ?_ HN.out)
    exact bel' HW5.out HB7.out
  case pos =>
  rw [hk22] at y0
  obtain ⟨bq, hbq⟩ : ∃ bq, sOf L[2] = bq := ⟨_, rfl⟩
  rw [hbq] at y2
  have HLE : Hid (2 ≤ 3) := Lib.hid (by omega)
  have HFIN : Hid ((∀ j (h : j < L.length), j < 2 → kOf L[j] = 1) → okR s bq (nums.take 2)) := Lib.hid (fun h => by
    have h1 := nums_take HCN.out 2 (by omega) h
    refine HMK.out _ _ ?_ (by rw [List.length_take, HNS.out, List.length_map]; omega) (fun h => absurd rfl h)
    have h2 : L[2] = strT bq := by rw [← hbq]; exact cn1_str (HCN.out _ (List.getElem_mem _)) hk22
    have h3 : L.drop 2 = [L[2]] := by
      rw [List.drop_eq_getElem_cons (by omega : 2 < L.length), List.drop_eq_nil_of_le (by omega)]
    have h4 : L = L.take 2 ++ L.drop 2 := (List.take_append_drop 2 L).symm
    unfold rowL
    rw [if_pos (by omega), ← h2, ← h3, HNS.out, ← h1]
    exact h4)
  clear hd hdn hbq hk22
  go_upto_region 15 with (fail)
  clear y0 y1 y2 y3 hL3
  have HF := Lib.hid (HF5.out.later HB7.out)
  have HV := Lib.hid (HV5.out.later HB7.out)
  have HLS := Lib.hid (fun wz (hb : Below (w5.alloc (.cells #[.int .i64 0, .int .i64 1, .int .i64 2, .int .i64 2, .int .i64 3] 3)).heap.size _ wz) => HLS.out wz (bel' HB7.out hb))
  have HB5 := Lib.hid (bel' HW5.out HB7.out)
  generalize w5.alloc (.cells #[.int .i64 0, .int .i64 1, .int .i64 2, .int .i64 2, .int .i64 3] 3) = W5 at *
  have HWB : Hid (Below W5.heap.size W5 W5) := Lib.hid (Below.refl _ _)
  clear f0 f1 f2 x0 x1 x2 x3 h7 HW5 HB7 HF5 HV5 HL5 f0d f1d f2d x0d x1d x2d x3d
  obtain ⟨f0, f1, f2⟩ := HF.out.cells
  obtain ⟨⟨x0, x1, x2, x3⟩, _⟩ := four_of HV.out
  go_wp2
  go_loopw [13, 14] (fun x13 x14 wz => ∃ (i : Nat) (ρ : Option Nat) (o : Option Addr) (cap : Nat), i ≤ 2 ∧ x14 = .int .i64 (i : Int) ∧ x13 = .slice o i cap ∧ Hid (RLoop W5 nums ρ o cap L i wz)) (fun _ x14 _ => 2 - (intOf x14).toNat)
  case atStart => exact ⟨0, none, none, 0, by omega, rfl, rfl, Lib.hid ⟨HWB.out, NRow.nil _, fun r h => (by cases h), fun j h h0 => absurd h0 (by omega)⟩⟩
  case round =>
    obtain ⟨i, ρ, o, cap, hi, rfl, rfl, HL⟩ := hrel
    have HBW := Lib.hid (bel' HB5.out HL.out.1)
    obtain ⟨f0, f1, f2⟩ := (HF.out.later HL.out.1).cells
    obtain ⟨⟨x0, x1, x2, x3⟩, _⟩ := four_of (HV.out.later HL.out.1)
    by_cases hlt : i < 2
    · have hiL : i < L.length := by have := HNL.out; have := HLE.out; omega
      obtain ⟨bL, offL, hoL, d0, d1, d2, d3, y0, y1, y2, y3, hd⟩ := HLS.out wr HL.out.1 i hiL
      cases hoL
      obtain ⟨rfl, rfl, hdn, rfl⟩ := vcell hd
      have hil : (i : Int) < (3 : Int) := by have := HNL.out; omega
      have hil2 : (i : Int) < (2 : Int) := by omega
      by_cases hk1 : kOf L[i] = 1
      · have HK1 := Lib.hid hk1
        have hi9 : i + 1 ≤ 1000000000 := by have := HNL.out; have := HLL.out; omega
        have HX : Hid (i = (nums.take i).length) := Lib.hid (by rw [List.length_take, HNS.out, List.length_map]; omega)
        clear hd hdn
        rw [hk1] at y0
        obtain ⟨nn, hnn⟩ : ∃ nn, nOf L[i] = nn := ⟨_, rfl⟩
        rw [hnn] at y1
        have HNN := Lib.hid hnn
        have HIL := Lib.hid hiL
        clear hnn hk1 y2
        go_wp2_with (first
          | (at_builtin; go_must (refine wpList_nrow (.tmp 97) (.tmp 104) rfl rfl (wr.alloc (.cells #[.int .u64 (nn : Int)] 22)).heap.size ρ o cap (nums.take i) (HL.out.2.1.later (alloc_below wr _)) i HX.out hi9 _ nn (num_new wr nn) rfl rfl ?_); intro o7 cap7 w7 ρ7 hr7 hnq hc7; have HN7 := Lib.hid (RLoop.next HL.out HIL.out HK1.out HNN.out HNS.out hr7 hnq hc7); clear hr7 hnq hc7))
        go_roundw
        case rel => exact ⟨i + 1, ρ7, o7, cap7, by omega, by go_num, rfl, HN7⟩
        case measure => simp [intOf]; omega
      · have HN : Hid (¬ ∃ b ns, okR s b ns) := Lib.hid (fun ⟨b, ns, h⟩ => by
          obtain ⟨hnl, _, hkk, _⟩ := HROW.out b ns h
          exact hk1 (hkk i hiL (by omega)))
        obtain ⟨ki, hki⟩ : ∃ ki, kOf L[i] = ki := ⟨_, rfl⟩
        rw [hki] at y0 hk1
        have hk1' : (ki == 1) = false := by rw [beq_eq_false_iff_ne]; exact hk1
        clear hd HL hki y1 y2 hdn
        go_wp2
        refine bodyPost_ret (v := .tuple #[.int .i64 0, .int .u64 0, .slice none 0 0, .string ⟨#[]⟩]) (by simp [results, Try.results10, go_sem]) rfl (HBAD.out _ ?_ HN.out)
        exact HBW.out
    · obtain rfl : i = 2 := by omega
      have HOK := Lib.hid (HFIN.out (fun j hj hj2 => HL.out.2.2.2 j hj hj2))
      have HNR := Lib.hid HL.out.2.1
      have HQ : Hid (2 = (nums.take 2).length) := Lib.hid (by rw [List.length_take, HNS.out, List.length_map]; have := HNL.out; have := HLE.out; omega)
      clear hlt
      go_wp2_with (fail)
      go_quiet (fail)
      go_wp2
      refine bodyPost_ret (v := .tuple #[.int .i64 (2 : Int), .int .u64 (e : Int), .slice o 2 cap, .string bq]) (by simp [results, Try.results10, go_sem]) rfl ?_
      exact HGOOD.out _ _ _ ρ o cap 2 ⟨HBW.out.os, HBW.out.tape, HBW.out.output, HBW.out.size, HBW.out.block⟩ HOK.out HQ.out (HNR.out.keep (fun r _ => rfl))

end Go.Proofs.Ytdojepkmjifoeaa
