/- session.parts, session.numbers. -/
import Derived.Test.YtdojepkmjifoeaaJ21
set_option linter.unusedVariables false
set_option linter.unusedSimpArgs false
namespace Go.Proofs.Ytdojepkmjifoeaa
open Go.RowKit

/-- The numbers in a list; the last text in it. -/
def prN (l : List Tr) : List Nat := l.filterMap (fun t => match t with | .mk k n _ _ => if k = 1 then some n else none)
def prB (l : List Tr) : ByteArray := l.foldl (fun b t => match t with | .mk k _ s _ => if k = 2 then s else b) ⟨#[]⟩
theorem prN_more (l : List Tr) (j : Nat) (h : j < l.length) (k : Int) (n : Nat) (s : ByteArray) (r : List Tr) (he : l[j] = .mk k n s r) : prN (l.take (j + 1)) = prN (l.take j) ++ (if k = 1 then [n] else []) := by
  unfold prN
  rw [List.take_add_one, List.getElem?_eq_getElem h, List.filterMap_append, he]
  congr 1
  simp only [Option.toList_some, List.filterMap_cons, List.filterMap_nil]
  split <;> rename_i hh <;> split at hh <;> simp_all
theorem prB_more (l : List Tr) (j : Nat) (h : j < l.length) (k : Int) (n : Nat) (s : ByteArray) (r : List Tr) (he : l[j] = .mk k n s r) : prB (l.take (j + 1)) = if k = 2 then s else prB (l.take j) := by
  unfold prB
  rw [List.take_add_one, List.getElem?_eq_getElem h, List.foldl_append, he]
  rfl
theorem prN_len (l : List Tr) : (prN l).length ≤ l.length := List.length_filterMap_le _ _
/-- What holds while a list is parted. -/
def PaW (w : World) (ρ : Option Nat) (oo : Option Addr) (cap : Nat) (xs : List Nat) (wr : World) : Prop := Below w.heap.size w wr ∧ NRow ρ oo cap xs wr ∧ ∀ r, ρ = some r → w.heap.size ≤ r
theorem PaW.later {w wr w1 : World} {ρ : Option Nat} {oo : Option Addr} {cap : Nat} {xs : List Nat} (h : PaW w ρ oo cap xs wr) (hb : Below wr.heap.size wr w1) : PaW w ρ oo cap xs w1 :=
  ⟨h.1.trans (hb.mono h.1.size), h.2.1.later hb, h.2.2⟩
theorem PaW.put {w wr w1 : World} {ρ ρ' : Option Nat} {oo o' : Option Addr} {cap cap' g : Nat} {xs ys : List Nat} (h : PaW w ρ oo cap xs wr) (hg : w.heap.size ≤ g) (hr : NRow ρ' o' cap' ys w1) (hn : Nxt ρ ρ' wr) (hc : Chg g ρ wr w1) : PaW w ρ' o' cap' ys w1 := by
  refine ⟨h.1.trans (hc.below hg (fun k hk => h.2.2 k hk) h.1.size), hr, fun r hr' => ?_⟩
  rcases hn with rfl | ⟨q, rfl, hq⟩
  · exact h.2.2 r hr'
  · cases hr'; exact Nat.le_trans h.1.size hq

set_option maxRecDepth 100000 in
set_option maxHeartbeats 4000000 in
theorem parts_any (k : Int) (n : Nat) (s : ByteArray) (l : List Tr) (c0 c1 c2 c3 : Value) (w : World) (hv : VIn w (.mk k n s l) c0 c1 c2 c3) :
    Calls Try.prog 26 #[.agg #[c0, c1, c2, c3]] w fun r w' => ∃ ρ o cap, r = .returned (.tuple #[.slice o (prN l).length cap, .string (prB l)]) ∧ PaW w ρ o cap (prN l) w' := by
  unfold VIn at hv
  obtain ⟨rfl, rfl, _, rfl, ⟨_, hz⟩, oL, capL, B, off, rfl, ho, hl⟩ := hv
  obtain ⟨m, hm⟩ : ∃ m, m = l.length := ⟨_, rfl⟩
  rw [← hm] at ho hz ⊢
  have HM := Lib.hid hm
  have HO := Lib.hid ho
  have HL := Lib.hid hl
  have HB0 := Lib.hid (alloc_below w (.cells #[.int .i64 k, .int .u64 (n : Int), .string s, .slice oL m capL] 69))
  clear hm ho hl
  go_enter Try.func26, Try.ntmps26
  go_wp2_with fail
  obtain ⟨w0, hw0⟩ : ∃ w0, w0 = w.alloc (.cells #[.int .i64 k, .int .u64 (n : Int), .string s, .slice oL m capL] 69) := ⟨_, rfl⟩
  rw [← hw0] at HB0 ⊢
  clear hw0
  go_loopw [4, 5, 7, 11] (fun rv bv _ iv wr => ∃ (j q : Nat) (ρ : Option Nat) (oo : Option Addr) (cc : Nat) (b : ByteArray), j ≤ m ∧ iv = .int .i64 (j : Int) ∧ rv = .slice oo q cc ∧ bv = .string b ∧ Hid (q = (prN (l.take j)).length) ∧ Hid (b = prB (l.take j)) ∧ Hid (PaW w ρ oo cc (prN (l.take j)) wr)) (fun _ _ _ iv _ => m - (intOf iv).toNat)
  case atStart => exact ⟨0, 0, none, none, 0, ⟨#[]⟩, Nat.zero_le _, rfl, rfl, rfl, Lib.hid rfl, Lib.hid rfl, Lib.hid ⟨HB0.out, NRow.nil _, fun r hr => (by cases hr)⟩⟩
  case round =>
    obtain ⟨j, q, ρ, oo, cc, b, hj, rfl, rfl, rfl, HQ, HB, HP⟩ := hrel
    by_cases hjm : j < m
    · have hjl : j < l.length := by rw [← HM.out]; exact hjm
      obtain ⟨ho', hb'⟩ := HO.out (by omega)
      subst ho'
      obtain ⟨d0, d1, d2, d3, e0, e1, e2, e3, hv⟩ := HL.out.at j hjl
      obtain ⟨x, hx⟩ : ∃ x, l[j] = x := ⟨_, rfl⟩
      obtain ⟨k', n', s', l'⟩ := x
      rw [hx] at hv
      unfold VIn at hv
      obtain ⟨rfl, rfl, hn', rfl, hz', o', cap', b', off', rfl, hob, hlb⟩ := hv
      obtain ⟨z, hz2⟩ : ∃ z, z = l'.length := ⟨_, rfl⟩
      rw [← hz2] at e3
      have f0 := (HP.out.1.cell (p := ⟨B, _, none⟩) hb').trans e0
      have f1 := (HP.out.1.cell (p := ⟨B, _, none⟩) hb').trans e1
      have f2 := (HP.out.1.cell (p := ⟨B, _, none⟩) hb').trans e2
      have f3 := (HP.out.1.cell (p := ⟨B, _, none⟩) hb').trans e3
      have hst := store27 wr k' n' s' o' z cap'
      have HN := Lib.hid (prN_more l j hjl k' n' s' l' hx)
      have HBB := Lib.hid (prB_more l j hjl k' n' s' l' hx)
      have HQL : Hid (q ≤ j) := Lib.hid (by rw [HQ.out]; have := prN_len (l.take j); rw [List.length_take] at this; omega)
      clear e0 e1 e2 e3 hob hlb hn' hz' hx hz2
      go_upto_region 6 with fail
      obtain ⟨wa, hwa⟩ : ∃ wa, wa = wr.alloc (.cells #[.int .i64 k', .int .u64 (n' : Int), .string s', .slice o' z cap'] 69) := ⟨_, rfl⟩
      have HXC := Lib.hid (show VW wr (.int .i64 k') (.int .u64 (n' : Int)) (.string s') (.slice o' z cap') wa by rw [hwa]; exact VW.new _ _ _ _ _ _)
      rw [← hwa]
      obtain ⟨g0, g1, g2, g3⟩ := HXC.out.1
      have HPA := Lib.hid (HP.out.later HXC.out.2.2)
      clear hwa f0 f1 f2 f3 hst
      generalize wr.heap.size = gX at *
      by_cases h1 : k' = 1
      · subst h1
        go_wp2_with (first
          | (refine wpList_nrow (.tmp 19) (.tmp 22) rfl rfl (wa.alloc (.cells #[.int .u64 (n' : Int)] 22)).heap.size ρ oo cc _ (HPA.out.later (alloc_below wa _)).2.1 q HQ.out (by have := HQL.out; omega) _ n' (num_new wa n') rfl rfl ?_; intro o7 cap7 w7 ρ7 hr7 hn7 hc7; have HTP := Lib.hid ((HPA.out.later (alloc_below wa _)).put (by have := HPA.out.1.size; simp; omega) hr7 hn7 hc7); clear hr7 hn7 hc7))
        go_roundw
        case rel => exact ⟨j + 1, q + 1, ρ7, o7, cap7, b, by omega, by go_num, rfl, rfl, Lib.hid (by rw [HN.out]; simp [HQ.out]), Lib.hid (by rw [HBB.out, if_neg (by omega)]; exact HB.out), Lib.hid (by rw [HN.out]; exact HTP.out)⟩
        case measure => simp [intOf]; omega
      · have t1 : (k' == 1) = false := by rw [beq_eq_false_iff_ne]; exact h1
        by_cases h2 : k' = 2
        · subst h2
          go_wp2
          go_roundw
          case rel => exact ⟨j + 1, q, ρ, oo, cc, s', by omega, by go_num, rfl, rfl, Lib.hid (by rw [HN.out]; simp [HQ.out]), Lib.hid (by rw [HBB.out, if_pos rfl]), Lib.hid (by rw [HN.out]; simpa using HPA.out)⟩
          case measure => simp [intOf]; omega
        · have t2 : (k' == 2) = false := by rw [beq_eq_false_iff_ne]; exact h2
          have H12 := Lib.hid (And.intro h1 h2)
          clear h1 h2
          go_wp2
          go_roundw
          case rel => exact ⟨j + 1, q, ρ, oo, cc, b, by omega, by go_num, rfl, rfl, Lib.hid (by rw [HN.out, if_neg H12.out.1]; simp [HQ.out]), Lib.hid (by rw [HBB.out, if_neg H12.out.2]; exact HB.out), Lib.hid (by rw [HN.out, if_neg H12.out.1]; simpa using HPA.out)⟩
          case measure => simp [intOf]; omega
    · have hjm' : j = m := by omega
      subst hjm'
      have ht : l.take j = l := by rw [HM.out]; exact List.take_length
      rw [ht] at HQ HB HP
      go_wp2
      go_ret2
      exact ⟨ρ, oo, cc, by rw [HQ.out, HB.out]; rfl, HP.out⟩

/-- How many numbers a message of a kind has. -/
def numK (k : Int) : Int := if k = 1 then 1 else if k = 2 then 2 else if k = 3 then 2 else if k = 4 then 3 else -1
theorem numbers_any (k : Int) (w : World) : Calls Try.prog 27 #[.int .i64 k] w fun r w' => r = .returned (.int .i64 (numK k)) ∧ w = w' := by
  unfold numK
  by_cases h1 : k = 1
  · subst h1; go_enter Try.func27, Try.ntmps27; go_wp2; go_ret; exact ⟨rfl, rfl⟩
  by_cases h2 : k = 2
  · subst h2; go_enter Try.func27, Try.ntmps27; go_wp2; go_ret; exact ⟨rfl, rfl⟩
  by_cases h3 : k = 3
  · subst h3; go_enter Try.func27, Try.ntmps27; go_wp2; go_ret; exact ⟨rfl, rfl⟩
  by_cases h4 : k = 4
  · subst h4; go_enter Try.func27, Try.ntmps27; go_wp2; go_ret; exact ⟨rfl, rfl⟩
  · rw [if_neg h1, if_neg h2, if_neg h3, if_neg h4]
    have t1 : (k == 1) = false := by rw [beq_eq_false_iff_ne]; exact h1
    have t2 : (k == 2) = false := by rw [beq_eq_false_iff_ne]; exact h2
    have t3 : (k == 3) = false := by rw [beq_eq_false_iff_ne]; exact h3
    have t4 : (k == 4) = false := by rw [beq_eq_false_iff_ne]; exact h4
    clear h1 h2 h3 h4
    go_enter Try.func27, Try.ntmps27; go_wp2; go_ret; exact ⟨rfl, rfl⟩
end Go.Proofs.Ytdojepkmjifoeaa
