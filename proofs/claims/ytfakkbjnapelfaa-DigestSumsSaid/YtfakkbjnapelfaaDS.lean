/- Walks of digest.Text and of the chapter's example. -/
import Derived.Test.YtfakkbjnapelfaaDR
namespace Go.Proofs.Ytfakkbjnapelfaa.Dg
open Go.RowKit

theorem bb_lit (w : World) {A : Array Value} (hA : A = (W.bcells zb32).toArray) : BB w.heap.size 42 zb32 (w.alloc (.cells A 42)) := by subst hA; exact bb_new w zb32 42
theorem info42 (l : List UInt8) (h : l.length = 32) : (Try.prog.info? 42).map (·.size) = some (W.bcells l).toArray.size := by
  rw [show (W.bcells l).toArray.size = l.length by simp [W.bcells], h]; kernel_rfl
theorem size42 (l : List UInt8) (h : l.length = 32) : (W.bcells zb32).toArray.size = (W.bcells l).toArray.size := by
  rw [show (W.bcells l).toArray.size = l.length by simp [W.bcells], h]; rfl
theorem conv42 {g : Nat} {l : List UInt8} {w : World} (h : BB g 42 l w) (hl : l.length = 32) : (convert 46 9 (.slice (some ⟨g, 0, none⟩) 32 32)).run Try.prog w = .ok (.string (W.str l)) w := by
  have h2 := run_convert_bytes_back (P := Try.prog) w 46 9 5 ⟨g, 0, none⟩ 32 l Try.underlying46 Try.underlying5 Try.underlying9 (fun j hj => by
    have := h.cell j hj
    have hadd : (⟨g, 0, none⟩ : Addr).add j = ⟨g, j, none⟩ := by unfold Addr.add; split <;> simp_all
    rw [hadd]; exact this)
  rw [hl] at h2
  exact h2

set_option maxRecDepth 1000000 in
theorem text_core (v : Value) (l : List UInt8) (hl : l.length ≤ 2000) (w : World) (hj : ∀ w', Below w.heap.size w w' → Calls Try.prog 42 #[v, .string ⟨#[]⟩] w' fun e w'' => e = .returned (.string (W.str l)) ∧ Below w'.heap.size w' w'') :
    Calls Try.prog 19 #[v] w fun e w' => e = .returned (.string (W.str (sumL l))) ∧ Below w.heap.size w w' := by
  have K := Lib.hid (sum_core v l hl w hj)
  have hlen := sumL_len l
  generalize sumL l = o at *
  have HI42 := Lib.hid (info42 o hlen)
  have HSZ := Lib.hid (size42 o hlen)
  have HONE := Lib.hid (bcells_one o)
  have HLEN := Lib.hid hlen
  clear hj hl hlen
  go_enter Try.func19, Try.ntmps19
  go_upto_region 2 with (first
    | (go_at_call 18; go_must (refine K.out.mono ?_); rintro e w1 ⟨rfl, hb1⟩)
    | (refine wpList_plain rfl fun _ hK => wp_store_row 42 (.tmp 3) (.tmp 5) rfl _ (W.bcells o).toArray rfl rfl 42 (W.bcells zb32).toArray (bb_lit _ zb32_is) HI42.out HSZ.out HONE.out (hK _ _ ?_)))
  rw [zb32_is]
  have hbw := hb1.alloc hb1.size (.cells (W.bcells zb32).toArray 42)
  refine gen_wp (S := fun wz => Hid (BB w1.heap.size 42 o wz) ∧ Hid (Below w.heap.size w wz)) ⟨Lib.hid (setRow_heap _ _ _ _ _ _ (bb_new w1 zb32 42)), Lib.hid (below_row hbw hb1.size _)⟩ ?_
  intro W2 H2
  obtain ⟨hB, hW⟩ := H2
  have hcv := conv42 hB.out HLEN.out
  go_wp2
  go_ret
  exact ⟨rfl, hW.out⟩

set_option maxRecDepth 1000000 in
theorem awake_sum (w : World) : Calls Try.prog 16 #[] w fun e w' => e = .returned (.bool true) ∧ Below w.heap.size w w' := by
  have KA : Hid (∀ w, Calls Try.prog 35 #[] w fun e w' => e = .returned (.bool true) ∧ Below w.heap.size w w') := Lib.hid (fun w => by
    go_enter Try.func35, Try.ntmps35
    go_wp2_with (first | (go_at_call 53; go_must (refine (W.awake_any _).mono ?_); rintro e w1 ⟨rfl, hb1⟩))
    go_ret
    exact ⟨rfl, hb1⟩)
  have KT : Hid (∀ (g : Nat) (w : World), g < w.heap.size → w.cell? ⟨g, 0, none⟩ = some (.string ⟨#[97]⟩) → w.cell? ⟨g, 1, none⟩ = some (.string ⟨#[98, 99]⟩) → Calls Try.prog 19 #[.slice (some ⟨g, 0, none⟩) 2 2] w fun e w' => e = .returned (.string (W.str (sumL abc))) ∧ Below w.heap.size w w') := Lib.hid (fun g w hg h0 h1 =>
    text_core _ abc (by decide) w (fun w' hb => by
      have hJ := Try.strings_Join g 0 2 [⟨#[97]⟩, ⟨#[98, 99]⟩] ⟨#[]⟩ w' (by
        intro j x hx
        have hc : ∀ k, w'.cell? ⟨g, k, none⟩ = w.cell? ⟨g, k, none⟩ := fun k => World.cell?_of_block (hb.block g hg)
        match j, hx with
        | 0, hx => simp at hx; subst hx; rw [hc]; exact h0
        | 1, hx => simp at hx; subst hx; rw [hc]; exact h1) (Nat.lt_of_lt_of_le hg hb.size) (by decide) (by decide) (by decide)
      exact hJ))
  have KN : Hid (∀ (w : World), Calls Try.prog 19 #[.slice none 0 0] w fun e w' => e = .returned (.string (W.str (sumL []))) ∧ Below w.heap.size w w') := Lib.hid (fun w =>
    text_core _ [] (by decide) w (fun w' hb => (Try.strings_Join_none none 0 ⟨#[]⟩ w').mono (by rintro e w'' ⟨rfl, rfl⟩; exact ⟨rfl, Below.refl _ _⟩)))
  have hn : (W.str (sumL [])).size = 32 := by rw [W.size_str, sumL_len]
  have KP : Hid (∀ w, Calls Try.prog 36 #[.string (W.str (sumL abc)), .string ⟨#[186, 120, 22, 191]⟩] w fun e w' => e = .returned (.bool true) ∧ w' = w) := Lib.hid (fun w => by
    have := Try.strings_HasPrefix (W.str (sumL abc)) ⟨#[186, 120, 22, 191]⟩ w
    rw [show Lib.hasPrefix (W.str (sumL abc)).data.toList (⟨#[186, 120, 22, 191]⟩ : ByteArray).data.toList = true from abc_begins] at this
    exact this)
  generalize W.str (sumL []) = s0 at *
  generalize W.str (sumL abc) = s1 at *
  go_enter Try.func16, Try.ntmps16
  go_wp2_with (first
    | (go_at_call 35; go_must (refine (KA.out _).mono ?_); rintro e w1 ⟨rfl, hb1⟩)
    | (go_at_call 19; ((with_reducible refine (KT.out _ _ ?_ ?_ ?_).mono ?_); (simp [go_sem]); (simp [go_sem]); (simp [go_sem]); rintro e w2 ⟨rfl, hb2⟩))
    | (go_at_call 36; go_must (refine (KP.out _).mono ?_); rintro e w3 ⟨rfl, rfl⟩)
    | (go_at_call 19; go_must (refine (KN.out _).mono ?_); rintro e w4 ⟨rfl, hb4⟩))
  go_ret
  have hc := (hb1.alloc hb1.size _).trans (hb2.mono (by simp; have := hb1.size; omega))
  exact ⟨rfl, hc.trans (hb4.mono hc.size)⟩
end Go.Proofs.Ytfakkbjnapelfaa.Dg
