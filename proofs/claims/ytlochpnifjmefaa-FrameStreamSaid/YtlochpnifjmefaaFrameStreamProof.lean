/- FrameStream: the law answers true for every input, and leaves its arguments as they were. -/
import Derived.Test.YtlochpnifjmefaaRows
import Derived.WalkKit
import Derived.ProofKit
import Derived.OpenShut
import Derived.ShutString
import Derived.ChangeOld
import Derived.Below
import Derived.Carry
import Derived.Deep.Slices
import Derived.Test.YtlochpnifjmefaaFV
import Derived.Test.YtlochpnifjmefaaSB
import Derived.Test.YtlochpnifjmefaaSC
import Derived.Test.YtlochpnifjmefaaFO
namespace Go.Proofs.Ytlochpnifjmefaa.frameStream
open Go.ChangeShapes Go.WideShapes Go.ChangeAt Go.RowKit Go.Deep
set_option linter.unusedVariables false

theorem own : ownKnob Try.prog.godebug = none := by kernel_rfl
theorem laidOut : laidOutB Try.prog = true := by kernel_rfl

theorem walk (fs : List Fri) (at0 : Option Addr) (cap b off : Nat) (a1 : Int) (w1 : (Lit.int .u16 a1).wf = true) (w : World) (hcap : fs.length ≤ 9223372036854775807) (hat : 0 < fs.length → at0 = some ⟨b, off, none⟩) (hb : 0 < fs.length → b < w.heap.size) (hl : Lie w b off fs) (he : ∀ f ∈ fs, f.2.1 ≤ 18446744073709551615) :
    Calls Try.prog 8 #[.slice at0 fs.length cap, .int .u16 a1] w fun e w' => e = .returned (.bool true) ∧ Below w.heap.size w w' := by
  obtain ⟨x, rfl⟩ := Int.eq_ofNat_of_zero_le (wf16 w1).1
  have hx := (wf16 w1).2
  by_cases h8 : 8 < fs.length
  · exact stream_great at0 fs.length cap x h8 hcap w
  · by_cases h0 : 1 ≤ fs.length
    · rw [hat (by omega)]
      exact stream_some fs cap b off x h0 (by omega) (by omega) w (hb (by omega)) hl he
    · rw [show fs.length = 0 by omega]
      exact stream_none at0 cap x (by omega) w

set_option maxRecDepth 100000 in
theorem lifted (os : Os) (started : os.Started) (H : Type) (enc : TypeId × Value → H) :
    ReturnsInHanded {} Try.checked os 8 .any (Rows.frameStreamSpec.pre6 enc Try.prog Try.f8 Rows.frameStreamRow.domain false) (Rows.frameStreamSpec.post enc Try.prog Try.f8 false true false false) := by
  refine returnsInHanded_of_change (C := Try.checked) own started (by kernel_rfl) Try.func8
    (ChangeSpec.witness6 (enc := enc) (C := Try.checked) false ⟨#[], #[.slice none 0 0, .int .u16 0], []⟩ 8 (by kernel_rfl) (by kernel_rfl) (by kernel_rfl) (by kernel_rfl)) ?_
  intro W base args ds gs before hval0 hW hcnd _
  have hval : ∀ (j : Nat) t v, Try.f8.params[j]? = some t → args[j]? = some v → Value.okWide Try.prog W .any base t v := hval0
  have hW' := hW
  obtain ⟨p, q, hA0, hV, rfl, hfz, hnd⟩ := hW
  have hA : DataW.TrodAll enc Try.prog W 0 (fun _ => true) true Try.f8.params.toList args.toList ds p := hA0
  rw [Try.params8] at hA hval
  obtain ⟨v0, vs0, d0, ds0, p0, q0, hargs, rfl, rfl, h0, r0⟩ := trodAll_cons hA
  obtain ⟨v1, vs1, d1, ds1, p1, q1, rfl, rfl, rfl, h1, r1⟩ := trodAll_cons r0
  obtain ⟨rfl, rfl, rfl⟩ := trodAll_nil r1
  obtain rfl : args = #[v0, v1] := by cases args; simp_all
  obtain ⟨rfl, rfl⟩ := trodVars_none hV
  obtain ⟨a1, rfl, rfl, rfl, w1⟩ := open_int Try.underlying67 (hval 1 67 v1 rfl rfl) h1
  obtain ⟨at0, n, cap, rfl⟩ := okWide_slice Try.underlying63 (hval 0 63 v0 rfl rfl)
  have h0k := h0
  obtain ⟨fuel, hf⟩ := h0
  obtain ⟨l, b, off, rfl, hcap, hat, hblt, hc, he⟩ := open_frames hf
  clear hA0 hval0
  simp only [List.append_nil] at hW'
  refine (walk l at0 cap b off a1 w1 W hcap hat hblt hc he).mono fun e W' ⟨he, bel⟩ => ?_
  subst he
  have hlt : ∀ x ∈ p0, x.block < W.heap.size := fun x hx => by simpa using hW'.lt x (by simpa using hx)
  exact ⟨_, rfl, _, _, _, [], _, [], hW', (trodAll_cons_mk (shut_bool Try.underlying4 _) trodAll_mk0), (trodAll_cons_mk (Below.trod laidOut (by kernel_rfl) (of_decide_eq_true (by kernel_rfl)) h0k bel hlt) (trodAll_cons_mk (shut_int Try.underlying67 w1) trodAll_mk0)), rfl, bel.frame _, fun h => by cases h⟩

theorem over : Rows.frameStreamRow.holds Try.pinned (OpenSpec.ofChange Rows.frameStreamSpec) :=
  OpenClaim.holds_of_wide 8 Try.f8 rfl rfl rfl rfl rfl rfl rfl ⟨rfl, rfl, rfl, rfl, rfl⟩ rfl rfl rfl rfl rfl (by kernel_rfl) Try.func8 (by kernel_rfl)
    (of_decide_eq_true (by kernel_rfl)) (by unfold Func.isWrapper; first | (rw [if_pos (by decide +kernel)]; kernel_rfl) | (rw [if_neg (by decide +kernel)]; exact ⟨rfl, rfl⟩))
    (fun os started H enc _ => lifted os started H enc)

theorem proved : Rows.FrameStreamSaid := over
#print axioms proved
end Go.Proofs.Ytlochpnifjmefaa.frameStream
