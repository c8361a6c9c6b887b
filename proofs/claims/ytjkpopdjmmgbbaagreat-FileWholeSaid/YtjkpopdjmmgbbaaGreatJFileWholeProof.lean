/- FileWhole: the law answers true for every input, and leaves its arguments as they were. -/
import Derived.Test.YtjkpopdjmmgbbaaGreatRows
import Derived.WalkKit
import Derived.ProofKit
import Derived.OpenShut
import Derived.ShutString
import Derived.ChangeOld
import Derived.Below
import Derived.Carry
import Derived.Deep.Slices
import Derived.Test.YtjkpopdjmmgbbaaGreatJ26
namespace Go.Proofs.YtjkpopdjmmgbbaaGreat.fileWhole
open Go.ChangeShapes Go.WideShapes Go.ChangeAt Go.RowKit Go.Deep Fi
open Go.ChangeMaps (open_string shut_string)
set_option linter.unusedVariables false

theorem own : ownKnob Tryz.prog.godebug = none := by kernel_rfl
theorem laidOut : laidOutB Tryz.prog = true := by kernel_rfl

set_option maxRecDepth 100000 in
theorem lifted (os : Os) (started : os.Started) (H : Type) (enc : TypeId × Value → H) :
    ReturnsInHanded {} Tryz.checked os 5 .any (Rows.fileWholeSpec.pre6 enc Tryz.prog Tryz.f5 Rows.fileWholeRow.domain false) (Rows.fileWholeSpec.post enc Tryz.prog Tryz.f5 false true false false) := by
  refine returnsInHanded_of_change (C := Tryz.checked) own started (by kernel_rfl) Tryz.func5
    (ChangeSpec.witness6 (enc := enc) (C := Tryz.checked) false ⟨#[], #[.slice none 0 0, .slice none 0 0, .slice none 0 0], []⟩ 8 (by kernel_rfl) (by kernel_rfl) (by kernel_rfl) (by kernel_rfl)) ?_
  intro W base args ds gs before hval0 hW hcnd _
  have hval : ∀ (j : Nat) t v, Tryz.f5.params[j]? = some t → args[j]? = some v → Value.okWide Tryz.prog W .any base t v := hval0
  have hW' := hW
  obtain ⟨p, q, hA0, hV, rfl, hfz, hnd⟩ := hW
  have hA : DataW.TrodAll enc Tryz.prog W 0 (fun _ => true) true Tryz.f5.params.toList args.toList ds p := hA0
  rw [Tryz.params5] at hA hval
  obtain ⟨v1, vs1, d1, ds1, p1, q1, hargs, rfl, rfl, h1, r1⟩ := trodAll_cons hA
  obtain ⟨v2, vs2, d2, ds2, p2, q2, rfl, rfl, rfl, h2, r2⟩ := trodAll_cons r1
  obtain ⟨v3, vs3, d3, ds3, p3, q3, rfl, rfl, rfl, h3, r3⟩ := trodAll_cons r2
  obtain ⟨rfl, rfl, rfl⟩ := trodAll_nil r3
  obtain rfl : args = #[v1, v2, v3] := by cases args; simp_all
  obtain ⟨rfl, rfl⟩ := trodVars_none hV
  obtain ⟨at1, n, cap, rfl⟩ := okWide_slice Tryz.underlying31 (hval 0 31 v1 rfl rfl)
  obtain ⟨at2, n2, cap2, rfl⟩ := okWide_slice Tryz.underlying56 (hval 1 56 v2 rfl rfl)
  obtain ⟨at3, n3, cap3, rfl⟩ := okWide_slice Tryz.underlying57 (hval 2 57 v3 rfl rfl)
  have h1k := h1
  have h2k := h2
  have h3k := h3
  obtain ⟨fuel1, hf1⟩ := h1
  obtain ⟨fuel2, hf2⟩ := h2
  obtain ⟨fuel3, hf3⟩ := h3
  obtain ⟨l, b, off, rfl, hat, hin⟩ := open_acts hf1
  obtain ⟨ns, o2, c2, b2, off2, e2, ho2, hb2⟩ := open_bss hf2
  obtain ⟨ss, o3, c3, b3, off3, e3, ho3, hb3⟩ := open_uss hf3
  have e2' : Value.slice at2 n2 cap2 = .slice o2 ns.length c2 := (List.cons.inj e2).1
  have e3' : Value.slice at3 n3 cap3 = .slice o3 ss.length c3 := (List.cons.inj e3).1
  simp only [Value.slice.injEq] at e2' e3'
  obtain ⟨rfl, rfl, rfl⟩ := e2'
  obtain ⟨rfl, rfl, rfl⟩ := e3'
  clear hA0 hval0
  try simp only [List.append_nil] at hW'
  refine (whole_walk l at1 cap b off W hat hin ns at2 cap2 b2 off2 ho2 hb2 ss at3 cap3 b3 off3 ho3 hb3).mono fun e W' ⟨he, bel⟩ => ?_
  subst he
  have hlt : ∀ x ∈ p1 ++ (p2 ++ p3), x.block < W.heap.size := fun x hx => by simpa using hW'.lt x (by simpa using hx)
  exact ⟨_, rfl, _, _, _, [], _, [], hW', (trodAll_cons_mk (shut_bool Tryz.underlying4 _) trodAll_mk0), (trodAll_cons_mk (Below.trod laidOut (by kernel_rfl) (of_decide_eq_true (by kernel_rfl)) h1k bel (fun x hx => hlt x (List.mem_append_left _ hx))) (trodAll_cons_mk (Below.trod laidOut (by kernel_rfl) (of_decide_eq_true (by kernel_rfl)) h2k bel (fun x hx => hlt x (List.mem_append_right _ (List.mem_append_left _ hx)))) (trodAll_cons_mk (Below.trod laidOut (by kernel_rfl) (of_decide_eq_true (by kernel_rfl)) h3k bel (fun x hx => hlt x (List.mem_append_right _ (List.mem_append_right _ hx)))) trodAll_mk0))), rfl, bel.frame _, fun h => by cases h⟩

theorem over : Rows.fileWholeRow.holds Tryz.pinned (OpenSpec.ofChange Rows.fileWholeSpec) :=
  OpenClaim.holds_of_wide 5 Tryz.f5 rfl rfl rfl rfl rfl rfl rfl ⟨rfl, rfl, rfl, rfl, rfl⟩ rfl rfl rfl rfl rfl (by kernel_rfl) Tryz.func5 (by kernel_rfl)
    (of_decide_eq_true (by kernel_rfl)) (by unfold Func.isWrapper; first | (rw [if_pos (by decide +kernel)]; kernel_rfl) | (rw [if_neg (by decide +kernel)]; exact ⟨rfl, rfl⟩))
    (fun os started H enc _ => lifted os started H enc)

theorem proved : Rows.FileWholeSaid := over
#print axioms proved
end Go.Proofs.YtjkpopdjmmgbbaaGreat.fileWhole
