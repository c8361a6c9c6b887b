/- The law DiskSettles, for any arguments. -/
import Derived.Test.YtjkpopdjmmgbbaaJ13
import Derived.Test.YtjkpopdjmmgbbaaJ11
set_option linter.unusedVariables false
set_option linter.unusedSimpArgs false
namespace Go.Proofs.Ytjkpopdjmmgbbaa
open Go.RowKit Go.Maps Go.Sort
set_option maxRecDepth 100000 in
theorem settles_great (n : Nat) (oa : Option Addr) (cap : Nat) (v2 v3 : Value) (h : 20 < n) (w : World) :
    Calls Try.prog 5 #[.slice oa n cap, v2, v3] w fun e w' => e = .returned (.bool true) ∧ Below w.heap.size w w' := by
  have K6 := Lib.hid (awake_any w)
  have h1 : (n : Int) > 20 := by omega
  clear h
  go_enter Try.func5, Try.ntmps5
  go_wp2_with (first | (go_at_call 6; ((with_reducible refine (K6.out).mono ?_); rintro e w1 ⟨rfl, hb1⟩; have HB1 := Lib.hid hb1; clear hb1)))
  go_ret
  exact ⟨rfl, HB1.out⟩
theorem settles_walk (l : List Ac) (oa : Option Addr) (cap b off : Nat) (w : World) (ho : 0 < l.length → oa = some ⟨b, off, none⟩ ∧ b < w.heap.size) (hin : AcsIn w b off l)
    (ns : List Bool) (v2 : Value) (h2 : SlB w ns v2) (ss : List Nat) (v3 : Value) (h3 : SlU w ss v3) :
    Calls Try.prog 5 #[.slice oa l.length cap, v2, v3] w fun e w' => e = .returned (.bool true) ∧ Below w.heap.size w w' := by
  obtain ⟨o1, cap1, b1, off1, rfl, e1, e2⟩ := h2
  obtain ⟨o2, cap2, b2, off2, rfl, e3, e4⟩ := h3
  by_cases hg : 20 < l.length
  · exact settles_great l.length oa cap _ _ hg w
  · exact settles_any l (by omega) oa cap b off w ho hin ns o1 cap1 b1 off1 e1 e2 ss o2 cap2 b2 off2 e3 e4
end Go.Proofs.Ytjkpopdjmmgbbaa
