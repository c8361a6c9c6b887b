import Derived.Test.YtlochpnifjmefaaC
import Derived.Test.YtlochpnifjmefaaD
/- Walks of awake and Awake of layer 1. -/
namespace Go.Proofs.Ytlochpnifjmefaa
open Go.RowKit

theorem toList_str (l : List UInt8) : (str l).toList = l := ByteArray.toList_mk l

theorem awake_any (w : World) : Calls Try.prog 48 #[] w fun e w' => e = .returned (.bool true) ∧ Below w.heap.size w w' := by
  have h1 : (str (sh 300)).toList = [172, 2] := by
    rw [toList_str, sh_more 300 (by omega), sh_last _ (by omega)]
    rfl
  have h2 : ((str (be 258 (clip 2))).toList == [1, 2]) = true := by
    rw [toList_str]
    rfl
  go_enter Try.func48, Try.ntmps48
  go_wp2_with (first
    | (go_at_call 49; go_must (refine (short_any 300 (by omega) _).mono ?_); rintro e w1 ⟨rfl, hb1⟩)
    | (go_at_call 42; go_must (refine (put_any 258 2 (by omega) _).mono ?_); rintro e w2 ⟨rfl, hb2⟩))
  go_ret
  exact ⟨rfl, hb1.trans (hb2.mono hb1.size)⟩

theorem awake1_any (w : World) : Calls Try.prog 31 #[] w fun e w' => e = .returned (.bool true) ∧ Below w.heap.size w w' := by
  go_enter Try.func31, Try.ntmps31
  go_wp2_with (first
    | (go_at_call 48; go_must (refine (awake_any _).mono ?_); rintro e w1 ⟨rfl, hb1⟩))
  go_ret
  exact ⟨rfl, hb1⟩
end Go.Proofs.Ytlochpnifjmefaa
