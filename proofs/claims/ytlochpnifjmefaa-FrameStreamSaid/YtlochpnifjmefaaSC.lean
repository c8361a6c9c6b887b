/- FrameStream: no frames. -/
import Derived.Test.YtlochpnifjmefaaSA
namespace Go.Proofs.Ytlochpnifjmefaa
open Go.RowKit

def AllE (w : World) (e : Ending) (w' : World) : Prop := ∃ (o : Option Addr) (c : Nat), e = .returned (.tuple #[.slice o 0 c, .string ⟨#[]⟩]) ∧ Below w.heap.size w w'
theorem all_empty (s : ByteArray) (hs : s.size = 0) (w : World) : Calls Try.prog 29 #[.string s] w (AllE w) := by
  refine (all_any s (by omega) w).mono ?_
  rintro e w' ⟨v, l, t, rfl, hr, _, ho, hb⟩
  have he : s = str [] := by rw [size_zero hs]; rfl
  rw [he] at hr
  obtain ⟨rfl, rfl⟩ := runs_none.det hr
  rcases ho.2 with ⟨rfl, _⟩ | ⟨g, cap, cur, rfl, _⟩
  · exact ⟨none, 0, rfl, hb⟩
  · exact ⟨some ⟨g, 0, none⟩, cap, rfl, hb⟩

set_option maxRecDepth 100000 in
set_option maxHeartbeats 1000000 in
theorem stream_none (at0 : Option Addr) (cap a : Nat) (ha : a < 65536) (w : World) :
    Calls Try.prog 8 #[.slice at0 0 cap, .int .u16 a] w fun e w' => e = .returned (.bool true) ∧ Below w.heap.size w w' := by
  have e1 : (a : Int) % 1 = 0 := by omega
  go_enter Try.func8, Try.ntmps8
  go_wp2_with fail
  refine (awake8_any _).mono ?_
  rintro r w1 ⟨rfl, hb1⟩
  have HB1 := Lib.hid hb1
  clear hb1
  go_wp2
  go_loopw [5, 6, 27] (fun sv ev iv wr => sv = .string ⟨#[]⟩ ∧ ev = .slice none 0 0 ∧ iv = .int .i64 0 ∧ wr = w1) (fun _ _ i _ => 0)
  case atStart => exact ⟨rfl, rfl, rfl, rfl⟩
  case round =>
    obtain ⟨rfl, rfl, rfl, rfl⟩ := hrel
    go_wp2_with fail
    refine (all_empty _ (by rfl) _).mono ?_
    rintro r w2 ⟨o1, k1, rfl, hb2⟩
    have HB2 := Lib.hid (HB1.out.trans (hb2.mono HB1.out.size))
    clear hb2
    go_wp2_with fail
    refine (all_empty _ (by first | rfl | simp) _).mono ?_
    rintro r w3 ⟨o2, k2, rfl, hb3⟩
    have HB3 := Lib.hid (HB2.out.trans (hb3.mono HB2.out.size))
    clear hb3
    go_wp2_with fail
    go_loopw [16, 82] (fun c i wr => c = .int .i64 0 ∧ i = .int .i64 0 ∧ wr = w3) (fun _ _ _ => 0)
    case atStart => exact ⟨rfl, rfl, rfl⟩
    case round =>
      obtain ⟨rfl, rfl, hw⟩ := hrel
      rw [hw]
      clear hw
      go_wp2_with fail
      go_loopw [94] (fun i wr => i = .int .i64 0 ∧ wr = w3) (fun _ _ => 0)
      case atStart => exact ⟨rfl, rfl⟩
      case round =>
        obtain ⟨rfl, hw⟩ := hrel
        rw [hw]
        clear hw
        go_wp2
        go_ret
        exact ⟨rfl, HB3.out⟩
end Go.Proofs.Ytlochpnifjmefaa
