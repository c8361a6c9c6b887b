/- Configs' writers: a place's bytes, a text, a row. -/
import Derived.Test.YtjfjliobencppaaGreatDoorJ00
import Derived.Test.YtjfjliobencppaaGreatDoorJ09
set_option linter.unusedVariables false
set_option linter.unusedSimpArgs false
namespace Go.Proofs.YtjfjliobencppaaGreatDoor.Cf
open Go.RowKit

theorem str_size (l : List UInt8) : (str l).size = l.length := by rw [← ByteArray.size_data]; show (str l).data.size = _; unfold str; simp
/-- A place's bytes. -/
def Pl.bytes (p : Pl) : List UInt8 := [UInt8.ofNat p.a, UInt8.ofNat p.b, UInt8.ofNat p.c, UInt8.ofNat p.d] ++ be p.port 2
theorem run_ip_string (a b c d : Nat) (ha : a < 256) (hb : b < 256) (hc : c < 256) (hd : d < 256) (g : Nat) (w : World)
    (h0 : w.cell? ⟨g, 0, none⟩ = some (.int .u8 a)) (h1 : w.cell? ⟨g, 1, none⟩ = some (.int .u8 b)) (h2 : w.cell? ⟨g, 2, none⟩ = some (.int .u8 c)) (h3 : w.cell? ⟨g, 3, none⟩ = some (.int .u8 d)) :
    (convert 113 9 (.slice (some ⟨g, 0, none⟩) 4 4)).run Tryz.prog w = .ok (.string (str [UInt8.ofNat a, UInt8.ofNat b, UInt8.ofNat c, UInt8.ofNat d])) w := by
  have h := run_convert_bytes_back (P := Tryz.prog) w 113 9 5 ⟨g, 0, none⟩ 4 [UInt8.ofNat a, UInt8.ofNat b, UInt8.ofNat c, UInt8.ofNat d] Tryz.underlying113 Tryz.underlying5 Tryz.underlying9 (fun j hj => by
    match j, hj with
    | 0, _ => simpa [Addr.add, Nat.mod_eq_of_lt ha] using h0
    | 1, _ => simpa [Addr.add, Nat.mod_eq_of_lt hb] using h1
    | 2, _ => simpa [Addr.add, Nat.mod_eq_of_lt hc] using h2
    | 3, _ => simpa [Addr.add, Nat.mod_eq_of_lt hd] using h3)
  exact h
set_option maxRecDepth 1000000 in
set_option maxHeartbeats 1000000 in
theorem pbytes_any (a b c d p : Nat) (ha : a < 256) (hb : b < 256) (hc : c < 256) (hd : d < 256) (hp : p < 65536) (w : World) :
    Calls Tryz.prog 97 #[.agg #[.int .u8 (a : Int), .int .u8 (b : Int), .int .u8 (c : Int), .int .u8 (d : Int), .int .u16 (p : Int)]] w fun e w' => e = .returned (.string (str (Pl.bytes ⟨a, b, c, d, p⟩))) ∧ Below w.heap.size w w' := by
  have K1 : Hid (∀ w, Calls Tryz.prog 93 #[.int .u64 (IntKind.u64.wrap (p : Int)), .int .i64 2] w fun e w' => e = .returned (.string (str (be p 2))) ∧ Below w.heap.size w w') := Lib.hid (fun w => by
    rw [IntWalk.u64_in _ (by omega)]; exact put_any p 2 (by omega) w)
  obtain ⟨x, hx⟩ : ∃ x, str [UInt8.ofNat a, UInt8.ofNat b, UInt8.ofNat c, UInt8.ofNat d] = x := ⟨_, rfl⟩
  obtain ⟨y, hy⟩ : ∃ y, str (be p 2) = y := ⟨_, rfl⟩
  have hadd : ∀ w, (Op.stringOp .add x y).run Tryz.prog w = .ok (.string (str (Pl.bytes ⟨a, b, c, d, p⟩))) w := fun w => by
    rw [← hx, ← hy, run_string_add_sum w _ _ (by rw [str_size, str_size, be_length]; simp)]
    rfl
  have hcv : ∀ w' : World, w'.cell? ⟨w.heap.size, 0, none⟩ = some (.int .u8 a) → w'.cell? ⟨w.heap.size, 1, none⟩ = some (.int .u8 b) → w'.cell? ⟨w.heap.size, 2, none⟩ = some (.int .u8 c) → w'.cell? ⟨w.heap.size, 3, none⟩ = some (.int .u8 d) →
      (convert 113 9 (.slice (some ⟨w.heap.size, 0, none⟩) 4 4)).run Tryz.prog w' = .ok (.string x) w' := fun w' h0 h1 h2 h3 => by
    rw [← hx]; exact run_ip_string a b c d ha hb hc hd _ w' h0 h1 h2 h3
  rw [hy] at K1
  generalize str (Pl.bytes ⟨a, b, c, d, p⟩) = z at *
  clear hx hy ha hb hc hd
  have g0 : (w.alloc (.cells #[.int .u8 a, .int .u8 b, .int .u8 c, .int .u8 d, .int .u16 p] 49)).cell? ⟨w.heap.size, 0, none⟩ = some (.int .u8 a) := by rw [World.cell?_alloc_new]; rfl
  have g1 : (w.alloc (.cells #[.int .u8 a, .int .u8 b, .int .u8 c, .int .u8 d, .int .u16 p] 49)).cell? ⟨w.heap.size, 1, none⟩ = some (.int .u8 b) := by rw [World.cell?_alloc_new]; rfl
  have g2 : (w.alloc (.cells #[.int .u8 a, .int .u8 b, .int .u8 c, .int .u8 d, .int .u16 p] 49)).cell? ⟨w.heap.size, 2, none⟩ = some (.int .u8 c) := by rw [World.cell?_alloc_new]; rfl
  have g3 : (w.alloc (.cells #[.int .u8 a, .int .u8 b, .int .u8 c, .int .u8 d, .int .u16 p] 49)).cell? ⟨w.heap.size, 3, none⟩ = some (.int .u8 d) := by rw [World.cell?_alloc_new]; rfl
  have g4 : (w.alloc (.cells #[.int .u8 a, .int .u8 b, .int .u8 c, .int .u8 d, .int .u16 p] 49)).cell? ⟨w.heap.size, 4, none⟩ = some (.int .u16 p) := by rw [World.cell?_alloc_new]; rfl
  have g5 : w.heap.size < (w.alloc (.cells #[.int .u8 a, .int .u8 b, .int .u8 c, .int .u8 d, .int .u16 p] 49)).heap.size := by simp
  have g6 : Below w.heap.size w (w.alloc (.cells #[.int .u8 a, .int .u8 b, .int .u8 c, .int .u8 d, .int .u16 p] 49)) := (Below.refl _ _).alloc (Nat.le_refl _) _
  go_enter Tryz.func97, Tryz.ntmps97
  go_wp2
  generalize w.alloc (.cells #[.int .u8 a, .int .u8 b, .int .u8 c, .int .u8 d, .int .u16 p] 49) = W at *
  go_region_held3 (fun w' => w'.cell? ⟨w.heap.size, 0, none⟩ = some (.int .u8 a) ∧ w'.cell? ⟨w.heap.size, 1, none⟩ = some (.int .u8 b) ∧ w'.cell? ⟨w.heap.size, 2, none⟩ = some (.int .u8 c) ∧ w'.cell? ⟨w.heap.size, 3, none⟩ = some (.int .u8 d) ∧ w'.cell? ⟨w.heap.size, 4, none⟩ = some (.int .u16 p) ∧ w.heap.size < w'.heap.size ∧ Below w.heap.size w w')
    (first
      | exact ⟨g0, g1, g2, g3, g4, g5, g6.drew⟩
      | (go_split_ands
         refine ⟨?_, ?_, ?_, ?_, ?_, ?_, ?_⟩
         · (rw [hb1.cell (p := ⟨w.heap.size, 0, none⟩) (by assumption)]; assumption)
         · (rw [hb1.cell (p := ⟨w.heap.size, 1, none⟩) (by assumption)]; assumption)
         · (rw [hb1.cell (p := ⟨w.heap.size, 2, none⟩) (by assumption)]; assumption)
         · (rw [hb1.cell (p := ⟨w.heap.size, 3, none⟩) (by assumption)]; assumption)
         · (rw [hb1.cell (p := ⟨w.heap.size, 4, none⟩) (by assumption)]; assumption)
         · exact Nat.lt_of_lt_of_le (by assumption) hb1.size
         · exact Below.trans (by assumption) (hb1.mono (Nat.le_of_lt (by assumption))))
      | go_keep)
    (first | (go_at_call 93; ((with_reducible refine (K1.out _).mono ?_); rintro e w1 ⟨rfl, hb1⟩)))
  all_goals go_wp2
  all_goals go_ret
  all_goals
    refine ⟨rfl, ?_⟩
    rename_i hS
    exact hS.2.2.2.2.2.2
theorem ctext_any (s : ByteArray) (w : World) : Calls Tryz.prog 96 #[.string s] w fun e w' => e = .returned (.agg #[.int .i64 2, .int .u64 0, .string s, .slice none 0 0]) ∧ Below w.heap.size w w' := by
  have HB := Lib.hid (alloc_below w (.cells #[.int .i64 2, .int .u64 0, .string s, .slice none 0 0] 69))
  go_enter Tryz.func96, Tryz.ntmps96
  go_wp2
  refine bodyPost_ret (v := .agg #[.int .i64 2, .int .u64 0, .string s, .slice none 0 0]) (by simp [results, Tryz.results96, go_sem, *]) rfl ⟨rfl, ?_⟩
  exact HB.out
theorem crow_any (o : Option Addr) (n c : Nat) (w : World) : Calls Tryz.prog 59 #[.slice o n c] w fun e w' => e = .returned (.agg #[.int .i64 3, .int .u64 0, .string ⟨#[]⟩, .slice o n c]) ∧ Below w.heap.size w w' := by
  have HB := Lib.hid (alloc_below w (.cells #[.int .i64 3, .int .u64 0, .string ⟨#[]⟩, .slice o n c] 69))
  go_enter Tryz.func59, Tryz.ntmps59
  go_wp2
  refine bodyPost_ret (v := .agg #[.int .i64 3, .int .u64 0, .string ⟨#[]⟩, .slice o n c]) (by simp [results, Tryz.results59, go_sem, *]) rfl ⟨rfl, ?_⟩
  exact HB.out
end Go.Proofs.YtjfjliobencppaaGreatDoor.Cf
