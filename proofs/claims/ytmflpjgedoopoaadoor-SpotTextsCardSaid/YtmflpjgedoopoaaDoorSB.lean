/- Places as bytes. -/
import Derived.Test.YtmflpjgedoopoaaDoorSA
namespace Go.Proofs.YtmflpjgedoopoaaDoor
open Go.RowKit

/-- A place's bytes. -/
def bytesN (a b c d p : Nat) : List UInt8 := [UInt8.ofNat a, UInt8.ofNat b, UInt8.ofNat c, UInt8.ofNat d] ++ W.be p 2
theorem run_ip_string (a b c d : Nat) (ha : a < 256) (hb : b < 256) (hc : c < 256) (hd : d < 256) (g : Nat) (w : World)
    (h0 : w.cell? ⟨g, 0, none⟩ = some (.int .u8 a)) (h1 : w.cell? ⟨g, 1, none⟩ = some (.int .u8 b)) (h2 : w.cell? ⟨g, 2, none⟩ = some (.int .u8 c)) (h3 : w.cell? ⟨g, 3, none⟩ = some (.int .u8 d)) :
    (convert 56 9 (.slice (some ⟨g, 0, none⟩) 4 4)).run Tryd.prog w = .ok (.string (str [UInt8.ofNat a, UInt8.ofNat b, UInt8.ofNat c, UInt8.ofNat d])) w := by
  have h := run_convert_bytes_back (P := Tryd.prog) w 56 9 5 ⟨g, 0, none⟩ 4 [UInt8.ofNat a, UInt8.ofNat b, UInt8.ofNat c, UInt8.ofNat d] Tryd.underlying56 Tryd.underlying5 Tryd.underlying9 (fun j hj => by
    match j, hj with
    | 0, _ => simpa [Addr.add, Nat.mod_eq_of_lt ha] using h0
    | 1, _ => simpa [Addr.add, Nat.mod_eq_of_lt hb] using h1
    | 2, _ => simpa [Addr.add, Nat.mod_eq_of_lt hc] using h2
    | 3, _ => simpa [Addr.add, Nat.mod_eq_of_lt hd] using h3)
  exact h

set_option maxRecDepth 1000000 in
set_option maxHeartbeats 1000000 in
theorem bytes_any (a b c d p : Nat) (ha : a < 256) (hb : b < 256) (hc : c < 256) (hd : d < 256) (hp : p < 65536) (w : World) :
    Calls Tryd.prog 33 #[plc a b c d p] w fun e w' => e = .returned (.string (str (bytesN a b c d p))) ∧ Below w.heap.size w w' := by
  have K1 : Hid (∀ w, Calls Tryd.prog 59 #[.int .u64 (IntKind.u64.wrap (p : Int)), .int .i64 2] w fun e w' => e = .returned (.string (str (W.be p 2))) ∧ Below w.heap.size w w') := Lib.hid (fun w => by
    rw [IntWalk.u64_in _ (by omega)]; exact W.put_any p 2 (by omega) w)
  obtain ⟨x, hx⟩ : ∃ x, str [UInt8.ofNat a, UInt8.ofNat b, UInt8.ofNat c, UInt8.ofNat d] = x := ⟨_, rfl⟩
  obtain ⟨y, hy⟩ : ∃ y, str (W.be p 2) = y := ⟨_, rfl⟩
  have hadd : ∀ w, (Op.stringOp .add x y).run Tryd.prog w = .ok (.string (str (bytesN a b c d p))) w := fun w => by
    rw [← hx, ← hy, run_string_add_sum w _ _ (by rw [str_size, str_size, W.be_length]; simp)]
    rfl
  have hcv : ∀ w' : World, w'.cell? ⟨w.heap.size, 0, none⟩ = some (.int .u8 a) → w'.cell? ⟨w.heap.size, 1, none⟩ = some (.int .u8 b) → w'.cell? ⟨w.heap.size, 2, none⟩ = some (.int .u8 c) → w'.cell? ⟨w.heap.size, 3, none⟩ = some (.int .u8 d) →
      (convert 56 9 (.slice (some ⟨w.heap.size, 0, none⟩) 4 4)).run Tryd.prog w' = .ok (.string x) w' := fun w' h0 h1 h2 h3 => by
    rw [← hx]; exact run_ip_string a b c d ha hb hc hd _ w' h0 h1 h2 h3
  rw [hy] at K1
  generalize str (bytesN a b c d p) = z at *
  clear hx hy ha hb hc hd
  have g0 : (w.alloc (.cells #[.int .u8 a, .int .u8 b, .int .u8 c, .int .u8 d, .int .u16 p] 36)).cell? ⟨w.heap.size, 0, none⟩ = some (.int .u8 a) := by rw [World.cell?_alloc_new]; rfl
  have g1 : (w.alloc (.cells #[.int .u8 a, .int .u8 b, .int .u8 c, .int .u8 d, .int .u16 p] 36)).cell? ⟨w.heap.size, 1, none⟩ = some (.int .u8 b) := by rw [World.cell?_alloc_new]; rfl
  have g2 : (w.alloc (.cells #[.int .u8 a, .int .u8 b, .int .u8 c, .int .u8 d, .int .u16 p] 36)).cell? ⟨w.heap.size, 2, none⟩ = some (.int .u8 c) := by rw [World.cell?_alloc_new]; rfl
  have g3 : (w.alloc (.cells #[.int .u8 a, .int .u8 b, .int .u8 c, .int .u8 d, .int .u16 p] 36)).cell? ⟨w.heap.size, 3, none⟩ = some (.int .u8 d) := by rw [World.cell?_alloc_new]; rfl
  have g4 : (w.alloc (.cells #[.int .u8 a, .int .u8 b, .int .u8 c, .int .u8 d, .int .u16 p] 36)).cell? ⟨w.heap.size, 4, none⟩ = some (.int .u16 p) := by rw [World.cell?_alloc_new]; rfl
  have g5 : w.heap.size < (w.alloc (.cells #[.int .u8 a, .int .u8 b, .int .u8 c, .int .u8 d, .int .u16 p] 36)).heap.size := by simp
  have g6 : Below w.heap.size w (w.alloc (.cells #[.int .u8 a, .int .u8 b, .int .u8 c, .int .u8 d, .int .u16 p] 36)) := (Below.refl _ _).alloc (Nat.le_refl _) _
  unfold plc
  go_enter Tryd.func33, Tryd.ntmps33
  go_wp2
  generalize w.alloc (.cells #[.int .u8 a, .int .u8 b, .int .u8 c, .int .u8 d, .int .u16 p] 36) = W at *
  go_region_held3 (fun w' => w'.cell? ⟨w.heap.size, 0, none⟩ = some (.int .u8 a) ∧ w'.cell? ⟨w.heap.size, 1, none⟩ = some (.int .u8 b) ∧ w'.cell? ⟨w.heap.size, 2, none⟩ = some (.int .u8 c) ∧ w'.cell? ⟨w.heap.size, 3, none⟩ = some (.int .u8 d) ∧ w'.cell? ⟨w.heap.size, 4, none⟩ = some (.int .u16 p) ∧ w.heap.size < w'.heap.size ∧ Below w.heap.size w w')
    (first
      | exact ⟨g0, g1, g2, g3, g4, g5, g6.drew⟩
      | (go_split_ands
         refine ⟨?_, ?_, ?_, ?_, ?_, ?_, ?_⟩
         · (rw [hb1.cell (p := ⟨w.heap.size, 0, none⟩) (by assumption)]; assumption)
         · (rw [hb1.cell (p := ⟨w.heap.size, 1, none⟩) (by assumption)]; assumption)
         · (rw [hb1.cell (p := ⟨w.heap.size, 2, none⟩) (by assumption)]; assumption)
         · (rw [hb1.cell (p := ⟨w.heap.size, 3, none⟩) (by assumption)]; assumption)
         · (rw [hb1.cell (p := ⟨w.heap.size, 4, none⟩) (by assumption)]; assumption)
         · exact Nat.lt_of_lt_of_le (by assumption) hb1.size
         · exact Below.trans (by assumption) (hb1.mono (Nat.le_of_lt (by assumption))))
      | go_keep)
    (first | (go_at_call 59; ((with_reducible refine (K1.out _).mono ?_); rintro e w1 ⟨rfl, hb1⟩)))
  all_goals go_wp2
  all_goals go_ret
  all_goals
    refine ⟨rfl, ?_⟩
    rename_i hS
    exact hS.2.2.2.2.2.2

theorem be_two (p : Nat) : W.be p 2 = [UInt8.ofNat (p / 256), UInt8.ofNat (p % 256)] := by
  have e : UInt8.ofNat (p % 256) = UInt8.ofNat p := by rw [← UInt8.toNat_inj]; simp
  rw [e]
  simp [W.be]

set_option maxRecDepth 1000000 in
theorem rbytes_any (a b c d p : Nat) (ha : a < 256) (hb : b < 256) (hc : c < 256) (hd : d < 256) (hp : p < 65536) (w : World) :
    Calls Tryd.prog 35 #[plc a b c d p] w fun e w' => e = .returned (.string (str (bytesN a b c d p))) ∧ Below w.heap.size w w' := by
  have hcv : ∀ (W : World) (x y : Int), x = ((p / 256 : Nat) : Int) → y = ((p % 256 : Nat) : Int) → (convert 56 9 (.slice (some ⟨W.heap.size, 0, none⟩) 6 6)).run Tryd.prog (W.alloc (.cells #[.int .u8 a, .int .u8 b, .int .u8 c, .int .u8 d, .int .u8 x, .int .u8 y] 5)) =
      .ok (.string (str (bytesN a b c d p))) (W.alloc (.cells #[.int .u8 a, .int .u8 b, .int .u8 c, .int .u8 d, .int .u8 x, .int .u8 y] 5)) := fun W x y hx hy => by
    subst hx hy
    have h := run_convert_bytes_back (P := Tryd.prog) (W.alloc (.cells #[.int .u8 a, .int .u8 b, .int .u8 c, .int .u8 d, .int .u8 ((p / 256 : Nat) : Int), .int .u8 ((p % 256 : Nat) : Int)] 5)) 56 9 5 ⟨W.heap.size, 0, none⟩ 6 (bytesN a b c d p) Tryd.underlying56 Tryd.underlying5 Tryd.underlying9 (fun j hj => by
      unfold bytesN at hj ⊢
      simp only [be_two] at hj ⊢
      match j, hj with
      | 0, _ => simp [Addr.add, World.cell?_alloc_new, Nat.mod_eq_of_lt ha]
      | 1, _ => simp [Addr.add, World.cell?_alloc_new, Nat.mod_eq_of_lt hb]
      | 2, _ => simp [Addr.add, World.cell?_alloc_new, Nat.mod_eq_of_lt hc]
      | 3, _ => simp [Addr.add, World.cell?_alloc_new, Nat.mod_eq_of_lt hd]
      | 4, _ => simp [Addr.add, World.cell?_alloc_new, Nat.mod_eq_of_lt (show p / 256 < 256 by omega)]
      | 5, _ => simp [Addr.add, World.cell?_alloc_new])
    exact h
  have hcv1 := hcv (w.alloc (.cells #[.int .u8 a, .int .u8 b, .int .u8 c, .int .u8 d, .int .u16 p] 39)) ((p : Int) / 256) ((p : Int) % 256) (by omega) (by omega)
  rw [show (w.alloc (.cells #[.int .u8 a, .int .u8 b, .int .u8 c, .int .u8 d, .int .u16 p] 39)).heap.size = w.heap.size + 1 by simp] at hcv1
  clear hcv
  generalize str (bytesN a b c d p) = z at *
  unfold plc
  go_enter Tryd.func35, Tryd.ntmps35
  go_wp2
  go_ret
  exact ⟨rfl, ((Below.refl _ _).alloc (Nat.le_refl _) _).alloc (by simp) _⟩
end Go.Proofs.YtmflpjgedoopoaaDoor
