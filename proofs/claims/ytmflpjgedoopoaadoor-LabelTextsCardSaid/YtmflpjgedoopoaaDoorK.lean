/- Whether a text may be a host, by definition. -/
import Derived.Test.YtmflpjgedoopoaaDoorD
import Derived.Test.YtmflpjgedoopoaaDoorG
namespace Go.Proofs.YtmflpjgedoopoaaDoor
open Go.RowKit

def HostAt (N j : Nat) (p : List UInt8) : Prop := partB p = true ∨ (p = [42] ∧ j = 0 ∧ 1 < N)
theorem star_part : partB [42] = false := by decide
theorem hostP_iff (l : List UInt8) : (hostP l).all partB = true ↔ ∀ j, j < (cut 46 l).length → HostAt (cut 46 l).length j ((cut 46 l).getD j []) := by
  unfold hostP
  have hne := cut_ne 46 l
  generalize cut 46 l = L at hne
  cases L with
  | nil => exact absurd rfl hne
  | cons a t =>
    by_cases h : 1 < (a :: t).length ∧ (a :: t).headD [] = [42]
    · rw [if_pos h, List.tail_cons, List.all_eq_true]
      obtain ⟨h1, h2⟩ := h
      have h2 : a = [42] := h2
      subst h2
      constructor
      · intro hp j hj
        cases j with
        | zero => exact Or.inr ⟨rfl, rfl, h1⟩
        | succ j =>
          refine Or.inl (hp _ ?_)
          have hj' : j < t.length := by simpa using hj
          rw [List.getD_cons_succ, List.getD_eq_getElem?_getD, List.getElem?_eq_getElem hj']
          exact List.getElem_mem hj'
      · intro hp x hx
        obtain ⟨j, hj, rfl⟩ := List.mem_iff_getElem.1 hx
        have := (hp (j + 1) (by simpa using hj)).resolve_right (by rintro ⟨_, h, _⟩; omega)
        rwa [List.getD_cons_succ, List.getD_eq_getElem?_getD, List.getElem?_eq_getElem hj] at this
    · rw [if_neg h, List.all_eq_true]
      constructor
      · intro hp j hj
        rw [List.getD_eq_getElem?_getD, List.getElem?_eq_getElem hj]
        exact Or.inl (hp _ (List.getElem_mem hj))
      · intro hp x hx
        obtain ⟨j, hj, rfl⟩ := List.mem_iff_getElem.1 hx
        have := hp j hj
        rw [List.getD_eq_getElem?_getD, List.getElem?_eq_getElem hj] at this
        rcases this with this | ⟨h1, h2, h3⟩
        · exact this
        · subst h2
          exact absurd ⟨h3, h1⟩ h

theorem part_any2 (s : ByteArray) (v : Bool) (hv : partB s.data.toList = v) (hs : s.size ≤ 4294967280) (w : World) : Calls Tryd.prog 46 #[.string s] w fun e w' => e = .returned (.bool v) ∧ w = w' := by
  subst hv; exact part_any s w hs

set_option maxRecDepth 1000000 in
set_option maxHeartbeats 2000000 in
theorem rhost_any (s : ByteArray) (w : World) (hs : s.size ≤ 140737488351232) :
    Calls Tryd.prog 16 #[.string s] w fun e w' => e = .returned (.int .i64 (hostN s.data.toList)) ∧ Below w.heap.size w w' := by
  have HL := Lib.hid (Lib.size_eq s)
  obtain ⟨R, hR⟩ : ∃ R, R = hostN s.data.toList := ⟨_, rfl⟩
  rw [← hR]
  unfold hostN at hR
  rw [← HL.out] at hR
  by_cases h0 : 0 < s.size
  · obtain ⟨z1, z2⟩ := by
      exact (show ((s.size : Int) == 0) = false ∧ ¬ s = ByteArray.empty from ⟨neq_int (m := 0) (by omega), by rintro rfl; exact absurd h0 (by decide)⟩)
    rw [if_neg (by omega)] at hR
    by_cases h64 : 64 < s.size
    · rw [if_pos h64] at hR
      subst hR
      go_enter Tryd.func16, Tryd.ntmps16
      go_wp2
      go_ret
      exact ⟨rfl, Below.refl _ _⟩
    · rw [if_neg h64] at hR
      have h64' : s.size ≤ 64 := by omega
      clear h64
      have hi := hostP_iff s.data.toList
      have K1 := Lib.hid (show Calls Tryd.prog 45 #[.string s, .int .u8 46] w (Gives w (cut 46 s.data.toList)) from rcut_any s 46 w (by omega))
      have hpos : 0 < (cut 46 s.data.toList).length := List.length_pos_iff.2 (cut_ne _ _)
      have hle := cut_le 46 s.data.toList
      rw [← HL.out] at hle
      have hmem : ∀ k, k < (cut 46 s.data.toList).length → ((cut 46 s.data.toList).getD k []).length ≤ s.size := fun k hk => by
        rw [HL.out]
        refine cut_part_len (c := 46) ?_
        rw [List.getD_eq_getElem?_getD, List.getElem?_eq_getElem hk]; exact List.getElem_mem hk
      have HM := Lib.hid hmem
      clear hmem
      generalize (hostP s.data.toList).all partB = V at hi hR
      generalize cut 46 s.data.toList = L at K1 hpos hle HM hi
      have HP := Lib.hid hpos
      have HE := Lib.hid hle
      have HI := Lib.hid hi
      have HR := Lib.hid hR
      clear hpos hle hi hR
      go_enter Tryd.func16, Tryd.ntmps16
      go_wp2_with fail
      refine (K1.out).mono ?_
      rintro e w1 ⟨v, rfl, ⟨a, c, rfl, hc, hN, hr⟩, hb1⟩
      obtain ⟨b, o, rfl, hbl, hcell⟩ := hr HP.out
      have HC := Lib.hid hcell
      have HC2 := Lib.hid hc
      clear hr hcell hc
      have HB1 := Lib.hid hb1
      clear hb1
      go_wp2
      go_loopw [16] (fun i wr => ∃ k : Nat, k ≤ L.length ∧ i = .int .i64 k ∧ w1 = wr ∧ Hid (∀ j, j < k → HostAt L.length j (L.getD j []))) (fun i _ => L.length - (intOf i).toNat)
      case atStart => exact ⟨0, Nat.zero_le _, rfl, rfl, Lib.hid (by simp)⟩
      case round =>
        obtain ⟨k, hk, rfl, rfl, hj⟩ := hrel
        by_cases hlt : k < L.length
        · have hcl := HC.out k hlt
          have hpl := HM.out k hlt
          have Y : Hid (HostAt L.length k (L.getD k []) → ∀ j, j < k + 1 → HostAt L.length j (L.getD j [])) := Lib.hid (all_below hj.out)
          have NO : Hid (¬ HostAt L.length k (L.getD k []) → R = 4) := Lib.hid (fun h => by
            rw [HR.out, if_neg]
            intro h2
            exact h (HI.out.1 h2 k hlt))
          rw [← str_size] at hpl
          generalize L.getD k [] = p at hcl hpl Y NO
          obtain ⟨v, hv⟩ : ∃ v, partB p = v := ⟨_, rfl⟩
          have K2 := Lib.hid (part_any2 (str p) v hv (by omega))
          by_cases hp : p = [42]
          · subst hp
            rw [star_part] at hv
            subst hv
            have e0 : str [42] = ({ data := #[42] } : ByteArray) := rfl
            rw [e0] at hcl K2
            rcases zero_class k with rfl | ⟨k0, q0⟩
            · rw [Nat.add_zero] at hcl
              by_cases h1 : 1 < L.length
              · have C0 := Lib.hid (Y.out (Or.inr ⟨rfl, rfl, h1⟩))
                clear Y NO
                have d1 : decide (1 < (L.length : Int)) = true := decide_eq_true (by omega)
                go_wp2_with (go_at_call 46; ((with_reducible refine (K2.out _).mono ?_); rintro e w2 ⟨rfl, rfl⟩))
                go_roundw
                case rel => exact ⟨1, by omega, rfl, by trivial, C0⟩
                case measure => simp [intOf] <;> omega
              · have C0 := Lib.hid (NO.out (by rintro (h | ⟨_, _, h⟩); (rw [star_part] at h; cases h); exact h1 h))
                clear Y NO
                have d1 : decide (1 < (L.length : Int)) = false := decide_eq_false (by omega)
                go_wp2_with (go_at_call 46; ((with_reducible refine (K2.out _).mono ?_); rintro e w2 ⟨rfl, rfl⟩))
                go_ret
                exact ⟨ret_int (by rw [C0.out]; rfl), HB1.out⟩
            · have C0 := Lib.hid (NO.out (by rintro (h | ⟨_, h, _⟩); (rw [star_part] at h; cases h); omega))
              clear Y NO
              go_wp2_with (go_at_call 46; ((with_reducible refine (K2.out _).mono ?_); rintro e w2 ⟨rfl, rfl⟩))
              go_ret
              exact ⟨ret_int (by rw [C0.out]; rfl), HB1.out⟩
          · have hne := str_neq hp
            have hne2 : ((str p).toList == [42]) = false := by rw [← hne, show (str [42]).toList = [42] from Lib.toList_data _]
            cases v
            · have C0 := Lib.hid (NO.out (by rintro (h | ⟨h, _⟩); (rw [hv] at h; cases h); exact hp h))
              clear Y NO hv hp
              generalize str p = y at *
              go_wp2_with (go_at_call 46; ((with_reducible refine (K2.out _).mono ?_); rintro e w2 ⟨rfl, rfl⟩))
              go_ret
              exact ⟨ret_int (by rw [C0.out]; rfl), HB1.out⟩
            · have C0 := Lib.hid (Y.out (Or.inl hv))
              clear Y NO hv hp
              generalize str p = y at *
              go_wp2_with (go_at_call 46; ((with_reducible refine (K2.out _).mono ?_); rintro e w2 ⟨rfl, rfl⟩))
              go_roundw
              case rel => exact ⟨k + 1, by omega, by go_num, by trivial, C0⟩
              case measure => simp [intOf] <;> omega
        · have C0 : Hid (R = 0) := Lib.hid (by
            rw [HR.out, if_pos (HI.out.2 fun j h => hj.out j (by omega))])
          go_wp2
          go_ret
          exact ⟨ret_int (by rw [C0.out]; rfl), HB1.out⟩
  · obtain rfl : s = ByteArray.empty := by
      obtain ⟨⟨l⟩⟩ := s
      cases l with
      | nil => rfl
      | cons a t => exact absurd (Nat.succ_pos _) h0
    rw [if_pos (by decide)] at hR
    subst hR
    go_enter Tryd.func16, Tryd.ntmps16
    go_wp2
    go_ret
    exact ⟨rfl, Below.refl _ _⟩
end Go.Proofs.YtmflpjgedoopoaaDoor
