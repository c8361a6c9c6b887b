/- Walk of the law PairSums. -/
import Derived.Test.YtfakkbjnapelfaaFG
import Derived.WalkSpells
import Derived.Deep.LoopGhost
namespace Go.Proofs.Ytfakkbjnapelfaa
open Go.RowKit
open Fl

def ccells (l : List (Int × Int)) : List Value := l.map fun p => cplx p.1 p.2

theorem Try.info26 : (Try.prog.info? 26).map (fun i => (i.zero, i.size, i.bytes)) = some (some (.complex .f64 0 0), 1, 16) := by kernel_rfl

/-- 'l = append(l, z)' of one complex number, l nil or the call's own. -/
theorem wpList_append_cplx (W : World) {ops : Array Oper} {rest : List Oper} {o : Oper} {a : Act} {Q : Exit → Act → World → Prop} (hgd : o.guard = none) (s x : Operand)
    (ho : o.op = .call { callee := .builtin .append, args := #[s, x], argTypes := #[24, 24] })
    (B : Nat) (v : Value) (k : Nat) (l : List (Int × Int)) (hs : a.eval s = v) (hown : W.ownsRow B 26 1 v k (ccells l))
    (p q : Int) (hx : a.eval x = .slice (some ⟨W.heap.size, 0, none⟩) 1 1)
    (hk : k + 1 ≤ 1000) (hB : B ≤ W.heap.size)
    (h : ∀ v' w', w'.ownsRow B 26 1 v' (k + 1) (ccells (l ++ [(p, q)])) → Below B W w' → (∀ g, g < W.heap.size → v.ownBlock ≠ some g → w'.heap[g]? = W.heap[g]?) → wpList Try.prog ops Q rest (a.put o.dst v') w') :
    wpList Try.prog ops Q (o :: rest) a (W.alloc (.cells #[.complex .f64 (fb p) (fb q)] 26)) := by
  obtain ⟨i0, hi, hz0, hz1, hz2⟩ := info_parts Try.info26
  refine wpList_append_own _ hgd s x 24 ho B 26 i0 (.complex .f64 0 0) 1 16 Try.underlying24 hi hz0 hz1 hz2 rfl (by decide) v k (ccells l) hs (hown.alloc _) ⟨W.heap.size, 0, none⟩ 1 1 [.complex .f64 (fb p) (fb q)] hx rfl ?_ ?_ ?_ ?_ ?_ ?_
  · intro j u hj
    match j, hj with
    | 0, hj => simp at hj; subst hj; simp [Addr.add]
  · intro u hu; simp at hu; subst hu; rfl
  · unfold maxLen; omega
  · omega
  · simp; omega
  · intro v' w' h1 h2 _
    have e : ccells l ++ [.complex .f64 (fb p) (fb q)] = ccells (l ++ [(p, q)]) := by simp [ccells, cplx]
    rw [e] at h1
    refine h v' w' h1 ?_ ?_
    · refine (((Below.refl B W).alloc hB _).grown h2 (by simp; omega) ?_)
      intro g hg
      exact (hown.lt g hg).1
    · intro g hg hne
      rw [← Below.heap_alloc W (.cells #[.complex .f64 (fb p) (fb q)] 26) g hg]
      exact h2.block g (by simp; omega) (fun e => hne e.symm)

def held2 (l : List (Int × Int)) : List (Int × Int) := l.map fun p => (holdI p.1, holdI p.2)
theorem drewN_size (w : World) (n : Nat) : (w.drewN n).heap.size = w.heap.size := rfl

set_option maxRecDepth 1000000 in
set_option maxHeartbeats 4000000 in
theorem pairSums_walk (l : List (Int × Int)) (at0 : Option Addr) (cap b off : Nat) (w : World) (hcap : l.length ≤ 9223372036854775807)
    (hat : 0 < l.length → at0 = some ⟨b, off, none⟩) (hblt : 0 < l.length → b < w.heap.size)
    (hc : ∀ k (h : k < l.length), w.cell? ⟨b, off + k * 2, none⟩ = some (.int .i64 l[k].1) ∧ w.cell? ⟨b, off + k * 2 + 1, none⟩ = some (.int .i64 l[k].2)) :
    Calls Try.prog 3 #[.slice at0 l.length cap] w fun e w' => e = .returned (.bool true) ∧ Below w.heap.size w w' := by
  have K0 := Lib.hid awake_any
  have HC := Lib.hid hc
  have HAT := Lib.hid hat
  have HBLT := Lib.hid hblt
  clear hc hat hblt
  by_cases hbig : 50 < l.length
  · go_enter Try.func3, Try.ntmps3
    go_wp2_with ((go_at_call 7; ((with_reducible refine (K0.out _).mono ?_); rintro e w1 ⟨rfl, rfl⟩)))
    go_ret
    exact ⟨rfl, Below.refl _ _⟩
  · obtain ⟨A, hA⟩ : ∃ A, accA (held2 l) 0 = A := ⟨_, rfl⟩
    obtain ⟨B, hB⟩ : ∃ B, accB (held2 l) 0 = B := ⟨_, rfl⟩
    have HA := Lib.hid hA
    have HB := Lib.hid hB
    clear hA hB
    have hn : l.length ≤ 50 := by omega
    clear hbig hcap
    have hlen2 : (held2 l).length = l.length := by unfold held2; simp
    have HL2 := Lib.hid hlen2
    clear hlen2
    go_enter Try.func3, Try.ntmps3
    go_wp2_with ((go_at_call 7; ((with_reducible refine (K0.out _).mono ?_); rintro e w1 ⟨rfl, rfl⟩)))
    go_loopw [3, 4, 5, 17] (fun v x y i wr => ∃ (k : Nat) (s t : Int), k ≤ l.length ∧ i = .int .i64 k ∧ x = .int .i64 s ∧ y = .int .i64 t ∧ In s ∧ In t ∧ Hid (Below w.heap.size w wr) ∧ Hid (wr.ownsRow w.heap.size 26 1 v k (ccells ((held2 l).take k))) ∧ Hid (accA ((held2 l).drop k) s = A) ∧ Hid (accB ((held2 l).drop k) t = B)) (fun _ _ _ i _ => l.length - (intOf i).toNat)
    case atStart => exact ⟨0, 0, 0, by omega, rfl, rfl, rfl, by unfold In; omega, by unfold In; omega, Lib.hid (Below.refl _ _), Lib.hid (World.ownsRow_nil _ _ _ _), HA, HB⟩
    case round =>
      obtain ⟨k, s, t, hk, rfl, rfl, rfl, hs, ht, hbel, hown, hA, hB⟩ := hrel
      by_cases hlt : k < l.length
      · obtain rfl := HAT.out (by omega)
        have hbb := HBLT.out (by omega)
        obtain ⟨c0, c1⟩ := HC.out k hlt
        rw [← hbel.out.cell (p := ⟨b, off + k * 2, none⟩) hbb] at c0
        rw [← hbel.out.cell (p := ⟨b, off + k * 2 + 1, none⟩) hbb] at c1
        have hlt2 : k < (held2 l).length := by rw [HL2.out]; exact hlt
        have hel : (held2 l)[k]'hlt2 = (holdI l[k].1, holdI l[k].2) := List.getElem_map (fun p : Int × Int => (holdI p.1, holdI p.2))
        have hd := List.drop_eq_getElem_cons hlt2
        rw [hel] at hd
        have htk : (held2 l).take (k + 1) = (held2 l).take k ++ [(holdI l[k].1, holdI l[k].2)] := by
          rw [List.take_succ_eq_append_getElem hlt2, hel]
        have HTK := Lib.hid htk
        have HA2 : Hid (accA ((held2 l).drop (k + 1)) (holdI (s + holdI l[k].1)) = A) := Lib.hid (by have := hA.out; rw [hd] at this; exact this)
        have HB2 : Hid (accB ((held2 l).drop (k + 1)) (holdI (t + holdI l[k].2)) = B) := Lib.hid (by have := hB.out; rw [hd] at this; exact this)
        clear hd htk hel hA hB hbb HC HBLT HAT
        have KX : Hid (∀ w, Calls Try.prog 9 #[.int .i64 l[k].1] w fun e w' => e = .returned (.int .i64 (holdI l[k].1)) ∧ w' = w) := Lib.hid (fun w => (hold_any l[k].1 w).mono fun e w' ⟨h1, h2⟩ => ⟨h1, h2.symm⟩)
        have KY : Hid (∀ w, Calls Try.prog 9 #[.int .i64 l[k].2] w fun e w' => e = .returned (.int .i64 (holdI l[k].2)) ∧ w' = w) := Lib.hid (fun w => (hold_any l[k].2 w).mono fun e w' ⟨h1, h2⟩ => ⟨h1, h2.symm⟩)
        generalize l[k].1 = x at *
        generalize l[k].2 = y at *
        have ix := holdI_in x
        have iy := holdI_in y
        have KO : Hid (∀ w, Calls Try.prog 8 #[.int .i64 (holdI x), .int .i64 (holdI y)] w fun e w' => e = .returned (.tuple #[cplx (holdI x) (holdI y), .int .i64 0]) ∧ w' = w) := Lib.hid (fun w => (of_any _ _ ix iy w).mono fun e w' ⟨h1, h2⟩ => ⟨h1, h2.symm⟩)
        have KS : Hid (∀ w, Calls Try.prog 9 #[.int .i64 (s + holdI x)] w fun e w' => e = .returned (.int .i64 (holdI (s + holdI x))) ∧ w' = w) := Lib.hid (fun w => (hold_any _ w).mono fun e w' ⟨h1, h2⟩ => ⟨h1, h2.symm⟩)
        have KT : Hid (∀ w, Calls Try.prog 9 #[.int .i64 (t + holdI y)] w fun e w' => e = .returned (.int .i64 (holdI (t + holdI y))) ∧ w' = w) := Lib.hid (fun w => (hold_any _ w).mono fun e w' ⟨h1, h2⟩ => ⟨h1, h2.symm⟩)
        have HIN := Lib.hid (And.intro (holdI_in (s + holdI x)) (holdI_in (t + holdI y)))
        have hw1 : IntKind.i64.wrap (s + holdI x) = s + holdI x := IntWalk.i64_in _ (by unfold In at *; omega)
        have hw2 : IntKind.i64.wrap (t + holdI y) = t + holdI y := IntWalk.i64_in _ (by unfold In at *; omega)
        clear ix iy hs ht
        unfold cplx at KO
        generalize holdI (s + holdI x) = s2 at *
        generalize holdI (t + holdI y) = t2 at *
        generalize holdI x = p at *
        generalize holdI y = q at *
        have HW1 := Lib.hid hw1
        have HW2 := Lib.hid hw2
        clear hw1 hw2
        have hbel1 := Lib.hid (hbel.out.alloc hbel.out.size (.cells #[.int .i64 x, .int .i64 y] 25))
        have hown1 := Lib.hid (hown.out.alloc (.cells #[.int .i64 x, .int .i64 y] 25))
        have d0 : (wr.alloc (.cells #[.int .i64 x, .int .i64 y] 25)).cell? ⟨wr.heap.size, 0, none⟩ = some (.int .i64 x) := by rw [World.cell?_alloc_new]; rfl
        have d1 : (wr.alloc (.cells #[.int .i64 x, .int .i64 y] 25)).cell? ⟨wr.heap.size, 1, none⟩ = some (.int .i64 y) := by rw [World.cell?_alloc_new]; rfl
        have hz : wr.heap.size < (wr.alloc (.cells #[.int .i64 x, .int .i64 y] 25)).heap.size := by simp
        have hnob : u3.ownBlock ≠ some wr.heap.size := fun e => by have := (hown.out.lt _ e).2; omega
        have D0 := Lib.hid d0
        have D1 := Lib.hid d1
        have HZ := Lib.hid hz
        have HNOB := Lib.hid hnob
        clear d0 d1 hz hnob hown hbel
        go_wp2
        clear c0 c1
        generalize wr.alloc (.cells #[.int .i64 x, .int .i64 y] 25) = W1 at *
        have d0 := D0.out
        have d1 := D1.out
        go_quiet ((first | (go_at_call 9; exact Calls.quiet_of_same (KX.out _)) | (go_at_call 9; exact Calls.quiet_of_same (KY.out _)) | (go_at_call 8; exact Calls.quiet_of_same (KO.out _))))
        rename_i nq
        simp only [Exit.then]
        apply_assumption
        have hbel2 : Hid (Below w.heap.size w (W1.drewN nq)) := Lib.hid ⟨hbel1.out.os, hbel1.out.tape, hbel1.out.output, hbel1.out.size, hbel1.out.block⟩
        have hown2 : Hid ((W1.drewN nq).ownsRow w.heap.size 26 1 u3 k (ccells ((held2 l).take k))) := hown1
        have D0' : Hid ((W1.drewN nq).cell? ⟨wr.heap.size, 0, none⟩ = some (.int .i64 x)) := D0
        have D1' : Hid ((W1.drewN nq).cell? ⟨wr.heap.size, 1, none⟩ = some (.int .i64 y)) := D1
        have HZ' : Hid (wr.heap.size < (W1.drewN nq).heap.size) := HZ
        clear d0 d1 D0 D1 HZ hbel1 hown1
        generalize W1.drewN nq = W2 at *
        go_wp2_with (first
          | (at_builtin; go_must (refine wpList_append_cplx W2 rfl (.tmp 33) (.tmp 35) rfl w.heap.size u3 k ((held2 l).take k) rfl hown2.out p q rfl (by omega) hbel2.out.size ?_); intro v' w' hown3 hb3 hkept))
        have e0 : w'.cell? ⟨wr.heap.size, 0, none⟩ = some (.int .i64 x) := by
          rw [World.cell?_of_block (w := W2) (w' := w') (a := ⟨wr.heap.size, 0, none⟩) (hkept _ HZ'.out HNOB.out)]; exact D0'.out
        have e1 : w'.cell? ⟨wr.heap.size, 1, none⟩ = some (.int .i64 y) := by
          rw [World.cell?_of_block (w := W2) (w' := w') (a := ⟨wr.heap.size, 1, none⟩) (hkept _ HZ'.out HNOB.out)]; exact D1'.out
        have hw1 := HW1.out
        have hw2 := HW2.out
        go_quiet ((first | (go_at_call 9; exact Calls.quiet_of_same (KX.out _)) | (go_at_call 9; exact Calls.quiet_of_same (KY.out _)) | (go_at_call 9; exact Calls.quiet_of_same (KS.out _)) | (go_at_call 9; exact Calls.quiet_of_same (KT.out _))))
        simp only [Exit.inBlock, Exit.then]
        apply_assumption
        clear hw1 hw2
        have hbel4 : Hid (Below w.heap.size w (w'.drewN nq)) := Lib.hid (hbel2.out.trans ⟨hb3.os, hb3.tape, hb3.output, hb3.size, hb3.block⟩)
        have hown4 : Hid ((w'.drewN nq).ownsRow w.heap.size 26 1 v' (k + 1) (ccells ((held2 l).take k ++ [(p, q)]))) := Lib.hid hown3
        rw [← HTK.out] at hown4
        go_wp2
        go_roundw
        case rel => exact ⟨k + 1, s2, t2, by omega, by go_num, rfl, rfl, HIN.out.1, HIN.out.2, hbel4, hown4, HA2, HB2⟩
        case measure => simp [intOf]; omega
      · have e : (held2 l).drop k = [] := List.drop_of_length_le (by rw [HL2.out]; omega)
        have e2 : (held2 l).take k = held2 l := List.take_of_length_le (by rw [HL2.out]; omega)
        have eA := hA.out
        have eB := hB.out
        have hown' := hown.out
        rw [e] at eA eB
        rw [e2] at hown'
        obtain rfl : k = l.length := by omega
        obtain rfl : s = A := eA
        obtain rfl : t = B := eB
        have KI := Lib.hid (is_law s t hs ht)
        have hel : ∀ (j : Nat) (h : j < (held2 l).length), (ccells (held2 l))[j]? = some (cplx (held2 l)[j].1 (held2 l)[j].2) := fun j h => by
          unfold ccells; rw [List.getElem?_map, List.getElem?_eq_getElem h]; rfl
        have hin : ∀ p ∈ held2 l, In p.1 ∧ In p.2 := fun p hp => by
          unfold held2 at hp
          obtain ⟨q, _, rfl⟩ := List.mem_map.1 hp
          exact ⟨holdI_in _, holdI_in _⟩
        have KS : Hid (Calls Try.prog 11 #[u3] wr fun e w' => e = .returned (cplx s t) ∧ wr = w') := Lib.hid (by
          rcases hown'.2 with ⟨rfl, h0⟩ | ⟨g, cap2, cur, rfl, _, _, _, _, _, _⟩
          · have := psum_any (held2 l) hin (by rw [HL2.out]; omega) none 0 0 0 (by rw [HL2.out]; exact h0.symm) wr (fun h => by rw [HL2.out] at h; omega) (fun j h => by rw [HL2.out] at h; omega)
            rw [HA.out, HB.out] at this
            exact this
          · have := psum_any (held2 l) hin (by rw [HL2.out]; omega) (some ⟨g, 0, none⟩) l.length cap2 g HL2.out.symm wr (fun _ => rfl) (fun j h => by
              rw [hown'.cellAt j (by rw [HL2.out] at h; omega)]
              exact hel j h)
            rw [HA.out, HB.out] at this
            exact this)
        clear e e2 hown' hs ht hel hin hA hB HA HB hown
        unfold cplx at KS KI
        go_wp2_with (first
          | (go_at_call 11; ((with_reducible refine (KS.out).mono ?_); rintro e w1 ⟨rfl, rfl⟩))
          | (go_at_call 10; ((with_reducible refine (KI.out _).mono ?_); rintro e w1 ⟨rfl, rfl⟩)))
        go_ret
        exact ⟨rfl, hbel.out⟩
end Go.Proofs.Ytfakkbjnapelfaa
