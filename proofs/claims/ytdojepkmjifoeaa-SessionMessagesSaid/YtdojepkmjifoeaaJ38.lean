/- The document's Message. -/
import Derived.Test.YtdojepkmjifoeaaJ37
import Derived.Test.YtdojepkmjifoeaaJ13
import Derived.Test.YtdojepkmjifoeaaJ14
set_option linter.unusedVariables false
set_option linter.unusedSimpArgs false
namespace Go.Proofs.Ytdojepkmjifoeaa
open Go.RowKit

theorem rbytes_any (k : Int) (e : Nat) (b : ByteArray) (he : e ≤ 18446744073709551615) (w : World) : Calls Try.prog 23 #[.agg #[.int .i64 k, .int .u64 (e : Int), .string b]] w fun r w' => (∃ c : Nat, r = .returned (.tuple #[.string (if 1 ≤ k ∧ k ≤ 255 ∧ b.size ≤ 8192 then str (frameL k.toNat e b.data.toList) else ⟨#[]⟩), .int .i64 (c : Int)])) ∧ Below w.heap.size w w' := by
  by_cases h1 : k < 1 ∨ 255 < k
  · rw [if_neg (by omega)]
    exact (rbytes_kind k e b h1 w).mono fun r w' ⟨h, hb⟩ => ⟨⟨10, h⟩, hb⟩
  · by_cases h2 : 8192 < b.size
    · rw [if_neg (by omega)]
      exact (rbytes_long k e b (by omega) (by omega) h2 w).mono fun r w' ⟨h, hb⟩ => ⟨⟨5, h⟩, hb⟩
    · rw [if_pos (by omega)]
      obtain ⟨q, rfl⟩ : ∃ q : Nat, k = q := ⟨k.toNat, by omega⟩
      exact (rbytes_ok q e b (by omega) (by omega) he (by omega) w).mono fun r w' ⟨h, hb⟩ => ⟨⟨0, by rw [h]; rfl⟩, hb⟩
/-- A list's box, and its values. -/
structure MI (w : World) (g : Nat) (h : List Tr) (ρ : Option Nat) (oo : Option Addr) (cap j : Nat) (xs : List Value) (wz : World) : Prop where
  len : h.length = j
  f : F4 wz g (.int .i64 3) (.int .u64 0) (.string ⟨#[]⟩) (.slice oo j cap)
  c : CT (g + 1) h ρ oo cap j xs wz
  b : Below w.heap.size w wz
  g0 : w.heap.size ≤ g
theorem MI.next {w : World} {g : Nat} {h : List Tr} {t : Tr} {ρ ρ' : Option Nat} {oo o' : Option Addr} {cap cap' j : Nat} {xs : List Value} {wz w7 : World} {d0 d1 d2 d3 : Value} (H : MI w g h ρ oo cap j xs wz) (ob : Obj) (hv : VInP (wz.alloc ob) (fun b => g + 1 ≤ b ∧ ρ ≠ some b) t d0 d1 d2 d3)
    (hR : VRow 62 ρ' o' cap' (j + 1) (xs ++ [d0, d1, d2, d3]) w7) (hn : Nxt ρ ρ' (wz.alloc ob)) (hc : Chg (wz.alloc ob).heap.size ρ (wz.alloc ob) w7) :
    MI w g (h ++ [t]) ρ' o' cap' (j + 1) (xs ++ [d0, d1, d2, d3]) (w7.setCell ⟨g, 3, none⟩ (.slice o' (j + 1) cap')) ∧ (w7.cell? ⟨g, 3, none⟩ = some (.slice oo j cap) ∧ w7.frozen? ⟨g, 3, none⟩ = false) := by
  obtain ⟨rfl, hf, hct, hb, hg⟩ := H
  have hbb := alloc_below wz ob
  have hgw := lt_of_heap hf
  have hput := ct_put (by simp; omega) (hct.later hbb) hv hR hn hc
  have hf6 := hf.later hbb
  have hf7 : F4 w7 g (.int .i64 3) (.int .u64 0) (.string ⟨#[]⟩) (.slice oo h.length cap) := (hc.2.2.2.2 g (lt_of_heap hf6) (by have := lt_of_heap hf6; omega) (fun e => by have := hct.2.1 g e; omega)).trans hf6
  refine ⟨⟨by simp, heap_setCell_same w7 g 3 _ 62 _ hf7, hput.set (Nat.lt_succ_self g) 3 _, ?_, hg⟩, (four_of hf7).1.2.2.2, (four_of hf7).2.2.2.2⟩
  have h7 : Below w.heap.size w w7 := (hb.trans (hbb.mono hb.size)).trans ⟨hc.1, hc.2.1, hc.2.2.1, hc.2.2.2.1, fun k hk => hc.2.2.2.2 k (by have := hb.size; simp; omega) (by have := hb.size; simp; omega) (fun e => by have := hct.2.1 k e; omega)⟩
  exact h7.setCell (p := ⟨g, 3, none⟩) hg _

set_option maxRecDepth 1000000 in
set_option maxHeartbeats 4000000 in
theorem rmessage_any (kd : Int) (e : Nat) (b : ByteArray) (ns : List Nat) (o : Option Addr) (cap B off : Nat) (hb : b.size ≤ 100000) (hns : ns.length ≤ 1000) (he : e ≤ 18446744073709551615) (hz : (txtT (rowT kd b ns)).length ≤ 100000000) (w : World) (ho : 0 < ns.length → o = some ⟨B, off, none⟩ ∧ B < w.heap.size) (hc : NsIn w B off ns) :
    Calls Try.prog 8 #[.int .i64 kd, .int .u64 (e : Int), .string b, .slice o ns.length cap] w fun r w' => r = .returned (.string (msgV kd e b ns)) ∧ Below w.heap.size w w' := by
  have HC : Hid (∀ wz, Below w.heap.size w wz → ∀ i (h : i < ns.length), wz.cell? ⟨B, off + i, none⟩ = some (.int .u64 (ns[i] : Int)) ∧ ns[i] ≤ 18446744073709551615) := Lib.hid (fun wz hb i h => ⟨(hb.cell (p := ⟨B, off + i, none⟩) (ho (by omega)).2).trans (hc i h).1, (hc i h).2⟩)
  have HO : Hid (0 < ns.length → o = some ⟨B, off, none⟩) := Lib.hid (fun h => (ho h).1)
  have HZ := Lib.hid hz
  have HBS := Lib.hid hb
  have K23 := Lib.hid (fun (S : ByteArray) w => rbytes_any kd e S he w)
  obtain ⟨m, hm⟩ : ∃ m, m = ns.length := ⟨_, rfl⟩
  have HM := Lib.hid hm
  rw [← hm] at hns ⊢
  have HM0 : Hid (MI w w.heap.size [] none none 0 0 [] (w.alloc (.cells #[.int .i64 3, .int .u64 0, .string ⟨#[]⟩, .slice none 0 0] 62))) := Lib.hid ⟨rfl, heap_alloc_new w _, CT.nil _ _, alloc_below _ _, Nat.le_refl _⟩
  clear ho hc hm hz he hb
  go_enter Try.func8, Try.ntmps8
  go_wp2
  generalize w.alloc (.cells #[.int .i64 3, .int .u64 0, .string ⟨#[]⟩, .slice none 0 0] 62) = w1 at *
  obtain ⟨g, hg⟩ : ∃ g, g = w.heap.size := ⟨_, rfl⟩
  rw [← hg] at HM0 ⊢
  clear hg
  go_loopw [11, 19] (fun _ i wz => ∃ (j : Nat) (ρ : Option Nat) (oo : Option Addr) (cc : Nat) (xs : List Value), j ≤ m ∧ i = .int .i64 (j : Int) ∧ Hid (MI w g ((ns.take j).map numT) ρ oo cc j xs wz)) (fun _ i _ => m - (intOf i).toNat)
  case atStart => exact ⟨0, none, none, 0, [], Nat.zero_le _, rfl, HM0⟩
  case round =>
    obtain ⟨j, ρ, oo, cc, xs, hj, rfl, HI⟩ := hrel
    obtain ⟨⟨x0, x1, x2, x3⟩, v0, v1, v2, v3⟩ := four_of HI.out.f
    by_cases hjm : j < m
    · have hjn : j < ns.length := by rw [← HM.out]; exact hjm
      obtain ⟨hcell, hn64⟩ := HC.out wr HI.out.b j hjn
      obtain rfl := HO.out (by omega)
      have HTK : Hid ((ns.take (j + 1)).map numT = (ns.take j).map numT ++ [numT ns[j]]) := Lib.hid (by
        rw [List.take_succ_eq_append_getElem hjn, List.map_append]; rfl)
      have HN := Lib.hid hn64
      generalize ns[j] = n at *
      have hj9 : j + 1 ≤ 1000000000 := by omega
      clear hjn hn64
      go_wp2_with (first
        | (refine wpList_vrow (.tmp 24) (.tmp 27) 60 62 rfl rfl Try.underlying60 info37 (wr.alloc (.cells #[.int .i64 1, .int .u64 (n : Int), .string ⟨#[]⟩, .slice none 0 0] 62)).heap.size ρ oo cc j xs (HI.out.c.later (alloc_below wr _)).1 hj9 _ [.int .i64 1, .int .u64 (n : Int), .string ⟨#[]⟩, .slice none 0 0] rfl (news_at wr _ 62 _ rfl) (by intro u hu; simp at hu; rcases hu with rfl | rfl | rfl | rfl <;> rfl) rfl rfl ?_; intro o7 cap7 w7 ρ7 hr7 hn7 hc7; have HN7 := Lib.hid (MI.next HI.out _ (vin_num _ _ n HN.out) hr7 hn7 hc7); obtain ⟨t3c, t3f⟩ := HN7.out.2; clear hr7 hn7 hc7))
      go_roundw
      case rel => exact ⟨j + 1, ρ7, o7, cap7, _, by omega, by go_num, by rw [HTK.out]; exact Lib.hid HN7.out.1⟩
      case measure => simp [intOf]; omega
    · obtain rfl : j = m := by omega
      have HTK : Hid ((ns.take j).map numT = ns.map numT) := Lib.hid (by rw [List.take_of_length_le (by rw [HM.out]; exact Nat.le_refl _)])
      by_cases h2 : kd = 2
      · have HRL : Hid (rowL 2 b ns = (ns.take j).map numT ++ [strT b]) := Lib.hid (by rw [HTK.out]; unfold rowL; rw [if_pos rfl])
        subst h2
        go_upto_region 9 with (first
          | (refine wpList_vrow (.tmp 34) (.tmp 37) 60 62 rfl rfl Try.underlying60 info37 (wr.alloc (.cells #[.int .i64 2, .int .u64 0, .string b, .slice none 0 0] 62)).heap.size ρ oo cc j xs (HI.out.c.later (alloc_below wr _)).1 (by omega) _ [.int .i64 2, .int .u64 0, .string b, .slice none 0 0] rfl (news_at wr _ 62 _ rfl) (by intro u hu; simp at hu; rcases hu with rfl | rfl | rfl | rfl <;> rfl) rfl rfl ?_; intro o7 cap7 w7 ρ7 hr7 hn7 hc7; have HN7 := Lib.hid (MI.next HI.out _ (vin_str _ _ b (Nat.le_trans HBS.out (by omega))) hr7 hn7 hc7); obtain ⟨t3c, t3f⟩ := HN7.out.2; clear hr7 hn7 hc7))
        have HR : Hid (MI w g (rowL 2 b ns) ρ7 o7 cap7 (j + 1) (xs ++ [.int .i64 2, .int .u64 0, .string b, .slice none 0 0]) (w7.setCell ⟨g, 3, none⟩ (.slice o7 (j + 1) cap7))) := Lib.hid (by rw [HRL.out]; exact HN7.out.1)
        clear x0 x1 x2 x3 v0 v1 v2 v3 t3c t3f HN7 HI
        generalize w7.setCell ⟨g, 3, none⟩ (.slice o7 (j + 1) cap7) = w8 at *
        obtain ⟨⟨x0, x1, x2, x3⟩, v0, v1, v2, v3⟩ := four_of HR.out.f
        have hvin : VIn w8 (rowT 2 b ns) (.int .i64 3) (.int .u64 0) (.string ⟨#[]⟩) (.slice o7 (j + 1) cap7) := by
          have hl := HR.out.len
          have hc := HR.out.c
          rw [← hl] at hc ⊢
          exact (ct_done (P := fun _ => True) (by rw [row_len]; have := HM.out; split <;> omega) (fun _ _ => True.intro) hc).plain
        have K22 := Lib.hid (rput_tree (rowT 2 b ns) _ _ _ _ w8 (by rw [deep_row]; decide) HZ.out hvin)
        have HBR := Lib.hid HR.out.b
        by_cases hp : putC (rowT 2 b ns) = 0
        · have hok : fdOk 2 b ns := ⟨by have := HM.out; omega, hp⟩
          have HV : Hid ((if 1 ≤ (2 : Int) ∧ (2 : Int) ≤ 255 ∧ (putS (rowT (2 : Int) b ns)).size ≤ 8192 then str (frameL ((2 : Int)).toNat e (putS (rowT (2 : Int) b ns)).data.toList) else ⟨#[]⟩) = msgV (2 : Int) e b ns) := Lib.hid (by
            unfold msgV fdK fdE fdB; rw [if_pos hok, if_pos hok, if_pos hok])
          have KB := Lib.hid (fun w => K23.out (putS (rowT (2 : Int) b ns)) w)
          rw [hp] at K22
          generalize hMM : (if 1 ≤ (2 : Int) ∧ (2 : Int) ≤ 255 ∧ (putS (rowT (2 : Int) b ns)).size ≤ 8192 then str (frameL ((2 : Int)).toNat e (putS (rowT (2 : Int) b ns)).data.toList) else ⟨#[]⟩) = MM at *
          clear hMM
          generalize putS (rowT (2 : Int) b ns) = S at *
          clear hok hp hvin
          go_wp2_with (first
            | (go_at_call 22; ((with_reducible refine (K22.out).mono ?_); rintro x wa ⟨rfl, hba⟩; have HBA := Lib.hid (bel' HBR.out hba); clear hba))
            | (go_at_call 23; ((with_reducible refine (KB.out _).mono ?_); rintro x wb ⟨⟨c, rfl⟩, hbb⟩; have HBB := Lib.hid (bel' HBA.out hbb); clear hbb)))
          go_ret
          exact ⟨by rw [← HV.out]; rfl, HBB.out⟩
        · have hok : ¬ fdOk 2 b ns := fun h => hp h.2
          have HV : Hid (msgV 2 e b ns = ⟨#[]⟩) := Lib.hid (by
            unfold msgV fdK; rw [if_neg hok, if_neg (by omega)])
          generalize putC (rowT 2 b ns) = pc at *
          have hpi : ((pc : Int) == 0) = false := by rw [beq_eq_false_iff_ne]; omega
          generalize putS (rowT 2 b ns) = S at *
          clear hok hvin
          go_wp2_with (first
            | (go_at_call 22; ((with_reducible refine (K22.out).mono ?_); rintro x wa ⟨rfl, hba⟩; have HBA := Lib.hid (bel' HBR.out hba); clear hba)))
          go_ret
          exact ⟨by rw [HV.out]; rfl, HBA.out⟩
      · have h2' : (kd == 2) = false := by rw [beq_eq_false_iff_ne]; exact h2
        have HR : Hid (MI w g (rowL kd b ns) ρ oo cc j xs wr) := Lib.hid (by
          have := HI.out
          rw [HTK.out] at this
          unfold rowL; rw [if_neg h2, List.append_nil]; exact this)
        clear x0 x1 x2 x3 v0 v1 v2 v3 HI
        obtain ⟨⟨x0, x1, x2, x3⟩, v0, v1, v2, v3⟩ := four_of HR.out.f
        have hvin : VIn wr (rowT kd b ns) (.int .i64 3) (.int .u64 0) (.string ⟨#[]⟩) (.slice oo j cc) := by
          have hl := HR.out.len
          have hc := HR.out.c
          rw [← hl] at hc ⊢
          exact (ct_done (P := fun _ => True) (by rw [row_len]; have := HM.out; split <;> omega) (fun _ _ => True.intro) hc).plain
        have K22 := Lib.hid (rput_tree (rowT kd b ns) _ _ _ _ wr (by rw [deep_row]; decide) HZ.out hvin)
        have HBR := Lib.hid HR.out.b
        by_cases hp : putC (rowT kd b ns) = 0
        · have hok : fdOk kd b ns := ⟨by have := HM.out; omega, hp⟩
          have HV : Hid ((if 1 ≤ kd ∧ kd ≤ 255 ∧ (putS (rowT kd b ns)).size ≤ 8192 then str (frameL (kd).toNat e (putS (rowT kd b ns)).data.toList) else ⟨#[]⟩) = msgV kd e b ns) := Lib.hid (by
            unfold msgV fdK fdE fdB; rw [if_pos hok, if_pos hok, if_pos hok])
          have KB := Lib.hid (fun w => K23.out (putS (rowT kd b ns)) w)
          rw [hp] at K22
          generalize hMM : (if 1 ≤ kd ∧ kd ≤ 255 ∧ (putS (rowT kd b ns)).size ≤ 8192 then str (frameL (kd).toNat e (putS (rowT kd b ns)).data.toList) else ⟨#[]⟩) = MM at *
          clear hMM
          generalize putS (rowT kd b ns) = S at *
          clear hok hp hvin
          go_wp2_with (first
            | (go_at_call 22; ((with_reducible refine (K22.out).mono ?_); rintro x wa ⟨rfl, hba⟩; have HBA := Lib.hid (bel' HBR.out hba); clear hba))
            | (go_at_call 23; ((with_reducible refine (KB.out _).mono ?_); rintro x wb ⟨⟨c, rfl⟩, hbb⟩; have HBB := Lib.hid (bel' HBA.out hbb); clear hbb)))
          go_ret
          exact ⟨by rw [← HV.out]; rfl, HBB.out⟩
        · have hok : ¬ fdOk kd b ns := fun h => hp h.2
          have HV : Hid (msgV kd e b ns = ⟨#[]⟩) := Lib.hid (by
            unfold msgV fdK; rw [if_neg hok, if_neg (by omega)])
          generalize putC (rowT kd b ns) = pc at *
          have hpi : ((pc : Int) == 0) = false := by rw [beq_eq_false_iff_ne]; omega
          generalize putS (rowT kd b ns) = S at *
          clear hok hvin
          go_wp2_with (first
            | (go_at_call 22; ((with_reducible refine (K22.out).mono ?_); rintro x wa ⟨rfl, hba⟩; have HBA := Lib.hid (bel' HBR.out hba); clear hba)))
          go_ret
          exact ⟨by rw [HV.out]; rfl, HBA.out⟩
end Go.Proofs.Ytdojepkmjifoeaa
