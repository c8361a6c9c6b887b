/- The document's Next of values: lists; of any text. -/
import Derived.Test.YtdojepkmjifoeaaJ23
set_option linter.unusedVariables false
set_option linter.unusedSimpArgs false
namespace Go.Proofs.Ytdojepkmjifoeaa
open Go.RowKit

set_option maxRecDepth 1000000 in
set_option maxHeartbeats 4000000 in
theorem nx_list (s : ByteArray) (hmax : s.size ≤ 1000000) (p d : Nat) (hp : p < s.size) (hk : s[p].toNat = 3) (n j : Nat) (hL : lngA 0 0 (s.data.toList.drop (p + 1)) = (n, j, 0)) (hd : d < 6)
    (IH : ∀ q, p < q → q ≤ s.size → ∀ w, Calls Try.prog 29 #[.string s, .int .i64 (q : Int), .int .i64 ((d + 1 : Nat) : Int)] w fun e w' => NxR s q (d + 1) w e w') (w : World) : Calls Try.prog 29 #[.string s, .int .i64 (p : Int), .int .i64 (d : Int)] w fun e w' => NxR s p d w e w' := by
  have K52 := Lib.hid (long_behind s (by omega) p hp n j 0 hL)
  obtain ⟨hn, hj, hj0, _⟩ := lng_facts s p hp n j 0 hL
  obtain ⟨a, ha⟩ : ∃ a, a = p + 1 + j := ⟨_, rfl⟩
  have hai : (p : Int) + 1 + (j : Int) = (a : Int) := by omega
  have has : a ≤ s.size := by omega
  have hwa : IntKind.i64.wrap ((p : Int) + 1 + (j : Int)) = (a : Int) := by rw [IntWalk.i64_in _ (by omega), hai]
  have hwb : IntKind.i64.wrap (a : Int) = (a : Int) := IntWalk.i64_in _ (by omega)
  have h0q : (0 : Int) ≤ (p : Int) + 1 := by omega
  have h1q : (p : Int) + 1 ≤ (s.size : Int) := by omega
  have hd6 : ((d : Int) == 6) = false := by rw [beq_eq_false_iff_ne]; omega
  obtain ⟨d1, hd1⟩ : ∃ d1, d1 = d + 1 := ⟨_, rfl⟩
  rw [← hd1] at IH
  have hdi : (d : Int) + 1 = (d1 : Int) := by omega
  have hwd : IntKind.i64.wrap (d1 : Int) = (d1 : Int) := IntWalk.i64_in _ (by omega)
  have HIH := Lib.hid IH
  have HBAD : Hid (∀ (w' : World) (c : Nat), c ≠ 0 → Below w.heap.size w w' → (∀ st, st.length = d → rd .v st (s.data.toList.drop p) = (c, t0, [])) → NxR s p d w (.returned (.tuple #[.agg #[.int .i64 0, .int .u64 0, .string ⟨#[]⟩, .slice none 0 0], .int .i64 0, .int .i64 (c : Int)])) w') := Lib.hid (fun w' c hc hb h => NxR.bad c hc hb h)
  have HOPEN : Hid (∀ st, st.length = d → rd .v st (s.data.toList.drop p) = rd .n ((n, []) :: st) (s.data.toList.drop a)) := Lib.hid (fun st hst => by
    rw [drop_one s p hp, rd_open st _ _ hk (by rw [hL]) (by omega), hL, List.drop_drop, ha])
  have HPA : Hid (p < a) := Lib.hid (by omega)
  have HD1 := Lib.hid hd1
  have HMX := Lib.hid hmax
  have HAS := Lib.hid has
  clear hL ha hj hj0 IH hd hd1
  go_enter Try.func29, Try.ntmps29
  go_upto_region 7 with (first
    | (go_at_call 52; ((with_reducible refine (K52.out _).mono ?_); rintro z w5 ⟨rfl, hb5⟩; have HF := Lib.hid ((F2.new w _ _ _ _).later hb5); clear hb5)))
  have HLI : Hid (LI s p d a n w w.heap.size (w.heap.size + 1) a 0 [] none none 0 [] w5) := Lib.hid ⟨rfl, Nat.zero_le _, ⟨Nat.le_refl _, HAS.out⟩, HOPEN.out, HF.out, CT.nil _ _⟩
  obtain ⟨⟨z0, z1, z2, z3⟩, y0, y1, y2, y3⟩ := four_of HF.out.z
  obtain ⟨⟨x0, x1, x2, x3⟩, v0, v1, v2, v3⟩ := four_of HF.out.v
  go_wp2
  clear z0 z1 z2 z3 y0 y1 y2 y3 x0 x1 x2 x3 v0 v1 v2 v3 HF HOPEN K52
  go_loopw [1, 13, 14, 15, 16] (fun x1 x13 _ _ _ wz => ∃ (q i : Nat) (h : List Tr) (ρ : Option Nat) (oo : Option Addr) (cap : Nat) (xs : List Value), x1 = .int .i64 q ∧ x13 = .int .u64 i ∧ Hid (LI s p d a n w w.heap.size (w.heap.size + 1) q i h ρ oo cap xs wz)) (fun _ x13 _ _ _ _ => n - (intOf x13).toNat)
  case atStart => exact ⟨a, 0, [], none, none, 0, [], rfl, rfl, HLI⟩
  case round =>
    obtain ⟨q, i, h, ρ, oo, cap, xs, rfl, rfl, HL⟩ := hrel
    have hle := HL.out.le
    have hat := HL.out.at_
    have has2 := HAS.out
    have hmx := HMX.out
    by_cases hlt : i < n
    · have K29 := Lib.hid (HIH.out q (by have := HPA.out; omega) hat.2 wr)
      have hi1 : (i : Int) < (n : Int) := by omega
      have hiw : i + 1 ≤ 1000000000 := by omega
      go_upto_region 24 with (first
        | (go_at_call 29; ((with_reducible refine (K29.out).mono ?_); rintro e w4 ⟨hb4, c, p', t, c0, c1, c2, c3, rfl, hv, hbad, hok⟩; obtain ⟨k5, n5, s5, o5, l5, cap5, rfl, rfl, rfl, rfl⟩ := hv.cells; have HV := Lib.hid hv; have HBD := Lib.hid hbad; have HOK := Lib.hid hok; have HB4 := Lib.hid hb4; clear hv hbad hok hb4)))
      have HF5 := Lib.hid (HL.out.f.later (HB4.out.trans ((alloc_below w4 (.cells #[.int .i64 k5, .int .u64 (n5 : Int), .string s5, .slice o5 l5 cap5] 62)).mono HB4.out.size)))
      obtain ⟨⟨z0, z1, z2, z3⟩, y0, y1, y2, y3⟩ := four_of HF5.out.z
      obtain ⟨⟨x0, x1, x2, x3⟩, v0, v1, v2, v3⟩ := four_of HF5.out.v
      by_cases hc : c = 0
      · subst hc
        obtain ⟨hq1, hq2, hrd⟩ := HOK.out rfl
        have HQ := Lib.hid (And.intro hq1 hq2)
        have HRD := Lib.hid hrd
        have hq3 : p' ≤ 1000000 := by omega
        clear hrd
        go_wp2_with (first
          | (refine wpList_vrow (.tmp 106) (.tmp 108) 60 62 rfl rfl Try.underlying60 info37 ((w4.alloc (.cells #[.int .i64 k5, .int .u64 (n5 : Int), .string s5, .slice o5 l5 cap5] 62)).alloc (.cells #[.int .i64 k5, .int .u64 (n5 : Int), .string s5, .slice o5 l5 cap5] 62)).heap.size ρ oo cap i xs (((HL.out.c.later HB4.out).later (alloc_below w4 _)).later (alloc_below _ _)).1 hiw _ [.int .i64 k5, .int .u64 (n5 : Int), .string s5, .slice o5 l5 cap5] rfl (news_at (w4.alloc (.cells #[.int .i64 k5, .int .u64 (n5 : Int), .string s5, .slice o5 l5 cap5] 62)) _ 62 _ (by simp)) (by intro u hu; simp at hu; rcases hu with rfl | rfl | rfl | rfl <;> rfl) rfl rfl ?_; intro o7 cap7 w7 ρ7 hr7 hn7 hc7; have HN := Lib.hid (LI.next HL.out hlt HB4.out HV.out HQ.out (fun st hst => HRD.out st (hst.trans HD1.out.symm)) _ _ hr7 hn7 hc7); have HF7 := Lib.hid (nx_pre HL.out HB4.out _ _ hc7); obtain ⟨t3c, t3f⟩ := HF7.out; clear hr7 hn7 hc7 z0 z1 z2 z3 y0 y1 y2 y3 x0 x1 x2 x3 v0 v1 v2 v3))
        go_roundw
        case rel => exact ⟨p', i + 1, h ++ [t], ρ7, o7, cap7, _, rfl, by go_num, HN⟩
        case measure => simp [intOf]; omega
      · have hcn : ((c : Int) == 0) = false := by rw [beq_eq_false_iff_ne]; omega
        have HRE := Lib.hid (HBAD.out · c hc · (fun st hst => by
          have e : n - i = (n - (i + 1)) + 1 := by omega
          rw [HL.out.rd st hst, e, rd_more, HBD.out hc _ (by simp [hst]; exact HD1.out.symm)]))
        clear HL hle hat
        go_wp2
        refine bodyPost_ret (v := .tuple #[.agg #[.int .i64 0, .int .u64 0, .string ⟨#[]⟩, .slice none 0 0], .int .i64 0, .int .i64 (c : Int)]) (by simp [results, Try.results29, go_sem, z0, z1, z2, z3, y0, y1, y2, y3, x0, x1, x2, x3, v0, v1, v2, v3]) rfl (HRE.out _ ?_)
        exact below4 HF5.out.b (Nat.le_refl _) _ _ _ _
    · obtain rfl : i = n := by omega
      have hl := HL.out.len
      subst hl
      have HV := Lib.hid (ct_done (P := fun b => w.heap.size + 1 ≤ b) (by omega) (fun b hb => by omega) HL.out.c)
      have HRD : Hid (∀ st, st.length = d → rd .v st (s.data.toList.drop p) = rd (.w (.mk 3 0 ⟨#[]⟩ h)) st (s.data.toList.drop q)) := Lib.hid (fun st hst => by
        rw [HL.out.rd st hst, Nat.sub_self, rd_none])
      have HQ := Lib.hid (show p < q ∧ q ≤ s.size from ⟨by have := HPA.out; omega, hat.2⟩)
      have HF5 := HL.out.f
      obtain ⟨⟨z0, z1, z2, z3⟩, y0, y1, y2, y3⟩ := four_of HF5.z
      obtain ⟨⟨x0, x1, x2, x3⟩, v0, v1, v2, v3⟩ := four_of HF5.v
      obtain ⟨nh, hnh⟩ : ∃ nh, nh = h.length := ⟨_, rfl⟩
      rw [← hnh] at x3 HV ⊢
      have HB5 := Lib.hid HF5.b
      clear HL hle hat HF5 HBAD hnh
      go_wp2
      refine bodyPost_ret (v := .tuple #[.agg #[.int .i64 3, .int .u64 0, .string ⟨#[]⟩, .slice oo nh cap], .int .i64 (q : Int), .int .i64 0]) (by simp [results, Try.results29, go_sem, z0, z1, z2, z3, y0, y1, y2, y3, x0, x1, x2, x3, v0, v1, v2, v3]) rfl ?_
      refine NxR.fine q (.mk 3 0 ⟨#[]⟩ h) _ _ _ _ (below4 HB5.out (Nat.le_refl _) _ _ _ _) ?_ HQ.out.1 HQ.out.2 HRD.out
      refine VInP.keep (by simp) (fun b _ hP => ⟨?_, by omega⟩) _ HV.out
      have hne : b ≠ w.heap.size := by omega
      rw [heap_setCell_other _ ⟨w.heap.size, 3, none⟩ b _ hne, heap_setCell_other _ ⟨w.heap.size, 2, none⟩ b _ hne, heap_setCell_other _ ⟨w.heap.size, 1, none⟩ b _ hne, heap_setCell_other _ ⟨w.heap.size, 0, none⟩ b _ hne]

/-- What the document's Next answers, of any text. -/
theorem nx_any (s : ByteArray) (hmax : s.size ≤ 1000000) : ∀ (m p d : Nat), s.size - p ≤ m → p ≤ 1000000000 → d ≤ 6 → ∀ w, Calls Try.prog 29 #[.string s, .int .i64 (p : Int), .int .i64 (d : Int)] w fun e w' => NxR s p d w e w' := by
  intro m
  induction m with
  | zero => exact fun p d hm hp hd w => nx_end s (by omega) p d (by omega) hp w
  | succ m ih =>
    intro p d hm hp hd w
    by_cases hps : s.size ≤ p
    · exact nx_end s (by omega) p d hps hp w
    have hps' : p < s.size := by omega
    by_cases hk : s[p].toNat < 1 ∨ 3 < s[p].toNat
    · exact nx_kind s (by omega) p d hps' hk w
    obtain ⟨n, j, e, hL⟩ : ∃ n j e, lngA 0 0 (s.data.toList.drop (p + 1)) = (n, j, e) := ⟨_, _, _, rfl⟩
    by_cases he : e = 0
    · subst he
      rcases (by omega : s[p].toNat = 1 ∨ s[p].toNat = 2 ∨ s[p].toNat = 3) with h1 | h2 | h3
      · exact nx_num s (by omega) p d hps' h1 n j hL w
      · by_cases hs : s.size < p + 1 + j + n
        · exact nx_short s (by omega) p d hps' h2 n j hL hs w
        · exact nx_str s (by omega) p d hps' h2 n j hL (by omega) w
      · by_cases h6 : d = 6
        · exact nx_deep s (by omega) p d hps' h3 n j hL h6 w
        · exact nx_list s hmax p d hps' h3 n j hL (by omega) (fun q hq hqs w => ih q (d + 1) (by omega) (by omega) (by omega) w) w
    · exact nx_lng s (by omega) p d hps' hk n j e hL he w
end Go.Proofs.Ytdojepkmjifoeaa
