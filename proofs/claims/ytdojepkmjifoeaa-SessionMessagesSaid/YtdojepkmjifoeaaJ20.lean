/- The document's Next of values: numbers, texts, errors. -/
import Derived.Test.YtdojepkmjifoeaaJ19
set_option linter.unusedVariables false
set_option linter.unusedSimpArgs false
namespace Go.Proofs.Ytdojepkmjifoeaa
open Go.RowKit

theorem long_behind (s : ByteArray) (hmax : s.size ≤ 1000000000) (p : Nat) (hp : p < s.size) (n j e : Nat) (h : lngA 0 0 (s.data.toList.drop (p + 1)) = (n, j, e)) (wz : World) : Calls Try.prog 52 #[.string (s.extract (p + 1) s.size)] wz fun r w' => r = .returned (.tuple #[.int .u64 (n : Int), .int .i64 (j : Int), .int .i64 (e : Int)]) ∧ Below wz.heap.size wz w' := by
  have hs : (s.extract (p + 1) s.size).size ≤ 1000000000 := by rw [ByteArray.size_extract]; omega
  have hd : (s.extract (p + 1) s.size).data.toList = s.data.toList.drop (p + 1) := by
    rw [ext_list, List.take_of_length_le (by simp)]
  refine (rlong_any _ hs wz).mono (fun r w' h2 => ⟨?_, h2.2⟩)
  rw [h2.1, hd, h]
  rfl
theorem lng_facts (s : ByteArray) (p : Nat) (hp : p < s.size) (n j e : Nat) (h : lngA 0 0 (s.data.toList.drop (p + 1)) = (n, j, e)) : n ≤ 18446744073709551615 ∧ p + 1 + j ≤ s.size ∧ (e = 0 → 0 < j) ∧ e ≤ 4 := by
  have := lng_le (s.data.toList.drop (p + 1)) 0 0 (by omega) (by omega)
  rw [h] at this
  have hl : (s.data.toList.drop (p + 1)).length = s.size - (p + 1) := by simp
  rw [hl] at this
  exact ⟨this.1, by have := this.2.1; simp only at this; omega, fun he => this.2.2.1 he, this.2.2.2⟩
set_option maxRecDepth 1000000 in
set_option maxHeartbeats 2000000 in
theorem nx_lng (s : ByteArray) (hmax : s.size ≤ 1000000000) (p d : Nat) (hp : p < s.size) (hk : ¬ (s[p].toNat < 1 ∨ 3 < s[p].toNat)) (n j e : Nat) (hL : lngA 0 0 (s.data.toList.drop (p + 1)) = (n, j, e)) (he : e ≠ 0) (w : World) : Calls Try.prog 29 #[.string s, .int .i64 (p : Int), .int .i64 (d : Int)] w fun e w' => NxR s p d w e w' := by
  have HR : Hid (∀ w' : World, Below w.heap.size w w' → NxR s p d w (.returned (.tuple #[.agg #[.int .i64 0, .int .u64 0, .string ⟨#[]⟩, .slice none 0 0], .int .i64 0, .int .i64 (e : Int)])) w') := Lib.hid (fun w' hb => NxR.bad e he hb (fun st _ => by rw [drop_one s p hp, rd_lng st _ _ hk (by rw [hL]; exact he), hL]))
  have K52 := Lib.hid (long_behind s hmax p hp n j e hL)
  obtain ⟨hn, hj, hj0, he4⟩ := lng_facts s p hp n j e hL
  obtain ⟨k, hkk⟩ : ∃ k, s[p].toNat = k := ⟨_, rfl⟩
  have hk256 : k < 256 := by rw [← hkk]; exact s[p].toNat_lt
  rw [hkk] at hk
  have h0i : ¬ (k : Int) < 1 := by omega
  have h1i : ¬ (3 : Int) < (k : Int) := by omega
  have h0q : (0 : Int) ≤ (p : Int) + 1 := by omega
  have h1q : (p : Int) + 1 ≤ (s.size : Int) := by omega
  have hei : ((e : Int) == 0) = false := by rw [beq_eq_false_iff_ne]; omega
  clear hk hL
  go_enter Try.func29, Try.ntmps29
  go_upto_region 7 with (first
    | (go_at_call 52; ((with_reducible refine (K52.out _).mono ?_); rintro z w5 ⟨rfl, hb5⟩; have HF := Lib.hid ((F2.new w _ _ _ _).later hb5); clear hb5)))
  obtain ⟨⟨z0, z1, z2, z3⟩, y0, y1, y2, y3⟩ := four_of HF.out.z
  go_wp2
  refine bodyPost_ret (v := .tuple #[.agg #[.int .i64 0, .int .u64 0, .string ⟨#[]⟩, .slice none 0 0], .int .i64 0, .int .i64 (e : Int)]) (by simp [results, Try.results29, go_sem, *]) rfl (HR.out _ ?_)
  first | exact HF.out.b | exact below4 HF.out.b (Nat.le_refl _) _ _ _ _
/-- A value without lists. -/
theorem vin_one (w : World) (P : Nat → Prop) (k : Int) (n : Nat) (b : ByteArray) (hn : n ≤ 18446744073709551615) (hb : b.size ≤ 1000000000) : VInP w P (.mk k n b []) (.int .i64 k) (.int .u64 (n : Int)) (.string b) (.slice none 0 0) := by
  unfold VInP
  refine ⟨rfl, rfl, hn, rfl, ⟨hb, by simp⟩, none, 0, 0, 0, rfl, fun h => absurd h (by simp), ?_⟩
  unfold VInPL; trivial
theorem NxR.fine {s : ByteArray} {p d : Nat} {w w' : World} (p' : Nat) (t : Tr) (c0 c1 c2 c3 : Value) (hb : Below w.heap.size w w') (hv : VInP w' (fun b => w.heap.size ≤ b) t c0 c1 c2 c3) (h1 : p < p') (h2 : p' ≤ s.size) (h : ∀ st, st.length = d → rd .v st (s.data.toList.drop p) = rd (.w t) st (s.data.toList.drop p')) : NxR s p d w (.returned (.tuple #[.agg #[c0, c1, c2, c3], .int .i64 (p' : Int), .int .i64 0])) w' :=
  ⟨hb, 0, p', t, c0, c1, c2, c3, rfl, hv, fun h0 => absurd rfl h0, fun _ => ⟨h1, h2, h⟩⟩
set_option maxRecDepth 1000000 in
set_option maxHeartbeats 2000000 in
theorem nx_num (s : ByteArray) (hmax : s.size ≤ 1000000000) (p d : Nat) (hp : p < s.size) (hk : s[p].toNat = 1) (n j : Nat) (hL : lngA 0 0 (s.data.toList.drop (p + 1)) = (n, j, 0)) (w : World) : Calls Try.prog 29 #[.string s, .int .i64 (p : Int), .int .i64 (d : Int)] w fun e w' => NxR s p d w e w' := by
  have K52 := Lib.hid (long_behind s hmax p hp n j 0 hL)
  obtain ⟨hn, hj, hj0, _⟩ := lng_facts s p hp n j 0 hL
  obtain ⟨a, ha⟩ : ∃ a, a = p + 1 + j := ⟨_, rfl⟩
  have hai : (p : Int) + 1 + (j : Int) = (a : Int) := by omega
  have has : a ≤ s.size := by omega
  have hwa : IntKind.i64.wrap ((p : Int) + 1 + (j : Int)) = (a : Int) := by rw [IntWalk.i64_in _ (by omega), hai]
  have hwb : IntKind.i64.wrap (a : Int) = (a : Int) := IntWalk.i64_in _ (by omega)
  have h0q : (0 : Int) ≤ (p : Int) + 1 := by omega
  have h1q : (p : Int) + 1 ≤ (s.size : Int) := by omega
  have HR : Hid (∀ w' : World, Below w.heap.size w w' → NxR s p d w (.returned (.tuple #[.agg #[.int .i64 1, .int .u64 (n : Int), .string ⟨#[]⟩, .slice none 0 0], .int .i64 (a : Int), .int .i64 0])) w') := Lib.hid (fun w' hb => NxR.fine a (.mk 1 n ⟨#[]⟩ []) _ _ _ _ hb (vin_one w' _ 1 n ⟨#[]⟩ hn (by decide)) (by omega) has (fun st _ => by
    rw [drop_one s p hp, rd_num st _ _ hk (by rw [hL]), hL, List.drop_drop, ha]))

  have HA := Lib.hid ha
  have HJ := Lib.hid hj
  clear hL ha hj hj0
  go_enter Try.func29, Try.ntmps29
  go_upto_region 7 with (first
    | (go_at_call 52; ((with_reducible refine (K52.out _).mono ?_); rintro z w5 ⟨rfl, hb5⟩; have HF := Lib.hid ((F2.new w _ _ _ _).later hb5); clear hb5)))
  have HG : Hid (w.heap.size ≤ w.heap.size + 1) := Lib.hid (by omega)
  obtain ⟨⟨z0, z1, z2, z3⟩, y0, y1, y2, y3⟩ := four_of HF.out.z
  obtain ⟨⟨x0, x1, x2, x3⟩, v0, v1, v2, v3⟩ := four_of HF.out.v
  go_wp2
  refine bodyPost_ret (v := .tuple #[.agg #[.int .i64 1, .int .u64 (n : Int), .string ⟨#[]⟩, .slice none 0 0], .int .i64 (a : Int), .int .i64 0]) (by simp [results, Try.results29, go_sem, z0, z1, z2, z3, y0, y1, y2, y3, x0, x1, x2, x3, v0, v1, v2, v3]) rfl (HR.out _ ?_)
  exact below4 (HF.out.b.setCell HG.out _) (Nat.le_refl _) _ _ _ _
set_option maxRecDepth 1000000 in
set_option maxHeartbeats 2000000 in
theorem nx_short (s : ByteArray) (hmax : s.size ≤ 1000000000) (p d : Nat) (hp : p < s.size) (hk : s[p].toNat = 2) (n j : Nat) (hL : lngA 0 0 (s.data.toList.drop (p + 1)) = (n, j, 0)) (hs : s.size < p + 1 + j + n) (w : World) : Calls Try.prog 29 #[.string s, .int .i64 (p : Int), .int .i64 (d : Int)] w fun e w' => NxR s p d w e w' := by
  have K52 := Lib.hid (long_behind s hmax p hp n j 0 hL)
  obtain ⟨hn, hj, hj0, _⟩ := lng_facts s p hp n j 0 hL
  obtain ⟨a, ha⟩ : ∃ a, a = p + 1 + j := ⟨_, rfl⟩
  have hai : (p : Int) + 1 + (j : Int) = (a : Int) := by omega
  have has : a ≤ s.size := by omega
  have hwa : IntKind.i64.wrap ((p : Int) + 1 + (j : Int)) = (a : Int) := by rw [IntWalk.i64_in _ (by omega), hai]
  have hwb : IntKind.i64.wrap (a : Int) = (a : Int) := IntWalk.i64_in _ (by omega)
  have h0q : (0 : Int) ≤ (p : Int) + 1 := by omega
  have h1q : (p : Int) + 1 ≤ (s.size : Int) := by omega
  have HR : Hid (∀ w' : World, Below w.heap.size w w' → NxR s p d w (.returned (.tuple #[.agg #[.int .i64 0, .int .u64 0, .string ⟨#[]⟩, .slice none 0 0], .int .i64 0, .int .i64 ((3 : Nat) : Int)])) w') := Lib.hid (fun w' hb => NxR.bad 3 (by decide) hb (fun st _ => by
    rw [drop_one s p hp, rd_short st _ _ hk (by rw [hL]) (by rw [hL, List.drop_drop]; simp; omega)]))
  obtain ⟨m, hm⟩ : ∃ m, m = s.size - a := ⟨_, rfl⟩
  have hmi : (s.size : Int) - (a : Int) = (m : Int) := by omega
  have hms : m ≤ 1000000000 := by omega
  have hnm : (m : Int) < (n : Int) := by omega
  have HA := Lib.hid ha
  have HJ := Lib.hid hj
  clear hL ha hj hj0
  go_enter Try.func29, Try.ntmps29
  go_upto_region 7 with (first
    | (go_at_call 52; ((with_reducible refine (K52.out _).mono ?_); rintro z w5 ⟨rfl, hb5⟩; have HF := Lib.hid ((F2.new w _ _ _ _).later hb5); clear hb5)))
  have HG : Hid (w.heap.size ≤ w.heap.size + 1) := Lib.hid (by omega)
  obtain ⟨⟨z0, z1, z2, z3⟩, y0, y1, y2, y3⟩ := four_of HF.out.z
  obtain ⟨⟨x0, x1, x2, x3⟩, v0, v1, v2, v3⟩ := four_of HF.out.v
  go_wp2
  refine bodyPost_ret (v := .tuple #[.agg #[.int .i64 0, .int .u64 0, .string ⟨#[]⟩, .slice none 0 0], .int .i64 0, .int .i64 3]) (by simp [results, Try.results29, go_sem, z0, z1, z2, z3, y0, y1, y2, y3, x0, x1, x2, x3, v0, v1, v2, v3]) rfl (HR.out _ ?_)
  exact below4 HF.out.b (Nat.le_refl _) _ _ _ _
set_option maxRecDepth 1000000 in
set_option maxHeartbeats 2000000 in
theorem nx_str (s : ByteArray) (hmax : s.size ≤ 1000000000) (p d : Nat) (hp : p < s.size) (hk : s[p].toNat = 2) (n j : Nat) (hL : lngA 0 0 (s.data.toList.drop (p + 1)) = (n, j, 0)) (hs : p + 1 + j + n ≤ s.size) (w : World) : Calls Try.prog 29 #[.string s, .int .i64 (p : Int), .int .i64 (d : Int)] w fun e w' => NxR s p d w e w' := by
  have K52 := Lib.hid (long_behind s hmax p hp n j 0 hL)
  obtain ⟨hn, hj, hj0, _⟩ := lng_facts s p hp n j 0 hL
  obtain ⟨a, ha⟩ : ∃ a, a = p + 1 + j := ⟨_, rfl⟩
  have hai : (p : Int) + 1 + (j : Int) = (a : Int) := by omega
  have has : a ≤ s.size := by omega
  have hwa : IntKind.i64.wrap ((p : Int) + 1 + (j : Int)) = (a : Int) := by rw [IntWalk.i64_in _ (by omega), hai]
  have hwb : IntKind.i64.wrap (a : Int) = (a : Int) := IntWalk.i64_in _ (by omega)
  have h0q : (0 : Int) ≤ (p : Int) + 1 := by omega
  have h1q : (p : Int) + 1 ≤ (s.size : Int) := by omega
  have HR : Hid (∀ w' : World, Below w.heap.size w w' → NxR s p d w (.returned (.tuple #[.agg #[.int .i64 2, .int .u64 0, .string (s.extract a (a + n)), .slice none 0 0], .int .i64 ((a + n : Nat) : Int), .int .i64 0])) w') := Lib.hid (fun w' hb => NxR.fine (a + n) (.mk 2 0 (s.extract a (a + n)) []) _ _ _ _ hb (vin_one w' _ 2 0 _ (by omega) (by rw [ByteArray.size_extract]; omega)) (by omega) (by omega) (fun st _ => by
    have e : str ((s.data.toList.drop a).take n) = s.extract a (a + n) := by
      rw [← str_data (s.extract a (a + n)), ext_list]
      congr 2; omega
    rw [drop_one s p hp, rd_str st _ _ hk (by rw [hL]) (by rw [hL, List.drop_drop]; simp; omega), hL, List.drop_drop, List.drop_drop, ← ha, e]))
  obtain ⟨m, hm⟩ : ∃ m, m = s.size - a := ⟨_, rfl⟩
  have hmi : (s.size : Int) - (a : Int) = (m : Int) := by omega
  have hms : m ≤ 1000000000 := by omega
  have hnm : ¬ (m : Int) < (n : Int) := by omega
  have hns : n ≤ 1000000000 := by omega
  have hle : (a : Int) + (n : Int) ≤ (s.size : Int) := by omega
  have h0n : (0 : Int) ≤ (a : Int) + (n : Int) := by omega
  have han : (a : Int) ≤ (a : Int) + (n : Int) := by omega
  have HA := Lib.hid ha
  have HJ := Lib.hid hj
  clear hL ha hj hj0
  go_enter Try.func29, Try.ntmps29
  go_upto_region 7 with (first
    | (go_at_call 52; ((with_reducible refine (K52.out _).mono ?_); rintro z w5 ⟨rfl, hb5⟩; have HF := Lib.hid ((F2.new w _ _ _ _).later hb5); clear hb5)))
  have HG : Hid (w.heap.size ≤ w.heap.size + 1) := Lib.hid (by omega)
  obtain ⟨⟨z0, z1, z2, z3⟩, y0, y1, y2, y3⟩ := four_of HF.out.z
  obtain ⟨⟨x0, x1, x2, x3⟩, v0, v1, v2, v3⟩ := four_of HF.out.v
  go_wp2
  refine bodyPost_ret (v := .tuple #[.agg #[.int .i64 2, .int .u64 0, .string (s.extract a (a + n)), .slice none 0 0], .int .i64 ((a + n : Nat) : Int), .int .i64 0]) (by simp [results, Try.results29, go_sem, z0, z1, z2, z3, y0, y1, y2, y3, x0, x1, x2, x3, v0, v1, v2, v3]) rfl (HR.out _ ?_)
  exact below4 (HF.out.b.setCell HG.out _) (Nat.le_refl _) _ _ _ _
set_option maxRecDepth 1000000 in
set_option maxHeartbeats 2000000 in
theorem nx_deep (s : ByteArray) (hmax : s.size ≤ 1000000000) (p d : Nat) (hp : p < s.size) (hk : s[p].toNat = 3) (n j : Nat) (hL : lngA 0 0 (s.data.toList.drop (p + 1)) = (n, j, 0)) (hd : d = 6) (w : World) : Calls Try.prog 29 #[.string s, .int .i64 (p : Int), .int .i64 (d : Int)] w fun e w' => NxR s p d w e w' := by
  have K52 := Lib.hid (long_behind s hmax p hp n j 0 hL)
  obtain ⟨hn, hj, hj0, _⟩ := lng_facts s p hp n j 0 hL
  obtain ⟨a, ha⟩ : ∃ a, a = p + 1 + j := ⟨_, rfl⟩
  have hai : (p : Int) + 1 + (j : Int) = (a : Int) := by omega
  have has : a ≤ s.size := by omega
  have hwa : IntKind.i64.wrap ((p : Int) + 1 + (j : Int)) = (a : Int) := by rw [IntWalk.i64_in _ (by omega), hai]
  have hwb : IntKind.i64.wrap (a : Int) = (a : Int) := IntWalk.i64_in _ (by omega)
  have h0q : (0 : Int) ≤ (p : Int) + 1 := by omega
  have h1q : (p : Int) + 1 ≤ (s.size : Int) := by omega
  have HR : Hid (∀ w' : World, Below w.heap.size w w' → NxR s p d w (.returned (.tuple #[.agg #[.int .i64 0, .int .u64 0, .string ⟨#[]⟩, .slice none 0 0], .int .i64 0, .int .i64 ((8 : Nat) : Int)])) w') := Lib.hid (fun w' hb => NxR.bad 8 (by decide) hb (fun st hst => by
    rw [drop_one s p hp, rd_deep st _ _ hk (by rw [hL]) (by omega)]))
  subst hd
  have HA := Lib.hid ha
  have HJ := Lib.hid hj
  clear hL ha hj hj0
  go_enter Try.func29, Try.ntmps29
  go_upto_region 7 with (first
    | (go_at_call 52; ((with_reducible refine (K52.out _).mono ?_); rintro z w5 ⟨rfl, hb5⟩; have HF := Lib.hid ((F2.new w _ _ _ _).later hb5); clear hb5)))
  have HG : Hid (w.heap.size ≤ w.heap.size + 1) := Lib.hid (by omega)
  obtain ⟨⟨z0, z1, z2, z3⟩, y0, y1, y2, y3⟩ := four_of HF.out.z
  obtain ⟨⟨x0, x1, x2, x3⟩, v0, v1, v2, v3⟩ := four_of HF.out.v
  go_wp2
  refine bodyPost_ret (v := .tuple #[.agg #[.int .i64 0, .int .u64 0, .string ⟨#[]⟩, .slice none 0 0], .int .i64 0, .int .i64 8]) (by simp [results, Try.results29, go_sem, z0, z1, z2, z3, y0, y1, y2, y3, x0, x1, x2, x3, v0, v1, v2, v3]) rfl (HR.out _ ?_)
  exact below4 HF.out.b (Nat.le_refl _) _ _ _ _
end Go.Proofs.Ytdojepkmjifoeaa
