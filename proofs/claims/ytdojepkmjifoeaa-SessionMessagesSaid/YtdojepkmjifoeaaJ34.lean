/- session.Message; a message is read as it was.; What is read is what was written, and nothing else; a message by the document's reading and by the program's. -/
import Derived.Test.YtdojepkmjifoeaaJ33
import Derived.Test.YtdojepkmjifoeaaJ24
set_option linter.unusedVariables false
set_option linter.unusedSimpArgs false
namespace Go.Proofs.Ytdojepkmjifoeaa
open Go.RowKit

theorem bytes_any (k : Int) (e : Nat) (b : ByteArray) (he : e ≤ 18446744073709551615) (w : World) : Calls Try.prog 21 #[.agg #[.int .i64 k, .int .u64 (e : Int), .string b]] w fun r w' => ∃ c : Nat, r = .returned (.tuple #[.string (if 1 ≤ k ∧ k ≤ 255 ∧ b.size ≤ 8192 then str (frameL k.toNat e b.data.toList) else ⟨#[]⟩), .int .i64 (c : Int)]) ∧ Below w.heap.size w w' := by
  by_cases h1 : k < 1 ∨ 255 < k
  · rw [if_neg (by omega)]
    exact (bytes_kind k e b h1 w).mono fun r w' ⟨h, hb⟩ => ⟨10, h, hb⟩
  · by_cases h2 : 8192 < b.size
    · rw [if_neg (by omega)]
      exact (bytes_long k e b (by omega) (by omega) h2 w).mono fun r w' ⟨h, hb⟩ => ⟨5, h, hb⟩
    · rw [if_pos (by omega)]
      obtain ⟨q, rfl⟩ : ∃ q : Nat, k = q := ⟨k.toNat, by omega⟩
      exact (bytes_ok q e b (by omega) (by omega) he (by omega) w).mono fun r w' ⟨h, hb⟩ => ⟨0, by rw [h]; rfl, hb⟩
/-- A message's text. -/
def msgV (kd : Int) (e : Nat) (b : ByteArray) (ns : List Nat) : ByteArray := if 1 ≤ fdK kd b ns ∧ fdK kd b ns ≤ 255 ∧ (fdB kd b ns).size ≤ 8192 then str (frameL (fdK kd b ns).toNat (fdE kd e b ns) (fdB kd b ns).data.toList) else ⟨#[]⟩
set_option maxRecDepth 100000 in
theorem message_any (kd : Int) (e : Nat) (b : ByteArray) (ns : List Nat) (o : Option Addr) (cap B off : Nat) (hb : b.size ≤ 1000000000) (he : e ≤ 18446744073709551615) (w : World) (ho : 0 < ns.length → o = some ⟨B, off, none⟩ ∧ B < w.heap.size) (hc : NsIn w B off ns) :
    Calls Try.prog 7 #[.int .i64 kd, .int .u64 (e : Int), .string b, .slice o ns.length cap] w fun r w' => r = .returned (.string (msgV kd e b ns)) ∧ Below w.heap.size w w' := by
  have K20 := Lib.hid (framed_any kd e b ns o cap B off hb w ho hc)
  have hfe : fdE kd e b ns ≤ 18446744073709551615 := by unfold fdE; split <;> omega
  have K21 := Lib.hid (fun w => bytes_any (fdK kd b ns) (fdE kd e b ns) (fdB kd b ns) hfe w)
  rw [show (if 1 ≤ fdK kd b ns ∧ fdK kd b ns ≤ 255 ∧ (fdB kd b ns).size ≤ 8192 then str (frameL (fdK kd b ns).toNat (fdE kd e b ns) (fdB kd b ns).data.toList) else ⟨#[]⟩) = msgV kd e b ns from rfl] at K21
  generalize msgV kd e b ns = M at *
  generalize fdK kd b ns = fk at *
  generalize fdE kd e b ns = fe at *
  generalize fdB kd b ns = fb at *
  generalize ns.length = m at *
  clear hb he ho hc hfe
  go_enter Try.func7, Try.ntmps7
  go_wp2_with (first
    | (go_at_call 20; ((with_reducible refine (K20.out).mono ?_); rintro x w1 ⟨rfl, hb1⟩))
    | (go_at_call 21; ((with_reducible refine (K21.out _).mono ?_); rintro x w2 ⟨c, rfl, hb2⟩)))
  go_ret
  exact ⟨rfl, hb1.trans (hb2.mono hb1.size)⟩

theorem txt_nums (ns : List Nat) (r : List Tr) (h : ∀ n ∈ ns, n ≤ 18446744073709551615) : (txtL (ns.map numT ++ r)).length ≤ ns.length * 11 + (txtL r).length := by
  induction ns with
  | nil => simp
  | cons n ns ih =>
    have h1 := ih (fun x hx => h x (List.mem_cons_of_mem _ hx))
    have h2 := sh_ten n (h n List.mem_cons_self)
    have e : txtL (List.map numT (n :: ns) ++ r) = txtT (numT n) ++ txtL (ns.map numT ++ r) := by
      rw [List.map_cons, List.cons_append, txtL]
    have e2 : txtT (numT n) = 1 :: sh n := by unfold numT txtT; simp
    rw [e, List.length_append, e2, List.length_cons, List.length_cons]
    omega
theorem snd_nums (ns : List Nat) (r : List Tr) : sndL (ns.map numT ++ r) = sndL r := by
  induction ns with
  | nil => simp
  | cons n ns ih =>
    rw [List.map_cons, List.cons_append, sndL, ih]
    simp [numT, sndT, sndL, ByteArray.size]
theorem ok_nums (ns : List Nat) (r : List Tr) (h : ∀ n ∈ ns, n ≤ 18446744073709551615) (hr : okL r) : okL (ns.map numT ++ r) := by
  induction ns with
  | nil => simpa using hr
  | cons n ns ih =>
    rw [List.map_cons, List.cons_append, okL]
    refine ⟨?_, ih (fun x hx => h x (List.mem_cons_of_mem _ hx))⟩
    unfold numT okT
    exact ⟨h n List.mem_cons_self, by simp [ByteArray.size], by simp, by unfold okL; trivial⟩
theorem prN_nums (ns : List Nat) (r : List Tr) : prN (ns.map numT ++ r) = ns ++ prN r := by
  unfold prN
  rw [List.filterMap_append]
  congr 1
  induction ns with
  | nil => rfl
  | cons n ns ih => rw [List.map_cons, List.filterMap_cons]; simp [numT]; simpa [numT] using ih
theorem prB_nums (ns : List Nat) (r : List Tr) : prB (ns.map numT ++ r) = prB r := by
  unfold prB
  rw [List.foldl_append]
  congr 1
  induction ns with
  | nil => rfl
  | cons n ns ih => rw [List.map_cons, List.foldl_cons]; simpa [numT] using ih
/-- What a message may have. -/
structure MsOk (k : Nat) (e : Nat) (b : ByteArray) (ns : List Nat) : Prop where
  k1 : 1 ≤ k
  k4 : k ≤ 4
  e : e ≤ 18446744073709551615
  b : b.size ≤ 8000
  n : ∀ n ∈ ns, n ≤ 18446744073709551615
  l : ns.length ≤ 3
theorem ms_put {k e : Nat} {b : ByteArray} {ns : List Nat} (h : MsOk k e b ns) : putC (rowT k b ns) = 0 ∧ sndT (rowT k b ns) = true ∧ okT (rowT k b ns) ∧ (txtT (rowT k b ns)).length ≤ 8100 := by
  have h1 := txt_nums ns (if (k : Int) = 2 then [strT b] else []) h.n
  have h2 : (txtL (if (k : Int) = 2 then [strT b] else [])).length ≤ 8011 := by
    split
    · have := sh_ten b.size (by have := h.b; omega)
      have hb := h.b
      simp only [txtL, strT, txtT]
      simp
      omega
    · simp [txtL]
  have h3 := sh_ten (rowL k b ns).length (by rw [row_len]; have := h.l; split <;> omega)
  have hl := h.l
  have ht : (txtT (rowT k b ns)).length ≤ 8100 := by
    unfold rowT txtT
    rw [if_neg (by omega), if_neg (by omega), List.length_cons, List.length_append]
    unfold rowL at h3 ⊢
    omega
  have hs : sndT (rowT k b ns) = true := by
    unfold rowT sndT rowL
    rw [snd_nums]
    have : sndL (if (k : Int) = 2 then [strT b] else []) = true := by split <;> simp [sndL, strT, sndT]
    rw [this]
    simp [ByteArray.size]
  refine ⟨?_, hs, ?_, ht⟩
  · unfold putC
    rw [if_neg (by rw [hs]; simp), if_neg (by rw [deep_row]; omega), if_neg (by omega)]
  · unfold rowT okT
    refine ⟨by omega, by simp [ByteArray.size], by rw [row_len]; split <;> omega, ?_⟩
    unfold rowL
    refine ok_nums ns _ h.n ?_
    split
    · unfold okL strT okT
      exact ⟨⟨by omega, by have := h.b; omega, by simp, by unfold okL; trivial⟩, by unfold okL; trivial⟩
    · unfold okL; trivial
theorem ms_fd {k e : Nat} {b : ByteArray} {ns : List Nat} (h : MsOk k e b ns) : fdK k b ns = k ∧ fdE k e b ns = e ∧ fdB k b ns = str (txtT (rowT k b ns)) := by
  obtain ⟨h1, h2, h3, h4⟩ := ms_put h
  have hok : fdOk k b ns := ⟨by have := h.l; omega, h1⟩
  unfold fdK fdE fdB putS
  rw [if_pos hok, if_pos hok, if_pos hok, if_pos h1]
  exact ⟨rfl, rfl, rfl⟩
theorem ms_text {k e : Nat} {b : ByteArray} {ns : List Nat} (h : MsOk k e b ns) : msgV k e b ns = str (frameL k e (txtT (rowT k b ns))) := by
  obtain ⟨h1, h2, h3, h4⟩ := ms_put h
  obtain ⟨e1, e2, e3⟩ := ms_fd h
  unfold msgV
  rw [e1, e2, e3, if_pos ⟨by have := h.k1; omega, by have := h.k4; omega, by rw [str_size]; omega⟩]
  have : (str (txtT (rowT (k : Int) b ns))).data.toList = txtT (rowT k b ns) := by simp [str]
  rw [this]
  rfl
theorem ms_size {k e : Nat} {b : ByteArray} {ns : List Nat} (h : MsOk k e b ns) : (msgV k e b ns).size ≤ 8200 ∧ 0 < (msgV k e b ns).size := by
  obtain ⟨h1, h2, h3, h4⟩ := ms_put h
  rw [ms_text h, str_size, frameL_length]
  omega
theorem ms_read {k e : Nat} {b : ByteArray} {ns : List Nat} (h : MsOk k e b ns) (hn : (ns.length : Int) = numK k) (hb : k ≠ 2 → b = ⟨#[]⟩) :
    okM (msgV k e b ns) ∧ pK (msgV k e b ns) = k ∧ pE (msgV k e b ns) = e ∧ msN (msgV k e b ns) = ns ∧ msB (msgV k e b ns) = b := by
  obtain ⟨h1, h2, h3, h4⟩ := ms_put h
  obtain ⟨e1, e2, e3⟩ := ms_fd h
  have hd : (str (txtT (rowT (k : Int) b ns))).data.toList = txtT (rowT k b ns) := by simp [str]
  obtain ⟨p1, p2, p3, p4⟩ := parse_frame k e (str (txtT (rowT k b ns))) h.k1 (by have := h.k4; omega) h.e (by rw [str_size]; omega) (msgV k e b ns) (by rw [ms_text h, hd])
  have hr := rdA_txt (rowT k b ns) [] h2 h3 (by rw [deep_row]; omega) (by simp; omega)
  rw [List.append_nil] at hr
  have hc : getC (pB (msgV k e b ns)) = 0 := by
    rw [p4]; unfold getC; rw [hr]; simp
  have ht : getT (pB (msgV k e b ns)) = rowT k b ns := by
    unfold getT
    rw [if_pos hc, p4, hr]
  have hk : kids (msgV k e b ns) = rowL k b ns := by unfold kids; rw [ht]; rfl
  have hN : msN (msgV k e b ns) = ns := by
    unfold msN; rw [hk]; unfold rowL; rw [prN_nums]
    split <;> simp [prN, strT]
  have hB : msB (msgV k e b ns) = b := by
    unfold msB; rw [hk]; unfold rowL; rw [prB_nums]
    split
    · simp [prB, strT]
    · rename_i hk2
      rw [hb (by omega)]; rfl
  refine ⟨⟨p1, hc, ?_, ?_, ?_, ?_⟩, p2, p3, hN, hB⟩
  · rw [hN, p2]; exact hn
  · rw [hN, hB, p2]; exact e1
  · rw [hN, hB, p2, p3]; exact e2
  · rw [hN, hB, p2, p4]; exact e3
end Go.Proofs.Ytdojepkmjifoeaa

namespace Go.Proofs.Ytdojepkmjifoeaa
open Go.RowKit

theorem ofNat_toNat8 (c : UInt8) : UInt8.ofNat c.toNat = c := by simp
theorem lng_inv : ∀ (l : List UInt8) (acc j n j' : Nat), lngA acc j l = (n, j', 0) → ∃ m, n = acc + 128 ^ j * m ∧ (1 ≤ m ∨ j = 0) ∧ j ≤ j' ∧ l = sh m ++ l.drop (j' - j) ∧ (sh m).length = j' - j
  | [], acc, j, n, j', h => by
    rw [lngA] at h
    split at h <;> simp at h
  | c :: cs, acc, j, n, j', h => by
    rw [lngA] at h
    by_cases h1 : j = 10
    · rw [if_pos h1] at h; simp at h
    rw [if_neg h1] at h
    by_cases h2 : 128 ≤ c.toNat
    · rw [if_pos h2] at h
      obtain ⟨m', e1, e2, e3, e4, e5⟩ := lng_inv cs _ _ _ _ h
      have hm : 1 ≤ m' := by omega
      have hc := c.toNat_lt
      have hmod : (c.toNat % 128 + 128 * m') % 128 = c.toNat % 128 := by omega
      have hdiv : (c.toNat % 128 + 128 * m') / 128 = m' := by omega
      have hcc : UInt8.ofNat (c.toNat % 128 + 128) = c := by
        rw [show c.toNat % 128 + 128 = c.toNat by omega]; exact ofNat_toNat8 c
      have hs : sh (c.toNat % 128 + 128 * m') = c :: sh m' := by rw [sh_more _ (by omega), hmod, hdiv, hcc]
      refine ⟨c.toNat % 128 + 128 * m', ?_, Or.inl (by omega), by omega, ?_, ?_⟩
      · rw [e1, Nat.pow_succ, Nat.mul_add, ← Nat.mul_assoc, Nat.add_assoc]
      · rw [hs, show j' - j = (j' - (j + 1)) + 1 by omega, List.drop_succ_cons, List.cons_append, ← e4]
      · rw [hs, List.length_cons, e5]; omega
    · rw [if_neg h2] at h
      by_cases h3 : 0 < j ∧ c.toNat = 0
      · rw [if_pos h3] at h; simp at h
      rw [if_neg h3] at h
      by_cases h4 : j = 9 ∧ 1 < c.toNat
      · rw [if_pos h4] at h; simp at h
      rw [if_neg h4] at h
      simp only [Prod.mk.injEq] at h
      obtain ⟨rfl, rfl, _⟩ := h
      have hs : sh c.toNat = [c] := by rw [sh_last _ (by omega), ofNat_toNat8]
      refine ⟨c.toNat, rfl, by omega, by omega, ?_, ?_⟩
      · rw [hs, show j + 1 - j = 0 + 1 by omega, List.drop_succ_cons]; rfl
      · rw [hs]; simp
theorem lng_inv0 {l : List UInt8} {n j : Nat} (h : lngA 0 0 l = (n, j, 0)) : l = sh n ++ l.drop j ∧ 1 ≤ j ∧ n ≤ 18446744073709551615 := by
  obtain ⟨m, e1, _, _, e4, e5⟩ := lng_inv l 0 0 n j h
  have e : n = m := by simpa using e1
  subst e
  have := sh_pos n
  have hle := (lng_le l 0 0 (by omega) (by omega)).1
  rw [h] at hle
  exact ⟨e4, by omega, hle⟩

/-- A value as it is read: its head alone. -/
def cn1 (x : Tr) : Prop := (∃ n, n ≤ 18446744073709551615 ∧ x = numT n) ∨ (∃ b : ByteArray, x = strT b) ∨ ∃ l, x = .mk 3 0 ⟨#[]⟩ l
/-- .. and its values' heads. -/
def cn2 (x : Tr) : Prop := (∃ n, n ≤ 18446744073709551615 ∧ x = numT n) ∨ (∃ b : ByteArray, x = strT b) ∨ ∃ l, x = .mk 3 0 ⟨#[]⟩ l ∧ ∀ y ∈ l, cn1 y
theorem cn2.one {x : Tr} (h : cn2 x) : cn1 x := by
  rcases h with h | h | ⟨l, h, _⟩
  · exact Or.inl h
  · exact Or.inr (Or.inl h)
  · exact Or.inr (Or.inr ⟨l, h⟩)
theorem str_size' (l : List UInt8) : (str l).size = l.length := by rw [← ByteArray.size_data]; show (str l).data.size = _; unfold str; simp
theorem str_list (l : List UInt8) : (str l).data.toList = l := by unfold str; simp
theorem rd_list_inv (t : Tr) (r : List UInt8) (st : List (Nat × List Tr)) (N : Nat) (P : ∀ s : List UInt8, s.length ≤ N → ∀ st, rd .v st s = (0, t, r) → ∃ x s', s = txtT x ++ s' ∧ s'.length < s.length ∧ rd (.w x) st s' = (0, t, r) ∧ cn2 x) :
    ∀ (k : Nat) (h : List Tr) (s : List UInt8), s.length ≤ N → rd .n ((k, h) :: st) s = (0, t, r) → ∃ l s', s = txtL l ++ s' ∧ l.length = k ∧ s'.length ≤ s.length ∧ rd (.w (.mk 3 0 ⟨#[]⟩ (h ++ l))) st s' = (0, t, r) ∧ ∀ y ∈ l, cn1 y
  | 0, h, s, _, e => by
    rw [rd_none] at e
    exact ⟨[], s, by unfold txtL; rfl, rfl, Nat.le_refl _, by rw [List.append_nil]; exact e, by simp⟩
  | k + 1, h, s, hs, e => by
    rw [rd_more] at e
    obtain ⟨x, s1, e1, e2, e3, e4⟩ := P s hs _ e
    rw [rd_push, Nat.add_sub_cancel] at e3
    obtain ⟨l, s', f1, f2, f3, f4, f5⟩ := rd_list_inv t r st N P k (h ++ [x]) s1 (by omega) e3
    refine ⟨x :: l, s', ?_, by simp [f2], by omega, ?_, ?_⟩
    · rw [e1, f1]; simp [txtL]
    · rw [List.append_assoc] at f4; exact f4
    · intro y hy
      rcases List.mem_cons.1 hy with rfl | hy
      · exact e4.one
      · exact f5 y hy
theorem rd_inv (t : Tr) (r : List UInt8) : ∀ (N : Nat) (s : List UInt8), s.length ≤ N → ∀ st, rd .v st s = (0, t, r) → ∃ x s', s = txtT x ++ s' ∧ s'.length < s.length ∧ rd (.w x) st s' = (0, t, r) ∧ cn2 x := by
  intro N
  induction N with
  | zero =>
    intro s hs st e
    have : s = [] := List.eq_nil_of_length_eq_zero (by omega)
    subst this
    rw [rd_nil] at e
    simp at e
  | succ N ih =>
    intro s hs st e
    match s, hs, e with
    | [], _, e => rw [rd_nil] at e; simp at e
    | k :: s1, hs, e =>
      by_cases hk : k.toNat < 1 ∨ 3 < k.toNat
      · rw [rd_kind st k s1 hk] at e; simp at e
      obtain ⟨n, j, c, hL⟩ : ∃ n j c, lngA 0 0 s1 = (n, j, c) := ⟨_, _, _, rfl⟩
      by_cases hc : c = 0
      · subst hc
        obtain ⟨g1, g2, g3⟩ := lng_inv0 hL
        have hdl : (s1.drop j).length < (k :: s1).length := by simp; omega
        rcases (by omega : k.toNat = 1 ∨ k.toNat = 2 ∨ k.toNat = 3) with h1 | h2 | h3
        · rw [rd_num st k s1 h1 (by rw [hL]), hL] at e
          have hk1 : k = 1 := by rw [← ofNat_toNat8 k, h1]; rfl
          refine ⟨numT n, s1.drop j, ?_, hdl, e, Or.inl ⟨n, g3, rfl⟩⟩
          have : txtT (numT n) = 1 :: sh n := by unfold numT txtT; simp
          rw [this, hk1, List.cons_append, ← g1]
        · by_cases hs2 : (s1.drop j).length < n
          · rw [rd_short st k s1 h2 (by rw [hL]) (by rw [hL]; exact hs2)] at e; simp at e
          rw [rd_str st k s1 h2 (by rw [hL]) (by rw [hL]; exact hs2), hL] at e
          have hk1 : k = 2 := by rw [← ofNat_toNat8 k, h2]; rfl
          have hsz : (str ((s1.drop j).take n)).size = n := by rw [str_size', List.length_take]; omega
          refine ⟨strT (str ((s1.drop j).take n)), (s1.drop j).drop n, ?_, ?_, e, Or.inr (Or.inl ⟨_, rfl⟩)⟩
          · have : txtT (strT (str ((s1.drop j).take n))) = 2 :: (sh n ++ (s1.drop j).take n) := by unfold strT txtT; simp [hsz, str_list]
            rw [this, hk1, List.cons_append, List.append_assoc, List.take_append_drop, ← g1]
          · have : ((s1.drop j).drop n).length ≤ (s1.drop j).length := by rw [List.length_drop]; omega
            omega
        · by_cases h6 : st.length = 6
          · rw [rd_deep st k s1 h3 (by rw [hL]) h6] at e; simp at e
          rw [rd_open st k s1 h3 (by rw [hL]) h6, hL] at e
          have hk1 : k = 3 := by rw [← ofNat_toNat8 k, h3]; rfl
          have hsl : (s1.drop j).length ≤ N := by simp at hs ⊢; omega
          obtain ⟨l, s', f1, f2, f3, f4, f5⟩ := rd_list_inv t r st N (fun s hs st e => ih s hs st e) n [] (s1.drop j) hsl e
          refine ⟨.mk 3 0 ⟨#[]⟩ l, s', ?_, by omega, by simpa using f4, Or.inr (Or.inr ⟨l, rfl, f5⟩)⟩
          have : txtT (.mk 3 0 ⟨#[]⟩ l) = 3 :: (sh l.length ++ txtL l) := by unfold txtT; simp
          rw [this, hk1, f2, List.cons_append, List.append_assoc, ← f1, ← g1]
      · rw [rd_lng st k s1 hk (by rw [hL]; exact hc), hL] at e
        simp only [Prod.mk.injEq] at e
        exact absurd e.1 hc
theorem rd_w_nil (x : Tr) (s : List UInt8) : rd (.w x) [] s = (0, x, s) := by rw [rd]
/-- What is read whole is its own writing. -/
theorem rd_whole {s : List UInt8} {t : Tr} {r : List UInt8} (h : rd .v [] s = (0, t, r)) : s = txtT t ++ r ∧ cn2 t := by
  obtain ⟨x, s', e1, _, e3, e4⟩ := rd_inv t r s.length s (Nat.le_refl _) [] h
  rw [rd_w_nil] at e3
  simp only [Prod.mk.injEq, true_and] at e3
  obtain ⟨rfl, rfl⟩ := e3
  exact ⟨e1, e4⟩

theorem prN_row (k : Int) (b : ByteArray) (ns : List Nat) : prN (rowL k b ns) = ns := by
  unfold rowL
  rw [prN_nums]
  by_cases h : k = 2 <;> simp [h, prN, strT]
theorem prB_row (k : Int) (b : ByteArray) (ns : List Nat) : prB (rowL k b ns) = if k = 2 then b else ⟨#[]⟩ := by
  unfold rowL
  rw [prB_nums]
  by_cases h : k = 2 <;> simp [h, prB, strT]
theorem snd_row (k : Int) (b : ByteArray) (ns : List Nat) : sndT (rowT k b ns) = true := by
  unfold rowT rowL
  have : sndL (ns.map numT ++ if k = 2 then [strT b] else []) = true := by
    rw [snd_nums]
    by_cases h : k = 2 <;> simp [h, sndL, strT, sndT]
  unfold sndT
  simp [this, ByteArray.size]
/-- What the document's Read takes. -/
def okR (s : ByteArray) (b : ByteArray) (ns : List Nat) : Prop :=
  codeS s = 0 ∧ lenN s + 20 = s.size ∧ kindS s ≤ 4 ∧ rd .v [] (bodyS s).data.toList = (0, rowT (kindS s) b ns, []) ∧ (ns.length : Int) = numK (kindS s) ∧ (kindS s ≠ 2 → b = ⟨#[]⟩)
theorem codeS_kind {s : ByteArray} (h : codeS s = 0) : kindS s ≠ 0 ∧ lenN s ≤ 8192 ∧ lenN s + 20 ≤ s.size := by
  unfold codeS at h
  by_cases h1 : s.size < 20
  · rw [if_pos h1] at h; cases h
  rw [if_neg h1] at h
  by_cases h2 : preS s = false
  · rw [if_pos h2] at h; cases h
  rw [if_neg h2] at h
  by_cases h3 : kindS s = 0
  · rw [if_pos h3] at h; cases h
  rw [if_neg h3] at h
  by_cases h4 : 8192 < lenN s
  · rw [if_pos h4] at h; cases h
  rw [if_neg h4] at h
  by_cases h5 : s.size < lenN s + 20
  · rw [if_pos h5] at h; cases h
  exact ⟨h3, by omega, by omega⟩
theorem bodyS_size {s : ByteArray} (h : codeS s = 0) : (bodyS s).size = lenN s := by
  have := codeS_kind h
  unfold bodyS
  rw [ByteArray.size_extract]; omega
theorem numK_len {k : Nat} (h : 1 ≤ k ∧ k ≤ 4) : numK k = if k = 1 then 1 else if k = 2 then 2 else if k = 3 then 2 else 3 := by
  rcases (by omega : k = 1 ∨ k = 2 ∨ k = 3 ∨ k = 4) with rfl | rfl | rfl | rfl <;> rfl
theorem okR_okM {s b : ByteArray} {ns : List Nat} (h : okR s b ns) : okM s ∧ msN s = ns ∧ msB s = b ∧ (pK s = kindS s ∧ pE s = epS s) := by
  obtain ⟨hc, hz, hk4, hrd, hn, hb⟩ := h
  obtain ⟨hk0, hl8, _⟩ := codeS_kind hc
  obtain ⟨r1, r2, r3, r4, r5⟩ := r_ok hc
  have hp : codeP s = 0 := by
    unfold codeP
    rw [if_pos hc, r4, if_pos]
    unfold restS
    rw [ByteArray.size_extract]; omega
  have hK : pK s = kindS s := by unfold pK; rw [if_pos hp, r1]
  have hE : pE s = epS s := by unfold pE; rw [if_pos hp, r2]
  have hB : pB s = bodyS s := by unfold pB; rw [if_pos hp, r3]
  have hbs := bodyS_size hc
  obtain ⟨hw, _⟩ := rd_whole hrd
  rw [List.append_nil] at hw
  have hrA : rdA (pB s) = (0, rowT (kindS s) b ns, []) := by
    unfold rdA
    rw [hB, if_neg (by omega), hrd]
  have hgC : getC (pB s) = 0 := by unfold getC; rw [hrA]; rfl
  have hgT : getT (pB s) = rowT (kindS s) b ns := by unfold getT; rw [if_pos hgC, hrA]
  have hkid : kids s = rowL (kindS s) b ns := by unfold kids; rw [hgT]; rfl
  have hN : msN s = ns := by unfold msN; rw [hkid, prN_row]
  have hBB : msB s = b := by
    unfold msB; rw [hkid, prB_row]
    by_cases h2 : kindS s = 2
    · rw [if_pos (by omega)]
    · rw [if_neg (by omega), hb h2]
  have hlen : (txtT (rowT (kindS s) b ns)).length ≤ 8192 := by
    rw [← hw]; show (bodyS s).data.toList.length ≤ 8192
    have : (bodyS s).data.toList.length = (bodyS s).size := by simp
    omega
  have hput : putC (rowT (kindS s) b ns) = 0 := by
    unfold putC
    rw [snd_row, deep_row, if_neg (by simp), if_neg (by omega), if_neg (by omega)]
  have hnl : ns.length ≤ 3 := by
    have := numK_len (k := kindS s) ⟨by omega, hk4⟩
    rw [this] at hn
    split at hn <;> (try split at hn) <;> (try split at hn) <;> omega
  have hfd : fdOk (kindS s) b ns := ⟨by omega, hput⟩
  refine ⟨⟨hp, hgC, ?_, ?_, ?_, ?_⟩, hN, hBB, hK, hE⟩
  · rw [hN, hK]; exact hn
  · rw [hN, hBB, hK]; unfold fdK; rw [if_pos hfd]
  · rw [hN, hBB, hK]; unfold fdE; rw [if_pos hfd]
  · rw [hN, hBB, hK]; unfold fdB; rw [if_pos hfd, hB]
    unfold putS
    rw [if_pos hput, ← hw]
    exact str_data _
theorem okM_okR {s : ByteArray} (h : okM s) : okR s (msB s) (msN s) := by
  obtain ⟨hp, hg, hn, h1, h2, h3⟩ := h
  have hc : codeS s = 0 := by
    unfold codeP at hp
    by_cases hc : codeS s = 0
    · exact hc
    · rw [if_neg hc] at hp; exact absurd hp hc
  obtain ⟨hk0, hl8, hl20⟩ := codeS_kind hc
  obtain ⟨r1, r2, r3, r4, r5⟩ := r_ok hc
  have hz : lenN s + 20 = s.size := by
    unfold codeP at hp
    rw [if_pos hc, r4] at hp
    by_cases hr : (restS s).size = 0
    · unfold restS at hr
      rw [ByteArray.size_extract] at hr; omega
    · rw [if_neg hr] at hp; cases hp
  have hK : pK s = kindS s := by unfold pK; rw [if_pos hp, r1]
  have hB : pB s = bodyS s := by unfold pB; rw [if_pos hp, r3]
  have hbs := bodyS_size hc
  have hk4 : kindS s ≤ 4 := by
    rw [hK] at hn
    unfold numK at hn
    split at hn <;> (try split at hn) <;> (try split at hn) <;> (try split at hn) <;> omega
  rw [hK] at hn h1 h3
  rw [hB] at h3
  have hfd : fdOk (kindS s) (msB s) (msN s) := by
    refine Classical.byContradiction fun hf => ?_
    unfold fdK at h1
    rw [if_neg hf] at h1
    omega
  have hput := hfd.2
  have hbody : (bodyS s).data.toList = txtT (rowT (kindS s) (msB s) (msN s)) := by
    unfold fdB at h3
    rw [if_pos hfd] at h3
    unfold putS at h3
    rw [if_pos hput] at h3
    rw [← h3, str_list]
  have hrA : rdA (pB s) = rd .v [] (bodyS s).data.toList := by unfold rdA; rw [hB, if_neg (by omega)]
  obtain ⟨c, T, R, hT⟩ : ∃ c T R, rd .v [] (bodyS s).data.toList = (c, T, R) := ⟨_, _, _, rfl⟩
  have hc0 : c = 0 := by
    refine Classical.byContradiction fun hcc => ?_
    unfold getC at hg
    rw [hrA, hT, if_pos hcc] at hg
    exact hcc hg
  subst hc0
  obtain ⟨_, hcn⟩ := rd_whole hT
  have hgT : getT (pB s) = T := by unfold getT; rw [if_pos hg, hrA, hT]
  have hns : ∀ n ∈ msN s, n ≤ 18446744073709551615 := by
    intro n hn'
    unfold msN prN at hn'
    obtain ⟨x, hx, hxe⟩ := List.mem_filterMap.1 hn'
    unfold kids at hx
    rw [hgT] at hx
    rcases hcn with ⟨n', hle, rfl⟩ | ⟨b', rfl⟩ | ⟨l, rfl, hl⟩
    · simp [numT] at hx
    · simp [strT] at hx
    · rcases hl x hx with ⟨n', hle, rfl⟩ | ⟨b', rfl⟩ | ⟨l', rfl⟩
      · simp [numT] at hxe; omega
      · simp [strT] at hxe
      · simp at hxe
  have hok : okT (rowT (kindS s) (msB s) (msN s)) := by
    have hlen : (txtT (rowT (kindS s) (msB s) (msN s))).length ≤ 8192 := by
      rw [← hbody]
      have : (bodyS s).data.toList.length = (bodyS s).size := by simp
      omega
    have e3 : txtT (rowT (kindS s) (msB s) (msN s)) = 3 :: (sh (rowL (kindS s) (msB s) (msN s)).length ++ txtL (rowL (kindS s) (msB s) (msN s))) := by unfold rowT txtT; simp
    rw [e3] at hlen
    simp only [List.length_cons, List.length_append] at hlen
    have hrl := row_len (kindS s : Int) (msB s) (msN s)
    have hnl := hfd.1
    unfold rowT okT
    refine ⟨by omega, by decide, by rw [hrl]; split <;> omega, ?_⟩
    unfold rowL
    refine ok_nums _ _ hns ?_
    by_cases h2 : (kindS s : Int) = 2
    · rw [if_pos h2]
      unfold okL okL strT okT
      refine ⟨⟨by omega, ?_, by simp, by unfold okL; trivial⟩, trivial⟩
      have e4 : txtL (rowL (kindS s) (msB s) (msN s)) = txtL ((msN s).map numT) ++ txtL [strT (msB s)] := by
        unfold rowL; rw [if_pos h2, txtL_flat, txtL_flat, txtL_flat, List.flatMap_append]
      have e5 : txtL [strT (msB s)] = 2 :: (sh (msB s).size ++ (msB s).data.toList) := by simp [txtL, strT, txtT]
      rw [e4, e5] at hlen
      simp only [List.length_cons, List.length_append] at hlen
      have : (msB s).data.toList.length = (msB s).size := by simp
      omega
    · rw [if_neg h2]; unfold okL; trivial
  have hrt := rd_txt (rowT (kindS s) (msB s) (msN s)) (snd_row _ _ _) hok [] [] (by rw [deep_row]; simp)
  rw [List.append_nil, ← hbody, rd_w_nil] at hrt
  refine ⟨hc, hz, hk4, hrt, hn, fun hk2 => ?_⟩
  rw [hT] at hrt
  simp only [Prod.mk.injEq, true_and] at hrt
  have hkid : kids s = rowL (kindS s) (msB s) (msN s) := by unfold kids; rw [hgT, hrt.1]; rfl
  have hB2 : msB s = prB (kids s) := rfl
  rw [hB2, hkid, prB_row, if_neg (by omega)]
end Go.Proofs.Ytdojepkmjifoeaa
