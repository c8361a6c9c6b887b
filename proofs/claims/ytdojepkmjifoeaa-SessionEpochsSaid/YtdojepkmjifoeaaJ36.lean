/- Layer 19's awake.; The law SessionEpochs: what its calls answer.; The law SessionEpochs: its frame; the regions in which Take is asked. -/
import Derived.Test.YtdojepkmjifoeaaJ35
set_option linter.unusedVariables false
set_option linter.unusedSimpArgs false
namespace Go.Proofs.Ytdojepkmjifoeaa
open Go.RowKit

theorem awake7o_any (w : World) : Calls Try.prog 17 #[] w fun e w' => e = .returned (.bool true) ∧ Below w.heap.size w w' := by
  have K := Lib.hid (fun w => awake7_any w)
  go_enter Try.func17, Try.ntmps17
  go_wp2_with (first | (go_at_call 37; ((with_reducible refine (K.out _).mono ?_); rintro e w1 ⟨rfl, hb1⟩)))
  go_ret
  exact ⟨rfl, hb1⟩
theorem awake8o_any (w : World) : Calls Try.prog 18 #[] w fun e w' => e = .returned (.bool true) ∧ Below w.heap.size w w' := by
  have K := Lib.hid (fun w => awake8_any w)
  go_enter Try.func18, Try.ntmps18
  go_wp2_with (first | (go_at_call 38; ((with_reducible refine (K.out _).mono ?_); rintro e w1 ⟨rfl, hb1⟩)))
  go_ret
  exact ⟨rfl, hb1⟩
theorem awake18o_any (w : World) : Calls Try.prog 19 #[] w fun e w' => e = .returned (.bool true) ∧ Below w.heap.size w w' := by
  have K := Lib.hid (fun w => Bk.awake18_any w)
  go_enter Try.func19, Try.ntmps19
  go_wp2_with (first | (go_at_call 39; ((with_reducible refine (K.out _).mono ?_); rintro e w1 ⟨rfl, hb1⟩)))
  go_ret
  exact ⟨rfl, hb1⟩
def s0 : Ss := Ss.new 1 8 0 5
def m0 : ByteArray := msgV 1 1 ⟨#[]⟩ [5]
theorem m0_ok : MsOk 1 1 ⟨#[]⟩ [5] := ⟨by omega, by omega, by omega, by simp [ByteArray.size], by simp, by simp⟩
set_option maxRecDepth 100000 in
set_option maxHeartbeats 8000000 in
theorem awake19_any (w : World) : Calls Try.prog 6 #[] w fun e w' => e = .returned (.bool true) ∧ Below w.heap.size w w' := by
  have K17 := Lib.hid (fun w => awake7o_any w)
  have K18 := Lib.hid (fun w => awake8o_any w)
  have K19 := Lib.hid (fun w => awake18o_any w)
  have K12 : Hid (∀ w, Calls Try.prog 12 #[.agg #[.int .u64 1, .int .u64 8, .int .i64 0], .int .u64 5] w fun r w' => r = .returned (.agg #[.int .u64 0, .int .u64 5, .int .u64 0, .int .u64 0, .string ⟨#[]⟩, .bool false, .int .u64 1, .int .u64 8, .int .i64 0]) ∧ Below w.heap.size w w') := Lib.hid (fun w => new_any 1 8 0 5 w)
  obtain ⟨M, hM⟩ : ∃ M, msgV 1 1 ⟨#[]⟩ [5] = M := ⟨_, rfl⟩
  have K13 : Hid (∀ w, Calls Try.prog 13 #[.agg #[.int .u64 0, .int .u64 5, .int .u64 0, .int .u64 0, .string ⟨#[]⟩, .bool false, .int .u64 1, .int .u64 8, .int .i64 0], .int .u64 0] w fun z w' => z = .returned (.tuple #[.agg #[.int .u64 1, .int .u64 5, .int .u64 0, .int .u64 0, .string ⟨#[]⟩, .bool true, .int .u64 1, .int .u64 8, .int .i64 0], .string M]) ∧ Below w.heap.size w w') :=
    Lib.hid (fun w => tick_ok (Ss.new 1 8 0 5) 0 ⟨by simp [Ss.new], by simp [Ss.new], by simp [Ss.new], by simp [Ss.new], by simp [Ss.new, ByteArray.size], by simp [Ss.new], by simp [Ss.new]⟩ rfl (by simp [Ss.new]) M hM w)
  obtain ⟨h1, h2, h3, h4, h5⟩ := ms_read m0_ok rfl (fun _ => rfl)
  have hM' : msgV ((1 : Nat) : Int) 1 ⟨#[]⟩ [5] = M := hM
  rw [hM'] at h1 h2 h3 h4 h5
  have K9 := fun w => read_ok M (by rw [← hM']; have := (ms_size m0_ok).1; omega) h1 w
  rw [h2, h3, h4, h5] at K9
  simp only [List.length_cons, List.length_nil, Nat.zero_add] at K9
  have K9 := Lib.hid K9
  clear hM hM' h1 h2 h3 h4 h5
  go_enter Try.func6, Try.ntmps6
  go_wp2_with (first
    | (go_at_call 12; ((with_reducible refine (K12.out _).mono ?_); rintro z w1 ⟨rfl, hb1⟩))
    | (go_at_call 13; ((with_reducible refine (K13.out _).mono ?_); rintro z w2 ⟨rfl, hb2⟩; have HB2 := Lib.hid (hb1.trans (hb2.mono hb1.size)); clear hb1 hb2))
    | (go_at_call 9; ((with_reducible refine (K9.out _).mono ?_); rintro z w3 ⟨ρ, oN, capN, rfl, hpa⟩; obtain ⟨rr, hrr, horr, hc⟩ := hpa.2.1.cell 0 (by simp); subst horr; have HN3 := Lib.hid ((N9.new w2 (.int .u64 1) (.int .u64 5) (.int .u64 0) (.int .u64 0) (.string ⟨#[]⟩) (.bool true) (.int .u64 1) (.int .u64 8) (.int .i64 0)).later hpa.1); have HC3 : Hid (w3.cell? ⟨rr, 0, none⟩ = some (.int .u64 5)) := Lib.hid hc; have HB3 := Lib.hid (HB2.out.trans ((Bk.bt hpa.1).mono HB2.out.size)); clear hpa hrr hc))
    | (go_at_call 17; ((with_reducible refine (K17.out _).mono ?_); rintro z w4 ⟨rfl, hb4⟩; have HN4 := Lib.hid (HN3.out.later hb4); have HC4 := Lib.hid ((hb4.cell (p := ⟨rr, 0, none⟩) (World.block_lt_of_cell? _ _ HC3.out)).trans HC3.out); have HB4 := Lib.hid (HB3.out.trans (hb4.mono HB3.out.size)); clear hb4))
    | (go_at_call 18; ((with_reducible refine (K18.out _).mono ?_); rintro z w5 ⟨rfl, hb5⟩; have HN5 := Lib.hid (HN4.out.later hb5); have HC5 := Lib.hid ((hb5.cell (p := ⟨rr, 0, none⟩) (World.block_lt_of_cell? _ _ HC4.out)).trans HC4.out); have HB5 := Lib.hid (HB4.out.trans (hb5.mono HB4.out.size)); clear hb5))
    | (go_at_call 19; ((with_reducible refine (K19.out _).mono ?_); rintro z w6 ⟨rfl, hb6⟩; have HN6 := Lib.hid (HN5.out.later hb6); have HC6 := Lib.hid ((hb6.cell (p := ⟨rr, 0, none⟩) (World.block_lt_of_cell? _ _ HC5.out)).trans HC5.out); have HB6 := Lib.hid (HB5.out.trans (hb6.mono HB5.out.size)); clear hb6; obtain ⟨⟨c0, c1, c2, c3, c4, c5, c6, c7, c8⟩, _⟩ := nine HN6.out; have cc := HC6.out)))
  go_ret
  exact ⟨rfl, HB6.out⟩
end Go.Proofs.Ytdojepkmjifoeaa

namespace Go.Proofs.Ytdojepkmjifoeaa
open Go.RowKit

theorem c_tick {i i1 ver n nw b c : Nat} {r : ByteArray} {t : Int} {M : ByteArray} (hi : i ≤ 1000) (hi1 : i1 = i + 1) (hv : ver ≤ 1000) (hn : n ≤ 1000) (hw : nw ≤ 1000) (hb : b ≤ 1000) (hc : c ≤ 1000) (hr : r.size ≤ 1000000000) (hM : msgV 1 i1 ⟨#[]⟩ [ver] = M) (w : World) :
    Calls Try.prog 13 #[.agg #[.int .u64 (i : Int), .int .u64 (ver : Int), .int .u64 (n : Int), .int .u64 (nw : Int), .string r, .bool false, .int .u64 (b : Int), .int .u64 (c : Int), .int .i64 t], .int .u64 (nw : Int)] w fun z w' => z = .returned (.tuple #[.agg #[.int .u64 (i1 : Int), .int .u64 (ver : Int), .int .u64 0, .int .u64 (nw : Int), .string ⟨#[]⟩, .bool true, .int .u64 (b : Int), .int .u64 (c : Int), .int .i64 t], .string M]) ∧ Below w.heap.size w w' := by
  have e : i1 = adN i 1 := by unfold adN; omega
  subst e
  exact tick_ok ⟨i, ver, n, nw, r, false, b, c, t⟩ nw ⟨by simp only; omega, by simp only; omega, by simp only; omega, by simp only; omega, hr, by simp only; omega, by simp only; omega⟩ rfl (Nat.lt_irrefl nw) M hM w
theorem c_read {i1 ver : Nat} {M : ByteArray} (hi : i1 ≤ 1000) (hv : ver ≤ 1000) (hM : msgV 1 i1 ⟨#[]⟩ [ver] = M) (w : World) : Calls Try.prog 9 #[.string M] w fun z w' => ∃ ρ o cap, z = .returned (.tuple #[.int .i64 1, .int .u64 (i1 : Int), .slice o 1 cap, .string ⟨#[]⟩, .int .i64 0]) ∧ PaW w ρ o cap [ver] w' := by
  have ok1 : MsOk 1 i1 ⟨#[]⟩ [ver] := ⟨by omega, by omega, by omega, by simp [ByteArray.size], by intro q hq; simp at hq; omega, by simp⟩
  obtain ⟨h1, h2, h3, h4, h5⟩ := ms_read ok1 rfl (fun _ => rfl)
  have hs := (ms_size ok1).1
  have hM' : msgV ((1 : Nat) : Int) i1 ⟨#[]⟩ [ver] = M := hM
  rw [hM'] at h1 h2 h3 h4 h5 hs
  have h := read_ok M (by omega) h1 w
  rw [h2, h3, h4, h5] at h
  exact h
/-- An offer's message. -/
theorem c_msg {q p1 p2 : Nat} {M : ByteArray} (hq : q ≤ 1000) (h1 : p1 ≤ 1000) (h2 : p2 ≤ 1000) (hM : msgV 2 q ⟨#[120]⟩ [p1, p2] = M) (wz : World) (B : Nat) (hB : wz.heap[B]? = some (.cells #[.int .u64 (p1 : Int), .int .u64 (p2 : Int)] 22 (0, 0))) :
    Calls Try.prog 7 #[.int .i64 2, .int .u64 (q : Int), .string ⟨#[120]⟩, .slice (some ⟨B, 0, none⟩) 2 2] wz fun z w' => z = .returned (.string M) ∧ Below wz.heap.size wz w' := by
  have h := message_any 2 q ⟨#[120]⟩ [p1, p2] (some ⟨B, 0, none⟩) 2 B 0 (by simp [ByteArray.size]) (by omega) wz (fun _ => ⟨rfl, lt_of_heap hB⟩) (fun i hi => by
    have e : i = 0 ∨ i = 1 := by simp at hi; omega
    rcases e with rfl | rfl
    · exact ⟨cell_of_row wz B 0 _ _ _ hB, by simp; omega⟩
    · exact ⟨cell_of_row wz B 1 _ _ _ hB, by simp; omega⟩)
  rw [hM] at h
  exact h
theorem o_ok {q p1 p2 : Nat} (hq : q ≤ 1000) (h1 : p1 ≤ 1000) (h2 : p2 ≤ 1000) : MsOk 2 q ⟨#[120]⟩ [p1, p2] := ⟨by omega, by omega, by omega, by simp [ByteArray.size], by intro z hz; simp at hz; omega, by simp⟩
theorem c_stale {i i1 ver nw b c : Nat} {t : Int} {M : ByteArray} (hi : i ≤ 1000) (hi1 : i1 = i + 1) (hv : ver ≤ 1000) (hw : nw ≤ 1000) (hb : b ≤ 1000) (hc : c ≤ 1000) (hM : msgV 2 i ⟨#[120]⟩ [1, 1] = M) (w : World) :
    Calls Try.prog 14 #[.agg #[.int .u64 (i1 : Int), .int .u64 (ver : Int), .int .u64 0, .int .u64 (nw : Int), .string ⟨#[]⟩, .bool true, .int .u64 (b : Int), .int .u64 (c : Int), .int .i64 t], .string M] w fun z w' => z = .returned (.tuple #[.agg #[.int .u64 (i1 : Int), .int .u64 (ver : Int), .int .u64 0, .int .u64 (nw : Int), .string ⟨#[]⟩, .bool true, .int .u64 (b : Int), .int .u64 (c : Int), .int .i64 t], .agg #[.int .u64 0, .int .u64 0, .string ⟨#[]⟩], .string ⟨#[]⟩, .int .i64 18]) ∧ Below w.heap.size w w' := by
  obtain ⟨h1, h2, h3, h4, h5⟩ := ms_read (o_ok hi (by omega) (by omega) : MsOk 2 i ⟨#[120]⟩ [1, 1]) rfl (fun h => absurd rfl h)
  have hs := (ms_size (o_ok hi (by omega) (by omega) : MsOk 2 i ⟨#[120]⟩ [1, 1])).1
  have hM' : msgV ((2 : Nat) : Int) i ⟨#[120]⟩ [1, 1] = M := hM
  rw [hM'] at h1 h2 h3 h4 h5 hs
  have hkc : knC ⟨i1, ver, 0, nw, ⟨#[]⟩, true, b, c, t⟩ (pE M) 1 = 18 := by
    rw [h3]; unfold knC; rw [if_neg (by simp), if_pos (by simp only; omega)]
  have hkr : knR ⟨i1, ver, 0, nw, ⟨#[]⟩, true, b, c, t⟩ (pE M) 1 = ⟨#[]⟩ := by unfold knR; rw [if_neg (by rw [hkc]; omega)]
  have h := take_known ⟨i1, ver, 0, nw, ⟨#[]⟩, true, b, c, t⟩ ⟨by simp only; omega, by simp only; omega, by simp only; omega, by simp only; omega, by simp [ByteArray.size], by simp only; omega, by simp only; omega⟩ M (by omega) h1 h2 1 1 h4 (by rw [hkc]; omega) w
  rw [hkc, hkr] at h
  exact h
theorem c_take {i1 ver vn nw b c : Nat} {t : Int} {M : ByteArray} (hi : i1 ≤ 1000) (hv : ver ≤ 1000) (hvn : vn ≤ 1000) (hw : nw ≤ 1000) (hb : b ≤ 1000) (hc : c ≤ 1000) (hM : msgV 2 i1 ⟨#[120]⟩ [vn, 1] = M) (w : World) :
    Calls Try.prog 14 #[.agg #[.int .u64 (i1 : Int), .int .u64 (ver : Int), .int .u64 0, .int .u64 (nw : Int), .string ⟨#[]⟩, .bool true, .int .u64 (b : Int), .int .u64 (c : Int), .int .i64 t], .string M] w fun z w' => z = .returned (.tuple #[.agg #[.int .u64 (i1 : Int), .int .u64 (ver : Int), .int .u64 1, .int .u64 (nw : Int), .string ⟨#[]⟩, .bool true, .int .u64 (b : Int), .int .u64 (c : Int), .int .i64 0], .agg #[.int .u64 (vn : Int), .int .u64 1, .string ⟨#[120]⟩], .string ⟨#[]⟩, .int .i64 0]) ∧ Below w.heap.size w w' := by
  obtain ⟨h1, h2, h3, h4, h5⟩ := ms_read (o_ok hi hvn (by omega) : MsOk 2 i1 ⟨#[120]⟩ [vn, 1]) rfl (fun h => absurd rfl h)
  have hs := (ms_size (o_ok hi hvn (by omega) : MsOk 2 i1 ⟨#[120]⟩ [vn, 1])).1
  have hM' : msgV ((2 : Nat) : Int) i1 ⟨#[120]⟩ [vn, 1] = M := hM
  rw [hM'] at h1 h2 h3 h4 h5 hs
  have hkc : knC ⟨i1, ver, 0, nw, ⟨#[]⟩, true, b, c, t⟩ (pE M) 1 = 0 := by
    rw [h3]; unfold knC; rw [if_neg (by simp), if_neg (by simp), if_neg (by simp), if_pos (by simp)]
  have h := take_ok ⟨i1, ver, 0, nw, ⟨#[]⟩, true, b, c, t⟩ ⟨by simp only; omega, by simp only; omega, by simp only; omega, by simp only; omega, by simp [ByteArray.size], by simp only; omega, by simp only; omega⟩ M (by omega) h1 h2 vn 1 h4 hkc w
  rw [h5] at h
  exact h
theorem c_ack {i1 ver vn nw b c : Nat} {M : ByteArray} (hi : i1 ≤ 1000) (hv : ver ≤ 1000) (hvn : vn ≤ 1000) (hw : nw ≤ 1000) (hb : b ≤ 1000) (hc : c ≤ 1000) (hM : msgV 3 i1 ⟨#[]⟩ [vn, 1] = M) (hs : M.size ≤ 1000000000) (w : World) :
    Calls Try.prog 15 #[.agg #[.int .u64 (i1 : Int), .int .u64 (ver : Int), .int .u64 1, .int .u64 (nw : Int), .string ⟨#[]⟩, .bool true, .int .u64 (b : Int), .int .u64 (c : Int), .int .i64 0], .agg #[.int .u64 (vn : Int), .int .u64 1, .string ⟨#[120]⟩], .int .i64 0] w fun z w' => z = .returned (.tuple #[.agg #[.int .u64 (i1 : Int), .int .u64 (vn : Int), .int .u64 1, .int .u64 (nw : Int), .string M, .bool true, .int .u64 (b : Int), .int .u64 (c : Int), .int .i64 0], .string M]) ∧ Below w.heap.size w w' :=
  done_ack ⟨i1, ver, 1, nw, ⟨#[]⟩, true, b, c, 0⟩ vn 1 ⟨#[120]⟩ ⟨by simp only; omega, by simp only; omega, by simp only; omega, by simp only; omega, by simp [ByteArray.size], by simp only; omega, by simp only; omega⟩ (by omega) ⟨rfl, by omega, rfl⟩ M hM hs w
theorem c_nack {i1 ver vn nw b c : Nat} {M : ByteArray} (hi : i1 ≤ 1000) (hv : ver ≤ 1000) (hvn : vn ≤ 1000) (hw : nw ≤ 1000) (hb : b ≤ 1000) (hc : c ≤ 1000) (hM : msgV 4 i1 ⟨#[]⟩ [ver, 1, 1] = M) (hs : M.size ≤ 1000000000) (w : World) :
    Calls Try.prog 15 #[.agg #[.int .u64 (i1 : Int), .int .u64 (ver : Int), .int .u64 1, .int .u64 (nw : Int), .string ⟨#[]⟩, .bool true, .int .u64 (b : Int), .int .u64 (c : Int), .int .i64 0], .agg #[.int .u64 (vn : Int), .int .u64 1, .string ⟨#[120]⟩], .int .i64 1] w fun z w' => z = .returned (.tuple #[.agg #[.int .u64 (i1 : Int), .int .u64 (ver : Int), .int .u64 1, .int .u64 (nw : Int), .string M, .bool true, .int .u64 (b : Int), .int .u64 (c : Int), .int .i64 0], .string M]) ∧ Below w.heap.size w w' :=
  done_nack ⟨i1, ver, 1, nw, ⟨#[]⟩, true, b, c, 0⟩ vn 1 ⟨#[120]⟩ ⟨by simp only; omega, by simp only; omega, by simp only; omega, by simp only; omega, by simp [ByteArray.size], by simp only; omega, by simp only; omega⟩ (by omega) 1 (by omega) (by omega) ⟨rfl, by omega, rfl⟩ M hM hs w
theorem c_lost {i1 ver nw nx : Nat} {M : ByteArray} (hi : i1 ≤ 1000) (hv : ver ≤ 1000) (hw : nw ≤ 1000) (hx : nx = nw + 2) (hs : M.size ≤ 1000000000) (w : World) :
    Calls Try.prog 16 #[.agg #[.int .u64 (i1 : Int), .int .u64 (ver : Int), .int .u64 1, .int .u64 (nw : Int), .string M, .bool true, .int .u64 2, .int .u64 9, .int .i64 0], .int .u64 (nw : Int)] w fun z w' => z = .returned (.agg #[.int .u64 (i1 : Int), .int .u64 (ver : Int), .int .u64 1, .int .u64 (nx : Int), .string M, .bool false, .int .u64 2, .int .u64 9, .int .i64 1]) ∧ Below w.heap.size w w' := by
  have e : nx = adN nw (Bk.dl 2 9 0) := by rw [show Bk.dl 2 9 0 = 2 from rfl]; unfold adN; omega
  subst e
  exact lost_ok ⟨i1, ver, 1, nw, M, true, 2, 9, 0⟩ nw 0 ⟨by simp only; omega, by simp only; omega, by simp only; omega, by simp only; omega, hs, by simp only; omega, by simp only; omega⟩ (by omega) rfl rfl (by omega) w
theorem c_wait {i1 ver ny nx : Nat} {M : ByteArray} (hi : i1 ≤ 1000) (hv : ver ≤ 1000) (hx : nx ≤ 1000) (hy : ny < nx) (hs : M.size ≤ 1000000000) (w : World) :
    Calls Try.prog 13 #[.agg #[.int .u64 (i1 : Int), .int .u64 (ver : Int), .int .u64 1, .int .u64 (nx : Int), .string M, .bool false, .int .u64 2, .int .u64 9, .int .i64 1], .int .u64 (ny : Int)] w fun z w' => z = .returned (.tuple #[.agg #[.int .u64 (i1 : Int), .int .u64 (ver : Int), .int .u64 1, .int .u64 (nx : Int), .string M, .bool false, .int .u64 2, .int .u64 9, .int .i64 1], .string ⟨#[]⟩]) ∧ Below w.heap.size w w' :=
  tick_not ⟨i1, ver, 1, nx, M, false, 2, 9, 1⟩ ny ⟨by simp only; omega, by simp only; omega, by simp only; omega, by simp only; omega, hs, by simp only; omega, by simp only; omega⟩ (Or.inr hy) w
theorem ack_size {i1 vn : Nat} (hi : i1 ≤ 1000) (hv : vn ≤ 1000) : (msgV 3 i1 ⟨#[]⟩ [vn, 1]).size ≤ 1000000000 := by
  have h := (ms_size (⟨by omega, by omega, by omega, by simp [ByteArray.size], by intro z hz; simp at hz; omega, by simp⟩ : MsOk 3 i1 ⟨#[]⟩ [vn, 1])).1
  exact Nat.le_trans h (by omega)
theorem nack_size {i1 vn : Nat} (hi : i1 ≤ 1000) (hv : vn ≤ 1000) : (msgV 4 i1 ⟨#[]⟩ [vn, 1, 1]).size ≤ 1000000000 := by
  have h := (ms_size (⟨by omega, by omega, by omega, by simp [ByteArray.size], by intro z hz; simp at hz; omega, by simp⟩ : MsOk 4 i1 ⟨#[]⟩ [vn, 1, 1])).1
  exact Nat.le_trans h (by omega)
end Go.Proofs.Ytdojepkmjifoeaa

namespace Go.Proofs.Ytdojepkmjifoeaa
open Go.RowKit

def findR (n : Nat) : Code → Option Code
  | .seq (.region k ops d) b => if k = n then some (.seq (.region k ops d) b) else findR n b
  | .seq a b => match findR n a with
    | some c => some c
    | none => findR n b
  | .block _ c => findR n c
  | .loop c => findR n c
  | .scope c => findR n c
  | .cond _ a b => match findR n a with
    | some c => some c
    | none => findR n b
  | _ => none
noncomputable def tl13 : Code := (Try.f5.body.bind (findR 13)).getD .skip
noncomputable def rg13 : Code := match tl13 with
  | .seq a _ => a
  | c => c
noncomputable def tl16 : Code := (Try.f5.body.bind (findR 16)).getD .skip
noncomputable def rg16 : Code := match tl16 with
  | .seq a _ => a
  | c => c
/-- The law's frame. -/
def fe (g5 : Nat) (x0 x1 x6 x7 x8 x11 x18 x19 x20 x22 x31 x32 : Value) (u : Nat → Value) : Act := ⟨List.toArray [x0, x1, u 2, u 3, u 4, .pointer (some ⟨g5, 0, none⟩), x6, x7, x8, u 9, u 10, x11, u 12, u 13, u 14, u 15, u 16, u 17, x18, x19, x20, u 21, x22, u 23, u 24, u 25, u 26, u 27, u 28, u 29, u 30, x31, x32, u 33, u 34, u 35, u 36, u 37, u 38, u 39, u 40, u 41, u 42, u 43, u 44, u 45, u 46, u 47, u 48, u 49, u 50, u 51, u 52, u 53, u 54, u 55, u 56, u 57, u 58, u 59, u 60, u 61, u 62, u 63, u 64, u 65, u 66, u 67, u 68, u 69, u 70, u 71, u 72, u 73, u 74, u 75, u 76, u 77, u 78, u 79, u 80, u 81, u 82, u 83, u 84, u 85, u 86, u 87, u 88, u 89, u 90, u 91, u 92, u 93, u 94, u 95, u 96, u 97, u 98, u 99, u 100, u 101, u 102, u 103, u 104, u 105, u 106, u 107, u 108, u 109, u 110, u 111, u 112, u 113, u 114, u 115, u 116, u 117, u 118, u 119, u 120, u 121, u 122, u 123, u 124, u 125, u 126, u 127, u 128, u 129, u 130, u 131, u 132, u 133, u 134, u 135, u 136, u 137, u 138, u 139, u 140, u 141, u 142, u 143, u 144, u 145, u 146, u 147], []⟩
/-- What stands behind such a region: the session's box and the offer's, new ones. -/
structure RR (w : World) (g5 : Nat) (x0 x1 x6 x7 x8 x11 x18 x19 x20 x22 x31 x32 : Value) (gA gO : Nat) (s2 : Ss) (ov on : Nat) (ob : ByteArray) (a' : Act) (w' : World) : Prop where
  fr : a' = fe g5 x0 x1 x6 x7 x8 x11 x18 x19 x20 x22 x31 x32 (fun j => a'.tmps.getD j undef)
  lA : w.heap.size ≤ gA
  lO : w.heap.size ≤ gO
  ne : gA ≠ gO
  A : N9 w' gA (.int .u64 (s2.e : Int)) (.int .u64 (s2.v : Int)) (.int .u64 (s2.n : Int)) (.int .u64 (s2.x : Int)) (.string s2.r) (.bool s2.o) (.int .u64 (s2.b : Int)) (.int .u64 (s2.c : Int)) (.int .i64 s2.t)
  O : w'.heap[gO]? = some (.cells #[.int .u64 (ov : Int), .int .u64 (on : Int), .string ob] 47 (0, 0))
  B : Below w.heap.size w w'
end Go.Proofs.Ytdojepkmjifoeaa
