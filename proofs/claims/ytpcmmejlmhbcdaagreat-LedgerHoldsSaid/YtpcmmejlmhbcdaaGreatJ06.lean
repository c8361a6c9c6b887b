/- Get. -/
import Derived.Test.YtpcmmejlmhbcdaaGreatJ05
set_option linter.unusedVariables false
set_option linter.unusedSimpArgs false
namespace Go.Proofs.YtpcmmejlmhbcdaaGreat
open Go.RowKit

theorem there_later {w w' : World} {b o n : Nat} (h : w.there b o n) (hb : Below w.heap.size w w') : w'.there b o n := fun j hj => by
  obtain ⟨h1, h2⟩ := h j hj
  obtain ⟨v, hv⟩ := Option.isSome_iff_exists.1 h1
  have hlt := World.block_lt_of_cell? w _ hv
  rw [hb.cell hlt, hb.frozen hlt]
  exact ⟨h1, h2⟩
theorem results_range {fn : Func} {p : Tmp} {ty : TypeId} (h : fn.results = #[.cell p ty]) (tmps : Array Value) (w : World) (b : Nat) (cs : List Value) (d : TypeDesc)
    (hp : tmps.getD p undef = .pointer (some ⟨b, 0, none⟩)) (hc : w.rangeAt b 0 cs) (hu : Tryz.prog.underlying ty = some d) (hd : d.isRow = true) (hi : (Tryz.prog.info? ty).map (·.size) = some cs.length) :
    (results fn tmps).run Tryz.prog w = .ok (.agg cs.toArray) w := by
  have hp' : tmps[p]?.getD undef = .pointer (some ⟨b, 0, none⟩) := by simpa using hp
  simp [results, h, hp', asAddr, run_loadVar_mid w b 0 ty cs d hc hu hd hi]
theorem has_get {L : List En} {q : Nat} (hs : srt L) (h : has L q = true) : L[plc L q]? = some (get L q) := (at_plc q hs).2.1 h
theorem get_no {L : List En} {q : Nat} (hs : srt L) (h : has L q = false) : get L q = ⟨q, 0, false⟩ := ((at_plc q hs).2.2 h).1
def z46 : Array Value := #[.int .u8 0, .int .u8 0, .int .u8 0, .int .u8 0, .int .u8 0, .int .u8 0, .int .u8 0, .int .u8 0, .int .u8 0, .int .u8 0, .int .u8 0, .int .u8 0, .int .u8 0, .int .u8 0, .int .u8 0, .int .u8 0, .int .i64 0, .bool false]

theorem ecs (e : En) : (ec e).toArray.size = 18 := by rw [List.size_toArray, ec_len]
theorem info46s (e : En) : (Tryz.prog.info? 46).map (·.size) = some (ec e).toArray.size := by rw [ecs]; kernel_rfl
theorem wpList_b46 {ops : Array Oper} {rest : List Oper} {o : Oper} {a : Act} {w : World} {Q : Exit → Act → World → Prop} (hg : o.guard = none) (x : Operand) (ho : o.op = .build 46 #[(0, x)]) (q : Nat) (hx : a.eval x = .agg (pc q).toArray)
    (h : wpList Tryz.prog ops Q rest (a.put o.dst (.agg (ec ⟨q, 0, false⟩).toArray)) w) : wpList Tryz.prog ops Q (o :: rest) a w := by
  have e : Tryz.prog.built 46 ((#[(0, x)] : Array (Nat × Operand)).map fun (i, x) => (i, a.eval x)).toList = some (ec ⟨q, 0, false⟩).toArray := by
    have e0 : ((#[(0, x)] : Array (Nat × Operand)).map fun (i, x) => (i, a.eval x)).toList = [(0, a.eval x)] := by simp
    rw [e0, hx]; exact built46 q
  refine wpList_build hg 46 _ ho (by rw [e]; rfl) ?_
  rw [e]
  exact h

set_option maxRecDepth 100000 in
set_option maxHeartbeats 2000000 in
theorem get_any (L : List En) (hs : srt L) (hf : fit L) (hl : L.length ≤ 1000000) (o : Option Addr) (cap q : Nat) (hq : q < top) (w : World) (hr : RowE w o L) :
    Calls Tryz.prog 19 #[.agg #[.slice o L.length cap], .agg (pc q).toArray] w fun e w' => e = .returned (.agg (ec (get L q)).toArray) ∧ Below w.heap.size w w' := by
  obtain ⟨W3, hW3⟩ : ∃ W3, W3 = ((w.alloc (.cells #[.slice o L.length cap] 28)).alloc (.cells (pc q).toArray 24)).alloc (.cells z46 46) := ⟨_, rfl⟩
  have hsz : (w.alloc (.cells #[.slice o L.length cap] 28)).heap.size = w.heap.size + 1 := by simp
  have hsz2 : ((w.alloc (.cells #[.slice o L.length cap] 28)).alloc (.cells (pc q).toArray 24)).heap.size = w.heap.size + 1 + 1 := by simp
  have hB : Below w.heap.size w W3 := by rw [hW3]; exact bt (bt (alloc_below _ _))
  have hL : W3.cell? ⟨w.heap.size, 0, none⟩ = some (.slice o L.length cap) := by rw [hW3]; exact box_l (bt (alloc_below _ _))
  have hP : W3.rangeAt (w.heap.size + 1) 0 (pc q) := by
    rw [hW3, ← hsz]; exact range_alloc (alloc_below _ _)
  have hT : W3.there (w.heap.size + 1 + 1) 0 18 := by
    rw [hW3, ← hsz2]; exact there_new (Below.refl _ _)
  have K : Hid (Calls Tryz.prog 35 #[.agg #[.slice o L.length cap], .agg (pc q).toArray] W3 fun e w' => e = .returned (.tuple #[.int .i64 (plc L q : Nat), .bool (has L q)]) ∧ Below W3.heap.size W3 w') :=
    Lib.hid (find_any L hs hf hl o cap q hq W3 (hr.later hB))
  have HB := Lib.hid hB
  have HR := Lib.hid (hr.later hB)
  have HT := Lib.hid hT
  have HP := Lib.hid hP
  have HL := Lib.hid hL
  have hi24 := Lib.hid (info24 q)
  have hpl : plc L q ≤ 1000000 := Nat.le_trans (plc_le L q) hl
  cases hh : has L q
  · have hg := get_no hs hh
    rw [hg]
    rw [hh] at K
    have hbt := built46 q
    have hi46 := Lib.hid (info46 ⟨q, 0, false⟩)
    have hone := Lib.hid (all_oneCell_toArray (ec_one ⟨q, 0, false⟩))
    clear hs hf hq hr hh hg hB hT hP hL hsz hsz2
    generalize L.length = n at *
    generalize plc L q = pl at *
    unfold z46 at hW3
    go_enter Tryz.func19, Tryz.ntmps19
    go_upto_region 1 with (fail)
    rw [← hW3]
    clear hW3
    have hl3 := HL.out
    go_wp2_with (first
      | (refine wpList_load_mid (w := W3) rfl 24 (.tmp 3) rfl (w.heap.size + 1) 0 rfl (pc q) _ HP.out Tryz.underlying24 rfl hi24.out ?_)
      | (go_at_call 35; ((with_reducible refine (K.out).mono ?_); rintro x w5 ⟨rfl, hb5⟩; have HB5 := Lib.hid hb5; clear hb5))
      | (refine wpList_load_mid (w := w5) rfl 24 (.tmp 3) rfl (w.heap.size + 1) 0 rfl (pc q) _ (range_later HP.out HB5.out) Tryz.underlying24 rfl hi24.out ?_)
      | (refine wpList_b46 rfl (.tmp 15) rfl q rfl ?_)
      | (refine wpList_store_mid (w := w5) rfl 46 (.tmp 4) (.tmp 16) rfl (w.heap.size + 1 + 1) 0 (ec ⟨q, 0, false⟩).toArray rfl rfl (by rw [ecs]; exact there_later HT.out HB5.out) (info46s _) hone.out ?_))
    have hrg := World.rangeAt_setCells_same w5 (w.heap.size + 1 + 1) 0 (ec ⟨q, 0, false⟩) (by rw [ec_len]; exact there_later HT.out HB5.out)
    refine bodyPost_ret (v := .agg (ec ⟨q, 0, false⟩).toArray) (results_range rfl _ _ (w.heap.size + 1 + 1) (ec ⟨q, 0, false⟩) _ rfl hrg Tryz.underlying46 rfl hi46.out) rfl ⟨rfl, ?_⟩
    exact below_setCells (by omega) _ _ (HB.out.trans (HB5.out.mono HB.out.size))
  · obtain ⟨e, he⟩ : ∃ e, e = get L q := ⟨_, rfl⟩
    have hget := has_get hs hh
    rw [← he] at hget ⊢
    rw [hh] at K
    have hlt := has_lt hs hh
    have hi46 := Lib.hid (info46 e)
    have hone := Lib.hid (all_oneCell_toArray (ec_one e))
    have HG : Hid (∀ wz, Below W3.heap.size W3 wz → ∃ b off, o = some ⟨b, off, none⟩ ∧ wz.rangeAt b (off + plc L q * 18) (ec e)) := Lib.hid (fun wz hb => (HR.out.later hb).get hget)
    obtain ⟨b, off, rfl, _⟩ := HG.out W3 (Below.refl _ _)
    have HG2 : Hid (∀ wz, Below W3.heap.size W3 wz → wz.rangeAt b (off + plc L q * 18) (ec e)) := Lib.hid (fun wz hb => by
      obtain ⟨b2, o2, e2, hr⟩ := HG.out wz hb
      cases e2; exact hr)
    have HN : Hid (Nonempty Unit) := Lib.hid ⟨()⟩
    clear hs hf hq hr hh hB hT hP hL hsz hsz2 hget HG he
    generalize L.length = n at *
    generalize plc L q = pl at *
    unfold z46 at hW3
    have q1 : (pl : Int) < (n : Int) := by omega
    clear hlt
    go_enter Tryz.func19, Tryz.ntmps19
    go_upto_region 1 with (fail)
    rw [← hW3]
    clear hW3
    have hl3 := HL.out
    go_wp2_with (first
      | (refine wpList_load_mid (w := W3) rfl 24 (.tmp 3) rfl (w.heap.size + 1) 0 rfl (pc q) _ HP.out Tryz.underlying24 rfl hi24.out ?_)
      | (go_at_call 35; ((with_reducible refine (K.out).mono ?_); rintro x w5 ⟨rfl, hb5⟩; have hl5 := (hb5.cell (p := ⟨w.heap.size, 0, none⟩) (World.block_lt_of_cell? _ _ hl3)).trans hl3; have HB5 := Lib.hid hb5; clear hb5))
      | (refine wpList_load_mid (w := w5) rfl 46 (.tmp 20) rfl b (off + pl * 18) rfl (ec e) _ (HG2.out w5 HB5.out) Tryz.underlying46 rfl hi46.out ?_)
      | (refine wpList_store_mid (w := w5) rfl 46 (.tmp 4) (.tmp 21) rfl (w.heap.size + 1 + 1) 0 (ec e).toArray rfl rfl (by rw [ecs]; exact there_later HT.out HB5.out) (info46s _) hone.out ?_))
    have hrg := World.rangeAt_setCells_same w5 (w.heap.size + 1 + 1) 0 (ec e) (by rw [ec_len]; exact there_later HT.out HB5.out)
    refine bodyPost_ret (v := .agg (ec e).toArray) (results_range rfl _ _ (w.heap.size + 1 + 1) (ec e) _ rfl hrg Tryz.underlying46 rfl hi46.out) rfl ⟨rfl, ?_⟩
    exact below_setCells (by omega) _ _ (HB.out.trans (HB5.out.mono HB.out.size))
end Go.Proofs.YtpcmmejlmhbcdaaGreat
