/- session.framed: a message's frame. -/
import Derived.Test.YtdojepkmjifoeaaJ21
set_option linter.unusedVariables false
set_option linter.unusedSimpArgs false
namespace Go.Proofs.Ytdojepkmjifoeaa
open Go.RowKit

theorem wpList_vrow {w : World} {ops : Array Oper} {rest : List Oper} {o : Oper} {a : Act} {Q : Exit → Act → World → Prop} (s x : Operand) (t T : TypeId) (hgd : o.guard = none)
    (ho : o.op = .call { callee := .builtin .append, args := #[s, x], argTypes := #[t, t] })
    (hu : Try.prog.underlying t = some (.slice T)) (hinfo : (Try.prog.info? T).map (fun i => (i.zero, i.size, i.bytes)) = some (some (.agg #[.int .i64 0, .int .u64 0, .string ⟨#[]⟩, .slice none 0 0]), 4, 56))
    (g : Nat) (ρ : Option Nat) (oo : Option Addr) (cap n : Nat) (xs : List Value) (hR : VRow T ρ oo cap n xs w) (hn : n + 1 ≤ 1000000000) (ad : Addr) (news : List Value) (hl : news.length = 4) (hnews : ∀ j u, news[j]? = some u → w.cell? (ad.add j) = some u) (h1 : ∀ u ∈ news, u.oneCell' = true)
    (hs : a.eval s = .slice oo n cap) (hx : a.eval x = .slice (some ad) 1 1)
    (h : ∀ o' cap' w' ρ', VRow T ρ' o' cap' (n + 1) (xs ++ news) w' → Nxt ρ ρ' w → Chg g ρ w w' → wpList Try.prog ops Q rest (a.put o.dst (.slice o' (n + 1) cap')) w') : wpList Try.prog ops Q (o :: rest) a w := by
  refine wpList_plain hgd fun K' hK' => ?_
  obtain ⟨o', cap', w', ρ', hr, h2, h3, h4⟩ := vrow_append t T o.type hu hinfo g w ρ oo cap n xs hR hn ad news hl hnews h1
  unfold Oper.wp execOp
  simp only [ho, resolve, invoke, builtin, Sem.run_bind, Sem.run_pure, Result.andThen_ok, List.map_toArray, List.map_cons, List.map_nil, hs, hx, hr]
  exact hK' _ _ (h o' cap' w' ρ' h2 h3 h4)

/-- A number, a text as values; a message's list. -/
def numT (n : Nat) : Tr := .mk 1 n ⟨#[]⟩ []
def strT (b : ByteArray) : Tr := .mk 2 0 b []
def rowL (kd : Int) (b : ByteArray) (ns : List Nat) : List Tr := ns.map numT ++ (if kd = 2 then [strT b] else [])
def rowT (kd : Int) (b : ByteArray) (ns : List Nat) : Tr := .mk 3 0 ⟨#[]⟩ (rowL kd b ns)
theorem deep_nums (ns : List Nat) (r : List Tr) : deepL (ns.map numT ++ r) = deepL r := by
  induction ns with
  | nil => rfl
  | cons n ns ih => simp only [List.map_cons, List.cons_append, deepL, ih, numT, deepT]; simp
theorem deep_row (kd : Int) (b : ByteArray) (ns : List Nat) : deepT (rowT kd b ns) = 1 := by
  unfold rowT rowL
  have h : deepL (if kd = 2 then [strT b] else []) = 0 := by split <;> simp [deepL, strT, deepT]
  simp only [deepT, deep_nums, h]
  simp
theorem vin_num (w : World) (P : Nat → Prop) (n : Nat) (h : n ≤ 18446744073709551615) : VInP w P (numT n) (.int .i64 1) (.int .u64 (n : Int)) (.string ⟨#[]⟩) (.slice none 0 0) := by
  unfold numT VInP
  exact ⟨rfl, rfl, h, rfl, ⟨by simp [ByteArray.size], by simp⟩, none, 0, 0, 0, rfl, fun h => absurd h (by simp), by unfold VInPL; trivial⟩
theorem vin_str (w : World) (P : Nat → Prop) (b : ByteArray) (h : b.size ≤ 1000000000) : VInP w P (strT b) (.int .i64 2) (.int .u64 (0 : Int)) (.string b) (.slice none 0 0) := by
  unfold strT VInP
  exact ⟨rfl, rfl, by omega, rfl, ⟨h, by simp⟩, none, 0, 0, 0, rfl, fun h => absurd h (by simp), by unfold VInPL; trivial⟩
theorem row_len (kd : Int) (b : ByteArray) (ns : List Nat) : (rowL kd b ns).length = ns.length + (if kd = 2 then 1 else 0) := by
  unfold rowL; split <;> simp
theorem row_at (kd : Int) (b : ByteArray) (ns : List Nat) (j : Nat) (h : j < ns.length) (h2 : j < (rowL kd b ns).length) : (rowL kd b ns)[j] = numT ns[j] := by
  revert h2
  unfold rowL
  intro h2
  rw [List.getElem_append_left (by simpa using h)]
  simp
theorem row_last (b : ByteArray) (ns : List Nat) (h2 : ns.length < (rowL 2 b ns).length) : (rowL 2 b ns)[ns.length] = strT b := by
  unfold rowL
  simp

/-- Can there be such a list? -/
def fdOk (kd : Int) (b : ByteArray) (ns : List Nat) : Prop := ns.length ≤ 8192 ∧ putC (rowT kd b ns) = 0
instance (kd : Int) (b : ByteArray) (ns : List Nat) : Decidable (fdOk kd b ns) := by unfold fdOk; infer_instance
def fdK (kd : Int) (b : ByteArray) (ns : List Nat) : Int := if fdOk kd b ns then kd else 0
def fdE (kd : Int) (e : Nat) (b : ByteArray) (ns : List Nat) : Nat := if fdOk kd b ns then e else 0
def fdB (kd : Int) (b : ByteArray) (ns : List Nat) : ByteArray := if fdOk kd b ns then putS (rowT kd b ns) else ⟨#[]⟩

/-- Numbers as they lie in memory, wherever that is. -/
def NsIn (w : World) (B off : Nat) (ns : List Nat) : Prop := ∀ i (h : i < ns.length), w.cell? ⟨B, off + i, none⟩ = some (.int .u64 (ns[i] : Int)) ∧ ns[i] ≤ 18446744073709551615
theorem fz_later {w w1 : World} {g : Nat} (h : Frz w g 0 0 ⟨#[]⟩) (hg : g < w.heap.size) (hb : Below w.heap.size w w1) : Frz w1 g 0 0 ⟨#[]⟩ := h.below hb hg

set_option maxRecDepth 100000 in
theorem framed_long (kd : Int) (e : Nat) (b : ByteArray) (m cap : Nat) (o : Option Addr) (hl : 8192 < m) (w : World) :
    Calls Try.prog 20 #[.int .i64 kd, .int .u64 e, .string b, .slice o m cap] w fun r w' => r = .returned (.agg #[.int .i64 0, .int .u64 0, .string ⟨#[]⟩]) ∧ Below w.heap.size w w' := by
  have q : (8192 : Int) < (m : Int) := by omega
  go_enter Try.func20, Try.ntmps20
  go_wp2
  refine bodyPost_ret (v := .agg #[.int .i64 0, .int .u64 0, .string ⟨#[]⟩]) (by simp [results, Try.results20, go_sem]) rfl ⟨rfl, ?_⟩
  exact (Below.refl _ _).alloc (Nat.le_refl _) _

theorem row_in {w0 wr : World} {l : List Tr} {ρ : Option Nat} {oo : Option Addr} {cc q : Nat} {xs : List Value} (hq : q = l.length) (hl : l.length ≤ 1000000) (h : ClW w0 l ρ oo cc q xs wr) : VIn wr (.mk 3 0 ⟨#[]⟩ l) (.int .i64 3) (.int .u64 0) (.string ⟨#[]⟩) (.slice oo q cc) := by
  subst hq
  obtain ⟨o2, cap2, r2, he, ho2, hl2, hb⟩ := clw_done h
  cases he
  exact VInP.plain _ (vinp_mk (w := w0) (P := fun _ => True) (by omega) ⟨by simp [ByteArray.size], hl⟩ ho2 hl2 (fun _ _ => trivial))
theorem put_row {w0 wr : World} {kd : Int} {b : ByteArray} {ns : List Nat} {ρ : Option Nat} {oo : Option Addr} {cc q : Nat} {xs : List Value} (hq : q = (rowL kd b ns).length) (hl : (rowL kd b ns).length ≤ 1000000) (h : ClW w0 (rowL kd b ns) ρ oo cc q xs wr) : Calls Try.prog 41 #[.agg #[.int .i64 3, .int .u64 0, .string ⟨#[]⟩, .slice oo q cc]] wr fun r w' => r = .returned (.tuple #[.string (putS (rowT kd b ns)), .int .i64 (putC (rowT kd b ns) : Nat)]) ∧ Below wr.heap.size wr w' :=
  put_tree (rowT kd b ns) _ _ _ _ wr (by rw [deep_row]; omega) (row_in hq hl h)

set_option maxRecDepth 100000 in
set_option maxHeartbeats 4000000 in
theorem framed_any (kd : Int) (e : Nat) (b : ByteArray) (ns : List Nat) (o : Option Addr) (cap B off : Nat) (hb : b.size ≤ 1000000000) (w : World) (ho : 0 < ns.length → o = some ⟨B, off, none⟩ ∧ B < w.heap.size) (hc : NsIn w B off ns) :
    Calls Try.prog 20 #[.int .i64 kd, .int .u64 (e : Int), .string b, .slice o ns.length cap] w fun r w' => r = .returned (.agg #[.int .i64 (fdK kd b ns), .int .u64 (fdE kd e b ns : Nat), .string (fdB kd b ns)]) ∧ Below w.heap.size w w' := by
  obtain ⟨m, hm⟩ : ∃ m, m = ns.length := ⟨_, rfl⟩
  rw [← hm]
  by_cases h8 : 8192 < m
  · have hn : ¬ fdOk kd b ns := fun h => by have := h.1; omega
    unfold fdK fdE fdB
    rw [if_neg hn, if_neg hn, if_neg hn]
    exact framed_long kd e b m cap o h8 w
  · have q8 : decide ((8192 : Int) < (m : Int)) = false := by rw [decide_eq_false_iff_not]; omega
    have HM := Lib.hid hm
    have HO := Lib.hid ho
    have HC := Lib.hid hc
    have HBS := Lib.hid hb
    have H8 := Lib.hid h8
    have K1 := Lib.hid (fun (n : Nat) w => num_any n w)
    obtain ⟨l, hl⟩ : ∃ l, l = rowL kd b ns := ⟨_, rfl⟩
    have HL := Lib.hid hl
    obtain ⟨w0, hw0⟩ : ∃ w0, w0 = w.alloc (.cells #[.int .i64 0, .int .u64 0, .string ⟨#[]⟩] 57) := ⟨_, rfl⟩
    have HB0 := Lib.hid (show Below w.heap.size w w0 by rw [hw0]; exact alloc_below _ _)
    have HF0 := Lib.hid (show Frz w0 w.heap.size 0 0 ⟨#[]⟩ by rw [hw0]; exact Frz.new _ _ _ _)
    have HS0 := Lib.hid (show w.heap.size < w0.heap.size by rw [hw0]; simp)
    have h8' : m ≤ 8192 := by omega
    obtain ⟨fk, hfk⟩ : ∃ z, z = fdK kd b ns := ⟨_, rfl⟩
    obtain ⟨fe, hfe⟩ : ∃ z, z = fdE kd e b ns := ⟨_, rfl⟩
    obtain ⟨fb, hfb⟩ : ∃ z, z = fdB kd b ns := ⟨_, rfl⟩
    rw [← hfk, ← hfe, ← hfb]
    have FV := Lib.hid (And.intro hfk (And.intro hfe hfb))
    clear hfk hfe hfb
    clear hm ho hc hb h8 hl
    go_enter Try.func20, Try.ntmps20
    go_wp2_with fail
    rw [← hw0]
    clear hw0
    go_loopw [9, 11, 20] (fun rv _ iv wr => ∃ (j : Nat) (ρ : Option Nat) (oo : Option Addr) (cc : Nat) (xs : List Value), j ≤ m ∧ iv = .int .i64 (j : Int) ∧ rv = .slice oo j cc ∧ Hid (ClW w0 l ρ oo cc j xs wr)) (fun _ _ iv _ => m - (intOf iv).toNat)
    case atStart => exact ⟨0, none, none, 0, [], Nat.zero_le _, rfl, rfl, Lib.hid ⟨Below.refl _ _, VRow.nil 69 _, fun r hr => (by cases hr), fun i _ h => absurd h (by omega)⟩⟩
    case round =>
      obtain ⟨j, ρ, oo, cc, xs, hj, rfl, rfl, hT⟩ := hrel
      by_cases hjm : j < m
      · have hjl : j < ns.length := by rw [← HM.out]; exact hjm
        obtain ⟨ho', hb'⟩ := HO.out (by omega)
        subst ho'
        have c0 := (((HB0.out.trans (hT.out.1.mono HB0.out.size))).cell (p := ⟨B, off + j, none⟩) hb').trans (HC.out j hjl).1
        have HN := Lib.hid (HC.out j hjl).2
        have HE := Lib.hid (row_at kd b ns j hjl (by rw [row_len]; omega))
        have HJL := Lib.hid (show j < l.length by rw [HL.out, row_len]; omega)
        generalize ns[j] = n at *
        go_wp2_with (first
          | (go_at_call 40; ((with_reducible refine (K1.out _ _).mono ?_); rintro x w5 ⟨rfl, hb5⟩))
          | (refine wpList_vrow (.tmp 24) (.tmp 27) 67 69 rfl rfl Try.underlying67 info27 (w5.alloc (.cells #[.int .i64 1, .int .u64 (n : Int), .string ⟨#[]⟩, .slice none 0 0] 69)).heap.size ρ oo cc j xs ((hT.out.later hb5).later (alloc_below w5 _)).2.1 (by have := H8.out; omega) _ [.int .i64 1, .int .u64 (n : Int), .string ⟨#[]⟩, .slice none 0 0] rfl (news_at w5 _ 69 _ rfl) (by intro u hu; simp at hu; rcases hu with rfl | rfl | rfl | rfl <;> rfl) rfl rfl ?_; intro o7 cap7 w7 ρ7 hr7 hn7 hc7; have HTP := Lib.hid (clw_put HJL.out ((hT.out.later hb5).later (alloc_below w5 _)) (by rw [show l[j]'HJL.out = numT n from by simp only [HL.out]; exact HE.out]; exact vin_num _ _ _ HN.out) hr7 hn7 hc7); clear hr7 hn7 hc7 hb5))
        go_roundw
        case rel => exact ⟨j + 1, ρ7, o7, cap7, _, by omega, by go_num, rfl, HTP⟩
        case measure => simp [intOf]; omega
      · have hjm' : j = m := by omega
        subst hjm'
        have HLL := Lib.hid (show l.length = j + (if kd = 2 then 1 else 0) by rw [HL.out, row_len, HM.out])
        by_cases h2 : kd = 2
        · subst h2
          rw [if_pos rfl] at HLL
          have HJL := Lib.hid (show j < l.length by rw [HLL.out]; omega)
          have HE : Hid (l[j]'HJL.out = strT b) := Lib.hid (by
            have := row_last b ns (by rw [row_len, if_pos rfl]; omega)
            simp only [HL.out, HM.out]; exact this)
          go_upto_region 11 with (first
            | (refine wpList_vrow (.tmp 32) (.tmp 35) 67 69 rfl rfl Try.underlying67 info27 (wr.alloc (.cells #[.int .i64 2, .int .u64 0, .string b, .slice none 0 0] 69)).heap.size ρ oo cc j xs (hT.out.later (alloc_below wr _)).2.1 (by omega) _ [.int .i64 2, .int .u64 0, .string b, .slice none 0 0] rfl (news_at wr _ 69 _ rfl) (by intro u hu; simp at hu; rcases hu with rfl | rfl | rfl | rfl <;> rfl) rfl rfl ?_; intro o7 cap7 w7 ρ7 hr7 hn7 hc7; have HTP := Lib.hid (clw_put HJL.out (hT.out.later (alloc_below wr _)) (by rw [HE.out]; exact vin_str _ _ _ HBS.out) hr7 hn7 hc7); clear hr7 hn7 hc7))
          clear HE HJL hT
          have HK41 := Lib.hid (put_row (q := j + 1) (kd := 2) (b := b) (ns := ns) (by rw [← HL.out]; exact HLL.out.symm) (by rw [row_len]; have := HM.out; split <;> omega) (by rw [← HL.out]; exact HTP.out))
          have HBW := Lib.hid (HB0.out.trans (HTP.out.1.mono HB0.out.size))
          have HFW := Lib.hid (HF0.out.below HTP.out.1 HS0.out)
          by_cases hp : putC (rowT 2 b ns) = 0
          · have hok : fdOk 2 b ns := ⟨by have := HM.out; omega, hp⟩
            have HV := Lib.hid (show Ending.returned (.agg #[.int .i64 2, .int .u64 (e : Int), .string (putS (rowT 2 b ns))]) = Ending.returned (.agg #[.int .i64 fk, .int .u64 (fe : Int), .string fb]) by
              rw [FV.out.1, FV.out.2.1, FV.out.2.2]; unfold fdK fdE fdB; rw [if_pos hok, if_pos hok, if_pos hok])
            rw [hp] at HK41
            generalize putS (rowT 2 b ns) = S at *
            clear hok hp
            go_wp2_with (first | (go_at_call 41; ((with_reducible refine (HK41.out).mono ?_); rintro x w9 ⟨rfl, hb9⟩; obtain ⟨f0, f1, f2, f3, f4, f5⟩ := HFW.out.below hb9 (Nat.lt_of_lt_of_le HS0.out HTP.out.1.size); have HB9 := Lib.hid (HBW.out.trans (hb9.mono HBW.out.size)); clear hb9)))
            refine bodyPost_ret (v := .agg #[.int .i64 2, .int .u64 (e : Int), .string S]) (by simp [results, Try.results20, go_sem, *]) rfl ⟨HV.out, ?_⟩
            exact ((HB9.out.setCell (Nat.le_refl _) _).setCell (Nat.le_refl _) _).setCell (Nat.le_refl _) _
          · have hok : ¬ fdOk 2 b ns := fun h => hp h.2
            have HV := Lib.hid (show Ending.returned (.agg #[.int .i64 0, .int .u64 0, .string ⟨#[]⟩]) = Ending.returned (.agg #[.int .i64 fk, .int .u64 (fe : Int), .string fb]) by
              rw [FV.out.1, FV.out.2.1, FV.out.2.2]; unfold fdK fdE fdB; rw [if_neg hok, if_neg hok, if_neg hok]; rfl)
            have t1 : ((putC (rowT 2 b ns) : Int) == 0) = false := by rw [beq_eq_false_iff_ne]; omega
            generalize putS (rowT 2 b ns) = S at *
            generalize putC (rowT 2 b ns) = C at *
            clear hok hp
            go_wp2_with (first | (go_at_call 41; ((with_reducible refine (HK41.out).mono ?_); rintro x w9 ⟨rfl, hb9⟩; obtain ⟨f0, f1, f2, f3, f4, f5⟩ := HFW.out.below hb9 (Nat.lt_of_lt_of_le HS0.out HTP.out.1.size); have HB9 := Lib.hid (HBW.out.trans (hb9.mono HBW.out.size)); clear hb9)))
            refine bodyPost_ret (v := .agg #[.int .i64 0, .int .u64 0, .string ⟨#[]⟩]) (by simp [results, Try.results20, go_sem, *]) rfl ⟨HV.out, ?_⟩
            exact ((HB9.out.setCell (Nat.le_refl _) _).setCell (Nat.le_refl _) _).setCell (Nat.le_refl _) _
        · rw [if_neg h2, Nat.add_zero] at HLL
          have t2 : (kd == 2) = false := by rw [beq_eq_false_iff_ne]; exact h2
          clear h2
          go_upto_region 11 with fail
          have HK41 := Lib.hid (put_row (q := j) (kd := kd) (b := b) (ns := ns) (by rw [← HL.out]; exact HLL.out.symm) (by rw [row_len]; have := HM.out; split <;> omega) (by rw [← HL.out]; exact hT.out))
          have HBW := Lib.hid (HB0.out.trans (hT.out.1.mono HB0.out.size))
          have HFW := Lib.hid (HF0.out.below hT.out.1 HS0.out)
          by_cases hp : putC (rowT kd b ns) = 0
          · have hok : fdOk kd b ns := ⟨by have := HM.out; omega, hp⟩
            have HV := Lib.hid (show Ending.returned (.agg #[.int .i64 kd, .int .u64 (e : Int), .string (putS (rowT kd b ns))]) = Ending.returned (.agg #[.int .i64 fk, .int .u64 (fe : Int), .string fb]) by
              rw [FV.out.1, FV.out.2.1, FV.out.2.2]; unfold fdK fdE fdB; rw [if_pos hok, if_pos hok, if_pos hok])
            rw [hp] at HK41
            generalize putS (rowT kd b ns) = S at *
            clear hok hp
            go_wp2_with (first | (go_at_call 41; ((with_reducible refine (HK41.out).mono ?_); rintro x w9 ⟨rfl, hb9⟩; obtain ⟨f0, f1, f2, f3, f4, f5⟩ := HFW.out.below hb9 (Nat.lt_of_lt_of_le HS0.out hT.out.1.size); have HB9 := Lib.hid (HBW.out.trans (hb9.mono HBW.out.size)); clear hb9)))
            refine bodyPost_ret (v := .agg #[.int .i64 kd, .int .u64 (e : Int), .string S]) (by simp [results, Try.results20, go_sem, *]) rfl ⟨HV.out, ?_⟩
            exact ((HB9.out.setCell (Nat.le_refl _) _).setCell (Nat.le_refl _) _).setCell (Nat.le_refl _) _
          · have hok : ¬ fdOk kd b ns := fun h => hp h.2
            have HV := Lib.hid (show Ending.returned (.agg #[.int .i64 0, .int .u64 0, .string ⟨#[]⟩]) = Ending.returned (.agg #[.int .i64 fk, .int .u64 (fe : Int), .string fb]) by
              rw [FV.out.1, FV.out.2.1, FV.out.2.2]; unfold fdK fdE fdB; rw [if_neg hok, if_neg hok, if_neg hok]; rfl)
            have t1 : ((putC (rowT kd b ns) : Int) == 0) = false := by rw [beq_eq_false_iff_ne]; omega
            generalize putS (rowT kd b ns) = S at *
            generalize putC (rowT kd b ns) = C at *
            clear hok hp
            go_wp2_with (first | (go_at_call 41; ((with_reducible refine (HK41.out).mono ?_); rintro x w9 ⟨rfl, hb9⟩; obtain ⟨f0, f1, f2, f3, f4, f5⟩ := HFW.out.below hb9 (Nat.lt_of_lt_of_le HS0.out hT.out.1.size); have HB9 := Lib.hid (HBW.out.trans (hb9.mono HBW.out.size)); clear hb9)))
            refine bodyPost_ret (v := .agg #[.int .i64 0, .int .u64 0, .string ⟨#[]⟩]) (by simp [results, Try.results20, go_sem, *]) rfl ⟨HV.out, ?_⟩
            exact ((HB9.out.setCell (Nat.le_refl _) _).setCell (Nat.le_refl _) _).setCell (Nat.le_refl _) _
end Go.Proofs.Ytdojepkmjifoeaa
