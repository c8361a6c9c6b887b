/- The sum of the chapter's example, reckoned.; Walks of digest.Text and of the chapter's example.; Bytes of a text, more appended: the row may bear a mark behind its last cell.; Walk of digest.Print. -/
import Derived.Test.YtpcmmejlmhbcdaaGreatJ22
import Derived.Lib.BufferMore
set_option linter.unusedVariables false
set_option linter.unusedSimpArgs false
namespace Go.Proofs.YtpcmmejlmhbcdaaGreat.Dg
open Go.RowKit

/-- Are these the words of a block? -/
def chkW (s : ByteArray) (l : List Nat) : Nat → Bool
  | 0 => true
  | k + 1 => chkW s l k && l.getD k 0 == (if k < 16 then word4 s k else nextW (l.take k) k)
theorem chkW_is (s : ByteArray) (l : List Nat) : ∀ k, k ≤ l.length → chkW s l k = true → sch s k = l.take k
  | 0, _, _ => rfl
  | k + 1, hk, h => by
    rw [chkW, Bool.and_eq_true] at h
    have ih := chkW_is s l k (by omega) h.1
    have h2 : l.getD k 0 = (if k < 16 then word4 s k else nextW (l.take k) k) := by simpa using h.2
    rw [show sch s (k + 1) = sch s k ++ [if k < 16 then word4 s k else nextW (sch s k) k] from rfl, ih, ← h2]
    rw [List.take_succ_eq_append_getElem (by omega), List.getD_eq_getElem?_getD, List.getElem?_eq_getElem (by omega)]; rfl
/-- Are these the rounds' states? -/
def chkR : List Nat → List Nat → List Nat → List (List Nat) → List Nat → Bool
  | k :: ks, w :: ws, l, s :: ss, fin => (stp k w l == s) && chkR ks ws s ss fin
  | [], [], l, [], fin => l == fin
  | _, _, _, _, _ => false
theorem chkR_is : ∀ (ks ws l : List Nat) (ss : List (List Nat)) (fin : List Nat), chkR ks ws l ss fin = true → rds ks ws l = fin
  | k :: ks, w :: ws, l, s :: ss, fin, h => by
    rw [chkR, Bool.and_eq_true] at h
    have h1 : stp k w l = s := by simpa using h.1
    have := chkR_is ks ws s ss fin h.2
    rw [← h1] at this
    exact this
  | [], [], l, [], fin, h => by
    have : l = fin := by simpa [chkR] using h
    exact this
  | [], [], _, _ :: _, _, h => by simp [chkR] at h
  | [], _ :: _, _, _, _, h => by simp [chkR] at h
  | _ :: _, [], _, _, _, h => by simp [chkR] at h
  | _ :: _, _ :: _, _, [], _, h => by simp [chkR] at h
def abcW : List Nat := [1633837952, 0, 0, 0, 0, 0, 0, 0, 0, 0, 0, 0, 0, 0, 0, 24, 1633837952, 983040, 2108187653, 1610613702, 1050508152, 25426944, 316456923, 3806512014, 3357629466, 3073800610, 3854317833, 845560923, 2636160359, 3968280267, 1881225380, 3552024379, 2482346367, 996719219, 2952069057, 4043988066, 176896406, 1924104970, 2483675966, 610538786, 2672279444, 4037431130, 1042573945, 657669027, 206005234, 2215296807, 2049510749, 106709978, 4215179723, 3430291419, 3118885940, 2845390439, 2226839261, 3256115900, 344409900, 2987358873, 4015503821, 3957764664, 2682456414, 2025622859, 2755645205, 1720397816, 4004225740, 313650667]
def abcS : List (List Nat) := [[1567288269, 1779033703, 3144134277, 1013904242, 4197074466, 1359893119, 2600822924, 528734635],
  [1516951981, 1567288269, 1779033703, 3144134277, 2026797449, 4197074466, 1359893119, 2600822924],
  [3368241063, 1516951981, 1567288269, 1779033703, 4180228587, 2026797449, 4197074466, 1359893119],
  [3578852966, 3368241063, 1516951981, 1567288269, 618661968, 4180228587, 2026797449, 4197074466],
  [71342698, 3578852966, 3368241063, 1516951981, 1135452741, 618661968, 4180228587, 2026797449],
  [725748213, 71342698, 3578852966, 3368241063, 1900175533, 1135452741, 618661968, 4180228587],
  [3842179968, 725748213, 71342698, 3578852966, 2603066369, 1900175533, 1135452741, 618661968],
  [2241887071, 3842179968, 725748213, 71342698, 207977081, 2603066369, 1900175533, 1135452741],
  [2382687417, 2241887071, 3842179968, 725748213, 852110732, 207977081, 2603066369, 1900175533],
  [2357671019, 2382687417, 2241887071, 3842179968, 482944406, 852110732, 207977081, 2603066369],
  [1201185780, 2357671019, 2382687417, 2241887071, 1131095016, 482944406, 852110732, 207977081],
  [4146054569, 1201185780, 2357671019, 2382687417, 2171590377, 1131095016, 482944406, 852110732],
  [2274437520, 4146054569, 1201185780, 2357671019, 509051416, 2171590377, 1131095016, 482944406],
  [3643992854, 2274437520, 4146054569, 1201185780, 1952073950, 509051416, 2171590377, 1131095016],
  [3227803614, 3643992854, 2274437520, 4146054569, 194179596, 1952073950, 509051416, 2171590377],
  [2969183118, 3227803614, 3643992854, 2274437520, 123276749, 194179596, 1952073950, 509051416],
  [567974555, 2969183118, 3227803614, 3643992854, 2150900380, 123276749, 194179596, 1952073950],
  [3271285201, 567974555, 2969183118, 3227803614, 2221859924, 2150900380, 123276749, 194179596],
  [4269243327, 3271285201, 567974555, 2969183118, 3431569761, 2221859924, 2150900380, 123276749],
  [3790736435, 4269243327, 3271285201, 567974555, 2959311225, 3431569761, 2221859924, 2150900380],
  [2647034723, 3790736435, 4269243327, 3271285201, 2329577776, 2959311225, 3431569761, 2221859924],
  [3261099373, 2647034723, 3790736435, 4269243327, 3777329520, 2329577776, 2959311225, 3431569761],
  [2812502591, 3261099373, 2647034723, 3790736435, 1240797514, 3777329520, 2329577776, 2959311225],
  [3319086477, 2812502591, 3261099373, 2647034723, 2856829767, 1240797514, 3777329520, 2329577776],
  [472655928, 3319086477, 2812502591, 3261099373, 673443729, 2856829767, 1240797514, 3777329520],
  [3454534525, 472655928, 3319086477, 2812502591, 339230094, 673443729, 2856829767, 1240797514],
  [3056518332, 3454534525, 472655928, 3319086477, 3343672598, 339230094, 673443729, 2856829767],
  [2010346792, 3056518332, 3454534525, 472655928, 3992961016, 3343672598, 339230094, 673443729],
  [909411017, 2010346792, 3056518332, 3454534525, 1628611511, 3992961016, 3343672598, 339230094],
  [2684750640, 909411017, 2010346792, 3056518332, 2917635127, 1628611511, 3992961016, 3343672598],
  [3935906338, 2684750640, 909411017, 2010346792, 17410874, 2917635127, 1628611511, 3992961016],
  [1941126133, 3935906338, 2684750640, 909411017, 3126399250, 17410874, 2917635127, 1628611511],
  [2564891911, 1941126133, 3935906338, 2684750640, 2631529974, 3126399250, 17410874, 2917635127],
  [4267724277, 2564891911, 1941126133, 3935906338, 1495571923, 2631529974, 3126399250, 17410874],
  [2846323596, 4267724277, 2564891911, 1941126133, 140458035, 1495571923, 2631529974, 3126399250],
  [1705037796, 2846323596, 4267724277, 2564891911, 4105175766, 140458035, 1495571923, 2631529974],
  [1101421745, 1705037796, 2846323596, 4267724277, 124953195, 4105175766, 140458035, 1495571923],
  [887035396, 1101421745, 1705037796, 2846323596, 2768741693, 124953195, 4105175766, 140458035],
  [1841658506, 887035396, 1101421745, 1705037796, 4034403272, 2768741693, 124953195, 4105175766],
  [2045405306, 1841658506, 887035396, 1101421745, 519815328, 4034403272, 2768741693, 124953195],
  [3597076326, 2045405306, 1841658506, 887035396, 641019235, 519815328, 4034403272, 2768741693],
  [3745932591, 3597076326, 2045405306, 1841658506, 2206934801, 641019235, 519815328, 4034403272],
  [397020670, 3745932591, 3597076326, 2045405306, 3737995029, 2206934801, 641019235, 519815328],
  [2638983059, 397020670, 3745932591, 3597076326, 4255271982, 3737995029, 2206934801, 641019235],
  [643991573, 2638983059, 397020670, 3745932591, 2819559920, 4255271982, 3737995029, 2206934801],
  [1923828625, 643991573, 2638983059, 397020670, 3077922209, 2819559920, 4255271982, 3737995029],
  [2706117808, 1923828625, 643991573, 2638983059, 3581645993, 3077922209, 2819559920, 4255271982],
  [1098003085, 2706117808, 1923828625, 643991573, 4274981830, 3581645993, 3077922209, 2819559920],
  [91585771, 1098003085, 2706117808, 1923828625, 3178315832, 4274981830, 3581645993, 3077922209],
  [4045142696, 91585771, 1098003085, 2706117808, 1851537676, 3178315832, 4274981830, 3581645993],
  [2047150241, 4045142696, 91585771, 1098003085, 1391578359, 1851537676, 3178315832, 4274981830],
  [2288941602, 2047150241, 4045142696, 91585771, 1227037726, 1391578359, 1851537676, 3178315832],
  [270520975, 2288941602, 2047150241, 4045142696, 1386118400, 1227037726, 1391578359, 1851537676],
  [4117770203, 270520975, 2288941602, 2047150241, 2672265155, 1386118400, 1227037726, 1391578359],
  [1053056219, 4117770203, 270520975, 2288941602, 3842906959, 2672265155, 1386118400, 1227037726],
  [952932627, 1053056219, 4117770203, 270520975, 1422599787, 3842906959, 2672265155, 1386118400],
  [4241590395, 952932627, 1053056219, 4117770203, 2606665836, 1422599787, 3842906959, 2672265155],
  [3227702383, 4241590395, 952932627, 1053056219, 2118385806, 2606665836, 1422599787, 3842906959],
  [4290184306, 3227702383, 4241590395, 952932627, 1837350854, 2118385806, 2606665836, 1422599787],
  [3064893439, 4290184306, 3227702383, 4241590395, 2988158269, 1837350854, 2118385806, 2606665836],
  [3093179625, 3064893439, 4290184306, 3227702383, 2518632596, 2988158269, 1837350854, 2118385806],
  [80891244, 3093179625, 3064893439, 4290184306, 2492278198, 2518632596, 2988158269, 1837350854],
  [3550093669, 80891244, 3093179625, 3064893439, 4212265488, 2492278198, 2518632596, 2988158269],
  [1349398616, 3550093669, 80891244, 3093179625, 1593118500, 4212265488, 2492278198, 2518632596]]
def abcE : List Nat := [1349398616, 3550093669, 80891244, 3093179625, 1593118500, 4212265488, 2492278198, 2518632596]
def abc : List UInt8 := [97, 98, 99]
theorem abc_words : chkW ((W.str (wholeL abc)).extract 0 64) abcW 64 = true := by decide +kernel
theorem abc_rounds : chkR KS abcW HS abcS abcE = true := by decide +kernel
theorem abc_sum : sumL abc = bytes4 (addL HS abcE) := by
  have h1 : sch ((W.str (wholeL abc)).extract 0 64) 64 = abcW := chkW_is _ abcW 64 (by decide) abc_words
  have h2 : rds KS abcW HS = abcE := chkR_is _ _ _ _ _ abc_rounds
  have h3 : (wholeL abc).length / 64 = 1 := by decide +kernel
  unfold sumL
  rw [h3, show hsn (W.str (wholeL abc)) 1 = addL HS (rds KS (sch ((W.str (wholeL abc)).extract 0 64) 64) HS) from rfl, h1, h2]
theorem abc_begins : Lib.hasPrefix (sumL abc) [186, 120, 22, 191] = true := by
  rw [abc_sum]; decide +kernel
end Go.Proofs.YtpcmmejlmhbcdaaGreat.Dg

namespace Go.Proofs.YtpcmmejlmhbcdaaGreat.Dg
open Go.RowKit

theorem bb_lit (w : World) {A : Array Value} (hA : A = (W.bcells zb32).toArray) : BB w.heap.size 167 zb32 (w.alloc (.cells A 167)) := by subst hA; exact bb_new w zb32 167
theorem info42 (l : List UInt8) (h : l.length = 32) : (Tryz.prog.info? 167).map (·.size) = some (W.bcells l).toArray.size := by
  rw [show (W.bcells l).toArray.size = l.length by simp [W.bcells], h]; kernel_rfl
theorem size42 (l : List UInt8) (h : l.length = 32) : (W.bcells zb32).toArray.size = (W.bcells l).toArray.size := by
  rw [show (W.bcells l).toArray.size = l.length by simp [W.bcells], h]; rfl
theorem conv42 {g : Nat} {l : List UInt8} {w : World} (h : BB g 167 l w) (hl : l.length = 32) : (convert 117 9 (.slice (some ⟨g, 0, none⟩) 32 32)).run Tryz.prog w = .ok (.string (W.str l)) w := by
  have h2 := run_convert_bytes_back (P := Tryz.prog) w 117 9 5 ⟨g, 0, none⟩ 32 l Tryz.underlying117 Tryz.underlying5 Tryz.underlying9 (fun j hj => by
    have := h.cell j hj
    have hadd : (⟨g, 0, none⟩ : Addr).add j = ⟨g, j, none⟩ := by unfold Addr.add; split <;> simp_all
    rw [hadd]; exact this)
  rw [hl] at h2
  exact h2

set_option maxRecDepth 1000000 in
theorem text_core (v : Value) (l : List UInt8) (hl : l.length ≤ 200000) (w : World) (hj : ∀ w', Below w.heap.size w w' → Calls Tryz.prog 120 #[v, .string ⟨#[]⟩] w' fun e w'' => e = .returned (.string (W.str l)) ∧ Below w'.heap.size w' w'') :
    Calls Tryz.prog 117 #[v] w fun e w' => e = .returned (.string (W.str (sumL l))) ∧ Below w.heap.size w w' := by
  have K := Lib.hid (sum_core v l hl w hj)
  have hlen := sumL_len l
  generalize sumL l = o at *
  have HI42 := Lib.hid (info42 o hlen)
  have HSZ := Lib.hid (size42 o hlen)
  have HONE := Lib.hid (bcells_one o)
  have HLEN := Lib.hid hlen
  clear hj hl hlen
  go_enter Tryz.func117, Tryz.ntmps117
  go_upto_region 2 with (first
    | (go_at_call 111; go_must (refine K.out.mono ?_); rintro e w1 ⟨rfl, hb1⟩)
    | (refine wpList_plain rfl fun _ hK => wp_store_row 167 (.tmp 3) (.tmp 5) rfl _ (W.bcells o).toArray rfl rfl 167 (W.bcells zb32).toArray (bb_lit _ zb32_is) HI42.out HSZ.out HONE.out (hK _ _ ?_)))
  rw [zb32_is]
  have hbw := hb1.alloc hb1.size (.cells (W.bcells zb32).toArray 167)
  refine gen_wp (S := fun wz => Hid (BB w1.heap.size 167 o wz) ∧ Hid (Below w.heap.size w wz)) ⟨Lib.hid (setRow_heap _ _ _ _ _ _ (bb_new w1 zb32 167)), Lib.hid (below_row hbw hb1.size _)⟩ ?_
  intro W2 H2
  obtain ⟨hB, hW⟩ := H2
  have hcv := conv42 hB.out HLEN.out
  go_wp2
  go_ret
  exact ⟨rfl, hW.out⟩

set_option maxRecDepth 1000000 in
theorem awake_sum (w : World) : Calls Tryz.prog 108 #[] w fun e w' => e = .returned (.bool true) ∧ Below w.heap.size w w' := by
  have KA : Hid (∀ w, Calls Tryz.prog 82 #[] w fun e w' => e = .returned (.bool true) ∧ Below w.heap.size w w') := Lib.hid (fun w => by
    go_enter Tryz.func82, Tryz.ntmps82
    go_wp2_with (first | (go_at_call 107; go_must (refine (W.awake_any _).mono ?_); rintro e w1 ⟨rfl, hb1⟩))
    go_ret
    exact ⟨rfl, hb1⟩)
  have KT : Hid (∀ (g : Nat) (w : World), g < w.heap.size → w.cell? ⟨g, 0, none⟩ = some (.string ⟨#[97]⟩) → w.cell? ⟨g, 1, none⟩ = some (.string ⟨#[98, 99]⟩) → Calls Tryz.prog 117 #[.slice (some ⟨g, 0, none⟩) 2 2] w fun e w' => e = .returned (.string (W.str (sumL abc))) ∧ Below w.heap.size w w') := Lib.hid (fun g w hg h0 h1 =>
    text_core _ abc (by decide) w (fun w' hb => by
      have hJ := Tryz.strings_Join g 0 2 [⟨#[97]⟩, ⟨#[98, 99]⟩] ⟨#[]⟩ w' (by
        intro j x hx
        have hc : ∀ k, w'.cell? ⟨g, k, none⟩ = w.cell? ⟨g, k, none⟩ := fun k => World.cell?_of_block (hb.block g hg)
        match j, hx with
        | 0, hx => simp at hx; subst hx; rw [hc]; exact h0
        | 1, hx => simp at hx; subst hx; rw [hc]; exact h1) (Nat.lt_of_lt_of_le hg hb.size) (by decide) (by decide) (by decide)
      exact hJ))
  have KN : Hid (∀ (w : World), Calls Tryz.prog 117 #[.slice none 0 0] w fun e w' => e = .returned (.string (W.str (sumL []))) ∧ Below w.heap.size w w') := Lib.hid (fun w =>
    text_core _ [] (by decide) w (fun w' hb => (Tryz.strings_Join_none none 0 ⟨#[]⟩ w').mono (by rintro e w'' ⟨rfl, rfl⟩; exact ⟨rfl, Below.refl _ _⟩)))
  have hn : (W.str (sumL [])).size = 32 := by rw [W.size_str, sumL_len]
  have KP : Hid (∀ w, Calls Tryz.prog 116 #[.string (W.str (sumL abc)), .string ⟨#[186, 120, 22, 191]⟩] w fun e w' => e = .returned (.bool true) ∧ w' = w) := Lib.hid (fun w => by
    have := Tryz.strings_HasPrefix (W.str (sumL abc)) ⟨#[186, 120, 22, 191]⟩ w
    rw [show Lib.hasPrefix (W.str (sumL abc)).data.toList (⟨#[186, 120, 22, 191]⟩ : ByteArray).data.toList = true from abc_begins] at this
    exact this)
  generalize W.str (sumL []) = s0 at *
  generalize W.str (sumL abc) = s1 at *
  go_enter Tryz.func108, Tryz.ntmps108
  go_wp2_with (first
    | (go_at_call 82; go_must (refine (KA.out _).mono ?_); rintro e w1 ⟨rfl, hb1⟩)
    | (go_at_call 117; ((with_reducible refine (KT.out _ _ ?_ ?_ ?_).mono ?_); (simp [go_sem]); (simp [go_sem]); (simp [go_sem]); rintro e w2 ⟨rfl, hb2⟩))
    | (go_at_call 116; go_must (refine (KP.out _).mono ?_); rintro e w3 ⟨rfl, rfl⟩)
    | (go_at_call 117; go_must (refine (KN.out _).mono ?_); rintro e w4 ⟨rfl, hb4⟩))
  go_ret
  have hc := (hb1.alloc hb1.size _).trans (hb2.mono (by simp; have := hb1.size; omega))
  exact ⟨rfl, hc.trans (hb4.mono hc.size)⟩
end Go.Proofs.YtpcmmejlmhbcdaaGreat.Dg

namespace Go.Proofs.YtpcmmejlmhbcdaaGreat.Dg
open Go.RowKit

/-- The call's own row of bytes. -/
def MR (B : Nat) (v : Value) (l : List UInt8) (w : World) : Prop :=
  ∃ g cap cs T lo hi, v = .slice (some ⟨g, 0, none⟩) l.length cap ∧ B ≤ g ∧ l.length ≤ cap ∧ w.heap[g]? = some (.cells cs T (lo, hi)) ∧ cap ≤ cs.size ∧ (hi = 0 ∨ cap ≤ lo) ∧ ∀ j (hj : j < l.length), cs[j]? = some (.int .u8 (l[j].toNat : Int))
theorem MR.later {B : Nat} {v : Value} {l : List UInt8} {w w' : World} (h : MR B v l w) (hb : Below w.heap.size w w') : MR B v l w' := by
  obtain ⟨g, cap, cs, T, lo, hi, h1, h2, h3, h4, h5⟩ := h
  exact ⟨g, cap, cs, T, lo, hi, h1, h2, h3, (hb.block _ (lt_of_some h4)).trans h4, h5⟩
theorem mr_start (s : ByteArray) (w : World) : ∃ v w', (convert 9 117 (.string s)).run Tryz.prog w = .ok v w' ∧ MR w.heap.size v s.data.toList w' ∧ Below w.heap.size w w' := by
  refine ⟨_, _, run_bytes_of_string w 9 117 5 s Tryz.underlying9 Tryz.underlying117 Tryz.underlying5, ?_, ((Below.refl _ w).drew).alloc (Nat.le_refl _) _⟩
  have hc := grownCap_ge w s.size 0 5
  generalize grownCap w s.size 0 5 = cap at *
  have hsz : (bytesRow s cap).size = cap := by
    rw [bytesRow, Array.size_append, Array.size_map, Array.size_replicate]
    show s.size + (cap - s.size) = cap
    omega
  refine ⟨w.heap.size, cap, bytesRow s cap, 5, (bytesRow s cap).size, (bytesRow s cap).size + 1, rfl, Nat.le_refl _, hc, ?_, by omega, Or.inr (by omega), ?_⟩
  · show (w.heap.push _)[w.heap.size]? = _
    simp
  · intro j hj
    have hd : j < s.data.size := by simpa using hj
    rw [bytesRow, Array.getElem?_append_left (by simpa using hj), Array.getElem?_map, Array.getElem?_eq_getElem hd]
    simp
theorem mr_append {B : Nat} {v : Value} {l : List UInt8} {w : World} (h : MR B v l w) (c : UInt8) (b : Nat) (hb : w.cell? ⟨b, 0, none⟩ = some (.int .u8 (c.toNat : Int))) (hl : l.length ≤ 10000) (hB : B ≤ w.heap.size) (ty : TypeId) :
    ∃ v' w', (Builtin.append_ #[117, 117] ty #[v, .slice (some ⟨b, 0, none⟩) 1 1]).run Tryz.prog w = .ok v' w' ∧ MR B v' (l ++ [c]) w' ∧ Below B w w' := by
  obtain ⟨g, cap, cs, T, lo, hi, rfl, hBg, hlc, hg, hcs, hfr, hcell⟩ := h
  obtain ⟨i0, hi0, hz0, hz1, hz2⟩ := info_parts W.Tryz.info5
  have hnews : ∀ j u, [Value.int .u8 (c.toNat : Int)][j]? = some u → w.cell? ((⟨b, 0, none⟩ : Addr).add j) = some u := by
    intro j u hj
    match j, hj with
    | 0, hj => simp at hj; subst hj; exact hb
  by_cases hroom : l.length + 1 ≤ cap
  · have hf := run_firstCells_some (P := Tryz.prog) w 1 1 ⟨b, 0, none⟩ 1 1 [.int .u8 (c.toNat : Int)] rfl hnews
    have hfz : w.frozen? ⟨g, l.length, none⟩ = false := by
      simp only [World.frozen?, hg]
      rcases hfr with h0 | h0
      · subst h0; simp
      · simp; omega
    have hcl : w.cell? ⟨g, l.length, none⟩ = some cs[l.length] := by rw [cell_of_row w g _ cs T _ hg, Array.getElem?_eq_getElem (by omega)]
    have hst : (store ⟨g, l.length, none⟩ (.int .u8 (c.toNat : Int))).run Tryz.prog w = .ok () (w.setCell ⟨g, l.length, none⟩ (.int .u8 (c.toNat : Int))) := by
      rw [run_store Tryz.prog w _ _ _ rfl]
      simp [hcl, hfz]
    refine ⟨.slice (some ⟨g, 0, none⟩) (l.length + 1) cap, w.setCell ⟨g, l.length, none⟩ (.int .u8 (c.toNat : Int)), ?_, ?_, (Below.refl _ _).setCell hBg _⟩
    · simp [Builtin.append_, run_underlying Tryz.underlying117, sizeOf, typeInfo, hi0, hz1, Builtin.lenOf, hroom, hf, Addr.add_lit, storeCells, hst]
    · refine ⟨g, cap, cs.setIfInBounds l.length (.int .u8 (c.toNat : Int)), T, lo, hi, by simp, hBg, by simp; omega, Go.Lib.heap_setCell_same hg _, by simpa using hcs, hfr, ?_⟩
      intro j hj
      have hj2 : j < l.length + 1 := by simpa using hj
      by_cases hjl : j < l.length
      · rw [Array.getElem?_setIfInBounds_ne (by omega), hcell j hjl, List.getElem_append_left hjl]
      · have : j = l.length := by omega
        subst this
        rw [Array.getElem?_setIfInBounds_self_of_lt (by omega)]
        simp
  · have hg2 := run_append_grow (P := Tryz.prog) w 117 ty 5 i0 (.int .u8 0) Tryz.underlying117 hi0 hz0 ⟨g, 0, none⟩ l.length cap (W.bcells l) (by rw [hz1]; simp [W.bcells]) (by
      intro j u hj
      have hj2 : j < l.length := by
        have := List.getElem?_eq_some_iff.1 hj
        obtain ⟨hq, _⟩ := this
        simpa [W.bcells] using hq
      rw [show (⟨g, 0, none⟩ : Addr).add j = ⟨g, j, none⟩ by unfold Addr.add; split <;> simp_all, cell_of_row w g j cs T _ hg, hcell j hj2]
      simpa [W.bcells, hj2] using hj) ⟨b, 0, none⟩ 1 1 [.int .u8 (c.toNat : Int)] (by rw [hz1]; rfl) hnews (by omega) (by omega) (growslice_fits (by omega) (by rw [hz2]; omega))
    have hge := grownCap_ge w (l.length + 1) cap 5
    generalize grownCap w (l.length + 1) cap 5 = cap2 at *
    have hsz : ((W.bcells l).toArray ++ [Value.int .u8 (c.toNat : Int)].toArray ++ Builtin.zeroCells (Value.int .u8 0).cells (cap2 - (l.length + 1))).size = cap2 := by
      rw [Array.size_append, Array.size_append, size_zeroCells]
      simp [W.bcells, Value.cells]
      omega
    refine ⟨_, _, hg2, ⟨w.heap.size, cap2, _, 5, 0, 0, by simp, hB, by simp; omega, heap_alloc_new w.drew _, by omega, Or.inl rfl, ?_⟩, ((Below.refl B w).drew).alloc hB _⟩
    intro j hj
    have hj2 : j < l.length + 1 := by simpa using hj
    rw [Array.getElem?_append_left (by simp [W.bcells]; omega)]
    simp only [List.append_toArray, List.getElem?_toArray]
    rw [show W.bcells l ++ [Value.int .u8 (c.toNat : Int)] = W.bcells (l ++ [c]) by simp [W.bcells]]
    rw [show (W.bcells (l ++ [c]))[j]? = some (.int .u8 ((l ++ [c])[j].toNat : Int)) by
      unfold W.bcells
      rw [List.getElem?_map, List.getElem?_eq_getElem hj]; rfl]
end Go.Proofs.YtpcmmejlmhbcdaaGreat.Dg

namespace Go.Proofs.YtpcmmejlmhbcdaaGreat.Dg
open Go.RowKit

def zb16 : List UInt8 := List.replicate 16 0
theorem zb16_is : (#[.int .u8 0, .int .u8 0, .int .u8 0, .int .u8 0, .int .u8 0, .int .u8 0, .int .u8 0, .int .u8 0, .int .u8 0, .int .u8 0, .int .u8 0, .int .u8 0, .int .u8 0, .int .u8 0, .int .u8 0, .int .u8 0] : Array Value) = (W.bcells zb16).toArray := by kernel_rfl
theorem setCells_row (q : Nat) (T : TypeId) : ∀ (vs : List Value) (o : Nat) (cs : Array Value) (w : World), w.heap[q]? = some (.cells cs T (0, 0)) → ∃ cs2 : Array Value, (w.setCells q o vs).heap[q]? = some (.cells cs2 T (0, 0)) ∧ cs2.size = cs.size ∧ ∀ j, cs2[j]? = if o ≤ j ∧ j < o + vs.length ∧ j < cs.size then vs[j - o]? else cs[j]?
  | [], o, cs, w, h => ⟨cs, h, rfl, fun j => by rw [if_neg (by simp; omega)]⟩
  | v :: r, o, cs, w, h => by
    obtain ⟨cs2, h1, h2, h3⟩ := setCells_row q T r (o + 1) _ _ (heap_setCell_same w q o cs T v h)
    refine ⟨cs2, h1, by rw [h2]; simp, fun j => ?_⟩
    rw [h3 j]
    simp only [Array.size_setIfInBounds, List.length_cons]
    by_cases hj : j = o
    · subst hj
      rw [if_neg (by omega)]
      by_cases hs : j < cs.size
      · rw [if_pos (by omega), Array.getElem?_setIfInBounds_self_of_lt hs]; simp
      · rw [if_neg (by omega), Array.getElem?_eq_none (by simp; omega), Array.getElem?_eq_none (by omega)]
    · by_cases hin : o + 1 ≤ j ∧ j < o + 1 + r.length ∧ j < cs.size
      · rw [if_pos hin, if_pos (by omega), show j - o = (j - (o + 1)) + 1 by omega]; simp
      · rw [if_neg hin, if_neg (by omega), Array.getElem?_setIfInBounds_ne (by omega)]
/-- 'copy(p[:], all[:])'. -/
theorem print_copy (q g : Nat) (o : List UInt8) (ho : o.length = 32) (w : World) (hq : BB q 24 zb16 w) (hg : BB g 167 o w) :
    ∃ W1, (Builtin.copy_ #[117, 117] 3 #[.slice (some ⟨q, 0, none⟩) 16 16, .slice (some ⟨g, 0, none⟩) 32 32]).run Tryz.prog w = .ok (.int .i64 16) W1 ∧ BB q 24 (o.take 16) W1 ∧
      (∀ x, x ≠ q → W1.heap[x]? = w.heap[x]?) ∧ W1.heap.size = w.heap.size ∧ W1.os = w.os ∧ W1.tape = w.tape ∧ W1.output = w.output := by
  obtain ⟨vs, hvs⟩ : ∃ vs, W.bcells (o.take 16) = vs := ⟨_, rfl⟩
  have hlen : vs.length = 16 := by rw [← hvs]; simp [W.bcells, ho]
  have hl := run_loadCells_list (P := Tryz.prog) (w := w) ⟨g, 0, none⟩ vs (fun j v hv => by
    have hj : j < 16 := by rw [← hlen]; exact (List.getElem?_eq_some_iff.1 hv).1
    rw [show (⟨g, 0, none⟩ : Addr).add j = ⟨g, j, none⟩ by unfold Addr.add; split <;> simp_all, hg.cell j (by omega), ← hv, ← hvs]
    simp [W.bcells, hj, ho])
  have hst := run_storeCells_cells (P := Tryz.prog) q 0 vs 0 w (by
      intro j hj
      rw [show 0 + 0 + j = j by omega, hq.cell j (by show j < 16; omega)]; rfl) (fun j _ => hq.frozen _) (by
      intro v hv
      rw [← hvs] at hv
      unfold W.bcells at hv
      obtain ⟨x, _, rfl⟩ := List.mem_map.1 hv
      rfl)
  obtain ⟨p1, p2, p3, p4, p5⟩ := setCells_same q vs 0 w
  refine ⟨w.setCells q 0 vs, ?_, ?_, p5, p4, p1, p2, p3⟩
  · obtain ⟨i, hi, hz, hsz, _⟩ := info_parts W.Tryz.info5
    have hmin : Nat.min 32 16 = 16 := rfl
    have hl' : (Builtin.firstCells 1 16 (.slice (some ⟨g, 0, none⟩) 32 32)).run Tryz.prog w = .ok vs.toArray w := by
      rw [hlen] at hl
      have e : Builtin.firstCells 1 16 (.slice (some ⟨g, 0, none⟩) 32 32) = loadCells ⟨g, 0, none⟩ 16 := by unfold Builtin.firstCells; rw [Nat.mul_one]
      rw [e]; exact hl
    simp only [Nat.add_zero] at hst
    generalize hva' : vs.toArray = va at hl'
    have hva : va.toList = vs := by rw [← hva']
    simp [Builtin.copy_, run_underlying Tryz.underlying117, Builtin.lenOf, sizeOf, typeInfo, hi, hsz, hl', hva, hst, hmin]
    rfl
  · obtain ⟨cs2, h1, h2, h3⟩ := setCells_row q 24 vs 0 _ w hq
    have : cs2 = (W.bcells (o.take 16)).toArray := by
      apply Array.ext_getElem?
      intro j
      rw [h3 j, hlen]
      by_cases hj : j < 16
      · rw [if_pos ⟨by omega, by omega, by show j < 16; exact hj⟩, hvs]; simp
      · rw [if_neg (by omega), Array.getElem?_eq_none (by show 16 ≤ j; omega), hvs, Array.getElem?_eq_none (by simp; omega)]
    unfold BB
    rw [← this]
    exact h1
end Go.Proofs.YtpcmmejlmhbcdaaGreat.Dg
