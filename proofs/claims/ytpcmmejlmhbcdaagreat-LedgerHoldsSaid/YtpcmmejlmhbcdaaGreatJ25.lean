/- Walk of file.Open.; A row, one put behind; the names of a file.; The names of a file, in whatever order.; Whether a file is among files. -/
import Derived.Test.YtpcmmejlmhbcdaaGreatJ24
import Derived.Test.YtpcmmejlmhbcdaaGreatJ02
import Derived.LaidEqlPtr
set_option linter.unusedVariables false
set_option linter.unusedSimpArgs false
namespace Go.Proofs.YtpcmmejlmhbcdaaGreat.Fi
open Go.RowKit

/-- The text of which that is sealed. -/
def opnL (s : List UInt8) : Option (List UInt8) :=
  if otB s = true then
    (if (Cd.lngA 0 0 (s.drop 2)).2.2 = 0 ∧ (Cd.lngA 0 0 (s.drop 2)).1 ≤ (s.drop 2).length - (Cd.lngA 0 0 (s.drop 2)).2.1 then
      (if sealL (((s.drop 2).drop (Cd.lngA 0 0 (s.drop 2)).2.1).take (Cd.lngA 0 0 (s.drop 2)).1) = s then some (((s.drop 2).drop (Cd.lngA 0 0 (s.drop 2)).2.1).take (Cd.lngA 0 0 (s.drop 2)).1) else none)
    else none)
  else none
def opV (s : ByteArray) : Value :=
  match opnL s.data.toList with
  | some t => .tuple #[.string (W.str t), .int .i64 0]
  | none => .tuple #[.string ⟨#[]⟩, .int .i64 23]
theorem lngA_le : ∀ (l : List UInt8) (acc j : Nat), (Cd.lngA acc j l).2.2 = 0 → (Cd.lngA acc j l).2.1 ≤ j + l.length
  | [], acc, j, h => by
    unfold Cd.lngA at h ⊢
    split <;> simp_all
  | c :: cs, acc, j, h => by
    unfold Cd.lngA at h ⊢
    split at h
    · simp at h
    · rename_i h1
      rw [if_neg h1]
      split at h
      · rename_i h2
        rw [if_pos h2]
        have := lngA_le cs _ _ h
        simp only [List.length_cons]
        omega
      · rename_i h2
        rw [if_neg h2]
        split at h
        · simp at h
        · rename_i h3
          rw [if_neg h3]
          split at h
          · simp at h
          · rename_i h4
            rw [if_neg h4]
            simp only [List.length_cons]
            omega
theorem opn_seal (t : List UInt8) (ht : t.length ≤ 100000) : opnL (sealL t) = some t := by
  have h1 : otB (sealL t) = true := (otB_iff _).2 ⟨_, rfl⟩
  have hd : (sealL t).drop 2 = Cd.sh t.length ++ (t ++ (Dg.sumL (preL t)).take 16) := by
    unfold sealL preL
    simp [List.append_assoc]
  have hl : Cd.lngA 0 0 ((sealL t).drop 2) = (t.length, (Cd.sh t.length).length, 0) := by rw [hd]; exact Cd.lngA_ok _ _ (by omega)
  have hx : (((sealL t).drop 2).drop (Cd.lngA 0 0 ((sealL t).drop 2)).2.1).take (Cd.lngA 0 0 ((sealL t).drop 2)).1 = t := by
    rw [hl, hd]
    show List.take t.length (List.drop (Cd.sh t.length).length _) = t
    rw [List.drop_left, List.take_left]
  unfold opnL
  rw [if_pos h1, hx, if_pos rfl, if_pos]
  rw [hl, hd]
  refine ⟨rfl, ?_⟩
  show t.length ≤ (Cd.sh t.length ++ _).length - (Cd.sh t.length).length
  rw [List.length_append, List.length_append]
  omega
theorem opn_len {s t : List UInt8} (h : opnL s = some t) : t.length ≤ s.length := by
  unfold opnL at h
  split at h
  · split at h
    · split at h
      · cases h
        rw [List.length_take, List.length_drop, List.length_drop]
        omega
      · cases h
    · cases h
  · cases h
def bad : Value := .tuple #[.string ⟨#[]⟩, .int .i64 23]
section
variable {s rs : ByteArray} {n z x : Nat}
set_option maxRecDepth 1000000 in
theorem open_no (K30 : ∀ w, Calls Tryz.prog 106 #[.string s, .string ⟨#[79, 84]⟩] w fun e w' => e = .returned (.tuple #[.string rs, .bool false]) ∧ w' = w) (w : World) :
    Calls Tryz.prog 80 #[.string s] w fun e w' => e = .returned bad ∧ Below w.heap.size w w' := by
  have H30 := Lib.hid K30
  clear K30
  go_enter Tryz.func80, Tryz.ntmps80
  go_wp2_with (first | (go_at_call 106; ((with_reducible refine (H30.out _).mono ?_); rintro e w1 ⟨rfl, hw⟩; subst hw)))
  go_ret2
  exact ⟨rfl, Below.refl _ _⟩
set_option maxRecDepth 1000000 in
theorem open_wrong (K30 : ∀ w, Calls Tryz.prog 106 #[.string s, .string ⟨#[79, 84]⟩] w fun e w' => e = .returned (.tuple #[.string rs, .bool true]) ∧ w' = w)
    (K31 : ∀ w, Calls Tryz.prog 89 #[.string rs] w fun e w' => e = .returned (.tuple #[.int .u64 (n : Int), .int .i64 (z : Int), .int .i64 (x : Int)]) ∧ w = w') (hx : x ≠ 0) (w : World) : Calls Tryz.prog 80 #[.string s] w fun e w' => e = .returned bad ∧ Below w.heap.size w w' := by
  have H30 := Lib.hid K30
  have H31 := Lib.hid K31
  have hx0 : ((x : Int) == 0) = false := by rw [beq_eq_false_iff_ne]; omega
  have hx1 : ¬ x = 0 := hx
  clear K30 K31 hx
  go_enter Tryz.func80, Tryz.ntmps80
  go_wp2_with (first
    | (go_at_call 106; ((with_reducible refine (H30.out _).mono ?_); rintro e w1 ⟨rfl, hw⟩; subst hw))
    | (go_at_call 89; ((with_reducible refine (H31.out _).mono ?_); rintro e w1 ⟨rfl, hw⟩; subst hw)))
  go_ret2
  exact ⟨rfl, Below.refl _ _⟩
set_option maxRecDepth 1000000 in
theorem open_long (K30 : ∀ w, Calls Tryz.prog 106 #[.string s, .string ⟨#[79, 84]⟩] w fun e w' => e = .returned (.tuple #[.string rs, .bool true]) ∧ w' = w)
    (K31 : ∀ w, Calls Tryz.prog 89 #[.string rs] w fun e w' => e = .returned (.tuple #[.int .u64 (n : Int), .int .i64 (z : Int), .int .i64 (x : Int)]) ∧ w = w') (hx : x = 0) (hz : z ≤ rs.size) (hr : rs.size ≤ 1000000000) (hn : rs.size - z < n) (w : World) : Calls Tryz.prog 80 #[.string s] w fun e w' => e = .returned bad ∧ Below w.heap.size w w' := by
  subst hx
  have H30 := Lib.hid K30
  have H31 := Lib.hid K31
  obtain ⟨q, hq⟩ : ∃ q, q = rs.size - z := ⟨_, rfl⟩
  have e1 : (rs.size : Int) - (z : Int) = (q : Int) := by omega
  have e2 : IntKind.u64.wrap (q : Int) = (q : Int) := IntWalk.u64_in _ ⟨by omega, by omega⟩
  have e3 : (q : Int) < (n : Int) := by omega
  have e4 : IntKind.i64.wrap (q : Int) = (q : Int) := IntWalk.i64_in _ ⟨by omega, by omega⟩
  clear K30 K31 hz hr hn hq
  go_enter Tryz.func80, Tryz.ntmps80
  go_wp2_with (first
    | (go_at_call 106; ((with_reducible refine (H30.out _).mono ?_); rintro e w1 ⟨rfl, hw⟩; subst hw))
    | (go_at_call 89; ((with_reducible refine (H31.out _).mono ?_); rintro e w1 ⟨rfl, hw⟩; subst hw)))
  go_ret2
  exact ⟨rfl, Below.refl _ _⟩
variable {t y : ByteArray}
set_option maxRecDepth 1000000 in
theorem open_other (K30 : ∀ w, Calls Tryz.prog 106 #[.string s, .string ⟨#[79, 84]⟩] w fun e w' => e = .returned (.tuple #[.string rs, .bool true]) ∧ w' = w)
    (K31 : ∀ w, Calls Tryz.prog 89 #[.string rs] w fun e w' => e = .returned (.tuple #[.int .u64 (n : Int), .int .i64 (z : Int), .int .i64 (x : Int)]) ∧ w = w')
    (K7 : ∀ w, Calls Tryz.prog 71 #[.string t] w fun e w' => e = .returned (.string y) ∧ Below w.heap.size w w')
    (hx : x = 0) (hz : z ≤ rs.size) (hr : rs.size ≤ 1000000000) (hn : n ≤ rs.size - z) (ht : rs.extract z (z + n) = t) (hy : y ≠ s) (w : World) : Calls Tryz.prog 80 #[.string s] w fun e w' => e = .returned bad ∧ Below w.heap.size w w' := by
  subst hx
  have H30 := Lib.hid K30
  have H31 := Lib.hid K31
  have H7 := Lib.hid K7
  obtain ⟨q, hq⟩ : ∃ q, q = rs.size - z := ⟨_, rfl⟩
  obtain ⟨u, hu⟩ : ∃ u, u = z + n := ⟨_, rfl⟩
  have e1 : (rs.size : Int) - (z : Int) = (q : Int) := by omega
  have e2 : IntKind.u64.wrap (q : Int) = (q : Int) := IntWalk.u64_in _ ⟨by omega, by omega⟩
  have e3 : ¬ (q : Int) < (n : Int) := by omega
  have e4 : IntKind.i64.wrap (q : Int) = (q : Int) := IntWalk.i64_in _ ⟨by omega, by omega⟩
  have e5 : IntKind.i64.wrap (n : Int) = (n : Int) := IntWalk.i64_in _ ⟨by omega, by omega⟩
  have e6 : (z : Int) + (n : Int) = (u : Int) := by omega
  have e7 : IntKind.i64.wrap (u : Int) = (u : Int) := IntWalk.i64_in _ ⟨by omega, by omega⟩
  have e8 : (u : Int) ≤ (rs.size : Int) := by omega
  have e9 : (z : Int) ≤ (u : Int) := by omega
  have hyb : (y.toList == s.toList) = false := by
    rw [beq_eq_false_iff_ne]
    intro e
    rw [Lib.toList_data, Lib.toList_data] at e
    exact hy (ByteArray.ext (Array.ext' e))
  rw [← hu] at ht
  clear K30 K31 K7 hz hr hn hq hu hy
  go_enter Tryz.func80, Tryz.ntmps80
  go_wp2_with (first
    | (go_at_call 106; ((with_reducible refine (H30.out _).mono ?_); rintro e w1 ⟨rfl, hw⟩; subst hw))
    | (go_at_call 89; ((with_reducible refine (H31.out _).mono ?_); rintro e w1 ⟨rfl, hw⟩; subst hw))
    | (go_at_call 71; ((with_reducible refine (H7.out _).mono ?_); rintro e w2 ⟨rfl, hb⟩)))
  go_ret2
  exact ⟨rfl, hb⟩
set_option maxRecDepth 1000000 in
theorem open_fine (K30 : ∀ w, Calls Tryz.prog 106 #[.string s, .string ⟨#[79, 84]⟩] w fun e w' => e = .returned (.tuple #[.string rs, .bool true]) ∧ w' = w)
    (K31 : ∀ w, Calls Tryz.prog 89 #[.string rs] w fun e w' => e = .returned (.tuple #[.int .u64 (n : Int), .int .i64 (z : Int), .int .i64 (x : Int)]) ∧ w = w')
    (K7 : ∀ w, Calls Tryz.prog 71 #[.string t] w fun e w' => e = .returned (.string y) ∧ Below w.heap.size w w')
    (hx : x = 0) (hz : z ≤ rs.size) (hr : rs.size ≤ 1000000000) (hn : n ≤ rs.size - z) (ht : rs.extract z (z + n) = t) (hy : y = s) (w : World) : Calls Tryz.prog 80 #[.string s] w fun e w' => e = .returned (.tuple #[.string t, .int .i64 0]) ∧ Below w.heap.size w w' := by
  subst hx
  have H30 := Lib.hid K30
  have H31 := Lib.hid K31
  have H7 := Lib.hid K7
  obtain ⟨q, hq⟩ : ∃ q, q = rs.size - z := ⟨_, rfl⟩
  obtain ⟨u, hu⟩ : ∃ u, u = z + n := ⟨_, rfl⟩
  have e1 : (rs.size : Int) - (z : Int) = (q : Int) := by omega
  have e2 : IntKind.u64.wrap (q : Int) = (q : Int) := IntWalk.u64_in _ ⟨by omega, by omega⟩
  have e3 : ¬ (q : Int) < (n : Int) := by omega
  have e4 : IntKind.i64.wrap (q : Int) = (q : Int) := IntWalk.i64_in _ ⟨by omega, by omega⟩
  have e5 : IntKind.i64.wrap (n : Int) = (n : Int) := IntWalk.i64_in _ ⟨by omega, by omega⟩
  have e6 : (z : Int) + (n : Int) = (u : Int) := by omega
  have e7 : IntKind.i64.wrap (u : Int) = (u : Int) := IntWalk.i64_in _ ⟨by omega, by omega⟩
  have e8 : (u : Int) ≤ (rs.size : Int) := by omega
  have e9 : (z : Int) ≤ (u : Int) := by omega
  have htz : t.size ≤ 1000000000 := by rw [← ht, ByteArray.size_extract]; omega
  have K32 := Lib.hid (fun w => Dk.sclone_any t w htz)
  subst hy
  rw [← hu] at ht
  clear K30 K31 K7 hz hr hn hq hu htz
  go_enter Tryz.func80, Tryz.ntmps80
  go_wp2_with (first
    | (go_at_call 106; ((with_reducible refine (H30.out _).mono ?_); rintro e w1 ⟨rfl, hw⟩; subst hw))
    | (go_at_call 89; ((with_reducible refine (H31.out _).mono ?_); rintro e w1 ⟨rfl, hw⟩; subst hw))
    | (go_at_call 71; ((with_reducible refine (H7.out _).mono ?_); rintro e w2 ⟨rfl, hb⟩))
    | (go_at_call 92; ((with_reducible refine (K32.out _).mono ?_); rintro e w3 ⟨rfl, hb3⟩)))
  go_ret2
  exact ⟨rfl, hb.trans (hb3.mono hb.size)⟩
end
theorem open_any (s : ByteArray) (hs : s.size ≤ 100000) (w : World) : Calls Tryz.prog 80 #[.string s] w fun e w' => e = .returned (opV s) ∧ Below w.heap.size w w' := by
  have K30 := cut_any s (by omega)
  have hz0 : s.data.toList.length = s.size := rfl
  unfold opV opnL
  cases hh : otB s.data.toList
  · rw [hh] at K30
    exact open_no K30 w
  · obtain ⟨rs, hrs⟩ : ∃ rs, rs = W.str (s.data.toList.drop 2) := ⟨_, rfl⟩
    have hrl : rs.data.toList = s.data.toList.drop 2 := by rw [hrs]; rfl
    have hrz : rs.size = s.size - 2 := by rw [hrs, W.size_str, List.length_drop]; rfl
    rw [hh, if_pos rfl, ← hrs] at K30
    have K31 := Cd.long_any rs (by omega)
    have hle := lngA_le (s.data.toList.drop 2) 0 0
    have hlen : (s.data.toList.drop 2).length = rs.size := by rw [← hrl]; rfl
    rw [hrl] at K31
    have hdr : ∀ a b, rs.extract a b = W.str (((s.data.toList.drop 2).drop a).take (b - a)) := fun a b => by rw [extract_str, hrl]
    rw [if_pos rfl, hlen]
    rw [hlen] at hle
    generalize s.data.toList.drop 2 = r at *
    obtain ⟨R, hR⟩ : ∃ R, R = Cd.lngA 0 0 r := ⟨_, rfl⟩
    rw [← hR] at K31 hle ⊢
    obtain ⟨n, z, x⟩ := R
    simp only at hle ⊢
    dsimp only [Cd.lonV] at K31
    by_cases hx : x = 0
    · have hzl : z ≤ rs.size := by have := hle hx; omega
      by_cases hn : n ≤ rs.size - z
      · rw [if_pos ⟨hx, hn⟩]
        obtain ⟨t, ht⟩ : ∃ t, t = (r.drop z).take n := ⟨_, rfl⟩
        have htl : t.length ≤ 100000 := by rw [ht, List.length_take, List.length_drop]; omega
        have hex : rs.extract z (z + n) = W.str t := by rw [hdr, Nat.add_sub_cancel_left, ht]
        have K7 := seal_any (W.str t) (by rw [W.size_str]; exact htl)
        have htt : (W.str t).data.toList = t := rfl
        rw [htt] at K7
        rw [← ht]
        by_cases hy : sealL t = s.data.toList
        · rw [if_pos hy]
          exact open_fine K30 K31 K7 hx hzl (by omega) hn hex (by rw [hy, str_list]) w
        · rw [if_neg hy]
          exact open_other K30 K31 K7 hx hzl (by omega) hn hex (fun e => hy (by rw [← e]; rfl)) w
      · rw [if_neg (fun h => hn h.2)]
        exact open_long K30 K31 hx hzl (by omega) (by omega) w
    · rw [if_neg (fun h => hx h.1)]
      exact open_wrong K30 K31 hx w
end Go.Proofs.YtpcmmejlmhbcdaaGreat.Fi

namespace Go.Proofs.YtpcmmejlmhbcdaaGreat.Dk
open Go.RowKit Go.Maps

/-- A row is the old one, or a new one. -/
def Nxt (ρ ρ' : Option Nat) (w : World) : Prop := ρ' = ρ ∨ ∃ k, ρ' = some k ∧ w.heap.size ≤ k
theorem PRow.cell {T : TypeId} {m : Nat} {ρ : Option Nat} {o : Option Addr} {cap n : Nat} {xs : List Value} {w : World} (h : PRow T m ρ o cap n xs w) (j : Nat) (u : Value) (hj : xs[j]? = some u) : ∃ r, ρ = some r ∧ o = some ⟨r, 0, none⟩ ∧ w.cell? ⟨r, j, none⟩ = some u := by
  have hjl := (List.getElem?_eq_some_iff.1 hj).1
  rcases h.2 with ⟨_, _, _, h0⟩ | ⟨r, cur, h1, h2, h4, _, _, _, htk⟩
  · rw [h.1, h0] at hjl; omega
  · refine ⟨r, h1, h2, ?_⟩
    rw [cell_of_row w r j _ _ _ h4, ← Array.getElem?_toList]
    have := congrArg (fun l => l[j]?) htk
    simp only [List.getElem?_take] at this
    rw [if_pos (by rw [← h.1]; exact hjl)] at this
    rw [this]; exact hj
theorem PRow.nil (T : TypeId) (m : Nat) (w : World) : PRow T m none none 0 0 [] w := ⟨by simp, Or.inl ⟨rfl, rfl, rfl, rfl⟩⟩
theorem plain_add (b o i : Nat) : ((⟨b, o, none⟩ : Addr).add i) = ⟨b, o + i, none⟩ := by simp [Addr.add]
theorem prow_append (t T ty : TypeId) (hu : Tryz.prog.underlying t = some (.slice T)) (z : Value) (m by' : Nat) (hinfo : (Tryz.prog.info? T).map (fun i => (i.zero, i.size, i.bytes)) = some (some z, m, by')) (hzs : z.cells.size = m) (hm : 0 < m) (hb : by' ≤ 64)
    (w : World) (ρ : Option Nat) (o : Option Addr) (cap n : Nat) (xs : List Value) (hR : PRow T m ρ o cap n xs w) (hn : n + 1 ≤ 1000000000) (a : Addr) (news : List Value) (hl : news.length = m) (hnews : ∀ j u, news[j]? = some u → w.cell? (a.add j) = some u) (h1 : ∀ u ∈ news, u.oneCell' = true) :
    ∃ o' cap' w' ρ', (Builtin.append_ #[t, t] ty #[.slice o n cap, .slice (some a) 1 1]).run Tryz.prog w = .ok (.slice o' (n + 1) cap') w' ∧ PRow T m ρ' o' cap' (n + 1) (xs ++ news) w' ∧ Nxt ρ ρ' w ∧ Kp (fun b => ρ = some b) w w' := by
  obtain ⟨i, hi, hz, hsz, hby⟩ := info_parts hinfo
  have hml : (n + 1 : Nat) ≤ maxLen := by unfold maxLen; omega
  have hnl : news.length = 1 * i.size := by rw [hl, hsz]; omega
  have hxl : (xs ++ news).length = (n + 1) * m := by rw [List.length_append, hR.1, hl, Nat.add_mul]; omega
  have fresh : ∀ old, PRow T m (some w.heap.size) (some ⟨w.heap.size, 0, none⟩) (grownCap w (n + 1) old T) (n + 1) (xs ++ news) (w.drew.alloc (.cells (xs.toArray ++ news.toArray ++ Builtin.zeroCells z.cells (grownCap w (n + 1) old T - (n + 1))) T)) := by
    intro old
    refine ⟨hxl, Or.inr ⟨w.heap.size, _, rfl, rfl, heap_alloc_new w.drew _, grownCap_ge w (n + 1) old T, grownCap_le_maxLen w (n + 1) old T hml, ?_, ?_⟩⟩
    · have hge := grownCap_ge w (n + 1) old T
      simp only [Array.size_append, List.size_toArray, size_zeroCells, hzs, hR.1, hl]
      have e : grownCap w (n + 1) old T = n + 1 + (grownCap w (n + 1) old T - (n + 1)) := by omega
      rw [e, Nat.add_mul, Nat.add_mul]
      have e2 : n + 1 + (grownCap w (n + 1) old T - (n + 1)) - (n + 1) = grownCap w (n + 1) old T - (n + 1) := by omega
      rw [e2]
      omega
    · rw [← hxl]
      simp only [Array.toList_append]
      exact List.take_left
  have kp : ∀ (cs : Array Value), Kp (fun b => ρ = some b) w (w.drew.alloc (.cells cs T)) := fun cs => ((Kp.refl _ w).drew).alloc _
  rcases hR.2 with ⟨rfl, rfl, rfl, rfl⟩ | ⟨r, cur, rfl, rfl, hg, hnc, hcm, hcs, htk⟩
  · have hx : xs = [] := List.eq_nil_of_length_eq_zero (by simpa using hR.1)
    subst hx
    have hr := run_append_nil (P := Tryz.prog) w t ty T i _ hu hi hz a 1 1 news hnl hnews (by omega) (by omega) (by rw [hby]; omega)
    have hf := fresh 0
    simp only [List.nil_append, Array.empty_append] at hf
    exact ⟨_, _, _, _, hr, hf, Or.inr ⟨_, rfl, Nat.le_refl _⟩, kp _⟩
  · by_cases hroom : n + 1 ≤ cap
    · have hr := run_append_room (P := Tryz.prog) w t ty T i hu hi r n cap cur hg a 1 1 news hnl hnews h1 hroom (by rw [hsz, hl, hcs, ← Nat.add_one_mul]; exact Nat.mul_le_mul_right m hroom)
      rw [hsz] at hr
      refine ⟨_, _, _, some r, hr, ⟨hxl, Or.inr ⟨r, _, rfl, rfl, setRow_heap w r cur _ T _ hg, hroom, hcm, ?_, ?_⟩⟩, Or.inl rfl, rfl, rfl, rfl, by simp, fun k _ hk => setRow_other w r k _ (fun e => hk (by rw [e]))⟩
      · have : (n + 1) * m ≤ cap * m := Nat.mul_le_mul_right m hroom
        have e : (n + 1) * m = n * m + m := Nat.add_one_mul n m
        simp only [List.size_toArray, List.length_append, List.length_take, List.length_drop, Array.length_toList]
        omega
      · rw [htk, ← hxl]
        exact List.take_left
    · have holds : ∀ j u, xs[j]? = some u → w.cell? ((⟨r, 0, none⟩ : Addr).add j) = some u := by
        intro j u hj
        obtain ⟨r2, e1, _, e3⟩ := hR.cell j u hj
        cases e1
        rw [plain_add, Nat.zero_add]; exact e3
      have hr := run_append_grow (P := Tryz.prog) w t ty T i _ hu hi hz ⟨r, 0, none⟩ n cap xs (by rw [hsz]; exact hR.1) holds a 1 1 news hnl hnews (by omega) (by omega) (by rw [hby]; exact growslice_fits (by omega) (Nat.le_trans (Nat.mul_le_mul hn hb) (by omega)))
      exact ⟨_, _, _, _, hr, fresh cap, Or.inr ⟨_, rfl, Nat.le_refl _⟩, kp _⟩
/-- 'l = append(l, x)', the x in a block of its own. -/
theorem wpList_prow {w : World} {ops : Array Oper} {rest : List Oper} {o : Oper} {a : Act} {Q : Exit → Act → World → Prop} (hgd : o.guard = none) (s x : Operand) (t T : TypeId)
    (ho : o.op = .call { callee := .builtin .append, args := #[s, x], argTypes := #[t, t] }) (hu : Tryz.prog.underlying t = some (.slice T)) (z : Value) (m by' : Nat) (hinfo : (Tryz.prog.info? T).map (fun i => (i.zero, i.size, i.bytes)) = some (some z, m, by')) (hzs : z.cells.size = m) (hm : 0 < m) (hb : by' ≤ 64)
    (ρ : Option Nat) (oo : Option Addr) (cap n : Nat) (xs : List Value) (hR : PRow T m ρ oo cap n xs w) (hn : n + 1 ≤ 1000000000) (ad : Addr) (news : List Value) (hl : news.length = m) (hnews : ∀ j u, news[j]? = some u → w.cell? (ad.add j) = some u) (h1 : ∀ u ∈ news, u.oneCell' = true)
    (hs : a.eval s = .slice oo n cap) (hx : a.eval x = .slice (some ad) 1 1)
    (h : ∀ o' cap' w' ρ', PRow T m ρ' o' cap' (n + 1) (xs ++ news) w' → Nxt ρ ρ' w → Kp (fun b => ρ = some b) w w' → wpList Tryz.prog ops Q rest (a.put o.dst (.slice o' (n + 1) cap')) w') : wpList Tryz.prog ops Q (o :: rest) a w := by
  refine wpList_plain hgd fun K' hK' => ?_
  obtain ⟨o', cap', w', ρ', hr, h2, h3, h4⟩ := prow_append t T o.type hu z m by' hinfo hzs hm hb w ρ oo cap n xs hR hn ad news hl hnews h1
  unfold Oper.wp execOp
  simp only [ho, resolve, invoke, builtin, Sem.run_bind, Sem.run_pure, Result.andThen_ok, List.map_toArray, List.map_cons, List.map_nil, hs, hx, hr]
  exact hK' _ _ (h o' cap' w' ρ' h2 h3 h4)
theorem info9 : (Tryz.prog.info? 9).map (fun i => (i.zero, i.size, i.bytes)) = some (some (.string ⟨#[]⟩), 1, 16) := by kernel_rfl
theorem info51 : (Tryz.prog.info? 102).map (fun i => (i.zero, i.size, i.bytes)) = some (some (.pointer none), 1, 8) := by kernel_rfl
theorem info60 : (Tryz.prog.info? 105).map (fun i => (i.zero, i.size, i.bytes)) = some (some (.agg #[.int .i64 0, .pointer none, .slice none 0 0, .string ⟨#[]⟩]), 4, 56) := by kernel_rfl

/-- The next entry of a map of files. -/
theorem wpList_next_file (w : World) {ops : Array Oper} {rest : List Oper} {o : Oper} {a : Act} {Q : Exit → Act → World → Prop} (hg : o.guard = none) (it : Operand) (hop : o.op = Op.next it false) (b r n : Nat) (D : Dm) (F : Fil D) (left : Lit → Bool) (cnt : Nat)
    (hit : a.eval it = .pointer (some ⟨r, 0, none⟩)) (h : w.ranges Tryz.prog 9 ptrE b r n D left cnt)
    (hDone : cnt = 0 → (∀ kl, left kl = false) → wpList Tryz.prog ops Q rest (a.put o.dst (.tuple #[.bool false])) w)
    (hMore : ∀ (x : ByteArray) (w' : World) (cnt' : Nat), x.size ≤ maxLen → left (nk x) = true → hasN D x = true → w'.ranges Tryz.prog 9 ptrE b r n D (fun z => left z && !z.sameKey (nk x)) cnt' → cnt' < cnt →
      w.grownBy w' (some r) → w'.heap.size = w.heap.size → (Instr.entry (.pointer (some ⟨r, 0, none⟩))).run Tryz.prog w' = .ok (.tuple #[.string x, .pointer (some ⟨atN D x, 0, none⟩)]) w' → wpList Tryz.prog ops Q rest (a.put o.dst (.tuple #[.bool true, .string x, .pointer (some ⟨atN D x, 0, none⟩)])) w') :
    wpList Tryz.prog ops Q (o :: rest) a w := by
  refine wpList_next_ranges w hg it hop 9 law ptrE Value.string (fun c : Option Nat => match c with | none => .pointer none | some b => .pointer (some ⟨b, 0, none⟩)) (fun key kl hkey => ?_) (fun v y hv => ?_) b r n D left cnt hit h hDone ?_
  · obtain ⟨x, rfl, _⟩ := Go.WideMaps.string_of_keyOf Tryz.underlying9 hkey
    exact ⟨x, rfl⟩
  · rcases ptrE_inv hv with ⟨rfl, _⟩ | ⟨c, rfl, _⟩
    · exact ⟨none, rfl⟩
    · exact ⟨some c, rfl⟩
  · intro x c kl y w' cnt' hkey hlk hv hat hrg hlt hgr hsz hen
    obtain ⟨x', ex, rfl, hx⟩ := Go.WideMaps.string_of_keyOf Tryz.underlying9 hkey
    cases ex
    have hh : hasN D x = true := Maps.has_true_of_atKey hat
    have hy := F.at hh .nil
    rw [show D.atKey (nk x) .nil = y.1 from hat .nil] at hy
    rcases ptrE_inv hv with ⟨_, rfl⟩ | ⟨c', e, rfl⟩
    · exact absurd hy (by simp [fl])
    · have : c' = atN D x := fl_inj hy
      subst this
      rw [e] at hen ⊢
      exact hMore x w' cnt' hx hlk hh hrg hlt hgr hsz hen
end Go.Proofs.YtpcmmejlmhbcdaaGreat.Dk

namespace Go.Proofs.YtpcmmejlmhbcdaaGreat.Dk
open Go.RowKit Go.Maps

theorem same_self (x : ByteArray) : (nk x).sameKey (nk x) = true := by unfold nk; simp [Lit.sameKey]
theorem same_other {s x : ByteArray} (h : s ≠ x) : (nk s).sameKey (nk x) = false := Maps.sameKey_ne (fun e => h (nk_inj e))
/-- What has been gathered. -/
def Got (N : Dm) (c : Nat) (left : Lit → Bool) (ls : List ByteArray) : Prop := (∀ s, s ∈ ls ↔ (hasN N s = true ∧ left (nk s) = false) ∧ atN N s = c) ∧ ∀ s ∈ ls, s.size ≤ maxLen
theorem Got.start (N : Dm) (c : Nat) : Got N c (Maps.has N) [] := ⟨fun s => ⟨fun h => (by cases h), fun h => by have h1 := h.1.1; have h2 := h.1.2; unfold hasN at h1; rw [h1] at h2; cases h2⟩, fun s hs => by cases hs⟩
theorem Got.step {N : Dm} {c : Nat} {left : Lit → Bool} {ls : List ByteArray} (h : Got N c left ls) (x : ByteArray) (hx : hasN N x = true) (hl : left (nk x) = true) (hz : x.size ≤ maxLen) :
    Got N c (fun z => left z && !z.sameKey (nk x)) (if atN N x = c then ls ++ [x] else ls) := by
  have hm : ∀ s, s ∈ (if atN N x = c then ls ++ [x] else ls) ↔ s ∈ ls ∨ (s = x ∧ atN N x = c) := by
    intro s
    split
    · rename_i hc; simp [hc]
    · rename_i hc; simp [hc]
  refine ⟨fun s => ?_, fun s hs => ?_⟩
  · rw [hm, h.1]
    by_cases e : s = x
    · subst e
      simp [hx, hl, same_self]
    · simp [same_other e, e]
  · rcases (hm s).1 hs with hs | ⟨rfl, _⟩
    · exact h.2 s hs
    · exact hz
theorem Got.done {N : Dm} {c : Nat} {left : Lit → Bool} {ls : List ByteArray} (h : Got N c left ls) (hl : ∀ k, left k = false) : (∀ s, s ∈ ls ↔ hasN N s = true ∧ atN N s = c) ∧ ∀ s ∈ ls, s.size ≤ maxLen :=
  ⟨fun s => by rw [h.1]; simp [hl], h.2⟩
theorem Kp.grown {ρ : Option Nat} {w w' : World} (h : Kp (fun b => ρ = some b) w w') : w.grownBy w' ρ := ⟨h.os, h.tape, h.output, h.size, fun i hi hne => h.block i hi (fun e => hne e.symm)⟩
theorem one_new (w : World) (v : Value) (T : TypeId) (j : Nat) (u : Value) (h : [v][j]? = some u) : (w.alloc (.cells #[v] T)).cell? ((⟨w.heap.size, 0, none⟩ : Addr).add j) = some u := by
  rw [plain_add, Nat.zero_add, World.cell?_alloc_new w #[v] T j]
  match j, h with
  | 0, h => exact h
theorem size56 : (Tryz.prog.info? 111).map (·.size) = some 2 := by kernel_rfl
theorem info56 : ∃ j, Tryz.prog.info? 111 = some j ∧ j.size ≠ 0 := by
  have h := size56
  cases hj : Tryz.prog.info? 111 with
  | none => rw [hj] at h; cases h
  | some j => rw [hj] at h; simp at h; exact ⟨j, rfl, by omega⟩
theorem ptr_same (d : Nat) (w : World) : (binOp BinOp.eql 102 (.pointer (some ⟨d, 0, none⟩)) (.pointer (some ⟨d, 0, none⟩))).run Tryz.prog w = .ok (.bool true) w := by
  obtain ⟨j, hj, _⟩ := info56
  exact run_eql_ptr_same w ⟨d, 0, none⟩ Tryz.underlying102 hj
/-- A block is a file's. -/
def IsF (w : World) (d : Nat) : Prop := ∃ ca, w.heap[d]? = some (.cells ca 111 (0, 0))
theorem IsF.keep {w w' : World} {d : Nat} (h : IsF w d) (hb : Below w.heap.size w w') : IsF w' d := by
  obtain ⟨ca, h⟩ := h
  exact ⟨ca, (hb.block d (lt_of_heap h)).trans h⟩
theorem ptr_other {d c : Nat} {w : World} (hd : IsF w d) (hc : IsF w c) (hne : d ≠ c) : (binOp BinOp.eql 102 (.pointer (some ⟨d, 0, none⟩)) (.pointer (some ⟨c, 0, none⟩))).run Tryz.prog w = .ok (.bool false) w := by
  obtain ⟨j, hj, hs⟩ := info56
  obtain ⟨ca, h1⟩ := hd
  obtain ⟨cb, h2⟩ := hc
  exact run_eql_ptr_other w Tryz.underlying102 hj hs (fun e => hne (by cases e; rfl)) h1 h2
def NamesQ (n : Nat) (N : Dm) (c : Nat) (w : World) (e : Ending) (w' : World) : Prop :=
  ∃ (ls : List ByteArray) (ρ : Option Nat) (o : Option Addr) (cap : Nat), e = .returned (.slice o ls.length cap) ∧ PRow 9 1 ρ o cap ls.length (ls.map Value.string) w' ∧ (∀ r, ρ = some r → w.heap.size ≤ r) ∧ ((∀ s, s ∈ ls ↔ hasN N s = true ∧ atN N s = c) ∧ ∀ s ∈ ls, s.size ≤ maxLen) ∧ Below w.heap.size w w' ∧ ls.length ≤ n
def NamesR (N : Dm) (b n c : Nat) (w : World) (v : Value) (wr : World) : Prop :=
  ∃ (left : Lit → Bool) (cnt : Nat) (ls : List ByteArray) (ρ : Option Nat) (o : Option Addr) (cap : Nat), v = .slice o ls.length cap ∧ wr.ranges Tryz.prog 9 ptrE b w.heap.size n N left cnt ∧ ls.length + cnt ≤ n ∧ PRow 9 1 ρ o cap ls.length (ls.map Value.string) wr ∧ (∀ r, ρ = some r → w.heap.size < r) ∧ Got N c left ls ∧ Below w.heap.size w wr
set_option maxRecDepth 100000 in
set_option maxHeartbeats 2000000 in
theorem names_any (b n c : Nat) (N : Dm) (F : Fil N) (w : World) (hown : w.ownsMap Tryz.prog 9 ptrE b n N) (hn : n ≤ 1000000) (hF : ∀ s, hasN N s = true → IsF w (atN N s)) (hc : IsF w c) :
    Calls Tryz.prog 75 #[.map (some b), .pointer (some ⟨c, 0, none⟩)] w (NamesQ n N c w) := by
  have HN := Lib.hid hn
  have HF := Lib.hid hF
  have HC := Lib.hid hc
  clear hn hF hc
  go_enter Tryz.func75, Tryz.ntmps75
  go_wp2_with (first
    | (at_range; refine wpList_range_own _ rfl _ 97 rfl 9 102 law Tryz.underlying97 ptrE b n N rfl hown ?_; intro w0 hrg0 hg0 hs0; go_frame))
  have hlb := hown.lt
  go_loopw [5] (fun v wr => NamesR N b n c w v wr) (fun _ wr => wr.rangeLeft b w.heap.size)
  case atStart =>
    exact ⟨_, _, [], none, none, 0, rfl, hrg0, by have := hown.size_le; simpa using this, PRow.nil _ _ _, fun r hr => (by cases hr), Got.start N c, (Below.refl _ _).grown hg0 (Nat.le_refl _) (fun j hj => by cases hj)⟩
  case round =>
    obtain ⟨left, cnt, ls, ρ, o, cap, rfl, hrg, hcs, hrow, hρ, hG, hnx⟩ := hrel
    have HROW := Lib.hid hrow
    have Hρ := Lib.hid hρ
    have HG := Lib.hid hG
    have HNX := Lib.hid hnx
    have HCS := Lib.hid hcs
    have HRG := Lib.hid hrg
    clear hrow hρ hG hnx hcs hrg
    go_wp2_with (first
      | (at_next; refine wpList_next_file _ rfl _ rfl b w.heap.size n N F _ _ rfl HRG.out ?_ ?_))
    · intro hc0 hl0
      have HL := Lib.hid hl0
      clear hl0
      go_wp2
      go_ret
      exact ⟨ls, ρ, o, cap, rfl, HROW.out, fun r hr => Nat.le_of_lt (Hρ.out r hr), HG.out.done HL.out, HNX.out, by have := HCS.out; omega⟩
    · intro x w1 cnt1 hwx hlx hhx hrg1 hlt hg1 hs1 hen
      have HST := Lib.hid (HG.out.step x hhx hlx hwx)
      have HRG1 := Lib.hid hrg1
      have HG1 := Lib.hid hg1
      have HLT := Lib.hid hlt
      have HS1 := Lib.hid hs1
      clear hwx hlx hrg1 hlt hg1 hs1
      have HEQ : Hid (ρ ≠ some w.heap.size) := Lib.hid (fun e => by have := Hρ.out _ e; omega)
      have hb1 : Below w.heap.size w w1 := HNX.out.grown HG1.out HNX.out.size (fun j hj => by cases hj; exact Nat.le_refl _)
      have HFD := Lib.hid ((HF.out x hhx).keep hb1)
      have HFC := Lib.hid (HC.out.keep hb1)
      obtain ⟨d, hd⟩ : ∃ d, d = atN N x := ⟨_, rfl⟩
      rw [← hd] at hen HST HFD ⊢
      clear hd hb1 hhx
      by_cases hxc : d = c
      · subst hxc
        have HEq := ptr_same d w1
        have HST2 := Lib.hid (show Got N d (fun z => left z && !z.sameKey (nk x)) (ls ++ [x]) from by have := HST.out; rwa [if_pos rfl] at this)
        have HR1 := Lib.hid (show PRow 9 1 ρ o cap ls.length (ls.map Value.string) (w1.alloc (.cells #[.string x] 9)) from (HROW.out.keep (fun r hr => HG1.out.block r (by rcases HROW.out.2 with h | ⟨q, cur, h1, _, h4, _⟩; rw [h.2.2.1] at hr; cases hr; rw [h1] at hr; cases hr; exact lt_of_heap h4) (fun e => HEQ.out (by rw [hr, ← e]))) : PRow 9 1 ρ o cap ls.length (ls.map Value.string) w1).keep (fun r hr => (alloc_below w1 _).block r (by rcases HROW.out.2 with h | ⟨q, cur, h1, _, h4, _⟩; rw [h.2.2.1] at hr; cases hr; rw [h1] at hr; cases hr; have := lt_of_heap h4; have := HS1.out; omega)))
        clear HST
        go_wp2_with (first
          | (at_builtin; refine wpList_prow rfl _ _ 103 9 rfl Tryz.underlying103 (.string ⟨#[]⟩) 1 16 info9 rfl (by omega) (by omega) ρ o cap ls.length (ls.map Value.string) HR1.out (by have := HCS.out; have := HN.out; omega) ⟨w1.heap.size, 0, none⟩ [.string x] rfl (one_new w1 _ 9) (fun u hu => (by simp at hu; subst hu; rfl)) rfl rfl ?_; intro o2 cap2 w2 ρ2 hrow2 hnx2 hk2; have HROW2 := Lib.hid hrow2; have HNX2 := Lib.hid hnx2; have HK2 := Lib.hid hk2; clear hrow2 hnx2 hk2; go_frame))
        go_roundw
        case rel =>
          have hal := alloc_below w1 (.cells #[.string x] 9)
          have hlb1 := HNX.out.size
          have hρ' : ∀ r, ρ = some r → w.heap.size ≤ r := fun r hr => Nat.le_of_lt (Hρ.out r hr)
          have hr2 : w2.ranges Tryz.prog 9 ptrE b w.heap.size n N (fun z => left z && !z.sameKey (nk x)) cnt1 := ((HRG1.out.alloc _).kept HK2.out.grown (fun e => by have := Hρ.out _ e.symm; omega) (fun e => HEQ.out e.symm))
          refine ⟨_, cnt1, ls ++ [x], ρ2, o2, cap2, by simp, hr2, by have := HCS.out; have := HLT.out; simp; omega, by simpa using HROW2.out, ?_, HST2.out, ?_⟩
          · intro r hr
            rcases HNX2.out with e | ⟨q, e, hq⟩
            · exact Hρ.out r (by rw [← e]; exact hr)
            · rw [e] at hr; cases hr
              have := HS1.out
              have h3 : (w1.alloc (.cells #[.string x] 9)).heap.size = w1.heap.size + 1 := by simp
              have := (HRG1.out).lt
              omega
          · exact ((HNX.out.grown HG1.out hlb1 (fun j hj => by cases hj; exact Nat.le_refl _)).trans ((hal.mono (by have := HS1.out; omega)))).grown HK2.out.grown (by have := HS1.out; simp; omega) (fun j hj => hρ' j hj)
        case measure =>
          have hr2 : w2.ranges Tryz.prog 9 ptrE b w.heap.size n N (fun z => left z && !z.sameKey (nk x)) cnt1 := ((HRG1.out.alloc _).kept HK2.out.grown (fun e => by have := Hρ.out _ e.symm; omega) (fun e => HEQ.out e.symm))
          rw [hr2.left_eq, HRG.out.left_eq]; exact HLT.out
      · have HEq := ptr_other HFD.out HFC.out hxc
        have HST2 := Lib.hid (show Got N c (fun z => left z && !z.sameKey (nk x)) ls from by have := HST.out; rwa [if_neg hxc] at this)
        clear HST
        go_wp2
        go_roundw
        case rel =>
          have hrow1 : PRow 9 1 ρ o cap ls.length (ls.map Value.string) w1 := HROW.out.keep (fun r hr => HG1.out.block r (by rcases HROW.out.2 with h | ⟨q, cur, h1, _, h4, _⟩; rw [h.2.2.1] at hr; cases hr; rw [h1] at hr; cases hr; exact lt_of_heap h4) (fun e => HEQ.out (by rw [hr, ← e])))
          exact ⟨_, cnt1, ls, ρ, o, cap, rfl, HRG1.out, by have := HCS.out; have := HLT.out; omega, hrow1, Hρ.out, HST2.out, HNX.out.grown HG1.out HNX.out.size (fun j hj => by cases hj; exact Nat.le_refl _)⟩
        case measure => rw [HRG1.out.left_eq, HRG.out.left_eq]; exact HLT.out
end Go.Proofs.YtpcmmejlmhbcdaaGreat.Dk

namespace Go.Proofs.YtpcmmejlmhbcdaaGreat.Dk
open Go.RowKit Go.Maps

def ptr (d : Nat) : Value := .pointer (some ⟨d, 0, none⟩)
def IdxQ (fs : List Nat) (c : Nat) (w : World) (e : Ending) (w' : World) : Prop := ∃ i : Int, e = .returned (.int .i64 i) ∧ (0 ≤ i ↔ c ∈ fs) ∧ -1 ≤ i ∧ i ≤ 1000000 ∧ w' = w
set_option maxRecDepth 100000 in
set_option maxHeartbeats 2000000 in
theorem index_any (fs : List Nat) (ρ : Option Nat) (o : Option Addr) (cap c : Nat) (w : World) (hr : PRow 102 1 ρ o cap fs.length (fs.map ptr) w) (hF : ∀ d ∈ fs, IsF w d) (hc : IsF w c) (hl : fs.length ≤ 1000000) :
    Calls Tryz.prog 105 #[.slice o fs.length cap, .pointer (some ⟨c, 0, none⟩)] w (IdxQ fs c w) := by
  have HR := Lib.hid hr
  have HF := Lib.hid hF
  have HC := Lib.hid hc
  obtain ⟨m, hm⟩ : ∃ m, m = fs.length := ⟨_, rfl⟩
  rw [← hm]
  have hl' : m ≤ 1000000 := by omega
  have HM := Lib.hid hm
  clear hr hF hc hl hm
  go_enter Tryz.func105, Tryz.ntmps105
  go_wp2
  go_loop [8] (fun v => ∃ k : Nat, k ≤ m ∧ v = .int .i64 k ∧ Hid (∀ j, j < k → fs[j]? ≠ some c)) (fun v => m - (intOf v).toNat)
  case atStart => exact ⟨0, by omega, rfl, Lib.hid (fun j hj => by omega)⟩
  case round =>
    obtain ⟨k, hk, rfl, hn⟩ := hrel
    by_cases hlt : k < m
    · have hkl : k < fs.length := by rw [← HM.out]; exact hlt
      obtain ⟨d, hd⟩ : ∃ d, d = fs[k] := ⟨_, rfl⟩
      obtain ⟨r, hρ, ho, hcell⟩ := HR.out.cell k (ptr d) (by rw [List.getElem?_map, List.getElem?_eq_getElem hkl, hd]; rfl)
      have hfd := HF.out d (by rw [hd]; exact List.getElem_mem hkl)
      have HD := Lib.hid hd
      subst ho
      unfold ptr at hcell
      have q1 : (0 : Int) ≤ (k : Int) := by omega
      have q2 : (k : Int) < (m : Int) := by omega
      by_cases hdc : d = c
      · have HEq := ptr_same d w
        have HMEM : Hid (c ∈ fs) := Lib.hid (by rw [← hdc, hd]; exact List.getElem_mem hkl)
        subst hdc
        clear hfd hd hρ
        go_wp2
        go_ret
        exact ⟨k, rfl, ⟨fun _ => HMEM.out, fun _ => by omega⟩, by omega, by omega, rfl⟩
      · have HEq := ptr_other HC.out hfd (fun e => hdc e.symm)
        clear hfd hd hρ
        go_wp2
        go_round
        case rel =>
          refine ⟨k + 1, by omega, by go_num, Lib.hid (fun j hj e => ?_)⟩
          by_cases hjk : j = k
          · subst hjk
            rw [List.getElem?_eq_getElem (by rw [← HM.out]; exact hlt)] at e
            exact hdc (by rw [HD.out]; exact Option.some.inj e)
          · exact hn.out j (by omega) e
        case measure => simp [intOf]; omega
    · have hkm : k = m := by omega
      subst hkm
      go_wp2
      go_ret
      refine ⟨-1, rfl, ⟨fun h => by omega, fun h => ?_⟩, by omega, by omega, rfl⟩
      obtain ⟨j, hj, e⟩ := List.getElem_of_mem h
      exact absurd (by rw [List.getElem?_eq_getElem hj, e]) (hn.out j (by rw [HM.out]; exact hj))
theorem contains_any (fs : List Nat) (ρ : Option Nat) (o : Option Addr) (cap c : Nat) (w : World) (hr : PRow 102 1 ρ o cap fs.length (fs.map ptr) w) (hF : ∀ d ∈ fs, IsF w d) (hc : IsF w c) (hl : fs.length ≤ 1000000) :
    Calls Tryz.prog 77 #[.slice o fs.length cap, .pointer (some ⟨c, 0, none⟩)] w fun e w' => e = .returned (.bool (decide (c ∈ fs))) ∧ w' = w := by
  have K1 := Lib.hid (index_any fs ρ o cap c w hr hF hc hl)
  clear hr hF hc hl
  generalize fs.length = m at *
  go_enter Tryz.func77, Tryz.ntmps77
  go_wp2_with (first
    | (go_at_call 105; ((with_reducible refine (K1.out).mono ?_); rintro e w' ⟨i, rfl, hi, h1, h2, rfl⟩)))
  go_ret
  refine ⟨?_, rfl⟩
  simp [hi]
end Go.Proofs.YtpcmmejlmhbcdaaGreat.Dk
