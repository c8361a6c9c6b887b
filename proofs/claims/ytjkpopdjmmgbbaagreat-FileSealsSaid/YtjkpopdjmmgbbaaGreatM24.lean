/- The document's Short.; The document's Seal and Open; the law FileSeals.; The law FileSeals. -/
import Derived.Test.YtjkpopdjmmgbbaaGreatM09
import Derived.Test.YtjkpopdjmmgbbaaGreatM10
import Derived.Test.YtjkpopdjmmgbbaaGreatM23
set_option linter.unusedVariables false
set_option linter.unusedSimpArgs false
namespace Go.Proofs.YtjkpopdjmmgbbaaGreat.Cd
open Go.RowKit

set_option maxRecDepth 1000000 in
set_option maxHeartbeats 1000000 in
theorem rshort_any (n : Nat) (hn : n ≤ 18446744073709551615) (w : World) :
    Calls Tryz.prog 33 #[.int .u64 n] w fun e w' => e = .returned (.string (str (sh n))) ∧ Below w.heap.size w w' := by
  have HN := Lib.hid hn
  clear hn
  go_enter Tryz.func33, Tryz.ntmps33
  go_wp2
  go_loopw [0, 3] (fun nv sv wr => ∃ (m : Nat) (acc : List UInt8), nv = .int .u64 m ∧ sv = .string (str acc) ∧ acc ++ sh m = sh n ∧ m ≤ n ∧ Below w.heap.size w wr) (fun nv _ _ => (intOf nv).toNat)
  case atStart => exact ⟨n, [], rfl, rfl, rfl, Nat.le_refl _, Below.refl _ _⟩
  case round =>
    obtain ⟨m, acc, rfl, rfl, hacc, hmn, hb⟩ := hrel
    have hal : acc.length + 1 ≤ 10 := by
      have h1 := congrArg List.length hacc
      have h2 := sh_pos m
      have h3 := sh_ten n HN.out
      simp at h1; omega
    have hbs := hb.size
    have HA := Lib.hid hacc
    have HM := Lib.hid hmn
    clear hacc hmn
    by_cases hm : 127 < m
    · obtain ⟨r, hr⟩ : ∃ r, r = m % 128 := ⟨_, rfl⟩
      have hr2 : r ≤ 127 := by omega
      have hri : (m : Int) % 128 = (r : Int) := by rw [hr]; simp
      obtain ⟨q, hq⟩ : ∃ q, q = m / 128 := ⟨_, rfl⟩
      have hwq : IntKind.u64.wrap ((m : Int) / 128) = (q : Int) := by
        rw [IntWalk.u64_in _ (by have := HM.out; have := HN.out; omega), hq]; simp
      obtain ⟨x, hx⟩ : ∃ x, x = UInt8.ofNat (r + 128) := ⟨_, rfl⟩
      have hsh : acc ++ [x] ++ sh q = sh n := by
        rw [← HA.out, sh_more m hm, hx, hr, hq]; simp
      have HS := Lib.hid hsh
      have HQ := Lib.hid (show q ≤ n ∧ q < m by have := HM.out; omega)
      have hcv := run_one_byte wr ((r : Int) + 128) (r + 128) (by simp) (by omega)
      rw [← hx] at hcv
      have hadd := run_str_add acc [x] (by simp; omega)
      clear hr hsh hx hq
      go_wp2
      go_roundw
      case rel => exact ⟨q, acc ++ [x], rfl, rfl, HS.out, HQ.out.1, hb.alloc hbs _⟩
      case measure => have := HQ.out.2; simp [intOf]; omega
    · obtain ⟨x, hx⟩ : ∃ x, x = UInt8.ofNat m := ⟨_, rfl⟩
      have hcv := run_one_byte wr (m : Int) m rfl (by omega)
      rw [← hx] at hcv
      have hadd := run_str_add acc [x] (by simp; omega)
      have hsh : acc ++ [x] = sh n := by rw [← HA.out, sh_last m hm, hx]
      have HS := Lib.hid hsh
      clear hsh hx
      go_wp2
      go_ret
      refine ⟨?_, hb.alloc hbs _⟩
      rw [← HS.out]; rfl
end Go.Proofs.YtjkpopdjmmgbbaaGreat.Cd

namespace Go.Proofs.YtjkpopdjmmgbbaaGreat.Fi
open Go.RowKit

def Sums : Prop := ∀ (l : List UInt8), l.length ≤ 190000 → ∀ w, Calls Tryz.prog 34 #[.string (W.str l)] w fun e w' => e = .returned (.string (W.str (Dg.sumL l))) ∧ Below w.heap.size w w'
set_option maxRecDepth 1000000 in
set_option maxHeartbeats 2000000 in
theorem rseal_any (HS : Hid Sums) (t : ByteArray) (ht : t.size ≤ 100000) (w : World) : Calls Tryz.prog 10 #[.string t] w fun e w' => e = .returned (.string (W.str (sealL t.data.toList))) ∧ Below w.heap.size w w' := by
  obtain ⟨l, hl⟩ : ∃ l, l = t.data.toList := ⟨_, rfl⟩
  obtain ⟨n, hn⟩ : ∃ n, n = t.size := ⟨_, rfl⟩
  have hln : l.length = n := by rw [hl, hn]; rfl
  have htl : t = W.str l := by rw [hl, str_list]
  have K33 : Hid (∀ w, Calls Tryz.prog 33 #[.int .u64 (n : Int)] w fun e w' => e = .returned (.string (W.str (Cd.sh n))) ∧ Below w.heap.size w w') := Lib.hid (fun w => Cd.rshort_any n (by omega) w)
  have hpl := preL_len l (by omega)
  have A1 : ∀ W0, (Op.stringOp .add ⟨#[79, 84]⟩ (W.str (Cd.sh n))).run Tryz.prog W0 = .ok (.string (W.str ([79, 84] ++ Cd.sh n))) W0 := fun W0 => W.run_str_add [79, 84] _ (by have := sh_len10 n (by omega); simp; omega) W0
  have A2 : ∀ W0, (Op.stringOp .add (W.str ([79, 84] ++ Cd.sh n)) t).run Tryz.prog W0 = .ok (.string (W.str (preL l))) W0 := fun W0 => by
    rw [htl, W.run_str_add _ _ (by have := sh_len10 n (by omega); simp; omega) W0]
    unfold preL; rw [hln]
  have K34 : Hid (∀ w, Calls Tryz.prog 34 #[.string (W.str (preL l))] w fun e w' => e = .returned (.string (W.str (Dg.sumL (preL l)))) ∧ Below w.heap.size w w') := Lib.hid (fun w => HS.out (preL l) (by omega) w)
  have hz : (W.str (Dg.sumL (preL l))).size = 32 := by rw [W.size_str, Dg.sumL_len]
  have hx : (W.str (Dg.sumL (preL l))).extract 0 16 = W.str ((Dg.sumL (preL l)).take 16) := by rw [extract_str]; rfl
  have A3 : ∀ W0, (Op.stringOp .add (W.str (preL l)) (W.str ((Dg.sumL (preL l)).take 16))).run Tryz.prog W0 = .ok (.string (W.str (sealL l))) W0 := fun W0 => by
    rw [W.run_str_add _ _ (by simp; omega) W0]; rfl
  rw [← hl]
  have e4 : IntKind.u64.wrap (n : Int) = (n : Int) := IntWalk.u64_in _ ⟨by omega, by omega⟩
  have e5 : (16 : Int) ≤ ((W.str (Dg.sumL (preL l))).size : Int) := by rw [hz]; omega
  generalize W.str ((Dg.sumL (preL l)).take 16) = o at *
  generalize W.str (Dg.sumL (preL l)) = q at *
  clear hl hln htl hpl hz
  subst hn
  generalize W.str (sealL l) = s3 at *
  generalize W.str (preL l) = s2 at *
  generalize W.str ([79, 84] ++ Cd.sh t.size) = s1 at *
  generalize W.str (Cd.sh t.size) = s0 at *
  go_enter Tryz.func10, Tryz.ntmps10
  go_wp2_with (first
    | (go_at_call 33; ((with_reducible refine (K33.out _).mono ?_); rintro e w1 ⟨rfl, hb1⟩))
    | (go_at_call 34; ((with_reducible refine (K34.out _).mono ?_); rintro e w2 ⟨rfl, hb2⟩)))
  go_ret
  exact ⟨rfl, hb1.trans (hb2.mono hb1.size)⟩

theorem opn_inv {s t : List UInt8} (h : opnL s = some t) : sealL t = s := by
  unfold opnL at h
  split at h
  · split at h
    · split at h
      · rename_i e
        cases h
        exact e
      · cases h
    · cases h
  · cases h
/-- What lies k bytes behind a sealed text's head, ahead of its sum. -/
def midL (s : List UInt8) (k : Nat) : List UInt8 := (s.drop (2 + k)).take (s.length - 16 - (2 + k))
theorem hit_is {s t : List UInt8} (h : opnL s = some t) (hs : s.length ≤ 100000) : 1 ≤ (Cd.sh t.length).length ∧ (Cd.sh t.length).length ≤ 10 ∧ 2 + (Cd.sh t.length).length + 16 ≤ s.length ∧ midL s (Cd.sh t.length).length = t := by
  have hi := opn_inv h
  have hl := opn_len h
  have h10 := sh_len10 t.length (by omega)
  have h1 : 1 ≤ (Cd.sh t.length).length := by
    rw [Cd.sh]
    split <;> simp
  have hlen : s.length = 2 + (Cd.sh t.length).length + t.length + 16 := by
    rw [← hi, sealL_len]
    unfold preL
    simp only [List.length_append, List.length_cons, List.length_nil] <;> omega
  refine ⟨h1, by omega, by omega, ?_⟩
  unfold midL
  have e1 : s.length - 16 - (2 + (Cd.sh t.length).length) = t.length := by omega
  rw [e1, ← hi]
  unfold sealL preL
  have e2 : [79, 84] ++ Cd.sh t.length ++ t ++ (Dg.sumL ([79, 84] ++ Cd.sh t.length ++ t)).take 16 = ([79, 84] ++ Cd.sh t.length) ++ (t ++ (Dg.sumL ([79, 84] ++ Cd.sh t.length ++ t)).take 16) := by simp [List.append_assoc]
  rw [e2, show 2 + (Cd.sh t.length).length = ([79, 84] ++ Cd.sh t.length).length by simp; omega, List.drop_left, List.take_left]
theorem hit_one {s : List UInt8} {k : Nat} (hs : s.length ≤ 100000) (h : sealL (midL s k) = s) : opnL s = some (midL s k) := by
  have hl : (midL s k).length ≤ 100000 := by unfold midL; rw [List.length_take, List.length_drop]; omega
  have := opn_seal (midL s k) hl
  rwa [h] at this
def ropV (s : ByteArray) : Value :=
  match opnL s.data.toList with
  | some t => .tuple #[.string (W.str t), .bool true]
  | none => .tuple #[.string ⟨#[]⟩, .bool false]
set_option maxRecDepth 1000000 in
set_option maxHeartbeats 4000000 in
theorem ropen_any (HS : Hid Sums) (s : ByteArray) (hs : s.size ≤ 100000) (w : World) : Calls Tryz.prog 9 #[.string s] w fun e w' => e = .returned (ropV s) ∧ Below w.heap.size w w' := by
  obtain ⟨l, hl⟩ : ∃ l, l = s.data.toList := ⟨_, rfl⟩
  have hlen : l.length = s.size := by rw [hl]; rfl
  have hsl : s = W.str l := by rw [hl, str_list]
  have HL := Lib.hid (And.intro hl (And.intro hlen hsl))
  have HZ := Lib.hid hs
  obtain ⟨m, hm⟩ : ∃ m, m = s.size := ⟨_, rfl⟩
  have HM := Lib.hid hm
  have qm : (m : Int) ≤ 100000 := by omega
  have qm0 : (0 : Int) ≤ (m : Int) := by omega
  have hms : (s.size : Int) = (m : Int) := by omega
  obtain ⟨R, hR⟩ : ∃ R, R = ropV s := ⟨_, rfl⟩
  have HR := Lib.hid hR
  rw [← hR]
  clear hl hlen hsl hs hR
  go_enter Tryz.func9, Tryz.ntmps9
  go_wp2
  go_loopw [4] (fun v wr => ∃ k : Nat, 1 ≤ k ∧ k ≤ 11 ∧ v = .int .i64 (k : Int) ∧ Hid (∀ j, 1 ≤ j → j < k → 2 + j + 16 ≤ m → sealL (midL l j) ≠ l) ∧ Hid (Below w.heap.size w wr)) (fun v _ => 20 - (intOf v).toNat)
  case atStart => exact ⟨1, by omega, by omega, rfl, Lib.hid (fun j h1 h2 => by omega), Lib.hid (Below.refl _ _)⟩
  case round =>
    obtain ⟨k, hk1, hk, rfl, HN, HB⟩ := hrel
    by_cases h10 : k ≤ 10
    · by_cases hfit : 2 + k + 16 ≤ m
      · obtain ⟨p, hp⟩ : ∃ p, p = 2 + k := ⟨_, rfl⟩
        obtain ⟨e, he⟩ : ∃ e, e = m - 16 := ⟨_, rfl⟩
        obtain ⟨p2, hp2⟩ : ∃ p2, p2 = 2 + k + 16 := ⟨_, rfl⟩
        have i1 : (2 : Int) + (k : Int) = (p : Int) := by omega
        have i2 : (p : Int) + 16 = (p2 : Int) := by omega
        have i3 : (p2 : Int) ≤ (m : Int) := by omega
        have i4 : (m : Int) - 16 = (e : Int) := by omega
        have i5 : (p : Int) ≤ (e : Int) := by omega
        have i6 : (e : Int) ≤ (m : Int) := by omega
        have i7 : (k : Int) ≤ 10 := by omega
        have hx : s.extract p e = W.str (midL l k) := by
          rw [extract_str, ← HL.out.1]
          unfold midL
          rw [hp, he, HL.out.2.1, ← HM.out]
        have hml : (midL l k).length ≤ 100000 := by unfold midL; rw [List.length_take, List.length_drop, HL.out.2.1]; have := HZ.out; omega
        have K10 := Lib.hid (fun w => rseal_any HS (W.str (midL l k)) (by rw [W.size_str]; exact hml) w)
        have hmm : (W.str (midL l k)).data.toList = midL l k := rfl
        rw [hmm] at K10
        by_cases hit : sealL (midL l k) = l
        · have hv : ropV s = .tuple #[.string (W.str (midL l k)), .bool true] := by
            unfold ropV
            rw [← HL.out.1, hit_one (by rw [HL.out.2.1]; exact HZ.out) hit]
          have hse : W.str (sealL (midL l k)) = s := by rw [hit, ← HL.out.2.2]
          rw [hse] at K10
          have HV := Lib.hid (HR.out.trans hv)
          generalize W.str (midL l k) = t at *
          clear hit hv hse hmm hml hp he hp2 hfit h10 HL HZ
          go_wp2_with (first
            | (go_at_call 10; ((with_reducible refine (K10.out _).mono ?_); rintro e w1 ⟨rfl, hb1⟩)))
          go_ret2
          exact ⟨congrArg Ending.returned HV.out.symm, HB.out.trans (hb1.mono HB.out.size)⟩
        · have hne : W.str (sealL (midL l k)) ≠ s := fun e => hit ((show sealL (midL l k) = s.data.toList from congrArg (fun b : ByteArray => b.data.toList) e).trans HL.out.1.symm)
          have hnb : ((W.str (sealL (midL l k))).toList == s.toList) = false := by
            rw [beq_eq_false_iff_ne]
            intro e
            rw [Lib.toList_data, Lib.toList_data] at e
            exact hne (ByteArray.ext (Array.ext' e))
          have HN2 : Hid (∀ j, 1 ≤ j → j < k + 1 → 2 + j + 16 ≤ m → sealL (midL l j) ≠ l) := Lib.hid (fun j j1 j2 j3 => by
            by_cases e : j = k
            · subst e; exact hit
            · exact HN.out j j1 (by omega) j3)
          generalize W.str (sealL (midL l k)) = y at *
          generalize W.str (midL l k) = t at *
          clear hit hne hmm hml hp he hp2 hfit HL HZ
          go_wp2_with (first
            | (go_at_call 10; ((with_reducible refine (K10.out _).mono ?_); rintro e w1 ⟨rfl, hb1⟩; have HB1 := Lib.hid (HB.out.trans (hb1.mono HB.out.size)); clear hb1)))
          go_roundw
          case rel => exact ⟨k + 1, by omega, by omega, by go_num, HN2, HB1⟩
          case measure => simp [intOf]; omega
      · have hv : ropV s = .tuple #[.string ⟨#[]⟩, .bool false] := by
          unfold ropV
          rw [← HL.out.1]
          cases ho : opnL l with
          | none => rfl
          | some t =>
            obtain ⟨a1, a2, a3, a4⟩ := hit_is ho (by rw [HL.out.2.1]; exact HZ.out)
            exfalso
            have hlm : l.length = m := by rw [HL.out.2.1, HM.out]
            exact HN.out _ a1 (by omega) (by omega) (by rw [a4]; exact opn_inv ho)
        have HV := Lib.hid (HR.out.trans hv)
        obtain ⟨p, hp⟩ : ∃ p, p = 2 + k := ⟨_, rfl⟩
        obtain ⟨p2, hp2⟩ : ∃ p2, p2 = 2 + k + 16 := ⟨_, rfl⟩
        have i1 : (2 : Int) + (k : Int) = (p : Int) := by omega
        have i2 : (p : Int) + 16 = (p2 : Int) := by omega
        have i3 : ¬ (p2 : Int) ≤ (m : Int) := by omega
        have i7 : (k : Int) ≤ 10 := by omega
        clear hv hp hp2 hfit h10 HL HZ
        go_wp2
        go_ret2
        exact ⟨congrArg Ending.returned HV.out.symm, HB.out⟩
    · have hv : ropV s = .tuple #[.string ⟨#[]⟩, .bool false] := by
        unfold ropV
        rw [← HL.out.1]
        cases ho : opnL l with
        | none => rfl
        | some t =>
          obtain ⟨a1, a2, a3, a4⟩ := hit_is ho (by rw [HL.out.2.1]; exact HZ.out)
          exfalso
          have hlm : l.length = m := by rw [HL.out.2.1, HM.out]
          exact HN.out _ a1 (by omega) (by omega) (by rw [a4]; exact opn_inv ho)
      have HV := Lib.hid (HR.out.trans hv)
      have i7 : ¬ (k : Int) ≤ 10 := by omega
      clear hv h10 HL HZ
      go_wp2
      go_ret2
      exact ⟨congrArg Ending.returned HV.out.symm, HB.out⟩
end Go.Proofs.YtjkpopdjmmgbbaaGreat.Fi

namespace Go.Proofs.YtjkpopdjmmgbbaaGreat.Fi
open Go.RowKit
set_option maxRecDepth 1000000 in
set_option maxHeartbeats 4000000 in
theorem seals_walk (HS : Hid Sums) (a0 a1 : ByteArray) (w : World) : Calls Tryz.prog 3 #[.string a0, .string a1] w fun e w' => e = .returned (.bool true) ∧ Below w.heap.size w w' := by
  have K6 := Lib.hid (awake_any w)
  by_cases hg : 3000 < a0.size ∨ 3000 < a1.size
  · have q : (3000 : Int) < max (a0.size : Int) (a1.size : Int) := by omega
    clear hg
    go_enter Tryz.func3, Tryz.ntmps3
    go_wp2_with (first | (go_at_call 6; ((with_reducible refine (K6.out).mono ?_); rintro e w1 ⟨rfl, hb1⟩)))
    go_ret
    exact ⟨rfl, hb1⟩
  · have q : ¬ (3000 : Int) < max (a0.size : Int) (a1.size : Int) := by omega
    have K7 := Lib.hid (fun w => seal_any a0 (by omega) w)
    have K10 := Lib.hid (fun w => rseal_any HS a0 (by omega) w)
    have hl0 : a0.data.toList.length = a0.size := rfl
    have hz : (W.str (sealL a0.data.toList)).size ≤ 100000 := by
      rw [W.size_str, sealL_len]
      have := (preL_len a0.data.toList (by omega)).1
      omega
    have K8a := Lib.hid (fun w => open_any (W.str (sealL a0.data.toList)) hz w)
    have ho : opV (W.str (sealL a0.data.toList)) = .tuple #[.string a0, .int .i64 0] := by
      unfold opV
      have : opnL (W.str (sealL a0.data.toList)).data.toList = some a0.data.toList := opn_seal a0.data.toList (by omega)
      rw [this]
      show Value.tuple #[.string (W.str a0.data.toList), .int .i64 0] = _
      rw [str_list]
    rw [ho] at K8a
    have K8b := Lib.hid (fun w => open_any a1 (by omega) w)
    have K9 := Lib.hid (fun w => ropen_any HS a1 (by omega) w)
    have hb : opV a1 = (match opnL a1.data.toList with
      | some t => .tuple #[.string (W.str t), .int .i64 0]
      | none => .tuple #[.string ⟨#[]⟩, .int .i64 23]) := rfl
    have hr : ropV a1 = (match opnL a1.data.toList with
      | some t => .tuple #[.string (W.str t), .bool true]
      | none => .tuple #[.string ⟨#[]⟩, .bool false]) := rfl
    generalize W.str (sealL a0.data.toList) = t at *
    clear hl0 hz ho hg
    cases hc : opnL a1.data.toList with
    | none =>
      rw [hc] at hb hr
      rw [hb] at K8b
      rw [hr] at K9
      clear hb hr hc
      go_enter Tryz.func3, Tryz.ntmps3
      go_wp2_with (first
        | (go_at_call 6; ((with_reducible refine (K6.out).mono ?_); rintro e w1 ⟨rfl, hb1⟩))
        | (go_at_call 7; ((with_reducible refine (K7.out _).mono ?_); rintro e w2 ⟨rfl, hb2⟩))
        | (go_at_call 8; ((with_reducible refine (K8a.out _).mono ?_); rintro e w3 ⟨rfl, hb3⟩))
        | (go_at_call 8; ((with_reducible refine (K8b.out _).mono ?_); rintro e w4 ⟨rfl, hb4⟩))
        | (go_at_call 9; ((with_reducible refine (K9.out _).mono ?_); rintro e w5 ⟨rfl, hb5⟩))
        | (go_at_call 10; ((with_reducible refine (K10.out _).mono ?_); rintro e w6 ⟨rfl, hb6⟩)))
      go_ret
      have c2 := hb1.trans (hb2.mono hb1.size)
      have c3 := c2.trans (hb3.mono c2.size)
      have c4 := c3.trans (hb4.mono c3.size)
      have c5 := c4.trans (hb5.mono c4.size)
      exact ⟨rfl, c5.trans (hb6.mono c5.size)⟩
    | some y =>
      rw [hc] at hb hr
      rw [hb] at K8b
      rw [hr] at K9
      clear hb hr hc
      generalize W.str y = ys at *
      go_enter Tryz.func3, Tryz.ntmps3
      go_wp2_with (first
        | (go_at_call 6; ((with_reducible refine (K6.out).mono ?_); rintro e w1 ⟨rfl, hb1⟩))
        | (go_at_call 7; ((with_reducible refine (K7.out _).mono ?_); rintro e w2 ⟨rfl, hb2⟩))
        | (go_at_call 8; ((with_reducible refine (K8a.out _).mono ?_); rintro e w3 ⟨rfl, hb3⟩))
        | (go_at_call 8; ((with_reducible refine (K8b.out _).mono ?_); rintro e w4 ⟨rfl, hb4⟩))
        | (go_at_call 9; ((with_reducible refine (K9.out _).mono ?_); rintro e w5 ⟨rfl, hb5⟩))
        | (go_at_call 10; ((with_reducible refine (K10.out _).mono ?_); rintro e w6 ⟨rfl, hb6⟩)))
      go_ret
      have c2 := hb1.trans (hb2.mono hb1.size)
      have c3 := c2.trans (hb3.mono c2.size)
      have c4 := c3.trans (hb4.mono c3.size)
      have c5 := c4.trans (hb5.mono c4.size)
      exact ⟨rfl, c5.trans (hb6.mono c5.size)⟩
end Go.Proofs.YtjkpopdjmmgbbaaGreat.Fi
