/- config: the document's Bytes.; config: the law's ports.; config: reading: a value of a kind.; config: reading: the values of a list.; config: reading: a weight.; spot.Of.; word.Get of two bytes, walked. -/
import Derived.Test.YtjfjliobencppaaGreatDoorQ30
import Derived.Test.YtjfjliobencppaaGreatDoorQ31
import Derived.Laws.OwnMore
import Derived.Test.YtjfjliobencppaaGreatDoorQ27
import Derived.Laws.IdiomCopy
import Derived.Test.YtjfjliobencppaaGreatDoorQ24
import Derived.Laws.BitsAllLaws
set_option linter.unusedVariables false
set_option linter.unusedSimpArgs false
namespace Go.Proofs.YtjfjliobencppaaGreatDoor.Cf
open Go.RowKit

theorem Ep.trv_tr {e : Ep} (h : e.ok) (h0 : 0 ≤ e.w) : e.trv = e.tr := by
  have h1 := h.2.2
  unfold Ep.trv Ep.tr Ep.u
  rw [show (e.w % 18446744073709551616) = e.w by omega]
theorem Co.trv_tr {c : Co} (h : ∀ x ∈ c.c, ∀ e ∈ x.e, e.ok) (hb : c.below = false) : c.trv = c.tr := by
  unfold Co.trv Co.tr
  have : c.c.map Cl.trv = c.c.map Cl.tr := List.map_congr_left fun x hx => by
    unfold Cl.trv Cl.tr
    have : x.e.map Ep.trv = x.e.map Ep.tr := List.map_congr_left fun e he => by
      refine Ep.trv_tr (h x hx e he) ?_
      have h1 := List.any_eq_false.1 hb x hx
      have h2 := List.any_eq_false.1 (Bool.eq_false_iff.2 h1) e he
      have h3 : ¬ e.w < 0 := fun h => h2 (decide_eq_true h)
      omega
    rw [this]
  rw [this]

set_option maxRecDepth 100000 in
set_option maxHeartbeats 4000000 in
theorem rbytes_of {w : World} {c0 c1 c2 : Value} {c : Co} (h : CoIn w c0 c1 c2 c) (hs : c.sized) (hz : (txtT c.tr).length ≤ 100000000) (hVal : ∀ wz, Below w.heap.size w wz → Calls Tryz.prog 28 #[.agg #[c0, c1, c2]] wz (WrP c.trv wz)) :
    Calls Tryz.prog 10 #[.agg #[c0, c1, c2]] w fun e w' => e = .returned (.tuple #[.string c.out, .int .i64 (c.err : Nat)]) ∧ Below w.heap.size w w' := by
  have KM : Hid (∀ wz, Below w.heap.size w wz → Calls Tryz.prog 26 #[.agg #[c0, c1, c2]] wz (TrP c.many wz)) := Lib.hid (fun wz hb => rmany_any (h.later hb) hs)
  have KV := Lib.hid hVal
  have KP : Hid (c.below = false → ∀ wz o n cap (P : Nat → Prop), VInP wz P c.trv (.int .i64 3) (.int .u64 0) (.string ⟨#[]⟩) (.slice o n cap) → Calls Tryz.prog 27 #[.agg #[.int .i64 3, .int .u64 0, .string ⟨#[]⟩, .slice o n cap]] wz fun e w' => e = .returned (.tuple #[.string (putS c.tr), .int .i64 (putC c.tr : Nat)]) ∧ Below wz.heap.size wz w') := Lib.hid (fun hb wz o n cap P hv => by
    have he : c.trv = c.tr := Co.trv_tr (fun x hx e he => by
      obtain ⟨_, _, _, h4⟩ := h
      obtain ⟨o, cap, b, off, _, _, h5⟩ := h4
      obtain ⟨i, hi, rfl⟩ := List.getElem_of_mem hx
      obtain ⟨cs, _, v, _, _, o2, cap2, b2, off2, _, _, h6⟩ := h5 i hi
      obtain ⟨j, hj, rfl⟩ := List.getElem_of_mem he
      obtain ⟨cs2, _, _, hok⟩ := h6 j hj
      exact hok) hb
    rw [he] at hv
    exact rput_value c.tr 3 0 ⟨#[]⟩ o n cap wz (by have := c.deep; omega) hz (VInP.plain _ hv))
  have HIN := Lib.hid h
  have HLEN := Lib.hid (show c.l.length ≤ 1000000 ∧ c.c.length ≤ 1000000 ∧ (∀ x ∈ c.l, x.r.length ≤ 1000000) ∧ ∀ x ∈ c.c, x.e.length ≤ 1000000 from ⟨hs.1, hs.2.1, fun x hx => (hs.2.2.1 x hx).2.1, fun x hx => (hs.2.2.2 x hx).2⟩)
  obtain ⟨rfl, hv, ⟨o1, C1, B1, f1, rfl, ho1, hE1⟩, ⟨o3, C3, B3, f3, rfl, ho3, hE3⟩⟩ := h
  have HQ1 : Hid (0 < c.l.length → o1 = some ⟨B1, f1, none⟩) := Lib.hid (fun hp => (ho1 hp).1)
  have HQ9 : Hid (0 < c.c.length → o3 = some ⟨B3, f3, none⟩) := Lib.hid (fun hp => (ho3 hp).1)
  have HS1 : Hid (∀ wz, Below w.heap.size w wz → ∀ i (hi : i < c.l.length), True ∧ ∃ (o : Option Addr) (cap B f : Nat), wz.cell? ⟨B1, f1 + i * 7, none⟩ = some (.string c.l[i].name) ∧ wz.cell? ⟨B1, f1 + i * 7 + 1, none⟩ = some (.int .u8 (c.l[i].p.a : Int)) ∧ wz.cell? ⟨B1, f1 + i * 7 + 2, none⟩ = some (.int .u8 (c.l[i].p.b : Int)) ∧ wz.cell? ⟨B1, f1 + i * 7 + 3, none⟩ = some (.int .u8 (c.l[i].p.c : Int)) ∧ wz.cell? ⟨B1, f1 + i * 7 + 4, none⟩ = some (.int .u8 (c.l[i].p.d : Int)) ∧ wz.cell? ⟨B1, f1 + i * 7 + 5, none⟩ = some (.int .u16 (c.l[i].p.port : Int)) ∧ wz.cell? ⟨B1, f1 + i * 7 + 6, none⟩ = some (.slice o c.l[i].r.length cap) ∧
      (0 < c.l[i].r.length → o = some ⟨B, f, none⟩) ∧ c.l[i].r.length ≤ 1000000 ∧ ∀ wy, Below w.heap.size w wy → ∀ j (hj : j < c.l[i].r.length), wy.cell? ⟨B, f + j * 4, none⟩ = some (.string c.l[i].r[j].host) ∧ wy.cell? ⟨B, f + j * 4 + 1, none⟩ = some (.string c.l[i].r[j].path) ∧ wy.cell? ⟨B, f + j * 4 + 2, none⟩ = some (.string c.l[i].r[j].cluster) ∧ wy.cell? ⟨B, f + j * 4 + 3, none⟩ = some (.int .u64 (c.l[i].r[j].idle : Int))) := Lib.hid (fun wz hb i hi => by
    refine ⟨trivial, ?_⟩
    obtain ⟨cs, hr, u, rfl, hn, hp, o, cap, B, f, rfl, ho, hR⟩ := hE1 i hi
    have hr := rng_later hr hb
    refine ⟨o, cap, B, f, hr 0 _ rfl, hr 1 _ rfl, hr 2 _ rfl, hr 3 _ rfl, hr 4 _ rfl, hr 5 _ rfl, hr 6 _ rfl, fun hp => (ho hp).1, HLEN.out.2.2.1 _ (List.getElem_mem hi), fun wy hby j hj => ?_⟩
    obtain ⟨cs, hr2, hcs, hok⟩ := hR j hj
    subst hcs
    have hr2 := rng_later hr2 hby
    exact ⟨hr2 0 _ rfl, hr2 1 _ rfl, hr2 2 _ rfl, hr2 3 _ rfl⟩)
  have HS9 : Hid (∀ wz, Below w.heap.size w wz → ∀ i (hi : i < c.c.length), True ∧ ∃ (o : Option Addr) (cap B f : Nat), wz.cell? ⟨B3, f3 + i * 2, none⟩ = some (.string c.c[i].name) ∧ wz.cell? ⟨B3, f3 + i * 2 + 1, none⟩ = some (.slice o c.c[i].e.length cap) ∧
      (0 < c.c[i].e.length → o = some ⟨B, f, none⟩) ∧ c.c[i].e.length ≤ 1000000 ∧ ∀ wy, Below w.heap.size w wy → ∀ j (hj : j < c.c[i].e.length), wy.cell? ⟨B, f + j * 6, none⟩ = some (.int .u8 (c.c[i].e[j].p.a : Int)) ∧ wy.cell? ⟨B, f + j * 6 + 1, none⟩ = some (.int .u8 (c.c[i].e[j].p.b : Int)) ∧ wy.cell? ⟨B, f + j * 6 + 2, none⟩ = some (.int .u8 (c.c[i].e[j].p.c : Int)) ∧ wy.cell? ⟨B, f + j * 6 + 3, none⟩ = some (.int .u8 (c.c[i].e[j].p.d : Int)) ∧ wy.cell? ⟨B, f + j * 6 + 4, none⟩ = some (.int .u16 (c.c[i].e[j].p.port : Int)) ∧ wy.cell? ⟨B, f + j * 6 + 5, none⟩ = some (.int .i64 c.c[i].e[j].w)) := Lib.hid (fun wz hb i hi => by
    refine ⟨trivial, ?_⟩
    obtain ⟨cs, hr, u, rfl, hn, o, cap, B, f, rfl, ho, hR⟩ := hE3 i hi
    have hr := rng_later hr hb
    refine ⟨o, cap, B, f, hr 0 _ rfl, hr 1 _ rfl, fun hp => (ho hp).1, HLEN.out.2.2.2 _ (List.getElem_mem hi), fun wy hby j hj => ?_⟩
    obtain ⟨cs, hr2, hcs, hok⟩ := hR j hj
    subst hcs
    have hr2 := rng_later hr2 hby
    exact ⟨hr2 0 _ rfl, hr2 1 _ rfl, hr2 2 _ rfl, hr2 3 _ rfl, hr2 4 _ rfl, hr2 5 _ rfl⟩)
  have HOKL : Hid (∀ l ∈ c.l, l.name.size ≤ maxLen ∧ l.p.ok ∧ ∀ r ∈ l.r, r.ok) := Lib.hid (fun l hl => by
    obtain ⟨i, hi, rfl⟩ := List.getElem_of_mem hl
    obtain ⟨cs, hr, u, rfl, hn, hp, o, cap, B, f, rfl, ho, hR⟩ := hE1 i hi
    refine ⟨hn, hp, fun r hr => ?_⟩
    obtain ⟨j, hj, rfl⟩ := List.getElem_of_mem hr
    obtain ⟨cs, hr2, hcs, hok⟩ := hR j hj
    exact hok)
  have HOKC : Hid (∀ l ∈ c.c, l.name.size ≤ maxLen ∧ ∀ r ∈ l.e, r.ok) := Lib.hid (fun l hl => by
    obtain ⟨i, hi, rfl⟩ := List.getElem_of_mem hl
    obtain ⟨cs, hr, u, rfl, hn, o, cap, B, f, rfl, ho, hR⟩ := hE3 i hi
    refine ⟨hn, fun r hr => ?_⟩
    obtain ⟨j, hj, rfl⟩ := List.getElem_of_mem hr
    obtain ⟨cs, hr2, hcs, hok⟩ := hR j hj
    exact hok)
  clear hE1 hE3 ho1 ho3 hv hs hVal hz
  have HB0 := Lib.hid (alloc_below w (.cells #[.int .u64 (c.v : Int), .slice o1 c.l.length C1, .slice o3 c.c.length C3] 37))
  have HX0 := Lib.hid (alloc_at (w := w) (g := w.heap.size) #[.int .u64 (c.v : Int), .slice o1 c.l.length C1, .slice o3 c.c.length C3] 37 rfl)
  obtain ⟨y0, y1, y2⟩ := bk3 HX0.out
  obtain ⟨X0, hX0⟩ : ∃ X, c.out = X := ⟨_, rfl⟩
  obtain ⟨R0, hR0⟩ : ∃ R, c.err = R := ⟨_, rfl⟩
  rw [hX0, hR0]
  have HXO := Lib.hid hX0
  have HRO := Lib.hid hR0
  clear hX0 hR0
  cases hm : c.many with
  | true =>
    have HO : c.out = ⟨#[]⟩ := by unfold Co.out; rw [hm]; rfl
    have HR : c.err = 6 := by unfold Co.err; rw [hm]; rfl
    have HO := Lib.hid HO
    have HR := Lib.hid HR
    rw [hm] at KM
    clear hm
    go_enter Tryz.func10, Tryz.ntmps10
    go_wp2_with fail
    refine (KM.out _ HB0.out).mono ?_
    rintro e w1 ⟨rfl, hb⟩
    have HB1 := Lib.hid (HB0.out.trans (hb.mono HB0.out.size))
    clear hb y0 y1 y2
    go_wp2_with fail
    go_ret2
    exact ⟨by rw [← HXO.out, ← HRO.out, HO.out, HR.out]; rfl, HB1.out⟩
  | false =>
    rw [hm] at KM
    have HM0 := Lib.hid hm
    clear hm
    go_enter Tryz.func10, Tryz.ntmps10
    go_wp2_with fail
    refine (KM.out _ HB0.out).mono ?_
    rintro e w1 ⟨rfl, hb⟩
    have HB1 := Lib.hid (HB0.out.trans (hb.mono HB0.out.size))
    have HX1 := Lib.hid (Bk.later HX0.out hb)
    clear hb y0 y1 y2
    obtain ⟨y0, y1, y2⟩ := bk3 HX1.out
    go_wp2
    go_loopw [13] (fun y wz => ∃ i : Nat, y = .int .i64 i ∧ i ≤ c.c.length ∧ Hid ((c.c.take i).any Cl.below = false) ∧ Hid (Below w.heap.size w wz) ∧ Hid (Bk wz w.heap.size #[.int .u64 (c.v : Int), .slice o1 c.l.length C1, .slice o3 c.c.length C3] 37)) (fun y _ => c.c.length - (intOf y).toNat)
    case atStart => exact ⟨0, rfl, by omega, Lib.hid (by rw [List.take_zero]; rfl), HB1, HX1⟩
    case round =>
      rename World => wo
      obtain ⟨i, rfl, hi, HM, HB, HC⟩ := hrel
      by_cases hlt : i < c.c.length
      · obtain ⟨_, hsrc⟩ := HS9.out wo HB.out i hlt
        obtain rfl := HQ9.out (by omega)
        have HTK : Hid ((c.c.take (i + 1)).any Cl.below = (Cl.below c.c[i])) := Lib.hid (by rw [← List.take_append_getElem hlt, List.any_append, HM.out]; simp)
        have HAN : Hid (Cl.below c.c[i] = true → c.below = true) := Lib.hid (fun h => List.any_eq_true.2 ⟨_, List.getElem_mem hlt, h⟩)
        have q1 : (i : Int) < (c.c.length : Int) := by omega
        have q0 : (c.c.length : Int) ≤ 1000000 := by have := HLEN.out.2.1; omega
        generalize c.c[i] = x at *
        obtain ⟨o2, cap2, B2, f2, h0, h1, ho2, hrl, hel⟩ := hsrc
        have HO2 := Lib.hid ho2
        have HRL := Lib.hid hrl
        have HEL := Lib.hid hel
        have HBx := Lib.hid (alloc_below wo (.cells #[.string x.name, .slice o2 x.e.length cap2] 74))
        have q2 : (x.e.length : Int) ≤ 1000000 := by omega
        clear ho2 hel hrl
        go_wp2
        go_loopw [20] (fun y wz => ∃ j : Nat, y = .int .i64 j ∧ j ≤ x.e.length ∧ Hid ((x.e.take j).any (fun e => decide (e.w < 0)) = false) ∧ Hid (Below wo.heap.size wo wz)) (fun y _ => x.e.length - (intOf y).toNat)
        case atStart => exact ⟨0, rfl, by omega, Lib.hid (by rw [List.take_zero]; rfl), HBx⟩
        case round =>
          obtain ⟨j, rfl, hj, HMj, HBi⟩ := hrel
          by_cases hlj : j < x.e.length
          · obtain rfl := HO2.out (by omega)
            obtain ⟨e0, e1, e2, e3, e4, e5⟩ := HEL.out _ (HB.out.trans (HBi.out.mono HB.out.size)) j hlj
            have HTJ : Hid ((x.e.take (j + 1)).any (fun e => decide (e.w < 0)) = decide (x.e[j].w < 0)) := Lib.hid (by rw [← List.take_append_getElem hlj, List.any_append, HMj.out]; simp)
            have HAJ : Hid (x.e[j].w < 0 → Cl.below x = true) := Lib.hid (fun h => List.any_eq_true.2 ⟨_, List.getElem_mem hlj, decide_eq_true h⟩)
            have q3 : (j : Int) < (x.e.length : Int) := by omega
            generalize x.e[j] = r at *
            have HBr := Lib.hid (HBi.out.trans ((alloc_below wr (.cells #[.int .u8 (r.p.a : Int), .int .u8 (r.p.b : Int), .int .u8 (r.p.c : Int), .int .u8 (r.p.d : Int), .int .u16 (r.p.port : Int), .int .i64 r.w] 77)).mono HBi.out.size))
            by_cases hr : r.w < 0
            · have HT := HAN.out (HAJ.out hr)
              have HO := Lib.hid (show c.out = ⟨#[]⟩ by unfold Co.out; rw [HM0.out, HT]; rfl)
              have HR := Lib.hid (show c.err = 7 by unfold Co.err; rw [HM0.out, HT]; rfl)
              have HBz := Lib.hid (HB.out.trans (HBr.out.mono HB.out.size))
              clear HT
              go_wp2
              go_ret2
              exact ⟨by rw [← HXO.out, ← HRO.out, HO.out, HR.out]; rfl, HBz.out⟩
            · go_wp2
              go_roundw
              case rel => exact ⟨j + 1, by go_num, by omega, Lib.hid (by rw [HTJ.out]; exact decide_eq_false hr), HBr⟩
              case measure => simp [intOf]; omega
          · obtain rfl : j = x.e.length := by omega
            have HNB : Hid (Cl.below x = false) := Lib.hid (by have h := HMj.out; rw [List.take_length] at h; exact h)
            have hq3 : ¬ ((x.e.length : Int) < (x.e.length : Int)) := by omega
            go_wp2
            go_roundw
            case rel => exact ⟨i + 1, by go_num, by omega, Lib.hid (by rw [HTK.out, HNB.out]), Lib.hid (HB.out.trans (HBi.out.mono HB.out.size)), Lib.hid (HC.out.later HBi.out)⟩
            case measure => simp [intOf]; omega
      · obtain rfl : i = c.c.length := by omega
        have hbl : c.below = false := by have h := HM.out; rwa [List.take_length] at h
        have HO := Lib.hid (show c.out = putS c.tr by unfold Co.out; rw [HM0.out, hbl]; rfl)
        have HR := Lib.hid (show c.err = putC c.tr by unfold Co.err; rw [HM0.out, hbl]; rfl)
        have KQ := Lib.hid (KP.out hbl)
        clear hbl KP
        obtain ⟨v0, v1, v2⟩ := bk3 HC.out
        have hq8 : ¬ ((c.c.length : Int) < (c.c.length : Int)) := by omega
        generalize putS c.tr = S at *
        generalize putC c.tr = E at *
        go_wp2_with fail
        refine (KV.out _ HB.out).mono ?_
        rintro e w2 ⟨o5, n5, cap5, rfl, hv, hb⟩
        have HB2 := Lib.hid (HB.out.trans (hb.mono HB.out.size))
        have K6 := Lib.hid (KQ.out _ _ _ _ _ hv)
        clear hb hv v0 v1 v2
        go_wp2_with fail
        refine (K6.out).mono ?_
        rintro e w3 ⟨rfl, hb⟩
        have HB3 := Lib.hid (HB2.out.trans (hb.mono HB2.out.size))
        clear hb
        go_wp2_with fail
        go_ret2
        exact ⟨by rw [← HXO.out, ← HRO.out, HO.out, HR.out]; rfl, HB3.out⟩
end Go.Proofs.YtjfjliobencppaaGreatDoor.Cf

namespace Go.Proofs.YtjfjliobencppaaGreatDoor.Cf
open Go.RowKit

def Ls.bad (l : Ls) : Bool := decide (l.p.port = 0)
def Ep.bad (e : Ep) : Bool := decide (e.p.port = 0) || decide (2147483648 ≤ e.w)
def Cl.bad (c : Cl) : Bool := c.e.any Ep.bad
def Co.ports (c : Co) : Bool := !(c.l.any Ls.bad || c.c.any Cl.bad)

set_option maxRecDepth 100000 in
set_option maxHeartbeats 4000000 in
theorem ports_any {w : World} {c0 c1 c2 : Value} {c : Co} (h : CoIn w c0 c1 c2 c) (hs : c.sized) : Calls Tryz.prog 13 #[.agg #[c0, c1, c2]] w (TrP c.ports w) := by
  have HIN := Lib.hid h
  have HLEN := Lib.hid (show c.l.length ≤ 1000000 ∧ c.c.length ≤ 1000000 ∧ (∀ x ∈ c.l, x.r.length ≤ 1000000) ∧ ∀ x ∈ c.c, x.e.length ≤ 1000000 from ⟨hs.1, hs.2.1, fun x hx => (hs.2.2.1 x hx).2.1, fun x hx => (hs.2.2.2 x hx).2⟩)
  obtain ⟨rfl, hv, ⟨o1, C1, B1, f1, rfl, ho1, hE1⟩, ⟨o3, C3, B3, f3, rfl, ho3, hE3⟩⟩ := h
  have HQ1 : Hid (0 < c.l.length → o1 = some ⟨B1, f1, none⟩) := Lib.hid (fun hp => (ho1 hp).1)
  have HQ9 : Hid (0 < c.c.length → o3 = some ⟨B3, f3, none⟩) := Lib.hid (fun hp => (ho3 hp).1)
  have HS1 : Hid (∀ wz, Below w.heap.size w wz → ∀ i (hi : i < c.l.length), True ∧ ∃ (o : Option Addr) (cap B f : Nat), wz.cell? ⟨B1, f1 + i * 7, none⟩ = some (.string c.l[i].name) ∧ wz.cell? ⟨B1, f1 + i * 7 + 1, none⟩ = some (.int .u8 (c.l[i].p.a : Int)) ∧ wz.cell? ⟨B1, f1 + i * 7 + 2, none⟩ = some (.int .u8 (c.l[i].p.b : Int)) ∧ wz.cell? ⟨B1, f1 + i * 7 + 3, none⟩ = some (.int .u8 (c.l[i].p.c : Int)) ∧ wz.cell? ⟨B1, f1 + i * 7 + 4, none⟩ = some (.int .u8 (c.l[i].p.d : Int)) ∧ wz.cell? ⟨B1, f1 + i * 7 + 5, none⟩ = some (.int .u16 (c.l[i].p.port : Int)) ∧ wz.cell? ⟨B1, f1 + i * 7 + 6, none⟩ = some (.slice o c.l[i].r.length cap) ∧
      (0 < c.l[i].r.length → o = some ⟨B, f, none⟩) ∧ c.l[i].r.length ≤ 1000000 ∧ ∀ wy, Below w.heap.size w wy → ∀ j (hj : j < c.l[i].r.length), wy.cell? ⟨B, f + j * 4, none⟩ = some (.string c.l[i].r[j].host) ∧ wy.cell? ⟨B, f + j * 4 + 1, none⟩ = some (.string c.l[i].r[j].path) ∧ wy.cell? ⟨B, f + j * 4 + 2, none⟩ = some (.string c.l[i].r[j].cluster) ∧ wy.cell? ⟨B, f + j * 4 + 3, none⟩ = some (.int .u64 (c.l[i].r[j].idle : Int))) := Lib.hid (fun wz hb i hi => by
    refine ⟨trivial, ?_⟩
    obtain ⟨cs, hr, u, rfl, hn, hp, o, cap, B, f, rfl, ho, hR⟩ := hE1 i hi
    have hr := rng_later hr hb
    refine ⟨o, cap, B, f, hr 0 _ rfl, hr 1 _ rfl, hr 2 _ rfl, hr 3 _ rfl, hr 4 _ rfl, hr 5 _ rfl, hr 6 _ rfl, fun hp => (ho hp).1, HLEN.out.2.2.1 _ (List.getElem_mem hi), fun wy hby j hj => ?_⟩
    obtain ⟨cs, hr2, hcs, hok⟩ := hR j hj
    subst hcs
    have hr2 := rng_later hr2 hby
    exact ⟨hr2 0 _ rfl, hr2 1 _ rfl, hr2 2 _ rfl, hr2 3 _ rfl⟩)
  have HS9 : Hid (∀ wz, Below w.heap.size w wz → ∀ i (hi : i < c.c.length), True ∧ ∃ (o : Option Addr) (cap B f : Nat), wz.cell? ⟨B3, f3 + i * 2, none⟩ = some (.string c.c[i].name) ∧ wz.cell? ⟨B3, f3 + i * 2 + 1, none⟩ = some (.slice o c.c[i].e.length cap) ∧
      (0 < c.c[i].e.length → o = some ⟨B, f, none⟩) ∧ c.c[i].e.length ≤ 1000000 ∧ ∀ wy, Below w.heap.size w wy → ∀ j (hj : j < c.c[i].e.length), wy.cell? ⟨B, f + j * 6, none⟩ = some (.int .u8 (c.c[i].e[j].p.a : Int)) ∧ wy.cell? ⟨B, f + j * 6 + 1, none⟩ = some (.int .u8 (c.c[i].e[j].p.b : Int)) ∧ wy.cell? ⟨B, f + j * 6 + 2, none⟩ = some (.int .u8 (c.c[i].e[j].p.c : Int)) ∧ wy.cell? ⟨B, f + j * 6 + 3, none⟩ = some (.int .u8 (c.c[i].e[j].p.d : Int)) ∧ wy.cell? ⟨B, f + j * 6 + 4, none⟩ = some (.int .u16 (c.c[i].e[j].p.port : Int)) ∧ wy.cell? ⟨B, f + j * 6 + 5, none⟩ = some (.int .i64 c.c[i].e[j].w)) := Lib.hid (fun wz hb i hi => by
    refine ⟨trivial, ?_⟩
    obtain ⟨cs, hr, u, rfl, hn, o, cap, B, f, rfl, ho, hR⟩ := hE3 i hi
    have hr := rng_later hr hb
    refine ⟨o, cap, B, f, hr 0 _ rfl, hr 1 _ rfl, fun hp => (ho hp).1, HLEN.out.2.2.2 _ (List.getElem_mem hi), fun wy hby j hj => ?_⟩
    obtain ⟨cs, hr2, hcs, hok⟩ := hR j hj
    subst hcs
    have hr2 := rng_later hr2 hby
    exact ⟨hr2 0 _ rfl, hr2 1 _ rfl, hr2 2 _ rfl, hr2 3 _ rfl, hr2 4 _ rfl, hr2 5 _ rfl⟩)
  have HOKL : Hid (∀ l ∈ c.l, l.name.size ≤ maxLen ∧ l.p.ok ∧ ∀ r ∈ l.r, r.ok) := Lib.hid (fun l hl => by
    obtain ⟨i, hi, rfl⟩ := List.getElem_of_mem hl
    obtain ⟨cs, hr, u, rfl, hn, hp, o, cap, B, f, rfl, ho, hR⟩ := hE1 i hi
    refine ⟨hn, hp, fun r hr => ?_⟩
    obtain ⟨j, hj, rfl⟩ := List.getElem_of_mem hr
    obtain ⟨cs, hr2, hcs, hok⟩ := hR j hj
    exact hok)
  have HOKC : Hid (∀ l ∈ c.c, l.name.size ≤ maxLen ∧ ∀ r ∈ l.e, r.ok) := Lib.hid (fun l hl => by
    obtain ⟨i, hi, rfl⟩ := List.getElem_of_mem hl
    obtain ⟨cs, hr, u, rfl, hn, o, cap, B, f, rfl, ho, hR⟩ := hE3 i hi
    refine ⟨hn, fun r hr => ?_⟩
    obtain ⟨j, hj, rfl⟩ := List.getElem_of_mem hr
    obtain ⟨cs, hr2, hcs, hok⟩ := hR j hj
    exact hok)
  clear hE1 hE3 ho1 ho3 hv hs
  have HB0 := Lib.hid (alloc_below w (.cells #[.int .u64 (c.v : Int), .slice o1 c.l.length C1, .slice o3 c.c.length C3] 26))
  have HX0 := Lib.hid (alloc_at (w := w) (g := w.heap.size) #[.int .u64 (c.v : Int), .slice o1 c.l.length C1, .slice o3 c.c.length C3] 26 rfl)
  obtain ⟨P0, hP0⟩ : ∃ P, c.ports = P := ⟨_, rfl⟩
  rw [hP0]
  have HP := Lib.hid hP0
  clear hP0
  go_enter Tryz.func13, Tryz.ntmps13
  go_wp2
  go_loopw [12] (fun y wz => ∃ i : Nat, y = .int .i64 i ∧ i ≤ c.l.length ∧ Hid ((c.l.take i).any Ls.bad = false) ∧ Hid (Below w.heap.size w wz) ∧ Hid (Bk wz w.heap.size #[.int .u64 (c.v : Int), .slice o1 c.l.length C1, .slice o3 c.c.length C3] 26)) (fun y _ => c.l.length - (intOf y).toNat)
  case atStart => exact ⟨0, rfl, by omega, Lib.hid (by rw [List.take_zero]; rfl), HB0, HX0⟩
  case round =>
    rename World => wo
    obtain ⟨i, rfl, hi, HM, HB, HC⟩ := hrel
    by_cases hlt : i < c.l.length
    · obtain ⟨_, hsrc⟩ := HS1.out wo HB.out i hlt
      obtain rfl := HQ1.out (by omega)
      have HTK : Hid ((c.l.take (i + 1)).any Ls.bad = Ls.bad c.l[i]) := Lib.hid (by rw [← List.take_append_getElem hlt, List.any_append, HM.out]; simp)
      have HAN : Hid (Ls.bad c.l[i] = true → c.ports = false) := Lib.hid (fun h => by
        have : c.l.any Ls.bad = true := List.any_eq_true.2 ⟨_, List.getElem_mem hlt, h⟩
        unfold Co.ports; rw [this]; rfl)
      have q1 : (i : Int) < (c.l.length : Int) := by omega
      have q0 : (c.l.length : Int) ≤ 1000000 := by have := HLEN.out.1; omega
      generalize c.l[i] = x at *
      obtain ⟨o2, cap2, B2, f2, h0, h1, h2, h3, h4, h5, h6, ho2, hrl, hel⟩ := hsrc
      have HBx := Lib.hid (HB.out.trans ((alloc_below wo (.cells #[.string x.name, .int .u8 (x.p.a : Int), .int .u8 (x.p.b : Int), .int .u8 (x.p.c : Int), .int .u8 (x.p.d : Int), .int .u16 (x.p.port : Int), .slice o2 x.r.length cap2] 52)).mono HB.out.size))
      have HCx := Lib.hid (HC.out.later (alloc_below wo (.cells #[.string x.name, .int .u8 (x.p.a : Int), .int .u8 (x.p.b : Int), .int .u8 (x.p.c : Int), .int .u8 (x.p.d : Int), .int .u16 (x.p.port : Int), .slice o2 x.r.length cap2] 52)))
      clear ho2 hel hrl
      by_cases hx : x.p.port = 0
      · have q3 : (x.p.port : Int) = 0 := by omega
        have HT := Lib.hid (HAN.out (by unfold Ls.bad; exact decide_eq_true hx))
        rw [q3] at h5 HBx
        rw [q3] at HCx
        go_wp2
        refine bodyPost_ret (v := .bool false) (by simp [results, Tryz.results13, go_sem, *]) rfl ⟨by rw [← HP.out, HT.out], HBx.out⟩
      · have q3 : ¬ (x.p.port : Int) = 0 := by omega
        have q4 : ((x.p.port : Int) == 0) = false := by simpa using hx
        have HT : Hid (Ls.bad x = false) := Lib.hid (by unfold Ls.bad; exact decide_eq_false hx)
        go_wp2
        go_roundw
        case rel => exact ⟨i + 1, by go_num, by omega, Lib.hid (by rw [HTK.out, HT.out]), HBx, HCx⟩
        case measure => simp [intOf]; omega
    · obtain rfl : i = c.l.length := by omega
      have HML : Hid (c.l.any Ls.bad = false) := Lib.hid (by have h := HM.out; rwa [List.take_length] at h)
      have hq9 : ¬ ((c.l.length : Int) < (c.l.length : Int)) := by omega
      have HBl := HB
      have HCl := HC
      obtain ⟨y0, y1, y2⟩ := bk3 HC.out
      clear HM HB HC
      go_wp2
      go_loopw [24] (fun y wz => ∃ i : Nat, y = .int .i64 i ∧ i ≤ c.c.length ∧ Hid ((c.c.take i).any Cl.bad = false) ∧ Hid (Below w.heap.size w wz)) (fun y _ => c.c.length - (intOf y).toNat)
      case atStart => exact ⟨0, rfl, by omega, Lib.hid (by rw [List.take_zero]; rfl), HBl⟩
      case round =>
        rename World => wp
        obtain ⟨i, rfl, hi, HM, HB⟩ := hrel
        by_cases hlt : i < c.c.length
        · obtain ⟨_, hsrc⟩ := HS9.out wp HB.out i hlt
          obtain rfl := HQ9.out (by omega)
          have HTK : Hid ((c.c.take (i + 1)).any Cl.bad = (Cl.bad c.c[i])) := Lib.hid (by rw [← List.take_append_getElem hlt, List.any_append, HM.out]; simp)
          have HAN : Hid (Cl.bad c.c[i] = true → c.ports = false) := Lib.hid (fun h => by
            have : c.c.any Cl.bad = true := List.any_eq_true.2 ⟨_, List.getElem_mem hlt, h⟩
            unfold Co.ports; rw [this]; simp)
          have q1 : (i : Int) < (c.c.length : Int) := by omega
          have q0 : (c.c.length : Int) ≤ 1000000 := by have := HLEN.out.2.1; omega
          generalize c.c[i] = x at *
          obtain ⟨o2, cap2, B2, f2, h0, h1, ho2, hrl, hel⟩ := hsrc
          have HO2 := Lib.hid ho2
          have HRL := Lib.hid hrl
          have HEL := Lib.hid hel
          have HBx := Lib.hid (alloc_below wp (.cells #[.string x.name, .slice o2 x.e.length cap2] 57))
          have q2 : (x.e.length : Int) ≤ 1000000 := by omega
          clear ho2 hel hrl
          go_wp2
          go_loopw [31] (fun y wz => ∃ j : Nat, y = .int .i64 j ∧ j ≤ x.e.length ∧ Hid ((x.e.take j).any Ep.bad = false) ∧ Hid (Below wp.heap.size wp wz)) (fun y _ => x.e.length - (intOf y).toNat)
          case atStart => exact ⟨0, rfl, by omega, Lib.hid (by rw [List.take_zero]; rfl), HBx⟩
          case round =>
            obtain ⟨j, rfl, hj, HMj, HBi⟩ := hrel
            by_cases hlj : j < x.e.length
            · obtain rfl := HO2.out (by omega)
              obtain ⟨e0, e1, e2, e3, e4, e5⟩ := HEL.out _ (HB.out.trans (HBi.out.mono HB.out.size)) j hlj
              have HTJ : Hid ((x.e.take (j + 1)).any Ep.bad = Ep.bad x.e[j]) := Lib.hid (by rw [← List.take_append_getElem hlj, List.any_append, HMj.out]; simp)
              have HAJ : Hid (Ep.bad x.e[j] = true → Cl.bad x = true) := Lib.hid (fun h => List.any_eq_true.2 ⟨_, List.getElem_mem hlj, h⟩)
              have q3 : (j : Int) < (x.e.length : Int) := by omega
              generalize x.e[j] = r at *
              by_cases hr : r.p.port = 0
              · have q5 : (r.p.port : Int) = 0 := by omega
                have HT := Lib.hid (HAN.out (HAJ.out (by unfold Ep.bad; rw [decide_eq_true hr]; rfl)))
                rw [q5] at e4
                have HBr := Lib.hid (HBi.out.trans ((alloc_below wr (.cells #[.int .u8 (r.p.a : Int), .int .u8 (r.p.b : Int), .int .u8 (r.p.c : Int), .int .u8 (r.p.d : Int), .int .u16 0, .int .i64 r.w] 64)).mono HBi.out.size))
                have HBz := Lib.hid (HB.out.trans (HBr.out.mono HB.out.size))
                go_wp2
                refine bodyPost_ret (v := .bool false) (by simp [results, Tryz.results13, go_sem, *]) rfl ⟨by rw [← HP.out, HT.out], HBz.out⟩
              · have q5 : ¬ (r.p.port : Int) = 0 := by omega
                have q6 : ((r.p.port : Int) == 0) = false := by simpa using hr
                have HBr := Lib.hid (HBi.out.trans ((alloc_below wr (.cells #[.int .u8 (r.p.a : Int), .int .u8 (r.p.b : Int), .int .u8 (r.p.c : Int), .int .u8 (r.p.d : Int), .int .u16 (r.p.port : Int), .int .i64 r.w] 64)).mono HBi.out.size))
                by_cases hw : 2147483648 ≤ r.w
                · have HT := Lib.hid (HAN.out (HAJ.out (by unfold Ep.bad; rw [decide_eq_true hw]; simp)))
                  have HBz := Lib.hid (HB.out.trans (HBr.out.mono HB.out.size))
                  go_wp2
                  refine bodyPost_ret (v := .bool false) (by simp [results, Tryz.results13, go_sem, *]) rfl ⟨by rw [← HP.out, HT.out], HBz.out⟩
                · go_wp2
                  go_roundw
                  case rel => exact ⟨j + 1, by go_num, by omega, Lib.hid (by rw [HTJ.out]; unfold Ep.bad; rw [decide_eq_false hr, decide_eq_false hw]; rfl), HBr⟩
                  case measure => simp [intOf]; omega
            · obtain rfl : j = x.e.length := by omega
              have HNB : Hid (Cl.bad x = false) := Lib.hid (by have h := HMj.out; rw [List.take_length] at h; exact h)
              have hq3 : ¬ ((x.e.length : Int) < (x.e.length : Int)) := by omega
              go_wp2
              go_roundw
              case rel => exact ⟨i + 1, by go_num, by omega, Lib.hid (by rw [HTK.out, HNB.out]), Lib.hid (HB.out.trans (HBi.out.mono HB.out.size))⟩
              case measure => simp [intOf]; omega
        · obtain rfl : i = c.c.length := by omega
          have HT : Hid (c.ports = true) := Lib.hid (by have h := HM.out; rw [List.take_length] at h; unfold Co.ports; rw [h, HML.out]; rfl)
          have hq8 : ¬ ((c.c.length : Int) < (c.c.length : Int)) := by omega
          go_wp2
          refine bodyPost_ret (v := .bool true) (by simp [results, Tryz.results13, go_sem, *]) rfl ⟨by rw [← HP.out, HT.out], HB.out⟩
end Go.Proofs.YtjfjliobencppaaGreatDoor.Cf

namespace Go.Proofs.YtjfjliobencppaaGreatDoor.Cf
open Go.RowKit

def Tr.tk : Tr → Int | .mk k _ _ _ => k
def Tr.tn : Tr → Nat | .mk _ n _ _ => n
def Tr.ts : Tr → ByteArray | .mk _ _ s _ => s
def Tr.tl : Tr → List Tr | .mk _ _ _ l => l
/-- What is nothing. -/
def Zt : Tr := .mk 0 0 ⟨#[]⟩ []
def ofT (k : Int) (t : Tr) : Tr := if Tr.tk t = k then t else Zt
/-- A reader in its box; what else was there stays. -/
def Rd (R : Nat) (b : Bool) (w w' : World) : Prop := Bk w' R #[.bool b] 90 ∧ Chg R none w w'
theorem vin_zero (w : World) (P : Nat → Prop) : VInP w P Zt (.int .i64 0) (.int .u64 0) (.string ⟨#[]⟩) (.slice none 0 0) := by
  unfold Zt VInP
  exact ⟨rfl, rfl, by omega, rfl, ⟨by simp [ByteArray.size], by simp⟩, none, 0, 0, 0, rfl, fun h => absurd h (by simp), by unfold VInPL; trivial⟩
theorem chg_vin {R : Nat} {w w' : World} (h : Chg R none w w') {t : Tr} {c0 c1 c2 c3 : Value} (hv : VInP w (fun b => b ≠ R) t c0 c1 c2 c3) : VInP w' (fun b => b ≠ R) t c0 c1 c2 c3 := VInP.keep h.2.2.2.1 (fun b hb hP => ⟨h.2.2.2.2 b hb hP (by simp), hP⟩) _ hv
theorem chg_then {R : Nat} {w w' w'' : World} (h : Chg R none w w') (h2 : Chg R none w' w'') : Chg R none w w'' := h.trans (Or.inl rfl) h2
theorem chg_put {R : Nat} {w w' : World} (h : Chg R none w w') (j : Nat) (u : Value) : Chg R none w (w'.setCell ⟨R, j, none⟩ u) := by
  obtain ⟨h1, h2, h3, h4, h5⟩ := h
  have hb := (Below.refl R w').setCell (p := ⟨R, j, none⟩) (Nat.le_refl R) u
  exact ⟨hb.os.trans h1, hb.tape.trans h2, hb.output.trans h3, by simpa using h4, fun k hk hg hr => (heap_setCell_other _ ⟨R, j, none⟩ k _ hg).trans (h5 k hk hg hr)⟩
theorem bk1 {w : World} {g : Nat} {a0 : Value} {T : TypeId} (h : Bk w g #[a0] T) : w.cell? ⟨g, 0, none⟩ = some a0 ∧ w.frozen? ⟨g, 0, none⟩ = false := ⟨(cell_of_row _ _ 0 _ _ _ h).trans rfl, frozen_of_row w g 0 _ _ h⟩

set_option maxRecDepth 100000 in
set_option maxHeartbeats 4000000 in
theorem of_any (R : Nat) (b : Bool) (k : Int) (t : Tr) (c0 c1 c2 c3 : Value) (w : World) (hR : Bk w R #[.bool b] 90) (hv : VInP w (fun b => b ≠ R) t c0 c1 c2 c3) :
    Calls Tryz.prog 109 #[.pointer (some ⟨R, 0, none⟩), .int .i64 k, .agg #[c0, c1, c2, c3]] w fun e w' => (∃ d0 d1 d2 d3, e = .returned (.agg #[d0, d1, d2, d3]) ∧ VInP w' (fun b => b ≠ R) (ofT k t) d0 d1 d2 d3) ∧ Rd R (b || decide (Tr.tk t ≠ k)) w w' := by
  obtain ⟨k', n, s, l⟩ := t
  have HV := Lib.hid hv
  have HR := Lib.hid hR
  have hlt := lt_of_heap hR
  unfold VInP at hv
  obtain ⟨rfl, rfl, _, rfl, _, o, cap, _, _, rfl, _⟩ := hv
  clear hR
  by_cases hk : k' = k
  · subst hk
    have HB := Lib.hid (show Below w.heap.size w ((w.alloc (.cells #[.int .i64 k', .int .u64 (n : Int), .string s, .slice o l.length cap] 69)).alloc (.cells #[.int .i64 k', .int .u64 (n : Int), .string s, .slice o l.length cap] 69)) from (alloc_below _ _).trans ((alloc_below _ _).mono (by simp)))
    have HO : Hid (ofT k' (.mk k' n s l) = .mk k' n s l) := Lib.hid (by unfold ofT Tr.tk; simp)
    have HT : Hid ((b || decide (Tr.tk (.mk k' n s l) ≠ k')) = b) := Lib.hid (by unfold Tr.tk; simp)
    go_enter Tryz.func109, Tryz.ntmps109
    go_wp2
    refine bodyPost_ret (v := .agg #[.int .i64 k', .int .u64 (n : Int), .string s, .slice o l.length cap]) (by simp [results, Tryz.results109, go_sem, *]) rfl ⟨⟨_, _, _, _, rfl, ?_⟩, ?_⟩
    · rw [HO.out]
      exact chg_vin (Chg.of_below HB.out) HV.out
    · rw [HT.out]
      exact ⟨HR.out.later HB.out, Chg.of_below HB.out⟩
  · have q1 : (k' != k) = true := by simpa using hk
    have q2 : ¬ k' = k := hk
    have HB := Lib.hid (show Below (w.setCell ⟨R, 0, none⟩ (.bool true)).heap.size (w.setCell ⟨R, 0, none⟩ (.bool true)) (((w.setCell ⟨R, 0, none⟩ (.bool true)).alloc (.cells #[.int .i64 k', .int .u64 (n : Int), .string s, .slice o l.length cap] 69)).alloc (.cells #[.int .i64 0, .int .u64 0, .string ⟨#[]⟩, .slice none 0 0] 69)) from (alloc_below _ _).trans ((alloc_below _ _).mono (by simp)))
    have HO : Hid (ofT k (.mk k' n s l) = Zt) := Lib.hid (by unfold ofT Tr.tk; simp [hk])
    have HT : Hid ((b || decide (Tr.tk (.mk k' n s l) ≠ k)) = true) := Lib.hid (by unfold Tr.tk; simp [hk])
    obtain ⟨y0, z0⟩ := bk1 ((HR.out.later (alloc_below w (.cells #[.int .i64 k', .int .u64 (n : Int), .string s, .slice o l.length cap] 69))).later (alloc_below _ (.cells #[.int .i64 0, .int .u64 0, .string ⟨#[]⟩, .slice none 0 0] 69)))
    go_enter Tryz.func109, Tryz.ntmps109
    go_wp2
    refine bodyPost_ret (v := .agg #[.int .i64 0, .int .u64 0, .string ⟨#[]⟩, .slice none 0 0]) (by simp [results, Tryz.results109, go_sem, *]) rfl ⟨⟨_, _, _, _, rfl, ?_⟩, ?_⟩
    · rw [HO.out]
      exact vin_zero _ _
    · rw [HT.out]
      exact ⟨(HR.out.set (i := 0) (.bool true)).later HB.out, chg_then (chg_put (Chg.refl R none w) 0 (.bool true)) (Chg.of_below HB.out)⟩
/-- A number that is read. -/
def numR (t : Tr) : Nat := Tr.tn (ofT 1 t)
def txtR (t : Tr) : ByteArray := Tr.ts (ofT 2 t)
set_option maxRecDepth 100000 in
set_option maxHeartbeats 4000000 in
theorem number_any (R : Nat) (b : Bool) (t : Tr) (c0 c1 c2 c3 : Value) (w : World) (hR : Bk w R #[.bool b] 90) (hv : VInP w (fun b => b ≠ R) t c0 c1 c2 c3) :
    Calls Tryz.prog 73 #[.pointer (some ⟨R, 0, none⟩), .agg #[c0, c1, c2, c3]] w fun e w' => e = .returned (.int .u64 (numR t : Int)) ∧ Rd R (b || decide (Tr.tk t ≠ 1)) w w' := by
  have KO := Lib.hid (fun W h1 h2 => of_any R b 1 t c0 c1 c2 c3 W h1 h2)
  have HC := Lib.hid (alloc_below w (.cells #[c0, c1, c2, c3] 69))
  have HR := Lib.hid (hR.later HC.out)
  have HV := Lib.hid (chg_vin (Chg.of_below (g := R) (ρ := none) HC.out) hv)
  obtain ⟨k, n, s, o, len, cap, rfl, rfl, rfl, rfl⟩ := hv.cells
  clear hR hv
  go_enter Tryz.func73, Tryz.ntmps73
  go_wp2_with fail
  refine (KO.out _ HR.out HV.out).mono ?_
  rintro e w1 ⟨⟨d0, d1, d2, d3, rfl, hv1⟩, hr1⟩
  have HD := Lib.hid (show Rd R _ w w1 from ⟨hr1.1, chg_then (Chg.of_below HC.out) hr1.2⟩)
  have HN : Hid (d1 = .int .u64 (numR t : Int)) := Lib.hid (by
    unfold numR
    generalize ofT 1 t = u at hv1
    obtain ⟨ku, nu, su, lu⟩ := u
    unfold VInP at hv1
    exact hv1.2.1)
  obtain ⟨_, _, _, _, _, _, rfl, rfl, rfl, rfl⟩ := hv1.cells
  clear hv1 hr1
  have hfd : ∀ (y x : Int) (s' : ByteArray) (o' : Option Addr) (l' p' : Nat) (W : World), (Instr.field 69 (.agg #[.int .i64 y, .int .u64 x, .string s', .slice o' l' p']) 1).run Tryz.prog W = .ok (.int .u64 x) W := fun _ _ _ _ _ _ _ => by kernel_rfl
  go_wp2
  refine bodyPost_ret (v := .int .u64 (numR t : Int)) (by simp [results, Tryz.results73, go_sem, ← HN.out]) rfl ⟨rfl, HD.out⟩

set_option maxRecDepth 100000 in
set_option maxHeartbeats 4000000 in
theorem text_any' (R : Nat) (b : Bool) (t : Tr) (c0 c1 c2 c3 : Value) (w : World) (hR : Bk w R #[.bool b] 90) (hv : VInP w (fun b => b ≠ R) t c0 c1 c2 c3) :
    Calls Tryz.prog 111 #[.pointer (some ⟨R, 0, none⟩), .agg #[c0, c1, c2, c3]] w fun e w' => e = .returned (.string (txtR t)) ∧ Rd R (b || decide (Tr.tk t ≠ 2)) w w' := by
  have KO := Lib.hid (fun W h1 h2 => of_any R b 2 t c0 c1 c2 c3 W h1 h2)
  have HC := Lib.hid (alloc_below w (.cells #[c0, c1, c2, c3] 69))
  have HR := Lib.hid (hR.later HC.out)
  have HV := Lib.hid (chg_vin (Chg.of_below (g := R) (ρ := none) HC.out) hv)
  obtain ⟨k, n, s, o, len, cap, rfl, rfl, rfl, rfl⟩ := hv.cells
  clear hR hv
  go_enter Tryz.func111, Tryz.ntmps111
  go_wp2_with fail
  refine (KO.out _ HR.out HV.out).mono ?_
  rintro e w1 ⟨⟨d0, d1, d2, d3, rfl, hv1⟩, hr1⟩
  have HD := Lib.hid (show Rd R _ w w1 from ⟨hr1.1, chg_then (Chg.of_below HC.out) hr1.2⟩)
  have HN : Hid (d2 = .string (txtR t)) := Lib.hid (by
    unfold txtR
    generalize ofT 2 t = u at hv1
    obtain ⟨ku, nu, su, lu⟩ := u
    unfold VInP at hv1
    exact hv1.2.2.2.1)
  obtain ⟨_, _, _, _, _, _, rfl, rfl, rfl, rfl⟩ := hv1.cells
  clear hv1 hr1
  have hfd : ∀ (y x : Int) (s' : ByteArray) (o' : Option Addr) (l' p' : Nat) (W : World), (Instr.field 69 (.agg #[.int .i64 y, .int .u64 x, .string s', .slice o' l' p']) 2).run Tryz.prog W = .ok (.string s') W := fun _ _ _ _ _ _ _ => by kernel_rfl
  go_wp2
  refine bodyPost_ret (v := .string (txtR t)) (by simp [results, Tryz.results111, go_sem, ← HN.out]) rfl ⟨rfl, HD.out⟩
end Go.Proofs.YtjfjliobencppaaGreatDoor.Cf

namespace Go.Proofs.YtjfjliobencppaaGreatDoor.Cf
open Go.RowKit

theorem zero_at (n : Nat) (hn : n = 2 ∨ n = 3 ∨ n = 4) (i : Nat) (h : i < n) : (madeCells #[.int .i64 0, .int .u64 0, .string ⟨#[]⟩, .slice none 0 0] (n * 4)).toList[i * 4]? = some (.int .i64 0) ∧ (madeCells #[.int .i64 0, .int .u64 0, .string ⟨#[]⟩, .slice none 0 0] (n * 4)).toList[i * 4 + 1]? = some (.int .u64 0) ∧ (madeCells #[.int .i64 0, .int .u64 0, .string ⟨#[]⟩, .slice none 0 0] (n * 4)).toList[i * 4 + 2]? = some (.string ⟨#[]⟩) ∧ (madeCells #[.int .i64 0, .int .u64 0, .string ⟨#[]⟩, .slice none 0 0] (n * 4)).toList[i * 4 + 3]? = some (.slice none 0 0) := by
  rcases hn with rfl | rfl | rfl
  · obtain rfl | rfl : i = 0 ∨ i = 1 := by omega
    all_goals exact ⟨by kernel_rfl, by kernel_rfl, by kernel_rfl, by kernel_rfl⟩
  · obtain rfl | rfl | rfl : i = 0 ∨ i = 1 ∨ i = 2 := by omega
    all_goals exact ⟨by kernel_rfl, by kernel_rfl, by kernel_rfl, by kernel_rfl⟩
  · obtain rfl | rfl | rfl | rfl : i = 0 ∨ i = 1 ∨ i = 2 ∨ i = 3 := by omega
    all_goals exact ⟨by kernel_rfl, by kernel_rfl, by kernel_rfl, by kernel_rfl⟩
/-- A row of what is nothing is made. -/
theorem made_zero (n R : Nat) (hn : n = 2 ∨ n = 3 ∨ n = 4) (w : World) (hR : R < w.heap.size) : ∃ w', (Instr.makeSlice 67 (.int .i64 (n : Int)) (.int .i64 (n : Int))).run Tryz.prog w = .ok (.slice (some ⟨w.heap.size, 0, none⟩) n n) w' ∧ w.heap.size < w'.heap.size ∧ VInPL w' (fun b => b ≠ R) w.heap.size 0 (List.replicate n Zt) ∧ Below w.heap.size w w' := by
  obtain ⟨i, hi, hz, hsz, hby⟩ := info_parts info27
  obtain ⟨w', hr, hown, hg⟩ := run_makeSlice_full (P := Tryz.prog) w w.heap.size 67 69 i _ 4 (by kernel_rfl) hi hz hsz .i64 .i64 n (by omega) (by rw [hby]; omega) (by unfold maxLen; omega) (Nat.le_refl _)
  have hcell : ∀ j u, (madeCells #[.int .i64 0, .int .u64 0, .string ⟨#[]⟩, .slice none 0 0] (n * 4)).toList[j]? = some u → w'.cell? ⟨w.heap.size, j, none⟩ = some u := by
    rcases hown.2 with ⟨h, _⟩ | ⟨g, cap, cur, h, _, hg, _, _, _, htk⟩
    · cases h
    · cases h
      intro j u hj
      rw [cell_of_row _ _ _ _ _ _ hg, ← Array.getElem?_toList]
      have h2 := congrArg (fun x => x[j]?) htk
      simp only [List.getElem?_take] at h2
      have hlt : j < n * 4 := by
        have h3 := (List.getElem?_eq_some_iff.1 hj).1
        have h4 := hown.1
        exact Nat.lt_of_lt_of_le h3 (Nat.le_of_eq h4)
      rw [if_pos hlt] at h2
      rw [h2]
      exact hj
  have hlt : w.heap.size < w'.heap.size := World.block_lt_of_cell? w' _ (hcell 0 _ (zero_at n hn 0 (by omega)).1)
  refine ⟨w', hr, hlt, VInPL.of (fun k hk => ?_), ⟨hg.os, hg.tape, hg.output, hg.size, fun b hb => hg.block b hb (by simp)⟩⟩
  have hk' : k < n := by simpa using hk
  obtain ⟨z0, z1, z2, z3⟩ := zero_at n hn k hk'
  rw [List.getElem_replicate, Nat.zero_add]
  exact ⟨_, _, _, _, hcell _ _ z0, hcell _ _ z1, hcell _ _ z2, hcell _ _ z3, vin_zero _ _⟩

/-- The values of a list that has n; n that are nothing, where it hasn't. -/
def fldT (n : Nat) (t : Tr) : List Tr := if (Tr.tl (ofT 3 t)).length = n then Tr.tl (ofT 3 t) else List.replicate n Zt
def FldP (R n : Nat) (b : Bool) (t : Tr) (w : World) (e : Ending) (w' : World) : Prop :=
  (∃ (o : Option Addr) (cap g off : Nat), e = .returned (.slice o n cap) ∧ (0 < n → o = some ⟨g, off, none⟩ ∧ g < w'.heap.size ∧ g ≠ R) ∧ VInPL w' (fun b => b ≠ R) g off (fldT n t)) ∧ Rd R (b || decide (Tr.tk t ≠ 3) || decide ((Tr.tl (ofT 3 t)).length ≠ n)) w w'

set_option maxRecDepth 100000 in
set_option maxHeartbeats 4000000 in
theorem fields_any (R n : Nat) (b : Bool) (t : Tr) (c0 c1 c2 c3 : Value) (w : World) (hn : n = 2 ∨ n = 3 ∨ n = 4) (hR : Bk w R #[.bool b] 90) (hv : VInP w (fun b => b ≠ R) t c0 c1 c2 c3) :
    Calls Tryz.prog 72 #[.pointer (some ⟨R, 0, none⟩), .agg #[c0, c1, c2, c3], .int .i64 (n : Int)] w (FldP R n b t w) := by
  have KO := Lib.hid (fun W h1 h2 => of_any R b 3 t c0 c1 c2 c3 W h1 h2)
  have HC := Lib.hid (alloc_below w (.cells #[c0, c1, c2, c3] 69))
  have HR := Lib.hid (hR.later HC.out)
  have HV := Lib.hid (chg_vin (Chg.of_below (g := R) (ρ := none) HC.out) hv)
  have hlt := lt_of_heap hR
  obtain ⟨k, m, s, o, len, cap, rfl, rfl, rfl, rfl⟩ := hv.cells
  clear hR hv
  go_enter Tryz.func72, Tryz.ntmps72
  go_wp2_with fail
  refine (KO.out _ HR.out HV.out).mono ?_
  rintro e w1 ⟨⟨d0, d1, d2, d3, rfl, hv1⟩, hr1⟩
  have HD := Lib.hid (show Rd R _ w w1 from ⟨hr1.1, chg_then (Chg.of_below HC.out) hr1.2⟩)
  have HL : Hid (∃ (o2 : Option Addr) (cap2 g off : Nat), d3 = .slice o2 (Tr.tl (ofT 3 t)).length cap2 ∧ (0 < (Tr.tl (ofT 3 t)).length → o2 = some ⟨g, off, none⟩ ∧ g < w1.heap.size ∧ g ≠ R) ∧ VInPL w1 (fun b => b ≠ R) g off (Tr.tl (ofT 3 t)) ∧ (Tr.tl (ofT 3 t)).length ≤ 1000000) := Lib.hid (by
    generalize ofT 3 t = u at hv1
    obtain ⟨ku, nu, su, lu⟩ := u
    unfold VInP at hv1
    obtain ⟨_, _, _, _, hz, o2, cap2, g, off, h3, h4, h5⟩ := hv1
    exact ⟨o2, cap2, g, off, h3, h4, h5, hz.2⟩)
  obtain ⟨_, _, _, _, _, _, rfl, rfl, rfl, hd3⟩ := hv1.cells
  obtain ⟨o2, cap2, g, off, hd, ho2, hl2, hz2⟩ := HL.out
  clear hd3
  subst hd
  have HO2 := Lib.hid ho2
  have HL2 := Lib.hid hl2
  clear hv1 hr1 HL ho2 hl2
  have hfd : ∀ (y x : Int) (s' : ByteArray) (o' : Option Addr) (l' p' : Nat) (W : World), (Instr.field 69 (.agg #[.int .i64 y, .int .u64 x, .string s', .slice o' l' p']) 3).run Tryz.prog W = .ok (.slice o' l' p') W := fun _ _ _ _ _ _ _ => by kernel_rfl
  obtain ⟨L, hL⟩ : ∃ L, Tr.tl (ofT 3 t) = L := ⟨_, rfl⟩
  have HTL := Lib.hid hL
  rw [hL] at HO2 HL2 hz2 ⊢
  clear hL
  by_cases hk : L.length = n
  · have HF : Hid (fldT n t = L) := Lib.hid (by unfold fldT; rw [HTL.out, if_pos hk])
    have HT : Hid ((b || decide (Tr.tk t ≠ 3) || decide ((Tr.tl (ofT 3 t)).length ≠ n)) = (b || decide (Tr.tk t ≠ 3))) := Lib.hid (by rw [HTL.out]; simp [hk])
    subst hk
    go_wp2
    refine bodyPost_ret (v := .slice o2 L.length cap2) (by simp [results, Tryz.results72, go_sem, *]) rfl ⟨⟨o2, cap2, g, off, rfl, HO2.out, by rw [HF.out]; exact HL2.out⟩, by rw [HT.out]; exact HD.out⟩
  · have q1 : ¬ (L.length : Int) = (n : Int) := by omega
    have q2 : ((L.length : Int) != (n : Int)) = true := by simpa using q1
    have hR1 : R < w1.heap.size := lt_of_heap HD.out.1
    obtain ⟨w2, hmk, hsz2, hz2', hb2⟩ := made_zero n R hn (w1.setCell ⟨R, 0, none⟩ (.bool true)) (by simpa using hR1)
    have HM := Lib.hid hb2
    have HZ := Lib.hid hz2'
    have HS := Lib.hid hsz2
    have HF : Hid (fldT n t = List.replicate n Zt) := Lib.hid (by unfold fldT; rw [HTL.out, if_neg hk])
    have HT : Hid ((b || decide (Tr.tk t ≠ 3) || decide ((Tr.tl (ofT 3 t)).length ≠ n)) = true) := Lib.hid (by rw [HTL.out]; simp [hk])
    have HE : Hid (Rd R true w w2) := Lib.hid ⟨(HD.out.1.set (i := 0) (.bool true)).later hb2, chg_then (chg_put HD.out.2 0 (.bool true)) (Chg.of_below hb2)⟩
    have HNE : Hid ((w1.setCell ⟨R, 0, none⟩ (.bool true)).heap.size ≠ R) := Lib.hid (by simp; omega)
    clear hb2 hz2' hsz2
    obtain ⟨y0, z0⟩ := bk1 HD.out.1
    have hss : (w1.setCell ⟨R, 0, none⟩ (.bool true)).heap.size = w1.heap.size := by simp
    rw [hss] at hmk HZ HS HNE
    go_wp2
    refine bodyPost_ret (v := .slice (some ⟨w1.heap.size, 0, none⟩) n n) (by simp [results, Tryz.results72, go_sem, *]) rfl ⟨⟨_, _, _, _, rfl, fun _ => ⟨rfl, HS.out, HNE.out⟩, by rw [HF.out]; exact HZ.out⟩, by rw [HT.out]; exact HE.out⟩
end Go.Proofs.YtjfjliobencppaaGreatDoor.Cf

namespace Go.Proofs.YtjfjliobencppaaGreatDoor.Cf
open Go.RowKit

def wgtR (t : Tr) : Nat := if 2147483647 < numR t then 0 else numR t
theorem numR_le {w : World} {P : Nat → Prop} {t : Tr} {c0 c1 c2 c3 : Value} (hv : VInP w P t c0 c1 c2 c3) : numR t ≤ 18446744073709551615 := by
  unfold numR ofT
  split
  · obtain ⟨k, n, s, l⟩ := t
    unfold VInP at hv
    exact hv.2.2.1
  · show (0 : Nat) ≤ _
    omega
set_option maxRecDepth 100000 in
set_option maxHeartbeats 4000000 in
theorem weight_any (R : Nat) (b : Bool) (t : Tr) (c0 c1 c2 c3 : Value) (w : World) (hR : Bk w R #[.bool b] 90) (hv : VInP w (fun b => b ≠ R) t c0 c1 c2 c3) :
    Calls Tryz.prog 131 #[.pointer (some ⟨R, 0, none⟩), .agg #[c0, c1, c2, c3]] w fun e w' => e = .returned (.int .i64 (wgtR t : Int)) ∧ Rd R (b || decide (Tr.tk t ≠ 1) || decide (2147483647 < numR t)) w w' := by
  have KO := Lib.hid (fun W h1 h2 => number_any R b t c0 c1 c2 c3 W h1 h2)
  have HC := Lib.hid (alloc_below w (.cells #[c0, c1, c2, c3] 69))
  have HR := Lib.hid (hR.later HC.out)
  have HV := Lib.hid (chg_vin (Chg.of_below (g := R) (ρ := none) HC.out) hv)
  have HNL := Lib.hid (numR_le hv)
  obtain ⟨k, n, s, o, len, cap, rfl, rfl, rfl, rfl⟩ := hv.cells
  clear hR hv
  go_enter Tryz.func131, Tryz.ntmps131
  go_wp2_with fail
  refine (KO.out _ HR.out HV.out).mono ?_
  rintro e w1 ⟨rfl, hr1⟩
  have HNL2 := Lib.hid HNL.out
  have HD := Lib.hid (show Rd R _ w w1 from ⟨hr1.1, chg_then (Chg.of_below HC.out) hr1.2⟩)
  clear hr1
  have hnl : (numR t : Int) ≤ 18446744073709551615 := by have := HNL.out; omega
  by_cases hk : 2147483647 < numR t
  · have q1 : (2147483647 : Int) < (numR t : Int) := by omega
    have HW : Hid (wgtR t = 0) := Lib.hid (by unfold wgtR; rw [if_pos hk])
    have HT : Hid ((b || decide (Tr.tk t ≠ 1) || decide (2147483647 < numR t)) = true) := Lib.hid (by simp [hk])
    have HE : Hid (Rd R true w (w1.setCell ⟨R, 0, none⟩ (.bool true))) := Lib.hid ⟨HD.out.1.set (i := 0) (.bool true), chg_put HD.out.2 0 (.bool true)⟩
    obtain ⟨y0, z0⟩ := bk1 HD.out.1
    go_wp2
    refine bodyPost_ret (v := .int .i64 0) (by simp [results, Tryz.results131, go_sem, *]) rfl ⟨by rw [HW.out]; rfl, by rw [HT.out]; exact HE.out⟩
  · have q1 : ¬ (2147483647 : Int) < (numR t : Int) := by omega
    have HW : Hid (wgtR t = numR t) := Lib.hid (by unfold wgtR; rw [if_neg hk])
    have HT : Hid ((b || decide (Tr.tk t ≠ 1) || decide (2147483647 < numR t)) = (b || decide (Tr.tk t ≠ 1))) := Lib.hid (by simp [hk])
    have hwr : IntKind.i64.wrap (numR t : Int) = (numR t : Int) := by simp [IntKind.wrap, IntKind.bits, IntKind.signed]; omega
    go_wp2
    refine bodyPost_ret (v := .int .i64 (numR t : Int)) (by simp [results, Tryz.results131, go_sem, *]) rfl ⟨by rw [HW.out], by rw [HT.out]; exact HD.out⟩
end Go.Proofs.YtjfjliobencppaaGreatDoor.Cf

namespace Go.Proofs.YtjfjliobencppaaGreatDoor.Sp
open Go.RowKit

/-- A text's byte, as a number. -/
def byt (s : ByteArray) (j : Nat) : Nat := (s.data.toList.getD j 0).toNat
theorem byt_lt (s : ByteArray) (j : Nat) : byt s j < 256 := UInt8.toNat_lt _
def ofCs (s : ByteArray) : List Value := [.int .u8 (byt s 0), .int .u8 (byt s 1), .int .u8 (byt s 2), .int .u8 (byt s 3)]
theorem six (s : ByteArray) (hs : s.size = 6) : ∃ c0 c1 c2 c3 c4 c5, s = ⟨#[c0, c1, c2, c3, c4, c5]⟩ := by
  obtain ⟨⟨l⟩⟩ := s
  match l, hs with
  | [c0, c1, c2, c3, c4, c5], _ => exact ⟨c0, c1, c2, c3, c4, c5, rfl⟩
theorem first_four (s : ByteArray) (hs : s.size = 6) (w : World) : (Builtin.firstCells 1 4 (.string s)).run Tryz.prog w = .ok (ofCs s).toArray w := by
  obtain ⟨c0, c1, c2, c3, c4, c5, rfl⟩ := six s hs
  simp [Builtin.firstCells, ofCs, byt, ByteArray.data_extract]
theorem of_copy (s : ByteArray) (hs : s.size = 6) (w : World) : ∃ W1, (Builtin.copy_ #[113, 9] 3 #[.slice (some ⟨w.heap.size + 1, 0, none⟩) 4 4, .string s]).run Tryz.prog ((w.alloc (.cells #[.int .u8 0, .int .u8 0, .int .u8 0, .int .u8 0, .int .u16 0] 49)).alloc (.cells #[.int .u8 0, .int .u8 0, .int .u8 0, .int .u8 0, .int .u16 0] 49)) = .ok (.int .i64 4) W1 ∧
    Blk w.heap.size 0 0 0 0 0 W1 ∧ Blk (w.heap.size + 1) (byt s 0) (byt s 1) (byt s 2) (byt s 3) 0 W1 ∧ Below w.heap.size w W1 := by
  have h1 : ((w.alloc (.cells #[.int .u8 0, .int .u8 0, .int .u8 0, .int .u8 0, .int .u16 0] 49)).alloc (.cells #[.int .u8 0, .int .u8 0, .int .u8 0, .int .u8 0, .int .u16 0] 49)).heap[w.heap.size]? = some (.cells #[.int .u8 0, .int .u8 0, .int .u8 0, .int .u8 0, .int .u16 0] 49 (0, 0)) := by
    rw [Below.heap_alloc _ _ _ (by simp), heap_alloc_new]
  have h2 := heap_alloc_new (w.alloc (.cells #[.int .u8 0, .int .u8 0, .int .u8 0, .int .u8 0, .int .u16 0] 49)) (.cells #[.int .u8 0, .int .u8 0, .int .u8 0, .int .u8 0, .int .u16 0] 49)
  rw [show (w.alloc (.cells #[.int .u8 0, .int .u8 0, .int .u8 0, .int .u8 0, .int .u16 0] 49)).heap.size = w.heap.size + 1 by simp] at h2
  have hb : Below w.heap.size w ((w.alloc (.cells #[.int .u8 0, .int .u8 0, .int .u8 0, .int .u8 0, .int .u16 0] 49)).alloc (.cells #[.int .u8 0, .int .u8 0, .int .u8 0, .int .u8 0, .int .u16 0] 49)) := ((Below.refl _ _).alloc (Nat.le_refl _) _).alloc (by simp) _
  generalize ((w.alloc (.cells #[.int .u8 0, .int .u8 0, .int .u8 0, .int .u8 0, .int .u16 0] 49)).alloc (.cells #[.int .u8 0, .int .u8 0, .int .u8 0, .int .u8 0, .int .u16 0] 49)) = W at *
  have hblk : Blk (w.heap.size + 1) 0 0 0 0 0 W := h2
  obtain ⟨⟨c0, c1, c2, c3, _⟩, cf⟩ := hblk.cells
  have hst := run_storeCells_cells (P := Tryz.prog) (w.heap.size + 1) 0 (ofCs s) 0 W (by
      intro j hj
      simp only [Nat.zero_add]
      match j, hj with
      | 0, _ => rw [c0]; rfl
      | 1, _ => rw [c1]; rfl
      | 2, _ => rw [c2]; rfl
      | 3, _ => rw [c3]; rfl) (fun j _ => cf _) (by
      intro v hv
      simp [ofCs] at hv
      rcases hv with rfl | rfl | rfl | rfl <;> rfl)
  have k1 := first_four s hs W
  refine ⟨W.setCells (w.heap.size + 1) 0 (ofCs s), ?_, ?_, ?_, ?_⟩
  · obtain ⟨i, hi, hz, hsz, _⟩ := info_parts (show (Tryz.prog.info? 5).map (fun i => (i.zero, i.size, i.bytes)) = some (some (.int .u8 0), 1, 1) by kernel_rfl)
    have hmin : Nat.min 6 4 = 4 := rfl
    simp only [Nat.zero_add] at hst
    simp [Builtin.copy_, run_underlying Tryz.underlying113, Builtin.lenOf, sizeOf, typeInfo, hi, hsz, hs, k1, hst, hmin]
    rfl
  · exact (((((heap_setCell_other _ ⟨w.heap.size + 1, 0 + 1 + 1 + 1, none⟩ _ _ (by simp)).trans (heap_setCell_other _ ⟨w.heap.size + 1, 0 + 1 + 1, none⟩ _ _ (by simp))).trans (heap_setCell_other _ ⟨w.heap.size + 1, 0 + 1, none⟩ _ _ (by simp))).trans (heap_setCell_other _ ⟨w.heap.size + 1, 0, none⟩ _ _ (by simp))).trans h1)
  · have e0 := heap_setCell_same W _ 0 _ _ (.int .u8 (byt s 0)) h2
    have e1 := heap_setCell_same _ _ 1 _ _ (.int .u8 (byt s 1)) e0
    have e2 := heap_setCell_same _ _ 2 _ _ (.int .u8 (byt s 2)) e1
    have e3 := heap_setCell_same _ _ 3 _ _ (.int .u8 (byt s 3)) e2
    exact e3
  · exact (((hb.setCell (by simp) _).setCell (by simp) _).setCell (by simp) _).setCell (by simp) _
end Go.Proofs.YtjfjliobencppaaGreatDoor.Sp

namespace Go.Proofs.YtjfjliobencppaaGreatDoor.Sp
open Go.RowKit

theorem or_step (n c : Nat) (hn : n < 256) (hc : c < 256) : bits BinOp.or IntKind.u64 (IntKind.u64.wrap ((n : Int) * 256)) (IntKind.u64.wrap (c : Int)) = ((n * 256 + c : Nat) : Int) := by
  rw [IntWalk.u64_in _ ⟨by omega, by omega⟩, IntWalk.u64_in _ ⟨by omega, by omega⟩]
  have h := u64_or_nat (n * 256) c (by omega) (by omega)
  have h2 := Nat.two_pow_add_eq_or_of_lt (i := 8) (show c < 2 ^ 8 from hc) n
  rw [show n * 256 ||| c = n * 256 + c by rw [show n * 256 = 2 ^ 8 * n by omega, ← h2]] at h
  rw [← h]; simp
def gv (c0 c1 : UInt8) (k : Nat) : Nat := if k = 0 then 0 else if k = 1 then c0.toNat else c0.toNat * 256 + c1.toNat
set_option maxRecDepth 1000000 in
theorem get_two (c0 c1 : UInt8) (w : World) : Calls Tryz.prog 138 #[.string ⟨#[c0, c1]⟩] w fun e w' => e = .returned (.tuple #[.int .u64 ((c0.toNat * 256 + c1.toNat : Nat) : Int), .int .i64 0]) ∧ w = w' := by
  have s0 := or_step 0 c0.toNat (by omega) c0.toNat_lt
  have s1 := or_step c0.toNat c1.toNat c0.toNat_lt c1.toNat_lt
  have hsz : (⟨#[c0, c1]⟩ : ByteArray).size = 2 := rfl
  have i0 : (⟨#[c0, c1]⟩ : ByteArray)[0] = c0 := rfl
  have i1 : (⟨#[c0, c1]⟩ : ByteArray)[1] = c1 := rfl
  go_enter Tryz.func138, Tryz.ntmps138
  go_wp2
  go_loop [4, 14] (fun n i => ∃ k : Nat, k ≤ 2 ∧ i = .int .i64 k ∧ n = .int .u64 (gv c0 c1 k)) (fun _ i => 2 - (intOf i).toNat)
  case atStart => exact ⟨0, Nat.zero_le _, rfl, rfl⟩
  case round =>
    obtain ⟨k, hk, rfl, rfl⟩ := hrel
    rcases (show k = 0 ∨ k = 1 ∨ k = 2 by omega) with rfl | rfl | rfl
    · go_wp2
      refine ⟨⟨1, by omega, rfl, ?_⟩, by simp [intOf]⟩
      have e : gv c0 c1 0 = 0 := rfl
      have e1 : gv c0 c1 1 = 0 * 256 + c0.toNat := by simp [gv]
      rw [e, e1, s0]
    · go_wp2
      refine ⟨⟨2, by omega, rfl, ?_⟩, by simp [intOf]⟩
      have e : gv c0 c1 1 = c0.toNat := rfl
      have e1 : gv c0 c1 2 = c0.toNat * 256 + c1.toNat := rfl
      rw [e, e1, s1]
    · go_wp2
      go_ret2
      exact ⟨rfl, rfl⟩
end Go.Proofs.YtjfjliobencppaaGreatDoor.Sp
