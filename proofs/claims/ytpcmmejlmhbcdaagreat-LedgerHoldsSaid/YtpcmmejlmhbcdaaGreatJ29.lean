/- What survives of a file.; Write.; Rename.; What survives, plainly; a file that is sure lasts, plainly. -/
import Derived.Test.YtpcmmejlmhbcdaaGreatJ28
import Derived.Deep.OwnRows
set_option linter.unusedVariables false
set_option linter.unusedSimpArgs false
namespace Go.Proofs.YtpcmmejlmhbcdaaGreat.Dk
open Go.RowKit Go.Maps Go.Sort

def SvQ (a b : ByteArray) (w : World) (e : Ending) (w' : World) : Prop := ∃ t : ByteArray, e = .returned (.string t) ∧ t.size ≤ 100000 ∧ (a = b → t = a) ∧ Below w.heap.size w w'
theorem made_bytes (n : Nat) : madeCells #[Value.int .u8 0] n = (bcl (List.replicate n 0)).toArray := by
  apply Array.ext'
  simp [madeCells, bcl, Array.toList_range]
  exact List.ext_getElem (by simp) (fun i _ _ => by simp [Nat.mod_one])
theorem sv_row {a x : ByteArray} {z k P Q R : Nat} {l l' : List UInt8} (hxa : x = a) (hza : z = a.size) (p1 : P = 64 * k) (p2 : Q = if z < P + 64 then z else P + 64) (p3 : R = if x.size < P then x.size else P) (hl : l.length = z) (hl1 : l'.length = l.length)
    (hl2 : ∀ j, j < l.length → l'[j]? = if P ≤ j ∧ j < P + Nat.min (x.extract R x.size).size (Q - P) then (x.extract R x.size).data.toList[j - P]? else l[j]?) (hold : ∀ j, j < 64 * k → j < z → l[j]? = a.data.toList[j]?) (j : Nat) (hj : j < 64 * (k + 1)) (hjz : j < z) : l'[j]? = a.data.toList[j]? := by
  subst hxa
  rw [hl2 j (by omega)]
  by_cases hjP : P ≤ j
  · have eR : R = P := by rw [p3, if_neg (by omega)]
    have hjQ : j < Q := by rw [p2]; split <;> omega
    have hQz : Q ≤ z := by rw [p2]; split <;> omega
    have hes : (x.extract R x.size).size = z - P := by rw [ByteArray.size_extract, eR, hza]; omega
    have hn : Nat.min (x.extract R x.size).size (Q - P) = Q - P := Nat.min_eq_right (by rw [hes]; omega)
    rw [hn, if_pos ⟨hjP, by omega⟩, eR]
    have hxl : x.data.toList.length = z := hza.symm
    rw [ByteArray.data_extract, Array.toList_extract, List.extract_eq_take_drop, List.getElem?_take, if_pos (by show j - P < x.size - P; omega), List.getElem?_drop]
    congr 1
    omega
  · rw [if_neg (fun hc => hjP hc.1)]
    exact hold j (by omega) hjz
set_option maxRecDepth 100000 in
set_option maxHeartbeats 2000000 in
theorem survives_any (c : Nat) (a b : ByteArray) (w : World) (hf : w.heap[c]? = some (.cells #[.string a, .string b] 111 (0, 0))) (hz : a.size ≤ 100000 ∧ b.size ≤ 100000) (m : Int) (hm : 0 ≤ m ∧ m ≤ 18446744073709551615) :
    Calls Tryz.prog 49 #[.pointer (some ⟨c, 0, none⟩), .int .u64 m] w (SvQ a b w) := by
  obtain ⟨d0, d1, f0, f1⟩ := two_cells hf
  have ⟨h0, h1⟩ := hz
  have ⟨m0, m1⟩ := hm
  have hma := fun w => run_make_row' (P := Tryz.prog) 117 5 (.int .u8 0) 1 Tryz.underlying117 info5 rfl .i64 .i64 a.size (by omega) (by omega) w
  have hmb := fun w => run_make_row' (P := Tryz.prog) 117 5 (.int .u8 0) 1 Tryz.underlying117 info5 rfl .i64 .i64 b.size (by omega) (by omega) w
  rw [made_bytes] at hma hmb
  rcases Bool.eq_false_or_eq_true (m / 9223372036854775808 == 1) with hB | hB
  all_goals
    go_enter Tryz.func49, Tryz.ntmps49
    go_wp2
    have HBB := Lib.hid hB
    clear hB
    first
      | (obtain ⟨z, hze⟩ : ∃ z, z = a.size := ⟨_, rfl⟩; have HZ : Hid (z = a.size ∨ z = b.size) := Lib.hid (Or.inl hze); have hz1 : z ≤ 100000 := (by omega); rw [← hze]; clear hze)
      | (obtain ⟨z, hze⟩ : ∃ z, z = b.size := ⟨_, rfl⟩; have HZ : Hid (z = a.size ∨ z = b.size) := Lib.hid (Or.inr hze); have hz1 : z ≤ 100000 := (by omega); rw [← hze]; clear hze)
    clear hma hmb hz hm
    have HFC := Lib.hid hf
    clear hf d0 d1 f0 f1
    go_loopw [7] (fun kv wr => ∃ (k : Nat) (l : List UInt8), kv = .int .i64 (k : Int) ∧ 64 * k ≤ z + 63 ∧ Hid (l.length = z ∧ BB w.heap.size 5 l wr ∧ (a = b → ∀ j, j < 64 * k → j < z → l[j]? = a.data.toList[j]?)) ∧ Hid (Below w.heap.size w wr)) (fun kv _ => z + 64 - 64 * (intOf kv).toNat)
    case atStart => exact ⟨0, List.replicate z 0, rfl, by omega, Lib.hid ⟨by simp, bb_new w _ 5, fun _ j hj => by omega⟩, Lib.hid (alloc_below w _)⟩
    case round =>
      obtain ⟨k, l, rfl, hk, HL, HB⟩ := hrel
      by_cases hlt : 64 * k < z
      · have hfr := (HB.out.block c (lt_of_heap HFC.out)).trans HFC.out
        obtain ⟨d0, d1, f0, f1⟩ := two_cells hfr
        have HFR := Lib.hid hfr
        have i1 : (k : Int) * 64 < (z : Int) := by omega
        have i2 : (0 : Int) ≤ (k : Int) := by omega
        have i3 : (k : Int) * 64 ≤ 100000 := by omega
        clear hfr hk
        go_wp2
        all_goals
          obtain ⟨P, hP⟩ : ∃ P, P = 64 * k := ⟨_, rfl⟩
          have eP : (k : Int) * 64 = (P : Int) := by omega
          rw [eP]
          obtain ⟨x, hx, hxs, HX⟩ : ∃ x : ByteArray, Hid (((bits BinOp.and IntKind.u64 (m / 2 ^ (k % 63)) 1 == 1) = true → x = a) ∧ ((bits BinOp.and IntKind.u64 (m / 2 ^ (k % 63)) 1 == 1) = false → x = b)) ∧ x.size ≤ 100000 ∧ Hid (x = a ∨ x = b) := by
            cases hbt : (bits BinOp.and IntKind.u64 (m / 2 ^ (k % 63)) 1 == 1)
            · exact ⟨b, Lib.hid ⟨fun e => (by cases e), fun _ => rfl⟩, h1, Lib.hid (Or.inr rfl)⟩
            · exact ⟨a, Lib.hid ⟨fun _ => rfl, fun e => (by cases e)⟩, h0, Lib.hid (Or.inl rfl)⟩
          obtain ⟨Q, hQ⟩ : ∃ Q : Nat, Q = if z < P + 64 then z else P + 64 := ⟨_, rfl⟩
          obtain ⟨R, hR⟩ : ∃ R : Nat, R = if x.size < P then x.size else P := ⟨_, rfl⟩
          have hm1 : min ((P : Int) + 64) (z : Int) = (Q : Int) := by rw [hQ]; split <;> omega
          have hm2 : min (P : Int) (x.size : Int) = (R : Int) := by rw [hR]; split <;> omega
          have hQz : Q ≤ z ∧ P ≤ Q := by rw [hQ]; split <;> omega
          have hRx : R ≤ x.size := by rw [hR]; split <;> omega
          have ew : IntKind.i64.wrap ((P : Int) + 64) = (P : Int) + 64 := IntWalk.i64_in _ ⟨by omega, by omega⟩
          have j1 : (0 : Int) ≤ (P : Int) := by omega
          have j2 : (P : Int) ≤ (Q : Int) := by omega
          have j3 : (Q : Int) ≤ (z : Int) := by omega
          have j4 : (0 : Int) ≤ (R : Int) := by omega
          have j5 : (R : Int) ≤ (x.size : Int) := by omega
          obtain ⟨l', hcp, hbb, hlen', hcopy, hkp⟩ := copy_str (w := wr.drew) HL.out.2.1 (x.extract R x.size) P (Q - P) (z - P) 3 (by rw [HL.out.1]; have hmn : Nat.min (x.extract R x.size).size (Q - P) ≤ Q - P := Nat.min_le_right _ _; omega)
          have HBB := Lib.hid hbb
          have HCOPY := Lib.hid (And.intro hlen' (And.intro hcopy hkp))
          have HPQ := Lib.hid (And.intro hP (And.intro hQ hR))
          clear hbb hlen' hcopy hkp hP hQ hR
          generalize wr.drew.setCells w.heap.size P (bcl ((x.extract R x.size).data.toList.take (Nat.min (x.extract R x.size).size (Q - P)))) = w5 at *
          have HXAB : Hid (a = b → x = a) := Lib.hid (fun hab => by rcases HX.out with e | e; exact e; rw [e, hab])
          first
            | (have hxe := hx.out.1 (by assumption); clear HX hx; subst hxe)
            | (have hxe := hx.out.2 (by assumption); clear HX hx; subst hxe)
          go_region_held3 (fun _ => True) (first | exact True.intro) (first | fail)
          simp only [Exit.inBlock, Exit.then]
          apply_assumption
          go_wp2
          all_goals
            go_roundw
            case rel =>
              obtain ⟨hl1, hl2, hl3⟩ := HCOPY.out
              obtain ⟨p1, p2, p3⟩ := HPQ.out
              refine ⟨k + 1, l', by go_num, by omega, Lib.hid ⟨by rw [hl1]; exact HL.out.1, HBB.out, fun hab j hj hjz => ?_⟩, Lib.hid (HB.out.drew.trans (hl3.below (fun i e => by have e' : i = w.heap.size := e; omega) HB.out.size))⟩
              exact sv_row (by first | rfl | exact HXAB.out hab) (by rcases HZ.out with e | e; exact e; rw [e, hab]) p1 p2 p3 HL.out.1 hl1 hl2 (HL.out.2.2 hab) j hj hjz
            case measure => simp [intOf]; omega
      · have i1 : ¬ (k : Int) * 64 < (z : Int) := by omega
        have hconv := conv_bb HL.out.2.1
        rw [HL.out.1] at hconv
        go_wp2
        go_ret
        refine ⟨⟨l.toArray⟩, rfl, by show l.length ≤ 100000; rw [HL.out.1]; exact hz1, fun hab => ?_, HB.out⟩
        have hza : z = a.size := by rcases HZ.out with e | e; exact e; rw [e, hab]
        have hzx : z = a.data.toList.length := hza
        refine ByteArray.ext (Array.ext' (List.ext_getElem? (fun j => ?_)))
        by_cases hjz : j < z
        · exact HL.out.2.2 hab j (by omega) hjz
        · rw [List.getElem?_eq_none (by have := HL.out.1; show l.length ≤ j; omega), List.getElem?_eq_none (by omega)]
end Go.Proofs.YtpcmmejlmhbcdaaGreat.Dk

namespace Go.Proofs.YtpcmmejlmhbcdaaGreat.Dk
open Go.RowKit Go.Maps Go.Sort

/-- How long what has a name is. -/
def oldN (st : St) (s : ByteArray) : Nat := if hasN st.N s = true then (st.F (atN st.N s)).1.size else 0
/-- What a Write asks ahead of its step. -/
def preW (st : St) (s text : ByteArray) : Nat := if st.down = true then 15 else if nmB s = false then 2 else if hasN st.N s = false ∧ 16 ≤ Maps.size st.N then 17 else if (st.room : Int) < (usedN st : Int) - (oldN st s : Int) + (text.size : Int) then 16 else 0
def writeE (st : St) (s text : ByteArray) : Nat := if preW st s text = 0 then stepE st else preW st s text
noncomputable def writeS (st : St) (s text : ByteArray) (nf : Nat) : St :=
  if preW st s text = 0 then (if stepE st = 0 then (if hasN st.N s = true then { stepS st with F := setF st.F (atN st.N s) (text, (st.F (atN st.N s)).2) } else turnS { stepS st with F := setF st.F nf (text, ⟨#[]⟩) } ⟨0, nf, [], s⟩) else stepS st) else st
theorem DW.newF {w : World} {K : Nat → Prop} {D : Nat} {g : Gh} {st : St} (h : DW w K D g st) (c : Nat) (hc : ¬ st.live c) (p : ByteArray × ByteArray) : DW w K D g { st with F := setF st.F c p } := by
  have hF : ∀ x, st.live x → setF st.F c p x = st.F x := fun x hx => if_neg (fun e => hc (by rw [← e]; exact hx))
  refine ⟨h.blk, h.names, h.sure, h.ne, h.row, h.turn, fun x hx => ?_, fun x hx => ?_, h.filN, h.filS, h.few, h.own⟩
  · have hx' : st.live x := hx
    show w.heap[x]? = some (.cells #[.string (setF st.F c p x).1, .string (setF st.F c p x).2] 111 (0, 0))
    rw [hF x hx']
    exact h.file x hx'
  · have hx' : st.live x := hx
    show (setF st.F c p x).1.size ≤ 100000 ∧ (setF st.F c p x).2.size ≤ 100000
    rw [hF x hx']
    exact h.size x hx'
theorem used_le {w : World} {K : Nat → Prop} {D : Nat} {g : Gh} {st : St} (h : DW w K D g st) : usedN st ≤ 100000000000 := by
  have h1 := sumF_le (F := st.F) (filesN st.N) (fun d hd => (h.size d (live_files h.filN h.names d hd)).1)
  have h2 := files_len h.names
  have h3 := h.few.1
  unfold usedN
  have : (filesN st.N).length * 100000 ≤ 1000000 * 100000 := Nat.mul_le_mul_right _ (by omega)
  omega
theorem write_nil (s t : ByteArray) (w : World) : Calls Tryz.prog 70 #[.pointer none, .string s, .string t] w fun e w' => e = .returned (.int .i64 1) ∧ w' = w := by
  have K1 := Lib.hid (fun w => find_nil s w)
  go_enter Tryz.func70, Tryz.ntmps70
  go_wp2_with (first | (go_at_call 95; ((with_reducible refine (K1.out _).mono ?_); rintro e w' ⟨rfl, rfl⟩)))
  go_ret
  exact ⟨rfl, rfl⟩
/-- What a Write leaves. -/
def WriteQ (st : St) (s text : ByteArray) (K : Nat → Prop) (D : Nat) (g : Gh) (w : World) (e : Ending) (w' : World) : Prop :=
  e = .returned (.int .i64 (writeE st s text : Nat)) ∧ (∃ nf g', w.heap.size ≤ nf ∧ DW w' (Kn K w w') D g' (writeS st s text nf) ∧ g'.nn ≤ g.nn + 1) ∧ Kp K w w'
theorem WriteQ.none {st : St} {s text : ByteArray} {K : Nat → Prop} {D : Nat} {g : Gh} {w w' : World} {n : Nat} (hp : preW st s text = n) (hn : n ≠ 0) (h : DW w K D g st) (hb : Below w.heap.size w w') : WriteQ st s text K D g w (.returned (.int .i64 (n : Int))) w' := by
  refine ⟨?_, ⟨w.heap.size, g, Nat.le_refl _, ?_, by omega⟩, Kp.of_below hb⟩
  · unfold writeE; rw [hp, if_neg hn]
  · unfold writeS
    rw [hp, if_neg hn]
    exact (h.later hb).kn
theorem WriteQ.stop {st : St} {s text : ByteArray} {K : Nat → Prop} {D : Nat} {g : Gh} {w w' : World} (hp : preW st s text = 0) (h5 : stepE st ≠ 0) (h : DW w' K D g (stepS st)) (hk : Kp K w w') : WriteQ st s text K D g w (.returned (.int .i64 (stepE st : Nat))) w' := by
  refine ⟨?_, ⟨w.heap.size, g, Nat.le_refl _, ?_, by omega⟩, hk⟩
  · unfold writeE; rw [hp, if_pos rfl]
  · unfold writeS
    rw [hp, if_pos rfl, if_neg h5]
    exact h.kn
theorem WriteQ.has {st : St} {s text : ByteArray} {K : Nat → Prop} {D : Nat} {g : Gh} {w w' : World} (hp : preW st s text = 0) (h5 : stepE st = 0) (hh : hasN st.N s = true) (h : DW w' K D g { stepS st with F := setF st.F (atN st.N s) (text, (st.F (atN st.N s)).2) }) (hk : Kp K w w') : WriteQ st s text K D g w (.returned (.int .i64 0)) w' := by
  refine ⟨?_, ⟨w.heap.size, g, Nat.le_refl _, ?_, by omega⟩, hk⟩
  · unfold writeE; rw [hp, if_pos rfl, h5]; rfl
  · unfold writeS
    rw [hp, if_pos rfl, if_pos h5, if_pos hh]
    exact h.kn
theorem WriteQ.new {st : St} {s text : ByteArray} {K : Nat → Prop} {D : Nat} {g g' : Gh} {w w' : World} {nf : Nat} (hp : preW st s text = 0) (h5 : stepE st = 0) (hh : hasN st.N s = false) (hnf : w.heap.size ≤ nf) (h : DW w' (Kn K w w') D g' (turnS { stepS st with F := setF st.F nf (text, ⟨#[]⟩) } ⟨0, nf, [], s⟩)) (hg : g'.nn ≤ g.nn + 1) (hk : Kp K w w') : WriteQ st s text K D g w (.returned (.int .i64 0)) w' := by
  refine ⟨?_, ⟨nf, g', hnf, ?_, hg⟩, hk⟩
  · unfold writeE; rw [hp, if_pos rfl, h5]; rfl
  · unfold writeS
    rw [hp, if_pos rfl, if_pos h5, if_neg (by rw [hh]; simp)]
    exact h
theorem blH_drew {b : Nat} {w wz : World} (h : Hid (Below b w wz)) : Hid (Below b w wz.drew) := Lib.hid h.out.drew
theorem blH_undrew {b : Nat} {w wz : World} (h : Hid (Below b w wz.drew)) : Hid (Below b w wz) := Lib.hid ⟨h.out.os, h.out.tape, h.out.output, h.out.size, h.out.block⟩
theorem used_later {w : World} {K : Nat → Prop} {D : Nat} {g : Gh} {st : St} (h : DW w K D g st) (wy : World) (hb : Hid (Below w.heap.size w wy)) : Calls Tryz.prog 97 #[.pointer (some ⟨D, 0, none⟩)] wy fun e w' => e = .returned (.int .i64 (usedN st : Nat)) ∧ Hid (Below w.heap.size w w') :=
  (used_any (h.later hb.out)).mono fun e w' ⟨h1, h2⟩ => ⟨h1, Lib.hid (hb.out.trans (h2.mono hb.out.size))⟩
set_option maxRecDepth 100000 in
set_option maxHeartbeats 2000000 in
theorem write_has {w : World} {K : Nat → Prop} {D : Nat} {g : Gh} {st : St} (h : DW w K D g st) (hst : st.steps < 1000000000) (s text : ByteArray) (hs : s.size ≤ 1000000000) (ht : text.size ≤ 100000) (hd : st.down = false) (hh : hasN st.N s = true) :
    Calls Tryz.prog 70 #[.pointer (some ⟨D, 0, none⟩), .string s, .string text] w (WriteQ st s text K D g w) := by
  have H := Lib.hid h
  have K1 := Lib.hid (find_any h s hs)
  have K2 := Lib.hid (fun wy => name_any s hs wy)
  have h0 : findE st s = 0 := by unfold findE; rw [hd, hh]; rfl
  rw [findV_zero h0, h0] at K1
  cases hn : nmB s
  · rw [hn] at K2
    have HP : Hid (preW st s text = 2) := Lib.hid (by unfold preW; rw [hd, hn]; simp)
    clear h hst hs ht hd hh h0 hn
    generalize atN st.N s = c at *
    go_enter Tryz.func70, Tryz.ntmps70
    go_wp2_with (first
      | (go_at_call 95; ((with_reducible refine (K1.out).mono ?_); rintro e w0 ⟨rfl, rfl⟩))
      | (go_at_call 96; ((with_reducible refine (K2.out _).mono ?_); rintro e w0 ⟨rfl, rfl⟩)))
    go_ret
    exact WriteQ.none (n := 2) HP.out (by decide) H.out (Below.refl _ _)
  · rw [hn] at K2
    have K3 := Lib.hid (fun wy hb => used_later h wy hb)
    have hl := h.filN.live hh
    have HL := Lib.hid hl
    have hf := h.file _ hl
    have hz := (h.size _ hl).1
    have hu := used_le h
    have ho : oldN st s = (st.F (atN st.N s)).1.size := if_pos hh
    have hroom := h.few.2.2.2.1
    have c0 := h.c0
    by_cases hr : (st.room : Int) < (usedN st : Int) - (oldN st s : Int) + (text.size : Int)
    · have HP : Hid (preW st s text = 16) := Lib.hid (by unfold preW; rw [hd, hn, hh]; simp [hr])
      have HF := Lib.hid hf
      have HR : Hid (∀ w1, Hid (Below w.heap.size w w1) → w1.cell? ⟨D, 0, none⟩ = some (.int .i64 (st.room : Int)) ∧ w1.cell? ⟨atN st.N s, 0, none⟩ = some (.string (st.F (atN st.N s)).1) ∧ Hid (Below w.heap.size w w1)) := Lib.hid (fun w1 hb => ⟨(H.out.later hb.out).c0, (two_cells ((H.out.later hb.out).file _ HL.out)).1, hb⟩)
      rw [ho] at hr
      generalize usedN st = U at *
      generalize st.room = R at *
      generalize (st.F (atN st.N s)).1 = old at *
      generalize atN st.N s = c at *
      clear h hst hs hd hh h0 hn hl hf ho c0
      have e1 : IntKind.i64.wrap ((U : Int) - (old.size : Int)) = (U : Int) - (old.size : Int) := IntWalk.i64_in _ ⟨by omega, by omega⟩
      have e2 : IntKind.i64.wrap ((U : Int) - (old.size : Int) + (text.size : Int)) = (U : Int) - (old.size : Int) + (text.size : Int) := IntWalk.i64_in _ ⟨by omega, by omega⟩
      go_enter Tryz.func70, Tryz.ntmps70
      go_wp2_with (first
        | (go_at_call 95; ((with_reducible refine (K1.out).mono ?_); rintro e w0 ⟨rfl, rfl⟩))
        | (go_at_call 96; ((with_reducible refine (K2.out _).mono ?_); rintro e w0 ⟨rfl, rfl⟩)))
      go_region_held3 (fun wz => wz.cell? ⟨D, 0, none⟩ = some (.int .i64 (R : Int)) ∧ wz.cell? ⟨c, 0, none⟩ = some (.string old) ∧ Hid (Below w0.heap.size w0 wz))
        (first | exact HR.out _ (by assumption) | (refine HR.out _ (blH_drew ?_); assumption) | (refine HR.out _ (blH_undrew ?_); assumption) | (exact HR.out _ (Lib.hid (Below.refl _ _).drew)))
        (first | (go_at_call 97; ((with_reducible refine (K3.out _ ?_).mono ?_); (first | assumption | exact Lib.hid (Below.refl _ _).drew | exact Lib.hid (Below.refl _ _)); rintro e w1 ⟨rfl, hb1⟩)))
      all_goals
        simp only [Exit.then]
        apply_assumption
        go_wp2
        go_ret
        exact WriteQ.none (n := 16) HP.out (by decide) H.out (Hid.out (by assumption))
    · have HP : Hid (preW st s text = 0) := Lib.hid (by unfold preW; rw [hd, hn, hh]; simp [hr])
      have K4 : Hid (∀ wy : World, DW wy K D g st → Calls Tryz.prog 98 #[.pointer (some ⟨D, 0, none⟩)] wy fun e w' => e = .returned (.int .i64 (stepE st : Nat)) ∧ DW w' K D g (stepS st) ∧ Kp (· = D) wy w') := Lib.hid (fun wy hdw => step_any hdw hst)
      have K5 := Lib.hid (fun wy => sclone_any text wy (by omega))
      have HR : Hid (∀ w1, Hid (Below w.heap.size w w1) → w1.cell? ⟨D, 0, none⟩ = some (.int .i64 (st.room : Int)) ∧ w1.cell? ⟨atN st.N s, 0, none⟩ = some (.string (st.F (atN st.N s)).1) ∧ Hid (Below w.heap.size w w1)) := Lib.hid (fun w1 hb => ⟨(H.out.later hb.out).c0, (two_cells ((H.out.later hb.out).file _ HL.out)).1, hb⟩)
      have HC : Hid (∀ w3, DW w3 K D g (stepS st) → w3.heap[atN st.N s]? = some (.cells #[.string (st.F (atN st.N s)).1, .string (st.F (atN st.N s)).2] 111 (0, 0)) ∧ DW (w3.setCell ⟨atN st.N s, 0, none⟩ (.string text)) K D g { stepS st with F := setF st.F (atN st.N s) (text, (st.F (atN st.N s)).2) }) := Lib.hid (fun w3 hd3 => by
        have hl1 : (stepS st).live (atN st.N s) := (stepS_live st _).2 HL.out
        have hf := hd3.file _ hl1
        rw [(stepS_N st).2.1] at hf
        refine ⟨hf, ?_⟩
        have hset := heap_setCell_same w3 (atN st.N s) 0 _ _ (.string text) hf
        have := hd3.file_turn _ hl1 (text, (st.F (atN st.N s)).2) (kp_file w3 _ 0 _) (by rw [hset]; rfl) ⟨ht, (H.out.size _ HL.out).2⟩
        rw [(stepS_N st).2.1] at this
        exact this)
      have HK : Hid (K (atN st.N s)) := Lib.hid (H.out.own.2.2.2.2.1 _ HL.out)
      have HH := Lib.hid hh
      rw [ho] at hr
      by_cases h5 : stepE st = 0
      · have HF5 := Lib.hid h5
        have HQ : Hid (∀ w', DW w' K D g { stepS st with F := setF st.F (atN st.N s) (text, (st.F (atN st.N s)).2) } → Kp K w w' → WriteQ st s text K D g w (.returned (.int .i64 0)) w') := Lib.hid (fun w' hd' hk' => WriteQ.has HP.out HF5.out HH.out hd' hk')
        rw [h5] at K4
        clear h hst hs hd hh h0 hn hl hf ho c0 h5 HP HF5 HH HL
        generalize usedN st = U at *
        generalize st.room = R at *
        generalize (st.F (atN st.N s)).1 = old at *
        generalize (st.F (atN st.N s)).2 = old2 at *
        generalize atN st.N s = c at *
        have e1 : IntKind.i64.wrap ((U : Int) - (old.size : Int)) = (U : Int) - (old.size : Int) := IntWalk.i64_in _ ⟨by omega, by omega⟩
        have e2 : IntKind.i64.wrap ((U : Int) - (old.size : Int) + (text.size : Int)) = (U : Int) - (old.size : Int) + (text.size : Int) := IntWalk.i64_in _ ⟨by omega, by omega⟩
        go_enter Tryz.func70, Tryz.ntmps70
        go_wp2_with (first
          | (go_at_call 95; ((with_reducible refine (K1.out).mono ?_); rintro e w0 ⟨rfl, rfl⟩))
          | (go_at_call 96; ((with_reducible refine (K2.out _).mono ?_); rintro e w0 ⟨rfl, rfl⟩)))
        go_region_held3 (fun wz => wz.cell? ⟨D, 0, none⟩ = some (.int .i64 (R : Int)) ∧ wz.cell? ⟨c, 0, none⟩ = some (.string old) ∧ Hid (Below w0.heap.size w0 wz))
          (first | exact HR.out _ (by assumption) | (refine HR.out _ (blH_drew ?_); assumption) | (refine HR.out _ (blH_undrew ?_); assumption) | (exact HR.out _ (Lib.hid (Below.refl _ _).drew)))
          (first | (go_at_call 97; ((with_reducible refine (K3.out _ ?_).mono ?_); (first | assumption | exact Lib.hid (Below.refl _ _).drew | exact Lib.hid (Below.refl _ _)); rintro e w1 ⟨rfl, hb1⟩)))
        all_goals
          simp only [Exit.then]
          apply_assumption
          go_wp2_with (first
            | (go_at_call 98; ((with_reducible refine (K4.out _ ?_).mono ?_); exact H.out.later hb1.out; rintro e w2 ⟨rfl, hd2, hk2⟩; have HD2 := Lib.hid hd2; have HK2 := Lib.hid hk2; clear hd2 hk2))
            | (go_at_call 92; ((with_reducible refine (K5.out _).mono ?_); rintro e w3 ⟨rfl, hb3⟩; have HB3 := Lib.hid hb3; have HD3 := Lib.hid (HD2.out.later hb3); obtain ⟨y0, y1, y2, y3⟩ := two_cells (HC.out w3 HD3.out).1; clear hb3)))
          go_ret
          refine HQ.out _ (HC.out w3 HD3.out).2 ?_
          exact (((Kp.of_below (K := K) hb1.out).trans (HK2.out.mono (fun i _ e => by have e' : i = D := e; rw [e']; exact H.out.own.1))).trans (Kp.of_below (K := K) HB3.out)).trans ((kp_file w3 c 0 _).mono (fun i _ e => by have e' : i = c := e; rw [e']; exact HK.out))
      · have HQ : Hid (∀ w', DW w' K D g (stepS st) → Kp K w w' → WriteQ st s text K D g w (.returned (.int .i64 (stepE st : Nat))) w') := Lib.hid (fun w' hd' hk' => WriteQ.stop HP.out h5 hd' hk')
        have q : (((stepE st : Nat) : Int) != 0) = true := by rw [bne_iff_ne]; omega
        clear h hst hs hd hh h0 hn hl hf ho c0 h5 HP HH HC
        generalize stepE st = e5 at *
        generalize usedN st = U at *
        generalize st.room = R at *
        generalize (st.F (atN st.N s)).1 = old at *
        generalize atN st.N s = c at *
        have e1 : IntKind.i64.wrap ((U : Int) - (old.size : Int)) = (U : Int) - (old.size : Int) := IntWalk.i64_in _ ⟨by omega, by omega⟩
        have e2 : IntKind.i64.wrap ((U : Int) - (old.size : Int) + (text.size : Int)) = (U : Int) - (old.size : Int) + (text.size : Int) := IntWalk.i64_in _ ⟨by omega, by omega⟩
        go_enter Tryz.func70, Tryz.ntmps70
        go_wp2_with (first
          | (go_at_call 95; ((with_reducible refine (K1.out).mono ?_); rintro e w0 ⟨rfl, rfl⟩))
          | (go_at_call 96; ((with_reducible refine (K2.out _).mono ?_); rintro e w0 ⟨rfl, rfl⟩)))
        go_region_held3 (fun wz => wz.cell? ⟨D, 0, none⟩ = some (.int .i64 (R : Int)) ∧ wz.cell? ⟨c, 0, none⟩ = some (.string old) ∧ Hid (Below w0.heap.size w0 wz))
          (first | exact HR.out _ (by assumption) | (refine HR.out _ (blH_drew ?_); assumption) | (refine HR.out _ (blH_undrew ?_); assumption) | (exact HR.out _ (Lib.hid (Below.refl _ _).drew)))
          (first | (go_at_call 97; ((with_reducible refine (K3.out _ ?_).mono ?_); (first | assumption | exact Lib.hid (Below.refl _ _).drew | exact Lib.hid (Below.refl _ _)); rintro e w1 ⟨rfl, hb1⟩)))
        all_goals
          simp only [Exit.then]
          apply_assumption
          go_wp2_with (first
            | (go_at_call 98; ((with_reducible refine (K4.out _ ?_).mono ?_); exact H.out.later hb1.out; rintro e w2 ⟨rfl, hd2, hk2⟩; have HD2 := Lib.hid hd2; have HK2 := Lib.hid hk2; clear hd2 hk2)))
          go_ret
          exact HQ.out _ HD2.out ((Kp.of_below (K := K) hb1.out).trans (HK2.out.mono (fun i _ e => by have e' : i = D := e; rw [e']; exact H.out.own.1)))
/-- A file's block that is no file of the disk turns. -/
theorem DW.file_free {w w' : World} {K : Nat → Prop} {D : Nat} {g : Gh} {st : St} (h : DW w K D g st) (c : Nat) (hc : ¬ st.live c) (ca : Array Value) (hf : w.heap[c]? = some (.cells ca 111 (0, 0))) (hk : Kp (· = c) w w') : DW w' K D g st := by
  have ne : ∀ (b : Nat) (o : Obj), w.heap[b]? = some o → o ≠ .cells ca 111 (0, 0) → w'.heap[b]? = some o := fun b o hbo hne =>
    (hk.block b (lt_of_heap hbo) (fun e => hne (by have e' : b = c := e; rw [e', hf] at hbo; exact (Option.some.inj hbo).symm))).trans hbo
  refine ⟨ne _ _ h.blk (by simp), ?_, ?_, h.ne, ?_, ?_, ?_, h.size, h.filN, h.filS, h.few, ⟨h.own.1, h.own.2.1, h.own.2.2.1, h.own.2.2.2.1, h.own.2.2.2.2.1, fun b hb => Nat.lt_of_lt_of_le (h.own.2.2.2.2.2 b hb) hk.size⟩⟩
  · obtain ⟨es, cl, he, hr⟩ := h.names
    exact ⟨es, cl, ne _ _ he (by simp), hr⟩
  · obtain ⟨es, cl, he, hr⟩ := h.sure
    exact ⟨es, cl, ne _ _ he (by simp), hr⟩
  · refine ⟨h.row.1, ?_⟩
    rcases h.row.2 with h1 | ⟨r, cur, h1, h2, h4, h5⟩
    · exact Or.inl h1
    · exact Or.inr ⟨r, cur, h1, h2, ne _ _ h4 (by simp), h5⟩
  · intro i hi
    obtain ⟨c0, c1, c2, c3, e0, e1, e2, e3, t0, t1, t2, t3⟩ := h.turn i hi
    exact ⟨c0, c1, c2, c3, e0, e1, e2, e3, t0, t1, t2.keep (fun b cur hbb => ne _ _ hbb (by simp)), t3⟩
  · intro x hx
    exact (hk.block x (lt_of_heap (h.file x hx)) (fun e => hc (by have e' : x = c := e; rw [← e']; exact hx))).trans (h.file x hx)
theorem strow_nil (w : World) : StrRow w [] (.slice none 0 0) := ⟨none, 0, 0, #[], rfl, fun h => absurd h (by simp), fun j h => absurd h (by simp)⟩
set_option maxRecDepth 100000 in
set_option maxHeartbeats 2000000 in
theorem write_new {w : World} {K : Nat → Prop} {D : Nat} {g : Gh} {st : St} (h : DW w K D g st) (hst : st.steps < 1000000000) (s text : ByteArray) (hs : s.size ≤ 1000000000) (ht : text.size ≤ 100000) (hfew : g.nn + 1 ≤ 900000 ∧ st.P.length + 1 ≤ 1000000) (hd : st.down = false) (hh : hasN st.N s = false) :
    Calls Tryz.prog 70 #[.pointer (some ⟨D, 0, none⟩), .string s, .string text] w (WriteQ st s text K D g w) := by
  have H := Lib.hid h
  have K1 := Lib.hid (find_any h s hs)
  have K2 := Lib.hid (fun wy => name_any s hs wy)
  have h0 : findE st s = 12 := by unfold findE; rw [hd, hh]; rfl
  have hv : findV st s = .pointer none := if_neg (by rw [h0]; omega)
  rw [hv, h0] at K1
  have c1 := h.c1
  cases hn : nmB s
  · rw [hn] at K2
    have HP : Hid (preW st s text = 2) := Lib.hid (by unfold preW; rw [hd, hn]; simp)
    clear h hst hs ht hd hh h0 hn hv c1
    go_enter Tryz.func70, Tryz.ntmps70
    go_wp2_with (first
      | (go_at_call 95; ((with_reducible refine (K1.out).mono ?_); rintro e w0 ⟨rfl, rfl⟩))
      | (go_at_call 96; ((with_reducible refine (K2.out _).mono ?_); rintro e w0 ⟨rfl, rfl⟩)))
    go_ret
    exact WriteQ.none (n := 2) HP.out (by decide) H.out (Below.refl _ _)
  · rw [hn] at K2
    have HN := Lib.hid h.names
    have HSL : Maps.size st.N ≤ 1000000 := Nat.le_trans h.names.size_le h.few.1
    by_cases hm : 16 ≤ Maps.size st.N
    · have HP : Hid (preW st s text = 17) := Lib.hid (by unfold preW; rw [hd, hn, hh]; simp [hm])
      clear h hst hs ht hd hh h0 hn hv
      obtain ⟨b, hb⟩ : ∃ b, b = g.bn := ⟨_, rfl⟩
      obtain ⟨m, hm'⟩ : ∃ m, m = Maps.size st.N := ⟨_, rfl⟩
      have HLEN : Hid (∀ ty, (Builtin.len_ #[97] ty #[.map (some b)]).run Tryz.prog w = .ok (.int .i64 (m : Int)) w) := Lib.hid (fun ty => by rw [hb, hm']; exact HN.out.len Tryz.underlying97 ty)
      rw [← hb] at c1
      rw [← hm'] at hm HSL
      clear hb hm' HN
      have hlen := HLEN.out
      go_enter Tryz.func70, Tryz.ntmps70
      go_wp2_with (first
        | (go_at_call 95; ((with_reducible refine (K1.out).mono ?_); rintro e w0 ⟨rfl, rfl⟩))
        | (go_at_call 96; ((with_reducible refine (K2.out _).mono ?_); rintro e w0 ⟨rfl, rfl⟩)))
      go_ret
      exact WriteQ.none (n := 17) HP.out (by decide) H.out (Below.refl _ _)
    · have HP0 : ∀ n : Nat, ((st.room : Int) < (usedN st : Int) + (text.size : Int) → n = 16) → (¬ (st.room : Int) < (usedN st : Int) + (text.size : Int) → n = 0) → preW st s text = n := fun n h1 h2 => by
        have ho : oldN st s = 0 := if_neg (by rw [hh]; simp)
        unfold preW
        rw [hd, hn, hh, ho]
        by_cases hr : (st.room : Int) < (usedN st : Int) + (text.size : Int)
        · rw [h1 hr]; simp [hm, hr]
        · rw [h2 hr]; simp [hm, hr]
      have hba := alloc_below w (.cells #[.string ⟨#[]⟩, .string ⟨#[]⟩] 111)
      have HXA := Lib.hid (heap_new w (.cells #[.string ⟨#[]⟩, .string ⟨#[]⟩] 111))
      have HLA := Lib.hid (alloc_lt w (.cells #[.string ⟨#[]⟩, .string ⟨#[]⟩] 111))
      have HDa := Lib.hid (h.later hba)
      have HBA := Lib.hid hba
      obtain ⟨m, hm'⟩ : ∃ m, m = Maps.size st.N := ⟨_, rfl⟩
      have HLEN : Hid (∀ ty, (Builtin.len_ #[97] ty #[.map (some g.bn)]).run Tryz.prog w = .ok (.int .i64 (m : Int)) w) := Lib.hid (fun ty => by rw [hm']; exact HN.out.len Tryz.underlying97 ty)
      rw [← hm'] at hm HSL
      have hlen := HLEN.out
      have hu := used_le h
      have hroom := h.few.2.2.2.1
      have HDX : Hid (D < w.heap.size) := Lib.hid h.lt
      have HNL : Hid (¬ st.live w.heap.size) := Lib.hid (fun hl => by have := lt_of_heap (h.file _ hl); omega)
      have HKL := Lib.hid h.own.2.2.2.2.2
      obtain ⟨wa, hwa⟩ : ∃ wa, wa = w.alloc (.cells #[.string ⟨#[]⟩, .string ⟨#[]⟩] 111) := ⟨_, rfl⟩
      rw [← hwa] at HXA HLA HDa HBA
      have HWA := Lib.hid hwa
      have K3 := Lib.hid (fun wy hb => used_later HDa.out wy hb)
      have HR : Hid (∀ w1, Hid (Below wa.heap.size wa w1) → w1.cell? ⟨D, 0, none⟩ = some (.int .i64 (st.room : Int)) ∧ w1.cell? ⟨w.heap.size, 0, none⟩ = some (.string ⟨#[]⟩) ∧ Hid (Below wa.heap.size wa w1)) := Lib.hid (fun w1 hb => ⟨(HDa.out.later hb.out).c0, (two_cells ((hb.out.block _ HLA.out).trans HXA.out)).1, hb⟩)
      have HC1 := Lib.hid c1
      by_cases hr : (st.room : Int) < (usedN st : Int) + (text.size : Int)
      · have HQ : Hid (∀ w', Below w.heap.size w w' → WriteQ st s text K D g w (.returned (.int .i64 16)) w') := Lib.hid (fun w' hb => WriteQ.none (n := 16) (HP0 16 (fun _ => rfl) (fun hx => absurd hr hx)) (by decide) H.out hb)
        clear h hst hs hd hh h0 hn hv hba hwa hm' HN HP0
        generalize usedN st = U at *
        generalize st.room = R at *
        have e1 : IntKind.i64.wrap ((U : Int)) = (U : Int) := IntWalk.i64_in _ ⟨by omega, by omega⟩
        have e2 : IntKind.i64.wrap ((U : Int) + (text.size : Int)) = (U : Int) + (text.size : Int) := IntWalk.i64_in _ ⟨by omega, by omega⟩
        go_enter Tryz.func70, Tryz.ntmps70
        go_wp2_with (first
          | (go_at_call 95; ((with_reducible refine (K1.out).mono ?_); rintro e w0 ⟨rfl, rfl⟩))
          | (go_at_call 96; ((with_reducible refine (K2.out _).mono ?_); rintro e w0 ⟨rfl, rfl⟩)))
        rw [← HWA.out]
        go_region_held3 (fun wz => wz.cell? ⟨D, 0, none⟩ = some (.int .i64 (R : Int)) ∧ wz.cell? ⟨w0.heap.size, 0, none⟩ = some (.string ⟨#[]⟩) ∧ Hid (Below wa.heap.size wa wz))
          (first | exact HR.out _ (by assumption) | (refine HR.out _ (blH_drew ?_); assumption) | (refine HR.out _ (blH_undrew ?_); assumption) | (exact HR.out _ (Lib.hid (Below.refl _ _).drew)))
          (first | (go_at_call 97; ((with_reducible refine (K3.out _ ?_).mono ?_); (first | assumption | exact Lib.hid (Below.refl _ _).drew | exact Lib.hid (Below.refl _ _)); rintro e w1 ⟨rfl, hb1⟩)))
        all_goals
          simp only [Exit.then]
          apply_assumption
          go_wp2
          go_ret
          exact HQ.out _ (HBA.out.trans (hb1.out.mono HBA.out.size))
      · have HP := HP0 0 (fun hx => absurd hx hr) (fun _ => rfl)
        have K4 : Hid (∀ wy : World, DW wy K D g st → Calls Tryz.prog 98 #[.pointer (some ⟨D, 0, none⟩)] wy fun e w' => e = .returned (.int .i64 (stepE st : Nat)) ∧ DW w' K D g (stepS st) ∧ Kp (· = D) wy w') := Lib.hid (fun wy hdw => step_any hdw hst)
        by_cases h5 : stepE st = 0
        · have HQ : Hid (∀ w' g', DW w' (Kn K w w') D g' (turnS { stepS st with F := setF st.F w.heap.size (text, ⟨#[]⟩) } ⟨0, w.heap.size, [], s⟩) → g'.nn ≤ g.nn + 1 → Kp K w w' → WriteQ st s text K D g w (.returned (.int .i64 0)) w') := Lib.hid (fun w' g' h1 h2 h3 => WriteQ.new HP h5 hh (Nat.le_refl _) h1 h2 h3)
          rw [h5] at K4
          have K5 := Lib.hid (fun wy => sclone_any text wy (by omega))
          have K6 := Lib.hid (fun wy => sclone_any s wy hs)
          have K7 : Hid (∀ w5 : World, DW w5 K D g (stepS st) → w5.heap[w.heap.size]? = some (.cells #[.string text, .string ⟨#[]⟩] 111 (0, 0)) → Calls Tryz.prog 99 #[.pointer (some ⟨D, 0, none⟩), .agg #[.int .i64 0, .pointer (some ⟨w.heap.size, 0, none⟩), .slice none 0 0, .string s]] w5 fun e w' => e = .returned (.tuple #[]) ∧ (∃ g', DW w' (Kn (fun b => K b ∨ b = w.heap.size) w5 w') D g' (turnS { stepS st with F := setF st.F w.heap.size (text, ⟨#[]⟩) } ⟨0, w.heap.size, [], s⟩) ∧ g'.nn = g.nn + 1) ∧ Kp (fun b => K b ∨ b = w.heap.size) w5 w') :=
            Lib.hid (fun w5 hd5 hx5 => by
              have hnl : ¬ (stepS st).live w.heap.size := fun hl => HNL.out ((stepS_live st _).1 hl)
              have h1 := hd5.newF w.heap.size hnl (text, ⟨#[]⟩)
              rw [(stepS_N st).2.1] at h1
              have h2 := h1.wide (K' := fun b => K b ∨ b = w.heap.size) (fun b hb => Or.inl hb) (fun b hb => by
                rcases hb with hb | hb
                · exact h1.own.2.2.2.2.2 b hb
                · rw [hb]; exact lt_of_heap hx5)
              have e1 : setF st.F w.heap.size (text, ⟨#[]⟩) w.heap.size = (text, ⟨#[]⟩) := if_pos rfl
              exact turn_any h2 ⟨0, w.heap.size, [], s⟩ (.slice none 0 0)
                (by show w5.heap[w.heap.size]? = some (.cells #[.string (setF st.F w.heap.size (text, ⟨#[]⟩) w.heap.size).1, .string (setF st.F w.heap.size (text, ⟨#[]⟩) w.heap.size).2] 111 (0, 0)); rw [e1]; exact hx5)
                (by show (setF st.F w.heap.size (text, ⟨#[]⟩) w.heap.size).1.size ≤ 100000 ∧ (setF st.F w.heap.size (text, ⟨#[]⟩) w.heap.size).2.size ≤ 100000; rw [e1]; exact ⟨ht, by show (0 : Nat) ≤ 100000; omega⟩)
                (Or.inr rfl) (strow_nil _) ⟨fun x hx => (by cases hx), (by show s.size ≤ maxLen; unfold maxLen; omega)⟩ (by show (0 : Nat) ≤ 1000000; omega) (by show (0 : Nat) ≤ 2; omega) (by show g.nn + 1 ≤ 900000 ∧ (stepS st).P.length + 1 ≤ 1000000; rw [(stepS_N st).2.2.2.1]; exact hfew))
          have HNL2 : Hid (¬ (stepS st).live w.heap.size) := Lib.hid (fun hl => HNL.out ((stepS_live st _).1 hl))
          clear h hst hs hd hh h0 hn hv hba hwa hm' HN HP0 HP h5
          generalize usedN st = U at *
          generalize st.room = R at *
          have e1 : IntKind.i64.wrap ((U : Int)) = (U : Int) := IntWalk.i64_in _ ⟨by omega, by omega⟩
          have e2 : IntKind.i64.wrap ((U : Int) + (text.size : Int)) = (U : Int) + (text.size : Int) := IntWalk.i64_in _ ⟨by omega, by omega⟩
          go_enter Tryz.func70, Tryz.ntmps70
          go_wp2_with (first
            | (go_at_call 95; ((with_reducible refine (K1.out).mono ?_); rintro e w0 ⟨rfl, rfl⟩))
            | (go_at_call 96; ((with_reducible refine (K2.out _).mono ?_); rintro e w0 ⟨rfl, rfl⟩)))
          rw [← HWA.out]
          go_region_held3 (fun wz => wz.cell? ⟨D, 0, none⟩ = some (.int .i64 (R : Int)) ∧ wz.cell? ⟨w0.heap.size, 0, none⟩ = some (.string ⟨#[]⟩) ∧ Hid (Below wa.heap.size wa wz))
            (first | exact HR.out _ (by assumption) | (refine HR.out _ (blH_drew ?_); assumption) | (refine HR.out _ (blH_undrew ?_); assumption) | (exact HR.out _ (Lib.hid (Below.refl _ _).drew)))
            (first | (go_at_call 97; ((with_reducible refine (K3.out _ ?_).mono ?_); (first | assumption | exact Lib.hid (Below.refl _ _).drew | exact Lib.hid (Below.refl _ _)); rintro e w1 ⟨rfl, hb1⟩)))
          all_goals
            simp only [Exit.then]
            apply_assumption
            go_wp2_with (first
              | (go_at_call 98; ((with_reducible refine (K4.out _ ?_).mono ?_); exact HDa.out.later hb1.out; rintro e w2 ⟨rfl, hd2, hk2⟩; have HD2 := Lib.hid hd2; have HK2 := Lib.hid hk2; have HX2 := Lib.hid ((hk2.block w0.heap.size (Nat.lt_of_lt_of_le HLA.out hb1.out.size) (fun e => by have e' : w0.heap.size = D := e; have := HDX.out; omega)).trans ((hb1.out.block _ HLA.out).trans HXA.out)); clear hd2 hk2))
              | (go_at_call 92; ((with_reducible refine (K5.out _).mono ?_); rintro e w3 ⟨rfl, hb3⟩; have HB3 := Lib.hid hb3; have HD3 := Lib.hid (HD2.out.later hb3); have HX3 := Lib.hid ((hb3.block _ (lt_of_heap HX2.out)).trans HX2.out); obtain ⟨y0, y1, y2, y3⟩ := two_cells HX3.out; clear hb3))
              | (go_at_call 92; ((with_reducible refine (K6.out _).mono ?_); rintro e w5 ⟨rfl, hb5⟩; have HB5 := Lib.hid hb5; have HD5 := Lib.hid ((HD3.out.file_free _ HNL2.out _ HX3.out (kp_set w3 w0.heap.size 0 (.string text))).later hb5); have HX5 : Hid (w5.heap[w0.heap.size]? = some (.cells #[.string text, .string ⟨#[]⟩] 111 (0, 0))) := Lib.hid ((hb5.block w0.heap.size (lt_of_heap (heap_setCell_same w3 w0.heap.size 0 _ _ (.string text) HX3.out))).trans (heap_setCell_same w3 w0.heap.size 0 _ _ (.string text) HX3.out)); clear hb5))
              | (go_at_call 99; ((with_reducible refine (K7.out _ HD5.out HX5.out).mono ?_); rintro e w6 ⟨rfl, hd6, hk6⟩; have HD6 := Lib.hid hd6; have HK6 := Lib.hid hk6; clear hd6 hk6)))
            go_ret
            obtain ⟨g', hg, hn⟩ := HD6.out
            have k2 := (((Kp.of_below (K := K) HBA.out).trans (Kp.of_below (K := K) hb1.out)).trans (HK2.out.mono (fun i _ e => by have e' : i = D := e; rw [e']; exact H.out.own.1))).trans (Kp.of_below (K := K) HB3.out)
            have k5 := (k2.setCell (p := ⟨w0.heap.size, 0, none⟩) (Or.inr (Nat.le_refl _)) (.string text)).trans (Kp.of_below (K := K) HB5.out)
            have k6 : Kp K w0 w6 := k5.step HK6.out (fun i hi hk => by
              rcases hk with hk | hk
              · exact hk
              · omega)
            have s5 := k5.size
            have s6 := HK6.out.size
            refine HQ.out w6 g' (hg.wide (fun b hb => ?_) (fun b hb => ?_)) (by omega) k6
            · rcases hb with (hb | hb) | hb
              · exact Or.inl hb
              · exact Or.inr ⟨by omega, by have := lt_of_heap HX5.out; omega⟩
              · exact Or.inr ⟨by omega, hb.2⟩
            · rcases hb with hb | hb
              · exact hg.own.2.2.2.2.2 b (Or.inl (Or.inl hb))
              · exact hb.2
        · have HQ : Hid (∀ w', DW w' K D g (stepS st) → Kp K w w' → WriteQ st s text K D g w (.returned (.int .i64 (stepE st : Nat))) w') := Lib.hid (fun w' hd' hk' => WriteQ.stop HP h5 hd' hk')
          have q : (((stepE st : Nat) : Int) != 0) = true := by rw [bne_iff_ne]; omega
          clear h hst hs hd hh h0 hn hv hba hwa hm' HN HP0 HP h5
          generalize stepE st = e5 at *
          generalize usedN st = U at *
          generalize st.room = R at *
          have e1 : IntKind.i64.wrap ((U : Int)) = (U : Int) := IntWalk.i64_in _ ⟨by omega, by omega⟩
          have e2 : IntKind.i64.wrap ((U : Int) + (text.size : Int)) = (U : Int) + (text.size : Int) := IntWalk.i64_in _ ⟨by omega, by omega⟩
          go_enter Tryz.func70, Tryz.ntmps70
          go_wp2_with (first
            | (go_at_call 95; ((with_reducible refine (K1.out).mono ?_); rintro e w0 ⟨rfl, rfl⟩))
            | (go_at_call 96; ((with_reducible refine (K2.out _).mono ?_); rintro e w0 ⟨rfl, rfl⟩)))
          rw [← HWA.out]
          go_region_held3 (fun wz => wz.cell? ⟨D, 0, none⟩ = some (.int .i64 (R : Int)) ∧ wz.cell? ⟨w0.heap.size, 0, none⟩ = some (.string ⟨#[]⟩) ∧ Hid (Below wa.heap.size wa wz))
            (first | exact HR.out _ (by assumption) | (refine HR.out _ (blH_drew ?_); assumption) | (refine HR.out _ (blH_undrew ?_); assumption) | (exact HR.out _ (Lib.hid (Below.refl _ _).drew)))
            (first | (go_at_call 97; ((with_reducible refine (K3.out _ ?_).mono ?_); (first | assumption | exact Lib.hid (Below.refl _ _).drew | exact Lib.hid (Below.refl _ _)); rintro e w1 ⟨rfl, hb1⟩)))
          all_goals
            simp only [Exit.then]
            apply_assumption
            go_wp2_with (first
              | (go_at_call 98; ((with_reducible refine (K4.out _ ?_).mono ?_); exact HDa.out.later hb1.out; rintro e w2 ⟨rfl, hd2, hk2⟩; have HD2 := Lib.hid hd2; have HK2 := Lib.hid hk2; clear hd2 hk2)))
            go_ret
            exact HQ.out _ HD2.out (((Kp.of_below (K := K) HBA.out).trans (Kp.of_below (K := K) hb1.out)).trans (HK2.out.mono (fun i _ e => by have e' : i = D := e; rw [e']; exact H.out.own.1)))
/-- Write. -/
theorem write_any {w : World} {K : Nat → Prop} {D : Nat} {g : Gh} {st : St} (h : DW w K D g st) (hst : st.steps < 1000000000) (s text : ByteArray) (hs : s.size ≤ 1000000000) (ht : text.size ≤ 100000) (hfew : g.nn + 1 ≤ 900000 ∧ st.P.length + 1 ≤ 1000000) :
    Calls Tryz.prog 70 #[.pointer (some ⟨D, 0, none⟩), .string s, .string text] w (WriteQ st s text K D g w) := by
  cases hd : st.down
  · cases hh : hasN st.N s
    · exact write_new h hst s text hs ht hfew hd hh
    · exact write_has h hst s text hs ht hd hh
  · have HP : Hid (preW st s text = 15) := Lib.hid (by unfold preW; rw [hd]; rfl)
    have h0 : findE st s = 15 := by unfold findE; rw [hd]; rfl
    have hv : findV st s = .pointer none := if_neg (by rw [h0]; omega)
    have K1 := Lib.hid (find_any h s hs)
    rw [hv, h0] at K1
    have H := Lib.hid h
    clear h hst hs ht hfew hd h0 hv
    go_enter Tryz.func70, Tryz.ntmps70
    go_wp2_with (first
      | (go_at_call 95; ((with_reducible refine (K1.out).mono ?_); rintro e w0 ⟨rfl, rfl⟩)))
    go_ret
    exact WriteQ.none (n := 15) HP.out (by decide) H.out (Below.refl _ _)
end Go.Proofs.YtpcmmejlmhbcdaaGreat.Dk

namespace Go.Proofs.YtpcmmejlmhbcdaaGreat.Dk
open Go.RowKit Go.Maps Go.Sort

def preR (st : St) (a b : ByteArray) : Nat := if findE st a = 0 then (if nmB b = false then 2 else 0) else findE st a
def renE (st : St) (a b : ByteArray) : Nat := if preR st a b = 0 then (if a = b then 0 else stepE st) else preR st a b
noncomputable def renS (st : St) (a b : ByteArray) (ls : List ByteArray) : St :=
  if preR st a b = 0 ∧ a ≠ b then (if stepE st = 0 then turnS (stepS st) ⟨1, atN st.N a, ls, b⟩ else stepS st) else st
/-- What a Rename leaves. -/
def RenQ (st : St) (a b : ByteArray) (K : Nat → Prop) (D : Nat) (g : Gh) (w : World) (e : Ending) (w' : World) : Prop :=
  e = .returned (.int .i64 (renE st a b : Nat)) ∧ (∃ ls g', (preR st a b = 0 → a ≠ b → stepE st = 0 → ∀ s, s ∈ ls ↔ hasN st.N s = true ∧ atN st.N s = atN st.N a) ∧ DW w' (Kn K w w') D g' (renS st a b ls) ∧ g'.nn ≤ g.nn + 1) ∧ Kp K w w'
theorem RenQ.none {st : St} {a b : ByteArray} {K : Nat → Prop} {D : Nat} {g : Gh} {w : World} (hp : preR st a b ≠ 0 ∨ a = b) (h : DW w K D g st) : RenQ st a b K D g w (.returned (.int .i64 ((if preR st a b = 0 then 0 else preR st a b : Nat) : Int))) w := by
  refine ⟨?_, ⟨[], g, fun h1 h2 _ => ?_, ?_, by omega⟩, Kp.refl _ _⟩
  · unfold renE
    by_cases h0 : preR st a b = 0
    · have : a = b := by rcases hp with hp | hp; exact absurd h0 hp; exact hp
      rw [if_pos h0, if_pos h0, if_pos this]
    · rw [if_neg h0, if_neg h0]
  · rcases hp with hp | hp
    · exact absurd h1 hp
    · exact absurd hp h2
  · unfold renS
    rw [if_neg (fun hh => by rcases hp with hp | hp; exact hp hh.1; exact hh.2 hp)]
    exact h.kn
theorem RenQ.stop {st : St} {a b : ByteArray} {K : Nat → Prop} {D : Nat} {g : Gh} {w w' : World} (hp : preR st a b = 0) (hn : a ≠ b) (h5 : stepE st ≠ 0) (h : DW w' K D g (stepS st)) (hk : Kp K w w') : RenQ st a b K D g w (.returned (.int .i64 (stepE st : Nat))) w' := by
  refine ⟨?_, ⟨[], g, fun _ _ h3 => absurd h3 h5, ?_, by omega⟩, hk⟩
  · unfold renE; rw [if_pos hp, if_neg hn]
  · unfold renS
    rw [if_pos ⟨hp, hn⟩, if_neg h5]
    exact h.kn
theorem RenQ.done {st : St} {a b : ByteArray} {K : Nat → Prop} {D : Nat} {g g' : Gh} {w w' : World} {ls : List ByteArray} (hp : preR st a b = 0) (hn : a ≠ b) (h5 : stepE st = 0) (hls : ∀ s, s ∈ ls ↔ hasN st.N s = true ∧ atN st.N s = atN st.N a) (h : DW w' (Kn K w w') D g' (turnS (stepS st) ⟨1, atN st.N a, ls, b⟩)) (hg : g'.nn ≤ g.nn + 1) (hk : Kp K w w') : RenQ st a b K D g w (.returned (.int .i64 0)) w' := by
  refine ⟨?_, ⟨ls, g', fun _ _ _ => hls, ?_, hg⟩, hk⟩
  · unfold renE; rw [if_pos hp, if_neg hn, h5]; rfl
  · unfold renS
    rw [if_pos ⟨hp, hn⟩, if_pos h5]
    exact h
theorem strow_of_prow {w : World} {ls : List ByteArray} {ρ : Option Nat} {o : Option Addr} {cap : Nat} (h : PRow 9 1 ρ o cap ls.length (ls.map Value.string) w) : StrRow w ls (.slice o ls.length cap) := by
  rcases h.2 with ⟨h1, h2, _, h4⟩ | ⟨r, cur, _, h2, h3, _, _, _, h7⟩
  · exact ⟨o, cap, 0, #[], rfl, fun hp => by omega, fun j hj => by omega⟩
  · refine ⟨o, cap, r, cur, rfl, fun _ => ⟨h2, h3⟩, fun j hj => ?_⟩
    have := congrArg (fun l => l[j]?) h7
    simp only [List.getElem?_take] at this
    rw [if_pos (by omega), List.getElem?_map, List.getElem?_eq_getElem hj] at this
    rw [← Array.getElem?_toList]
    exact this
theorem rename_nil (a b : ByteArray) (w : World) : Calls Tryz.prog 73 #[.pointer none, .string a, .string b] w fun e w' => e = .returned (.int .i64 1) ∧ w' = w := by
  have K1 := Lib.hid (fun w => find_nil a w)
  go_enter Tryz.func73, Tryz.ntmps73
  go_wp2_with (first | (go_at_call 95; ((with_reducible refine (K1.out _).mono ?_); rintro e w' ⟨rfl, rfl⟩)))
  go_ret
  exact ⟨rfl, rfl⟩
set_option maxRecDepth 100000 in
set_option maxHeartbeats 2000000 in
theorem rename_any {w : World} {K : Nat → Prop} {D : Nat} {g : Gh} {st : St} (h : DW w K D g st) (hst : st.steps < 1000000000) (a b : ByteArray) (ha : a.size ≤ 1000000000) (hb : b.size ≤ 1000000000) (hfew : g.nn + 1 ≤ 900000 ∧ st.P.length + 1 ≤ 1000000) :
    Calls Tryz.prog 73 #[.pointer (some ⟨D, 0, none⟩), .string a, .string b] w (RenQ st a b K D g w) := by
  have H := Lib.hid h
  have K1 := Lib.hid (find_any h a ha)
  have K2 := Lib.hid (fun wy => name_any b hb wy)
  by_cases h0 : findE st a = 0
  · obtain ⟨_, hh⟩ := findE_zero h0
    have hl := Lib.hid (h.filN.live hh)
    rw [findV_zero h0, h0] at K1
    cases hn : nmB b
    · rw [hn] at K2
      have HP : Hid (preR st a b = 2) := Lib.hid (by unfold preR; rw [if_pos h0, if_pos hn])
      have HQ : Hid (RenQ st a b K D g w (.returned (.int .i64 2)) w) := Lib.hid (by have := RenQ.none (a := a) (b := b) (Or.inl (by rw [HP.out]; omega)) H.out; rw [HP.out] at this; exact this)
      clear h h0 hh hst ha hb hfew hn
      generalize atN st.N a = c at *
      go_enter Tryz.func73, Tryz.ntmps73
      go_wp2_with (first
        | (go_at_call 95; ((with_reducible refine (K1.out).mono ?_); rintro e w0 ⟨rfl, rfl⟩))
        | (go_at_call 96; ((with_reducible refine (K2.out _).mono ?_); rintro e w0 ⟨rfl, rfl⟩)))
      go_ret
      exact HQ.out
    · rw [hn] at K2
      have HP : Hid (preR st a b = 0) := Lib.hid (by unfold preR; rw [if_pos h0, if_neg (by rw [hn]; simp)])
      by_cases hab : a = b
      · subst hab
        have HQ : Hid (RenQ st a a K D g w (.returned (.int .i64 0)) w) := Lib.hid (by have := RenQ.none (a := a) (b := a) (Or.inr rfl) H.out; rw [HP.out] at this; exact this)
        clear h h0 hh hst ha hb hfew hn
        generalize atN st.N a = c at *
        go_enter Tryz.func73, Tryz.ntmps73
        go_wp2_with (first
          | (go_at_call 95; ((with_reducible refine (K1.out).mono ?_); rintro e w0 ⟨rfl, rfl⟩))
          | (go_at_call 96; ((with_reducible refine (K2.out _).mono ?_); rintro e w0 ⟨rfl, rfl⟩)))
        go_ret
        exact HQ.out
      · have qe : (a.toList == b.toList) = false := by
          rw [beq_eq_false_iff_ne]
          intro e
          rw [Lib.toList_data, Lib.toList_data] at e
          exact hab (ByteArray.ext (Array.ext' e))
        have K4 := Lib.hid (step_any h hst)
        by_cases h5 : stepE st = 0
        · have HQ : Hid (∀ w' g' ls, (∀ s, s ∈ ls ↔ hasN st.N s = true ∧ atN st.N s = atN st.N a) → DW w' (Kn K w w') D g' (turnS (stepS st) ⟨1, atN st.N a, ls, b⟩) → g'.nn ≤ g.nn + 1 → Kp K w w' → RenQ st a b K D g w (.returned (.int .i64 0)) w') := Lib.hid (fun w' g' ls h1 h2 h3 h4 => RenQ.done HP.out hab h5 h1 h2 h3 h4)
          have K5 := Lib.hid (fun wy => sclone_any b wy hb)
          rw [h5] at K4
          have K6 : Hid (∀ w2, DW w2 K D g (stepS st) → Calls Tryz.prog 75 #[.map (some g.bn), .pointer (some ⟨atN st.N a, 0, none⟩)] w2 fun e w' => ∃ (o : Option Addr) (n cap : Nat), e = .returned (.slice o n cap) ∧ Hid (∃ ls, n = ls.length ∧ StrRow w' ls (.slice o n cap) ∧ (∀ s, s ∈ ls ↔ hasN st.N s = true ∧ atN st.N s = atN st.N a) ∧ (∀ s ∈ ls, s.size ≤ maxLen) ∧ ls.length ≤ 1000000) ∧ Hid (Below w2.heap.size w2 w')) := Lib.hid (fun w2 hd2 => by
            have hn2 : (stepS st).N = st.N := (stepS_N st).1
            have hl2 : (stepS st).live (atN st.N a) := (stepS_live st _).2 hl.out
            have := names_any g.bn g.nn (atN st.N a) st.N h.filN w2 (by have := hd2.names; rwa [hn2] at this) h.few.1 (fun s hs => hd2.isf _ ((stepS_live st _).2 (live_N h.filN s hs))) (hd2.isf _ hl2)
            refine this.mono fun e w' hq => ?_
            obtain ⟨ls, ρ, o, cap, rfl, hp, _, ⟨hg1, hg2⟩, hbb, hlen⟩ := hq
            exact ⟨o, ls.length, cap, rfl, Lib.hid ⟨ls, rfl, strow_of_prow hp, hg1, hg2, Nat.le_trans hlen h.few.1⟩, Lib.hid hbb⟩)
          have K7 : Hid (∀ (w5 : World) (v2 : Value) (ls : List ByteArray), DW w5 K D g (stepS st) → StrRow w5 ls v2 → (∀ s ∈ ls, s.size ≤ maxLen) → ls.length ≤ 1000000 → Calls Tryz.prog 99 #[.pointer (some ⟨D, 0, none⟩), .agg #[.int .i64 1, .pointer (some ⟨atN st.N a, 0, none⟩), v2, .string b]] w5 fun e w' => e = .returned (.tuple #[]) ∧ (∃ g', DW w' (Kn K w5 w') D g' (turnS (stepS st) ⟨1, atN st.N a, ls, b⟩) ∧ g'.nn = g.nn + 1) ∧ Kp K w5 w') :=
            Lib.hid (fun w5 v2 ls hd5 hr5 hs5 hl5 => by
              have hl2 : (stepS st).live (atN st.N a) := (stepS_live st _).2 hl.out
              exact turn_any hd5 ⟨1, atN st.N a, ls, b⟩ v2 (hd5.file _ hl2) (hd5.size _ hl2) (hd5.own.2.2.2.2.1 _ hl2) hr5 ⟨hs5, (by show b.size ≤ maxLen; unfold maxLen; omega)⟩ hl5 (by show (1 : Nat) ≤ 2; omega) (by rw [(stepS_N st).2.2.2.1]; exact hfew))
          have HC1 : Hid (∀ w2, DW w2 K D g (stepS st) → w2.cell? ⟨D, 1, none⟩ = some (.map (some g.bn))) := Lib.hid (fun w2 hd2 => hd2.c1)
          clear h h0 hh hst ha hb hfew hn hab h5
          generalize atN st.N a = c at *
          go_enter Tryz.func73, Tryz.ntmps73
          go_wp2_with (first
            | (go_at_call 95; ((with_reducible refine (K1.out).mono ?_); rintro e w0 ⟨rfl, rfl⟩))
            | (go_at_call 96; ((with_reducible refine (K2.out _).mono ?_); rintro e w0 ⟨rfl, rfl⟩))
            | (go_at_call 98; ((with_reducible refine (K4.out).mono ?_); rintro e w2 ⟨rfl, hd2, hk2⟩; have HD2 := Lib.hid hd2; have HK2 := Lib.hid hk2; have d1 := HC1.out w2 hd2; clear hd2 hk2))
            | (go_at_call 75; ((with_reducible refine (K6.out _ HD2.out).mono ?_); rintro e w3 ⟨o3, n3, cap3, rfl, HN3, HB3⟩; have HD3 := Lib.hid (HD2.out.later HB3.out)))
            | (go_at_call 92; ((with_reducible refine (K5.out _).mono ?_); rintro e w4 ⟨rfl, hb4⟩; have HB4 := Lib.hid hb4; have HD4 := Lib.hid (HD3.out.later hb4); clear hb4))
            | (go_at_call 99; (obtain ⟨ls, hn, hrow, hls, hsz, hlen⟩ := HN3.out; ((with_reducible refine (K7.out _ _ ls HD4.out (hrow.keep (fun b cur hb => (HB4.out.block b (lt_of_heap hb)).trans hb)) hsz hlen).mono ?_); rintro e w5 ⟨rfl, hd5, hk5⟩; have HD5 := Lib.hid hd5; have HK5 := Lib.hid hk5; have HLS := Lib.hid hls; clear hd5 hk5 hn hrow hls hsz hlen))))
          go_ret
          obtain ⟨g', hg, hn⟩ := HD5.out
          have k4 := ((HK2.out.mono (K' := K) (fun i _ e => by have e' : i = D := e; rw [e']; exact H.out.own.1)).trans (Kp.of_below (K := K) HB3.out)).trans (Kp.of_below (K := K) HB4.out)
          have s4 := k4.size
          refine HQ.out w5 g' ls HLS.out (hg.wide (fun b hb => ?_) (fun b hb => ?_)) (by omega) (k4.trans HK5.out)
          · rcases hb with hb | hb
            · exact Or.inl hb
            · exact Or.inr ⟨by omega, hb.2⟩
          · rcases hb with hb | hb
            · exact hg.own.2.2.2.2.2 b (Or.inl hb)
            · exact hb.2
        · have HQ : Hid (∀ w', DW w' K D g (stepS st) → Kp K w w' → RenQ st a b K D g w (.returned (.int .i64 (stepE st : Nat))) w') := Lib.hid (fun w' hd' hk' => RenQ.stop HP.out hab h5 hd' hk')
          have q : (((stepE st : Nat) : Int) != 0) = true := by rw [bne_iff_ne]; omega
          clear h h0 hh hst ha hb hfew hn hab h5
          generalize stepE st = e5 at *
          generalize atN st.N a = c at *
          go_enter Tryz.func73, Tryz.ntmps73
          go_wp2_with (first
            | (go_at_call 95; ((with_reducible refine (K1.out).mono ?_); rintro e w0 ⟨rfl, rfl⟩))
            | (go_at_call 96; ((with_reducible refine (K2.out _).mono ?_); rintro e w0 ⟨rfl, rfl⟩))
            | (go_at_call 98; ((with_reducible refine (K4.out).mono ?_); rintro e w2 ⟨rfl, hd2, hk2⟩; have HD2 := Lib.hid hd2; have HK2 := Lib.hid hk2; clear hd2 hk2)))
          go_ret
          exact HQ.out _ HD2.out (HK2.out.mono (fun i _ e => by have e' : i = D := e; rw [e']; exact H.out.own.1))
  · have HQ : Hid (RenQ st a b K D g w (.returned (.int .i64 (findE st a : Nat))) w) := Lib.hid (by
      have hp : preR st a b = findE st a := by unfold preR; rw [if_neg h0]
      have := RenQ.none (a := a) (b := b) (Or.inl (by rw [hp]; exact h0)) H.out
      rw [hp, if_neg h0] at this
      exact this)
    have q : (((findE st a : Nat) : Int) != 0) = true := by rw [bne_iff_ne]; omega
    generalize findV st a = v at *
    generalize findE st a = e5 at *
    clear h hst ha hb hfew
    go_enter Tryz.func73, Tryz.ntmps73
    go_wp2_with (first
      | (go_at_call 95; ((with_reducible refine (K1.out).mono ?_); rintro e w0 ⟨rfl, rfl⟩)))
    go_ret
    exact HQ.out
end Go.Proofs.YtpcmmejlmhbcdaaGreat.Dk

namespace Go.Proofs.YtpcmmejlmhbcdaaGreat.Dk
open Go.RowKit Go.Maps Go.Sort

/-- Names behind the first turns that survive. -/
noncomputable def crN (S : Dm) (P : List Tn) (ns : List Bool) : Nat → Dm
  | 0 => S
  | i + 1 => if ns[i]? = some true then (match P[i]? with | some t => doT (crN S P ns i) t | none => crN S P ns i) else crN S P ns i
/-- What the bytes of files are behind a loss of power. -/
def Sv (F F' : Nat → ByteArray × ByteArray) (fs : List Nat) : Prop := ∀ c, (c ∉ fs → F' c = F c) ∧ (c ∈ fs → (F' c).1 = (F' c).2 ∧ ((F c).1 = (F c).2 → F' c = F c))
theorem Sv.start (F : Nat → ByteArray × ByteArray) : Sv F F [] := fun _ => ⟨fun _ => rfl, fun h => by cases h⟩
theorem Sv.step {F F' : Nat → ByteArray × ByteArray} {l : List Nat} (h : Sv F F' l) (d : Nat) (t : ByteArray) (ht : (F' d).1 = (F' d).2 → t = (F' d).1) : Sv F (setF F' d (t, t)) (l ++ [d]) := by
  intro c
  by_cases e : c = d
  · subst e
    have e1 : setF F' c (t, t) c = (t, t) := if_pos rfl
    rw [e1]
    refine ⟨fun hn => absurd (by simp) hn, fun _ => ⟨rfl, fun hF => ?_⟩⟩
    have hF' : F' c = F c := by
      by_cases hm : c ∈ l
      · exact ((h c).2 hm).2 hF
      · exact (h c).1 hm
    have h1 := ht (by rw [hF']; exact hF)
    rw [hF'] at h1
    rw [h1]
    exact Prod.ext rfl hF
  · have e1 : setF F' d (t, t) c = F' c := if_neg e
    rw [e1]
    have hm : c ∈ l ++ [d] ↔ c ∈ l := by simp [e]
    rw [hm]
    exact h c
/-- A disk behind a loss of power. -/
noncomputable def crS (st : St) (ns : List Bool) (F' : Nat → ByteArray × ByteArray) : St :=
  { st with N := crN st.S st.P ns st.P.length, S := crN st.S st.P ns st.P.length, P := [], fuse := -1, down := false, F := F' }
theorem isMap_doT {N : Dm} (h : Maps.IsMap N) (t : Tn) : Maps.IsMap (doT N t) := by
  unfold doT
  split
  · exact h
  · split
    · exact isMap_dels _ _ h
    · exact (isMap_dels _ _ h).put _ _
theorem isMap_crN {S : Dm} (h : Maps.IsMap S) (P : List Tn) (ns : List Bool) : ∀ i, Maps.IsMap (crN S P ns i)
  | 0 => h
  | i + 1 => by
    unfold crN
    split
    · split
      · exact isMap_doT (isMap_crN h P ns i) _
      · exact isMap_crN h P ns i
    · exact isMap_crN h P ns i
theorem fil_crN {S : Dm} (h : Maps.IsMap S) (F : Fil S) (P : List Tn) (ns : List Bool) : ∀ i, Fil (crN S P ns i)
  | 0 => F
  | i + 1 => by
    unfold crN
    split
    · split
      · exact (fil_crN h F P ns i).doT (isMap_crN h P ns i) _
      · exact fil_crN h F P ns i
    · exact fil_crN h F P ns i
theorem leads_crN {S : Dm} (h : Maps.IsMap S) (P : List Tn) (ns : List Bool) (k : Lit) (c : Nat) : ∀ i, Leads (crN S P ns i) k c → Leads S k c ∨ ∃ t ∈ P, t.file = c
  | 0 => fun hl => Or.inl hl
  | i + 1 => fun hl => by
    unfold crN at hl
    split at hl
    · split at hl
      · rename_i t ht
        rcases leads_doT (isMap_crN h P ns i) t k c hl with h1 | h1
        · exact leads_crN h P ns k c i h1
        · exact Or.inr ⟨t, List.mem_of_getElem? ht, h1.symm⟩
      · exact leads_crN h P ns k c i hl
    · exact leads_crN h P ns k c i hl
theorem leads_stays {N : Dm} (h : Maps.IsMap N) (t : Tn) (s : ByteArray) (c : Nat) (hl : Leads N (nk s) c) (h1 : t.dest ≠ s) (h2 : s ∉ t.frm) : Leads (doT N t) (nk s) c := by
  have hd : Leads (delsN N t.frm) (nk s) c := (leads_dels (N := N) _ _).2 ⟨fun x hx e => h2 (by rw [nk_inj e]; exact hx), hl⟩
  unfold doT
  split
  · exact hl
  · split
    · exact hd
    · exact (leads_put (isMap_dels _ _ h) (key_lit _)).2 (Or.inr ⟨fun e => h1 (nk_inj e).symm, hd⟩)

/-- A file that is sure, and that nothing is done to. -/
structure Las (st : St) (c : Nat) (s : ByteArray) (text : ByteArray) : Prop where
  n : Leads st.N (nk s) c
  su : Leads st.S (nk s) c
  un : ∀ k, Leads st.N k c → k = nk s
  us : ∀ k, Leads st.S k c → k = nk s
  p : ∀ t ∈ st.P, t.file ≠ c ∧ t.dest ≠ s ∧ s ∉ t.frm
  f : st.F c = (text, text)
theorem Las.stay {st st' : St} {c : Nat} {s text : ByteArray} (h : Las st c s text) (h1 : st'.N = st.N) (h2 : st'.S = st.S) (h3 : st'.P = st.P) (h4 : st'.F c = st.F c) : Las st' c s text :=
  ⟨by rw [h1]; exact h.n, by rw [h2]; exact h.su, by rw [h1]; exact h.un, by rw [h2]; exact h.us, by rw [h3]; exact h.p, by rw [h4]; exact h.f⟩
theorem Las.step {st : St} {c : Nat} {s text : ByteArray} (h : Las st c s text) : Las (stepS st) c s text := by
  obtain ⟨h1, h2, h3, h4, _⟩ := stepS_N st
  exact h.stay h1 h3 h4 (by rw [h2])
theorem Las.turn {st : St} {c : Nat} {s text : ByteArray} (h : Las st c s text) (hm : Maps.IsMap st.N) (t : Tn) (ht : t.file ≠ c ∧ t.dest ≠ s ∧ s ∉ t.frm) : Las (turnS st t) c s text := by
  refine ⟨leads_stays hm t s c h.n ht.2.1 ht.2.2, h.su, fun k hk => ?_, h.us, fun x hx => ?_, h.f⟩
  · rcases leads_doT hm t k c hk with h1 | h1
    · exact h.un k h1
    · exact absurd h1.symm ht.1
  · rcases List.mem_append.1 hx with hx | hx
    · exact h.p x hx
    · rw [List.mem_singleton.1 hx]
      exact ht
theorem Las.file {st : St} {c : Nat} {s text : ByteArray} (h : Las st c s text) (d : Nat) (p : ByteArray × ByteArray) (hd : d ≠ c) : Las { st with F := setF st.F d p } c s text :=
  h.stay rfl rfl rfl (if_neg (fun e => hd e.symm))
theorem Las.dir {st : St} {c : Nat} {s text : ByteArray} (h : Las st c s text) : Las { st with S := st.N, P := [] } c s text :=
  ⟨h.n, h.n, h.un, h.un, fun t ht => (by cases ht), h.f⟩
theorem leads_of {N : Dm} (F : Fil N) {s : ByteArray} (h : hasN N s = true) : Leads N (nk s) (atN N s) := ⟨h, fun z => F.at h z⟩
theorem at_of_leads {N : Dm} {s : ByteArray} {c : Nat} (h : Leads N (nk s) c) : atN N s = c := by
  unfold atN
  rw [h.2 .nil]
  simp [fl]
theorem Las.other {st : St} {c : Nat} {s text : ByteArray} (h : Las st c s text) (F : Fil st.N) {a : ByteArray} (ha : hasN st.N a = true) (hne : a ≠ s) : atN st.N a ≠ c := fun e => hne (nk_inj (h.un _ (by have := leads_of F ha; rwa [e] at this)))
theorem Las.crash {st : St} {c : Nat} {s text : ByteArray} (h : Las st c s text) (hm : Maps.IsMap st.S) (ns : List Bool) (F' : Nat → ByteArray × ByteArray) (fs : List Nat) (hF : Sv st.F F' fs) : Las (crS st ns F') c s text := by
  have hl : ∀ i, Leads (crN st.S st.P ns i) (nk s) c := by
    intro i
    induction i with
    | zero => exact h.su
    | succ i ih =>
      unfold crN
      split
      · split
        · rename_i t ht
          have hp := h.p t (List.mem_of_getElem? ht)
          exact leads_stays (isMap_crN hm _ _ i) t s c ih hp.2.1 hp.2.2
        · exact ih
      · exact ih
  have hu : ∀ k, Leads (crN st.S st.P ns st.P.length) k c → k = nk s := fun k hk => by
    rcases leads_crN hm st.P ns k c _ hk with h1 | ⟨t, ht, h1⟩
    · exact h.us k h1
    · exact absurd h1 (h.p t ht).1
  refine ⟨hl _, hl _, hu, hu, fun t ht => (by cases ht), ?_⟩
  show F' c = (text, text)
  by_cases hc : c ∈ fs
  · rw [((hF c).2 hc).2 (by rw [h.f])]
    exact h.f
  · rw [(hF c).1 hc]
    exact h.f
end Go.Proofs.YtpcmmejlmhbcdaaGreat.Dk
