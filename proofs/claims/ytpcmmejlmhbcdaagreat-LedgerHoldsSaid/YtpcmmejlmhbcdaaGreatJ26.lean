/- The files of names, each once, in order.; The files of names, walked; how many bytes they have.; How many bytes all files have; a disk's names.; A turn of names. -/
import Derived.Test.YtpcmmejlmhbcdaaGreatJ25
set_option linter.unusedVariables false
set_option linter.unusedSimpArgs false
namespace Go.Proofs.YtpcmmejlmhbcdaaGreat.Dk
open Go.RowKit Go.Maps Go.Sort

def sN (l : List UInt8) : ByteArray := ⟨l.toArray⟩
theorem sN_size (l : List UInt8) : (sN l).size = l.length := by unfold sN; rfl
theorem nk_sN (l : List UInt8) : nk (sN l) = .string l := by unfold nk sN; simp
theorem enc_sN (l : List UInt8) : encStr l = .string (sN l) := rfl
def addF (D : Dm) (acc : List Nat) (s : List UInt8) : List Nat := if atN D (sN s) ∈ acc then acc else acc ++ [atN D (sN s)]
/-- The files of names, each once, in order. -/
def filesN (D : Dm) : List Nat := (keysN D).foldl (addF D) []
theorem mem_keys {w : World} {b n : Nat} {N : Dm} (h : w.ownsMap Tryz.prog 9 ptrE b n N) (s : List UInt8) (hs : s ∈ keysN N) : hasN N (sN s) = true ∧ s.length ≤ maxLen := by
  have hs' : s ∈ strKeys N := (List.mergeSort_perm _ _).mem_iff.1 hs
  refine ⟨?_, strKeys_le h Tryz.underlying9 s hs'⟩
  obtain ⟨es, rfl, hk⟩ := h.keysOf
  obtain ⟨p, hp, rfl⟩ := List.mem_map.1 hs'
  obtain ⟨v, hv⟩ := hk p hp
  obtain ⟨x, _, hx, _⟩ := Maps.keyOf_str Tryz.underlying9 hv
  unfold hasN
  rw [nk_sN, Maps.has_eq]
  refine List.any_eq_true.2 ⟨p, hp, ?_⟩
  rw [hx]
  simp [strOf, Lit.sameKey]
theorem keys_len {w : World} {b n : Nat} {N : Dm} (h : w.ownsMap Tryz.prog 9 ptrE b n N) : (keysN N).length ≤ n := by
  unfold keysN
  rw [List.length_mergeSort]
  have := h.size_le
  obtain ⟨es, rfl, _⟩ := h.keysOf
  simpa [strKeys, Maps.size] using this
/-- A row of strings as the sort leaves it. -/
theorem row_of_owns {w : World} {base : Nat} {v : Value} {xs : List Value} {k : Nat} (h : w.ownsRow base 9 1 v k xs) : ∃ ρ o cap, v = .slice o k cap ∧ PRow 9 1 ρ o cap k xs w ∧ ∀ r, ρ = some r → base ≤ r := by
  obtain ⟨hl, h | ⟨gb, cap, cur, rfl, hb, hg, r1, r2, r3, r4⟩⟩ := h
  · obtain ⟨rfl, rfl⟩ := h
    have : xs = [] := List.eq_nil_of_length_eq_zero (by simpa using hl)
    subst this
    exact ⟨none, none, 0, rfl, PRow.nil _ _ _, fun r hr => by cases hr⟩
  · exact ⟨some gb, some ⟨gb, 0, none⟩, cap, rfl, ⟨by simpa using hl, Or.inr ⟨gb, cur, rfl, rfl, hg, r1, r2, by simpa using r3, by simpa using r4⟩⟩, fun r hr => by cases hr; exact hb⟩
end Go.Proofs.YtpcmmejlmhbcdaaGreat.Dk

namespace Go.Proofs.YtpcmmejlmhbcdaaGreat.Dk
open Go.RowKit Go.Maps Go.Sort

theorem look_max {w : World} {b n : Nat} {N : Dm} (h : w.ownsMap Tryz.prog 9 ptrE b n N) (F : Fil N) (s : ByteArray) (hs : s.size ≤ maxLen) (hh : hasN N s = true) :
    (Instr.lookup 97 (.map (some b)) (.string s) false).run Tryz.prog w = .ok (.pointer (some ⟨atN N s, 0, none⟩)) w := by
  obtain ⟨v, ps, hrun, hv⟩ := h.lookup law Tryz.underlying97 (zero51 w) ptrE_nil (key_max s hs)
  rw [F.at hh] at hv
  rcases ptrE_inv hv with ⟨_, h2⟩ | ⟨c, rfl, h2⟩
  · exact absurd h2 (by simp [fl])
  · have : atN N s = c := fl_inj (by simpa using congrArg Prod.fst h2)
    rw [this]
    exact hrun
def FilesQ (fs : List Nat) (w : World) (e : Ending) (w' : World) : Prop :=
  ∃ (ρ : Option Nat) (o : Option Addr) (cap : Nat), e = .returned (.slice o fs.length cap) ∧ PRow 102 1 ρ o cap fs.length (fs.map ptr) w' ∧ (∀ r, ρ = some r → w.heap.size ≤ r) ∧ Below w.heap.size w w'
def FilesR (N : Dm) (m : Nat) (w w1 : World) (i v : Value) (wr : World) : Prop :=
  ∃ (k : Nat) (fs : List Nat) (ρ : Option Nat) (o : Option Addr) (cap : Nat), k ≤ m ∧ i = .int .i64 (k : Int) ∧ v = .slice o fs.length cap ∧ PRow 102 1 ρ o cap fs.length (fs.map ptr) wr ∧ (∀ r, ρ = some r → w1.heap.size ≤ r) ∧ Below w1.heap.size w1 wr ∧ fs = ((keysN N).take k).foldl (addF N) [] ∧ fs.length ≤ k
theorem addF_files {w : World} {N : Dm} (hF : ∀ s, hasN N s = true → IsF w (atN N s)) : ∀ (l : List (List UInt8)) (acc : List Nat), (∀ s ∈ l, hasN N (sN s) = true) → (∀ d ∈ acc, IsF w d) → ∀ d ∈ l.foldl (addF N) acc, IsF w d
  | [], acc, _, h, d, hd => h d hd
  | s :: l, acc, hl, h, d, hd => by
    refine addF_files hF l (addF N acc s) (fun x hx => hl x (by simp [hx])) (fun e he => ?_) d hd
    unfold addF at he
    split at he
    · exact h e he
    · rcases List.mem_append.1 he with he | he
      · exact h e he
      · simp at he; subst he; exact hF _ (hl s (by simp))
set_option maxRecDepth 100000 in
set_option maxHeartbeats 4000000 in
theorem files_any (b n : Nat) (N : Dm) (F : Fil N) (w : World) (hown : w.ownsMap Tryz.prog 9 ptrE b n N) (hn : n ≤ 1000000) (hF : ∀ s, hasN N s = true → IsF w (atN N s)) :
    Calls Tryz.prog 48 #[.map (some b)] w (FilesQ (filesN N) w) := by
  have K1 := Lib.hid (rising_any b n N w hown hn)
  have HO := Lib.hid hown
  have HF := Lib.hid hF
  have HL := Lib.hid (Nat.le_trans (keys_len hown) hn)
  have HMEM := Lib.hid (fun s hs => mem_keys hown s hs)
  obtain ⟨m, hm⟩ : ∃ m, m = (keysN N).length := ⟨_, rfl⟩
  rw [← hm] at K1
  have HM := Lib.hid hm
  have hml : m ≤ 1000000 := by rw [hm]; exact HL.out
  have K2 : Hid (Calls Tryz.prog 76 #[.map (some b)] w fun e w' => ∃ ρ o cap, e = .returned (.slice o m cap) ∧ Hid (PRow 9 1 ρ o cap m ((keysN N).map encStr) w' ∧ (∀ r, ρ = some r → w.heap.size ≤ r)) ∧ Hid (Below w.heap.size w w')) := Lib.hid (K1.out.mono (fun e w' ⟨v, he, hr, hb⟩ => by
    obtain ⟨ρ, o, cap, rfl, h1, h2⟩ := row_of_owns hr
    exact ⟨ρ, o, cap, he, Lib.hid ⟨h1, h2⟩, Lib.hid hb⟩))
  clear hown hn hF hm K1
  go_enter Tryz.func48, Tryz.ntmps48
  go_wp2_with (first
    | (go_at_call 76; ((with_reducible refine (K2.out).mono ?_); rintro e w1 ⟨ρk, ok, capk, rfl, HK, HB⟩)))
  go_loopw [10, 3] (fun i v wr => FilesR N m w w1 i v wr) (fun i _ _ => m - (intOf i).toNat)
  case atStart => exact ⟨0, [], none, none, 0, by omega, rfl, rfl, PRow.nil _ _ _, fun r hr => (by cases hr), Below.refl _ _, by simp, by simp⟩
  case round =>
    obtain ⟨k, fs, ρ, o, cap, hk, rfl, rfl, hrow, hρ, hb, hfs, hle⟩ := hrel
    have HROW := Lib.hid hrow
    have Hρ := Lib.hid hρ
    have HBB := Lib.hid hb
    have HFS := Lib.hid hfs
    have HLE := Lib.hid hle
    clear hrow hρ hb hfs hle
    by_cases hlt : k < m
    · have hkl : k < (keysN N).length := by rw [← HM.out]; exact hlt
      obtain ⟨s, hs⟩ : ∃ s, s = (keysN N)[k] := ⟨_, rfl⟩
      have HS := Lib.hid hs
      obtain ⟨r, hρk, ho, hcell⟩ := HK.out.1.cell k (.string (sN s)) (by rw [List.getElem?_map, List.getElem?_eq_getElem hkl, hs]; rfl)
      have hmem := HMEM.out s (by rw [hs]; exact List.getElem_mem hkl)
      have hrlt : r < w1.heap.size := by
        rcases HK.out.1.2 with h | ⟨q, cur, h1, _, h4, _⟩
        · rw [h.2.2.1] at hρk; cases hρk
        · rw [h1] at hρk; cases hρk; exact lt_of_heap h4
      have hcell2 : wr.cell? ⟨r, k, none⟩ = some (.string (sN s)) := (HBB.out.cell (p := ⟨r, k, none⟩) hrlt).trans hcell
      have hbw := HB.out.trans (HBB.out.mono HB.out.size)
      have hownr := own_keep HO.out (hbw.block b HO.out.lt)
      have HLOOK := look_max hownr F (sN s) (by rw [sN_size]; exact hmem.2) hmem.1
      have HFC := Lib.hid ((HF.out _ hmem.1).keep hbw)
      have HALL := Lib.hid (show ∀ d ∈ fs, IsF wr d from fun d hd => (addF_files (w := w) HF.out ((keysN N).take k) [] (fun x hx => (HMEM.out x (List.mem_of_mem_take hx)).1) (fun d hd => by cases hd) d (by rw [← HFS.out]; exact hd)).keep hbw)
      have HST := Lib.hid (show ((keysN N).take (k + 1)).foldl (addF N) [] = addF N fs s from by rw [HFS.out, hs, List.take_add_one, List.getElem?_eq_getElem hkl, List.foldl_append]; rfl)
      have HBW := Lib.hid hbw
      obtain ⟨d, hd⟩ : ∃ d, d = atN N (sN s) := ⟨_, rfl⟩
      rw [← hd] at HLOOK HFC
      have HD := Lib.hid hd
      have K38 := Lib.hid (contains_any fs ρ o cap d wr HROW.out HALL.out HFC.out (by have := HLE.out; omega))
      subst ho
      have q1 : (0 : Int) ≤ (k : Int) := by omega
      have q2 : (k : Int) < (m : Int) := by omega
      generalize sN s = ss at hcell2 HLOOK
      clear HS hcell hmem hrlt hbw hownr hd hρk hs hkl
      by_cases hc : d ∈ fs
      · have e1 : decide (d ∈ fs) = true := decide_eq_true hc
        rw [e1] at K38
        have HST2 := Lib.hid (show ((keysN N).take (k + 1)).foldl (addF N) [] = fs from by rw [HST.out]; unfold addF; rw [← HD.out, if_pos hc])
        clear e1 hc
        go_wp2_with (first
          | (go_at_call 77; ((with_reducible refine (K38.out).mono ?_); rintro e w2 ⟨rfl, rfl⟩)))
        go_roundw
        case rel => exact ⟨k + 1, fs, ρ, o, cap, by omega, by go_num, rfl, HROW.out, Hρ.out, HBB.out, HST2.out.symm, by have := HLE.out; omega⟩
        case measure => simp [intOf]; omega
      · have e1 : decide (d ∈ fs) = false := decide_eq_false hc
        rw [e1] at K38
        have HST2 := Lib.hid (show ((keysN N).take (k + 1)).foldl (addF N) [] = fs ++ [d] from by rw [HST.out]; unfold addF; rw [← HD.out, if_neg hc])
        clear e1 hc
        have HR1 := Lib.hid (show PRow 102 1 ρ o cap fs.length (fs.map ptr) (wr.alloc (.cells #[.pointer (some ⟨d, 0, none⟩)] 102)) from HROW.out.keep (fun q hq => (alloc_below wr _).block q (by rcases HROW.out.2 with h | ⟨q', cur, h1, _, h4, _⟩; rw [h.2.2.1] at hq; cases hq; rw [h1] at hq; cases hq; exact lt_of_heap h4)))
        go_wp2_with (first
          | (go_at_call 77; ((with_reducible refine (K38.out).mono ?_); rintro e w2 ⟨rfl, rfl⟩))
          | (at_builtin; refine wpList_prow rfl _ _ 107 102 rfl Tryz.underlying107 (.pointer none) 1 8 info51 rfl (by omega) (by omega) ρ o cap fs.length (fs.map ptr) HR1.out (by have := HLE.out; omega) ⟨_, 0, none⟩ [.pointer (some ⟨d, 0, none⟩)] rfl (one_new _ _ 102) (fun u hu => (by simp at hu; subst hu; rfl)) rfl rfl ?_; intro o2 cap2 w3 ρ2 hrow2 hnx2 hk2; have HROW2 := Lib.hid hrow2; have HNX2 := Lib.hid hnx2; have HK2 := Lib.hid hk2; clear hrow2 hnx2 hk2; go_frame))
        go_roundw
        case rel =>
          refine ⟨k + 1, fs ++ [d], ρ2, o2, cap2, by omega, by go_num, by simp, by simpa [ptr] using HROW2.out, ?_, ?_, HST2.out.symm, by have := HLE.out; simp; omega⟩
          · intro q hq
            rcases HNX2.out with e | ⟨q', e, hq'⟩
            · exact Hρ.out q (by rw [← e]; exact hq)
            · rw [e] at hq; cases hq
              have := HBB.out.size
              simp at hq'
              omega
          · have hal := alloc_below w2 (.cells #[.pointer (some ⟨d, 0, none⟩)] 102)
            exact (HBB.out.trans (hal.mono HBB.out.size)).grown HK2.out.grown (by have := HBB.out.size; simp; omega) (fun j hj => Hρ.out j hj)
        case measure => simp [intOf]; omega
    · have hkm : k = m := by omega
      subst hkm
      go_wp2
      go_ret
      have e : fs = filesN N := by rw [HFS.out, HM.out, List.take_length]; rfl
      subst e
      exact ⟨ρ, o, cap, rfl, HROW.out, fun r hr => Nat.le_trans HB.out.size (Hρ.out r hr), HB.out.trans (HBB.out.mono HB.out.size)⟩
end Go.Proofs.YtpcmmejlmhbcdaaGreat.Dk

namespace Go.Proofs.YtpcmmejlmhbcdaaGreat.Dk
open Go.RowKit Go.Maps Go.Sort

theorem DW.isf {w : World} {K : Nat → Prop} {D : Nat} {g : Gh} {st : St} (h : DW w K D g st) (c : Nat) (hc : st.live c) : IsF w c := ⟨_, h.file c hc⟩
theorem live_N {st : St} (F : Fil st.N) (s : ByteArray) (hs : hasN st.N s = true) : st.live (atN st.N s) := F.live hs
theorem live_files {st : St} (F : Fil st.N) {w : World} {b n : Nat} (ho : w.ownsMap Tryz.prog 9 ptrE b n st.N) : ∀ d ∈ filesN st.N, st.live d := by
  have gen : ∀ (l : List (List UInt8)) (acc : List Nat), (∀ s ∈ l, hasN st.N (sN s) = true) → (∀ d ∈ acc, st.live d) → ∀ d ∈ l.foldl (addF st.N) acc, st.live d := by
    intro l
    induction l with
    | nil => intro acc _ h d hd; exact h d hd
    | cons s l ih =>
      intro acc hl h d hd
      refine ih (addF st.N acc s) (fun x hx => hl x (by simp [hx])) (fun e he => ?_) d hd
      unfold addF at he
      split at he
      · exact h e he
      · rcases List.mem_append.1 he with he | he
        · exact h e he
        · simp at he; subst he; exact live_N F _ (hl s (by simp))
  exact gen _ [] (fun s hs => (mem_keys ho s hs).1) (fun d hd => by cases hd)
theorem files_len {N : Dm} {w : World} {b n : Nat} (ho : w.ownsMap Tryz.prog 9 ptrE b n N) : (filesN N).length ≤ n := by
  have gen : ∀ (l : List (List UInt8)) (acc : List Nat), (l.foldl (addF N) acc).length ≤ acc.length + l.length := by
    intro l
    induction l with
    | nil => intro acc; simp
    | cons s l ih =>
      intro acc
      have := ih (addF N acc s)
      have h2 : (addF N acc s).length ≤ acc.length + 1 := by unfold addF; split <;> simp
      simp only [List.foldl_cons, List.length_cons]
      omega
  have := gen (keysN N) []
  have h2 := keys_len ho
  unfold filesN
  simp at this
  omega
/-- How many bytes so many files have. -/
def sumF (F : Nat → ByteArray × ByteArray) (fs : List Nat) : Nat := (fs.map fun c => (F c).1.size).sum
def usedN (st : St) : Nat := sumF st.F (filesN st.N)
theorem sumF_le {F : Nat → ByteArray × ByteArray} : ∀ (fs : List Nat), (∀ d ∈ fs, (F d).1.size ≤ 100000) → sumF F fs ≤ fs.length * 100000
  | [], _ => by simp [sumF]
  | d :: fs, h => by
    have h1 := sumF_le fs (fun x hx => h x (by simp [hx]))
    have h2 := h d (by simp)
    unfold sumF at *
    simp only [List.map_cons, List.sum_cons, List.length_cons]
    omega
theorem sumF_take (F : Nat → ByteArray × ByteArray) (fs : List Nat) (k : Nat) (h : k < fs.length) : sumF F (fs.take (k + 1)) = sumF F (fs.take k) + (F fs[k]).1.size := by
  unfold sumF
  rw [List.take_add_one, List.getElem?_eq_getElem h, List.map_append, List.sum_append]
  simp only [Option.toList_some, List.map_cons, List.map_nil, List.sum_cons, List.sum_nil, Nat.add_zero]
theorem used_nil (w : World) : Calls Tryz.prog 97 #[.pointer none] w fun e w' => e = .returned (.int .i64 0) ∧ w' = w := by
  go_enter Tryz.func97, Tryz.ntmps97
  go_wp2
  go_ret
  exact ⟨rfl, rfl⟩
set_option maxRecDepth 100000 in
set_option maxHeartbeats 2000000 in
theorem used_any {w : World} {K : Nat → Prop} {D : Nat} {g : Gh} {st : St} (h : DW w K D g st) : Calls Tryz.prog 97 #[.pointer (some ⟨D, 0, none⟩)] w fun e w' => e = .returned (.int .i64 (usedN st : Nat)) ∧ Below w.heap.size w w' := by
  have c1 := h.c1
  have K1 := Lib.hid (files_any g.bn g.nn st.N h.filN w h.names h.few.1 (fun s hs => h.isf _ (live_N h.filN s hs)))
  have HL := Lib.hid (live_files h.filN h.names)
  have HLEN := Lib.hid (Nat.le_trans (files_len h.names) h.few.1)
  have H := Lib.hid h
  unfold usedN
  obtain ⟨fs, hfs⟩ : ∃ fs, fs = filesN st.N := ⟨_, rfl⟩
  rw [← hfs] at K1 HL HLEN ⊢
  obtain ⟨m, hm⟩ : ∃ m, m = fs.length := ⟨_, rfl⟩
  have HM := Lib.hid hm
  have hml : m ≤ 1000000 := by rw [hm]; exact HLEN.out
  have K2 : Hid (Calls Tryz.prog 48 #[.map (some g.bn)] w fun e w' => ∃ o cap, e = .returned (.slice o m cap) ∧ Hid (∃ ρ, PRow 102 1 ρ o cap fs.length (fs.map ptr) w') ∧ Hid (Below w.heap.size w w')) := Lib.hid (K1.out.mono (fun e w' ⟨ρ, o, cap, he, h1, _, h3⟩ => ⟨o, cap, by rw [hm]; exact he, Lib.hid ⟨ρ, h1⟩, Lib.hid h3⟩))
  clear h hfs hm K1
  go_enter Tryz.func97, Tryz.ntmps97
  go_wp2_with (first
    | (go_at_call 48; ((with_reducible refine (K2.out).mono ?_); rintro e w1 ⟨o, cap, rfl, HR, HB⟩)))
  go_loop [3, 14] (fun v i => ∃ k : Nat, k ≤ m ∧ i = .int .i64 (k : Int) ∧ v = .int .i64 (sumF st.F (fs.take k) : Nat)) (fun _ i => m - (intOf i).toNat)
  case atStart => exact ⟨0, by omega, rfl, rfl⟩
  case round =>
    obtain ⟨k, hk, rfl, rfl⟩ := hrel
    by_cases hlt : k < m
    · have hkl : k < fs.length := by rw [← HM.out]; exact hlt
      have hst := sumF_take st.F fs k hkl
      have hsl := sumF_le (F := st.F) (fs.take k) (fun d hd => (H.out.size d (HL.out d (List.mem_of_mem_take hd))).1)
      have htl : (fs.take k).length ≤ 1000000 := by rw [List.length_take]; omega
      have hlv := HL.out fs[k] (List.getElem_mem hkl)
      have hz := (H.out.size _ hlv).1
      obtain ⟨ρ, hrow⟩ := HR.out
      obtain ⟨r, _, ho, hcell⟩ := hrow.cell k (ptr fs[k]) (by rw [List.getElem?_map, List.getElem?_eq_getElem hkl]; rfl)
      have hf := (HB.out.block _ (lt_of_heap (H.out.file _ hlv))).trans (H.out.file _ hlv)
      have d0 := (two_cells hf).1
      have hz1 : sumF st.F (fs.take k) ≤ 100000000000 := by
        have : (fs.take k).length * 100000 ≤ 1000000 * 100000 := Nat.mul_le_mul_right _ htl
        omega
      obtain ⟨S, hS⟩ : ∃ S, S = sumF st.F (fs.take k) := ⟨_, rfl⟩
      obtain ⟨S2, hS2⟩ : ∃ S2, S2 = sumF st.F (fs.take (k + 1)) := ⟨_, rfl⟩
      rw [← hS] at hst hz1 ⊢
      rw [← hS2] at hst
      have HS2 := Lib.hid hS2
      unfold ptr at hcell
      generalize fs[k] = d at hcell d0 hst hz
      generalize (st.F d).1 = t at hst hz d0
      subst ho
      have HST := Lib.hid hst
      have q1 : (0 : Int) ≤ (k : Int) := by omega
      have q2 : (k : Int) < (m : Int) := by omega
      clear hst hsl htl hlv hrow hf hS hS2 hkl
      go_wp2
      go_round
      case rel => exact ⟨k + 1, by omega, by go_num, by rw [← HS2.out, HST.out]; go_num⟩
      case measure => simp [intOf]; omega
    · have hkm : k = m := by omega
      have e : fs.take k = fs := by rw [hkm, HM.out]; exact List.take_length
      rw [e]
      clear e
      subst hkm
      go_wp2
      go_ret
      exact ⟨rfl, HB.out⟩
end Go.Proofs.YtpcmmejlmhbcdaaGreat.Dk

namespace Go.Proofs.YtpcmmejlmhbcdaaGreat.Dk
open Go.RowKit Go.Maps Go.Sort

/-- Names that go. -/
def delsN (N : Dm) (l : List ByteArray) : Dm := l.foldl (fun d s => d.del (nk s)) N
/-- Nothing has a name of which that is the file. -/
def NoName (N : Dm) (c : Nat) : Prop := ∀ s, hasN N s = true → atN N s ≠ c
open Classical in
/-- A turn. -/
noncomputable def doT (N : Dm) (t : Tn) : Dm := if t.kind ≠ 0 ∧ NoName N t.file then N else if t.kind = 2 then delsN N t.frm else (delsN N t.frm).put (nk t.dest) (fl t.file)
theorem four_cells (w : World) (a b c d : Value) (T : TypeId) : let wz := w.alloc (.cells #[a, b, c, d] T); wz.cell? ⟨w.heap.size, 0, none⟩ = some a ∧ wz.cell? ⟨w.heap.size, 1, none⟩ = some b ∧ wz.cell? ⟨w.heap.size, 2, none⟩ = some c ∧ wz.cell? ⟨w.heap.size, 3, none⟩ = some d :=
  ⟨World.cell?_alloc_new w _ T 0, World.cell?_alloc_new w _ T 1, World.cell?_alloc_new w _ T 2, World.cell?_alloc_new w _ T 3⟩
def DoQ (N' : Dm) (b n : Nat) (w : World) (e : Ending) (w' : World) : Prop := e = .returned (.tuple #[]) ∧ w'.ownsMap Tryz.prog 9 ptrE b n N' ∧ Kp (· = b) w w'
theorem turned_kp {w w' : World} {b : Nat} (h : w.mapTurned w' b) : Kp (· = b) w w' := Kp.of_grown h.grown (fun r hr _ => (Option.some.inj hr).symm)
theorem delsN_take (N : Dm) (l : List ByteArray) (k : Nat) (h : k < l.length) : delsN N (l.take (k + 1)) = (delsN N (l.take k)).del (nk l[k]) := by
  unfold delsN
  rw [List.take_add_one, List.getElem?_eq_getElem h, List.foldl_append]
  rfl
/-- What lies in the box of a turn at hand. -/
def BxT (X : Nat) (t : Tn) (v2 : Value) (wr : World) : Prop := wr.cell? ⟨X, 0, none⟩ = some (.int .i64 (t.kind : Int)) ∧ wr.cell? ⟨X, 1, none⟩ = some (.pointer (some ⟨t.file, 0, none⟩)) ∧ wr.cell? ⟨X, 2, none⟩ = some v2 ∧ wr.cell? ⟨X, 3, none⟩ = some (.string t.dest)
theorem BxT.kp {X b : Nat} {t : Tn} {v2 : Value} {w w' : World} (h : BxT X t v2 w) (hk : Kp (· = b) w w') (hX : X < w.heap.size) (hne : X ≠ b) : BxT X t v2 w' :=
  ⟨(hk.cell (p := ⟨X, 0, none⟩) hX hne).trans h.1, (hk.cell (p := ⟨X, 1, none⟩) hX hne).trans h.2.1, (hk.cell (p := ⟨X, 2, none⟩) hX hne).trans h.2.2.1, (hk.cell (p := ⟨X, 3, none⟩) hX hne).trans h.2.2.2⟩
end Go.Proofs.YtpcmmejlmhbcdaaGreat.Dk
