/- The names of a file, in whatever order.; Whether a file is among files.; The files of names, each once, in order. -/
import Derived.Test.YtjkpopdjmmgbbabGreatJ14
import Derived.LaidEqlPtr
set_option linter.unusedVariables false
set_option linter.unusedSimpArgs false
namespace Go.Proofs.YtjkpopdjmmgbbabGreat.Dk
open Go.RowKit Go.Maps

theorem same_self (x : ByteArray) : (nk x).sameKey (nk x) = true := by unfold nk; simp [Lit.sameKey]
theorem same_other {s x : ByteArray} (h : s ≠ x) : (nk s).sameKey (nk x) = false := Maps.sameKey_ne (fun e => h (nk_inj e))
/-- What has been gathered. -/
def Got (N : Dm) (c : Nat) (left : Lit → Bool) (ls : List ByteArray) : Prop := (∀ s, s ∈ ls ↔ (hasN N s = true ∧ left (nk s) = false) ∧ atN N s = c) ∧ ∀ s ∈ ls, s.size ≤ maxLen
theorem Got.start (N : Dm) (c : Nat) : Got N c (Maps.has N) [] := ⟨fun s => ⟨fun h => (by cases h), fun h => by have h1 := h.1.1; have h2 := h.1.2; unfold hasN at h1; rw [h1] at h2; cases h2⟩, fun s hs => by cases hs⟩
theorem Got.step {N : Dm} {c : Nat} {left : Lit → Bool} {ls : List ByteArray} (h : Got N c left ls) (x : ByteArray) (hx : hasN N x = true) (hl : left (nk x) = true) (hz : x.size ≤ maxLen) :
    Got N c (fun z => left z && !z.sameKey (nk x)) (if atN N x = c then ls ++ [x] else ls) := by
  have hm : ∀ s, s ∈ (if atN N x = c then ls ++ [x] else ls) ↔ s ∈ ls ∨ (s = x ∧ atN N x = c) := by
    intro s
    split
    · rename_i hc; simp [hc]
    · rename_i hc; simp [hc]
  refine ⟨fun s => ?_, fun s hs => ?_⟩
  · rw [hm, h.1]
    by_cases e : s = x
    · subst e
      simp [hx, hl, same_self]
    · simp [same_other e, e]
  · rcases (hm s).1 hs with hs | ⟨rfl, _⟩
    · exact h.2 s hs
    · exact hz
theorem Got.done {N : Dm} {c : Nat} {left : Lit → Bool} {ls : List ByteArray} (h : Got N c left ls) (hl : ∀ k, left k = false) : (∀ s, s ∈ ls ↔ hasN N s = true ∧ atN N s = c) ∧ ∀ s ∈ ls, s.size ≤ maxLen :=
  ⟨fun s => by rw [h.1]; simp [hl], h.2⟩
theorem Kp.grown {ρ : Option Nat} {w w' : World} (h : Kp (fun b => ρ = some b) w w') : w.grownBy w' ρ := ⟨h.os, h.tape, h.output, h.size, fun i hi hne => h.block i hi (fun e => hne e.symm)⟩
theorem one_new (w : World) (v : Value) (T : TypeId) (j : Nat) (u : Value) (h : [v][j]? = some u) : (w.alloc (.cells #[v] T)).cell? ((⟨w.heap.size, 0, none⟩ : Addr).add j) = some u := by
  rw [plain_add, Nat.zero_add, World.cell?_alloc_new w #[v] T j]
  match j, h with
  | 0, h => exact h
theorem size56 : (Tryz.prog.info? 67).map (·.size) = some 2 := by kernel_rfl
theorem info56 : ∃ j, Tryz.prog.info? 67 = some j ∧ j.size ≠ 0 := by
  have h := size56
  cases hj : Tryz.prog.info? 67 with
  | none => rw [hj] at h; cases h
  | some j => rw [hj] at h; simp at h; exact ⟨j, rfl, by omega⟩
theorem ptr_same (d : Nat) (w : World) : (binOp BinOp.eql 62 (.pointer (some ⟨d, 0, none⟩)) (.pointer (some ⟨d, 0, none⟩))).run Tryz.prog w = .ok (.bool true) w := by
  obtain ⟨j, hj, _⟩ := info56
  exact run_eql_ptr_same w ⟨d, 0, none⟩ Tryz.underlying62 hj
/-- A block is a file's. -/
def IsF (w : World) (d : Nat) : Prop := ∃ ca, w.heap[d]? = some (.cells ca 67 (0, 0))
theorem IsF.keep {w w' : World} {d : Nat} (h : IsF w d) (hb : Below w.heap.size w w') : IsF w' d := by
  obtain ⟨ca, h⟩ := h
  exact ⟨ca, (hb.block d (lt_of_heap h)).trans h⟩
theorem ptr_other {d c : Nat} {w : World} (hd : IsF w d) (hc : IsF w c) (hne : d ≠ c) : (binOp BinOp.eql 62 (.pointer (some ⟨d, 0, none⟩)) (.pointer (some ⟨c, 0, none⟩))).run Tryz.prog w = .ok (.bool false) w := by
  obtain ⟨j, hj, hs⟩ := info56
  obtain ⟨ca, h1⟩ := hd
  obtain ⟨cb, h2⟩ := hc
  exact run_eql_ptr_other w Tryz.underlying62 hj hs (fun e => hne (by cases e; rfl)) h1 h2
def NamesQ (n : Nat) (N : Dm) (c : Nat) (w : World) (e : Ending) (w' : World) : Prop :=
  ∃ (ls : List ByteArray) (ρ : Option Nat) (o : Option Addr) (cap : Nat), e = .returned (.slice o ls.length cap) ∧ PRow 9 1 ρ o cap ls.length (ls.map Value.string) w' ∧ (∀ r, ρ = some r → w.heap.size ≤ r) ∧ ((∀ s, s ∈ ls ↔ hasN N s = true ∧ atN N s = c) ∧ ∀ s ∈ ls, s.size ≤ maxLen) ∧ Below w.heap.size w w' ∧ ls.length ≤ n
def NamesR (N : Dm) (b n c : Nat) (w : World) (v : Value) (wr : World) : Prop :=
  ∃ (left : Lit → Bool) (cnt : Nat) (ls : List ByteArray) (ρ : Option Nat) (o : Option Addr) (cap : Nat), v = .slice o ls.length cap ∧ wr.ranges Tryz.prog 9 ptrE b w.heap.size n N left cnt ∧ ls.length + cnt ≤ n ∧ PRow 9 1 ρ o cap ls.length (ls.map Value.string) wr ∧ (∀ r, ρ = some r → w.heap.size < r) ∧ Got N c left ls ∧ Below w.heap.size w wr
set_option maxRecDepth 100000 in
set_option maxHeartbeats 2000000 in
theorem names_any (b n c : Nat) (N : Dm) (F : Fil N) (w : World) (hown : w.ownsMap Tryz.prog 9 ptrE b n N) (hn : n ≤ 1000000) (hF : ∀ s, hasN N s = true → IsF w (atN N s)) (hc : IsF w c) :
    Calls Tryz.prog 37 #[.map (some b), .pointer (some ⟨c, 0, none⟩)] w (NamesQ n N c w) := by
  have HN := Lib.hid hn
  have HF := Lib.hid hF
  have HC := Lib.hid hc
  clear hn hF hc
  go_enter Tryz.func37, Tryz.ntmps37
  go_wp2_with (first
    | (at_range; refine wpList_range_own _ rfl _ 44 rfl 9 62 law Tryz.underlying44 ptrE b n N rfl hown ?_; intro w0 hrg0 hg0 hs0; go_frame))
  have hlb := hown.lt
  go_loopw [5] (fun v wr => NamesR N b n c w v wr) (fun _ wr => wr.rangeLeft b w.heap.size)
  case atStart =>
    exact ⟨_, _, [], none, none, 0, rfl, hrg0, by have := hown.size_le; simpa using this, PRow.nil _ _ _, fun r hr => (by cases hr), Got.start N c, (Below.refl _ _).grown hg0 (Nat.le_refl _) (fun j hj => by cases hj)⟩
  case round =>
    obtain ⟨left, cnt, ls, ρ, o, cap, rfl, hrg, hcs, hrow, hρ, hG, hnx⟩ := hrel
    have HROW := Lib.hid hrow
    have Hρ := Lib.hid hρ
    have HG := Lib.hid hG
    have HNX := Lib.hid hnx
    have HCS := Lib.hid hcs
    have HRG := Lib.hid hrg
    clear hrow hρ hG hnx hcs hrg
    go_wp2_with (first
      | (at_next; refine wpList_next_file _ rfl _ rfl b w.heap.size n N F _ _ rfl HRG.out ?_ ?_))
    · intro hc0 hl0
      have HL := Lib.hid hl0
      clear hl0
      go_wp2
      go_ret
      exact ⟨ls, ρ, o, cap, rfl, HROW.out, fun r hr => Nat.le_of_lt (Hρ.out r hr), HG.out.done HL.out, HNX.out, by have := HCS.out; omega⟩
    · intro x w1 cnt1 hwx hlx hhx hrg1 hlt hg1 hs1 hen
      have HST := Lib.hid (HG.out.step x hhx hlx hwx)
      have HRG1 := Lib.hid hrg1
      have HG1 := Lib.hid hg1
      have HLT := Lib.hid hlt
      have HS1 := Lib.hid hs1
      clear hwx hlx hrg1 hlt hg1 hs1
      have HEQ : Hid (ρ ≠ some w.heap.size) := Lib.hid (fun e => by have := Hρ.out _ e; omega)
      have hb1 : Below w.heap.size w w1 := HNX.out.grown HG1.out HNX.out.size (fun j hj => by cases hj; exact Nat.le_refl _)
      have HFD := Lib.hid ((HF.out x hhx).keep hb1)
      have HFC := Lib.hid (HC.out.keep hb1)
      obtain ⟨d, hd⟩ : ∃ d, d = atN N x := ⟨_, rfl⟩
      rw [← hd] at hen HST HFD ⊢
      clear hd hb1 hhx
      by_cases hxc : d = c
      · subst hxc
        have HEq := ptr_same d w1
        have HST2 := Lib.hid (show Got N d (fun z => left z && !z.sameKey (nk x)) (ls ++ [x]) from by have := HST.out; rwa [if_pos rfl] at this)
        have HR1 := Lib.hid (show PRow 9 1 ρ o cap ls.length (ls.map Value.string) (w1.alloc (.cells #[.string x] 9)) from (HROW.out.keep (fun r hr => HG1.out.block r (by rcases HROW.out.2 with h | ⟨q, cur, h1, _, h4, _⟩; rw [h.2.2.1] at hr; cases hr; rw [h1] at hr; cases hr; exact lt_of_heap h4) (fun e => HEQ.out (by rw [hr, ← e]))) : PRow 9 1 ρ o cap ls.length (ls.map Value.string) w1).keep (fun r hr => (alloc_below w1 _).block r (by rcases HROW.out.2 with h | ⟨q, cur, h1, _, h4, _⟩; rw [h.2.2.1] at hr; cases hr; rw [h1] at hr; cases hr; have := lt_of_heap h4; have := HS1.out; omega)))
        clear HST
        go_wp2_with (first
          | (at_builtin; refine wpList_prow rfl _ _ 30 9 rfl Tryz.underlying30 (.string ⟨#[]⟩) 1 16 info9 rfl (by omega) (by omega) ρ o cap ls.length (ls.map Value.string) HR1.out (by have := HCS.out; have := HN.out; omega) ⟨w1.heap.size, 0, none⟩ [.string x] rfl (one_new w1 _ 9) (fun u hu => (by simp at hu; subst hu; rfl)) rfl rfl ?_; intro o2 cap2 w2 ρ2 hrow2 hnx2 hk2; have HROW2 := Lib.hid hrow2; have HNX2 := Lib.hid hnx2; have HK2 := Lib.hid hk2; clear hrow2 hnx2 hk2; go_frame))
        go_roundw
        case rel =>
          have hal := alloc_below w1 (.cells #[.string x] 9)
          have hlb1 := HNX.out.size
          have hρ' : ∀ r, ρ = some r → w.heap.size ≤ r := fun r hr => Nat.le_of_lt (Hρ.out r hr)
          have hr2 : w2.ranges Tryz.prog 9 ptrE b w.heap.size n N (fun z => left z && !z.sameKey (nk x)) cnt1 := ((HRG1.out.alloc _).kept HK2.out.grown (fun e => by have := Hρ.out _ e.symm; omega) (fun e => HEQ.out e.symm))
          refine ⟨_, cnt1, ls ++ [x], ρ2, o2, cap2, by simp, hr2, by have := HCS.out; have := HLT.out; simp; omega, by simpa using HROW2.out, ?_, HST2.out, ?_⟩
          · intro r hr
            rcases HNX2.out with e | ⟨q, e, hq⟩
            · exact Hρ.out r (by rw [← e]; exact hr)
            · rw [e] at hr; cases hr
              have := HS1.out
              have h3 : (w1.alloc (.cells #[.string x] 9)).heap.size = w1.heap.size + 1 := by simp
              have := (HRG1.out).lt
              omega
          · exact ((HNX.out.grown HG1.out hlb1 (fun j hj => by cases hj; exact Nat.le_refl _)).trans ((hal.mono (by have := HS1.out; omega)))).grown HK2.out.grown (by have := HS1.out; simp; omega) (fun j hj => hρ' j hj)
        case measure =>
          have hr2 : w2.ranges Tryz.prog 9 ptrE b w.heap.size n N (fun z => left z && !z.sameKey (nk x)) cnt1 := ((HRG1.out.alloc _).kept HK2.out.grown (fun e => by have := Hρ.out _ e.symm; omega) (fun e => HEQ.out e.symm))
          rw [hr2.left_eq, HRG.out.left_eq]; exact HLT.out
      · have HEq := ptr_other HFD.out HFC.out hxc
        have HST2 := Lib.hid (show Got N c (fun z => left z && !z.sameKey (nk x)) ls from by have := HST.out; rwa [if_neg hxc] at this)
        clear HST
        go_wp2
        go_roundw
        case rel =>
          have hrow1 : PRow 9 1 ρ o cap ls.length (ls.map Value.string) w1 := HROW.out.keep (fun r hr => HG1.out.block r (by rcases HROW.out.2 with h | ⟨q, cur, h1, _, h4, _⟩; rw [h.2.2.1] at hr; cases hr; rw [h1] at hr; cases hr; exact lt_of_heap h4) (fun e => HEQ.out (by rw [hr, ← e])))
          exact ⟨_, cnt1, ls, ρ, o, cap, rfl, HRG1.out, by have := HCS.out; have := HLT.out; omega, hrow1, Hρ.out, HST2.out, HNX.out.grown HG1.out HNX.out.size (fun j hj => by cases hj; exact Nat.le_refl _)⟩
        case measure => rw [HRG1.out.left_eq, HRG.out.left_eq]; exact HLT.out
end Go.Proofs.YtjkpopdjmmgbbabGreat.Dk

namespace Go.Proofs.YtjkpopdjmmgbbabGreat.Dk
open Go.RowKit Go.Maps

def ptr (d : Nat) : Value := .pointer (some ⟨d, 0, none⟩)
def IdxQ (fs : List Nat) (c : Nat) (w : World) (e : Ending) (w' : World) : Prop := ∃ i : Int, e = .returned (.int .i64 i) ∧ (0 ≤ i ↔ c ∈ fs) ∧ -1 ≤ i ∧ i ≤ 1000000 ∧ w' = w
set_option maxRecDepth 100000 in
set_option maxHeartbeats 2000000 in
theorem index_any (fs : List Nat) (ρ : Option Nat) (o : Option Addr) (cap c : Nat) (w : World) (hr : PRow 62 1 ρ o cap fs.length (fs.map ptr) w) (hF : ∀ d ∈ fs, IsF w d) (hc : IsF w c) (hl : fs.length ≤ 1000000) :
    Calls Tryz.prog 74 #[.slice o fs.length cap, .pointer (some ⟨c, 0, none⟩)] w (IdxQ fs c w) := by
  have HR := Lib.hid hr
  have HF := Lib.hid hF
  have HC := Lib.hid hc
  obtain ⟨m, hm⟩ : ∃ m, m = fs.length := ⟨_, rfl⟩
  rw [← hm]
  have hl' : m ≤ 1000000 := by omega
  have HM := Lib.hid hm
  clear hr hF hc hl hm
  go_enter Tryz.func74, Tryz.ntmps74
  go_wp2
  go_loop [8] (fun v => ∃ k : Nat, k ≤ m ∧ v = .int .i64 k ∧ Hid (∀ j, j < k → fs[j]? ≠ some c)) (fun v => m - (intOf v).toNat)
  case atStart => exact ⟨0, by omega, rfl, Lib.hid (fun j hj => by omega)⟩
  case round =>
    obtain ⟨k, hk, rfl, hn⟩ := hrel
    by_cases hlt : k < m
    · have hkl : k < fs.length := by rw [← HM.out]; exact hlt
      obtain ⟨d, hd⟩ : ∃ d, d = fs[k] := ⟨_, rfl⟩
      obtain ⟨r, hρ, ho, hcell⟩ := HR.out.cell k (ptr d) (by rw [List.getElem?_map, List.getElem?_eq_getElem hkl, hd]; rfl)
      have hfd := HF.out d (by rw [hd]; exact List.getElem_mem hkl)
      have HD := Lib.hid hd
      subst ho
      unfold ptr at hcell
      have q1 : (0 : Int) ≤ (k : Int) := by omega
      have q2 : (k : Int) < (m : Int) := by omega
      by_cases hdc : d = c
      · have HEq := ptr_same d w
        have HMEM : Hid (c ∈ fs) := Lib.hid (by rw [← hdc, hd]; exact List.getElem_mem hkl)
        subst hdc
        clear hfd hd hρ
        go_wp2
        go_ret
        exact ⟨k, rfl, ⟨fun _ => HMEM.out, fun _ => by omega⟩, by omega, by omega, rfl⟩
      · have HEq := ptr_other HC.out hfd (fun e => hdc e.symm)
        clear hfd hd hρ
        go_wp2
        go_round
        case rel =>
          refine ⟨k + 1, by omega, by go_num, Lib.hid (fun j hj e => ?_)⟩
          by_cases hjk : j = k
          · subst hjk
            rw [List.getElem?_eq_getElem (by rw [← HM.out]; exact hlt)] at e
            exact hdc (by rw [HD.out]; exact Option.some.inj e)
          · exact hn.out j (by omega) e
        case measure => simp [intOf]; omega
    · have hkm : k = m := by omega
      subst hkm
      go_wp2
      go_ret
      refine ⟨-1, rfl, ⟨fun h => by omega, fun h => ?_⟩, by omega, by omega, rfl⟩
      obtain ⟨j, hj, e⟩ := List.getElem_of_mem h
      exact absurd (by rw [List.getElem?_eq_getElem hj, e]) (hn.out j (by rw [HM.out]; exact hj))
theorem contains_any (fs : List Nat) (ρ : Option Nat) (o : Option Addr) (cap c : Nat) (w : World) (hr : PRow 62 1 ρ o cap fs.length (fs.map ptr) w) (hF : ∀ d ∈ fs, IsF w d) (hc : IsF w c) (hl : fs.length ≤ 1000000) :
    Calls Tryz.prog 62 #[.slice o fs.length cap, .pointer (some ⟨c, 0, none⟩)] w fun e w' => e = .returned (.bool (decide (c ∈ fs))) ∧ w' = w := by
  have K1 := Lib.hid (index_any fs ρ o cap c w hr hF hc hl)
  clear hr hF hc hl
  generalize fs.length = m at *
  go_enter Tryz.func62, Tryz.ntmps62
  go_wp2_with (first
    | (go_at_call 74; ((with_reducible refine (K1.out).mono ?_); rintro e w' ⟨i, rfl, hi, h1, h2, rfl⟩)))
  go_ret
  refine ⟨?_, rfl⟩
  simp [hi]
end Go.Proofs.YtjkpopdjmmgbbabGreat.Dk

namespace Go.Proofs.YtjkpopdjmmgbbabGreat.Dk
open Go.RowKit Go.Maps Go.Sort

def sN (l : List UInt8) : ByteArray := ⟨l.toArray⟩
theorem sN_size (l : List UInt8) : (sN l).size = l.length := by unfold sN; rfl
theorem nk_sN (l : List UInt8) : nk (sN l) = .string l := by unfold nk sN; simp
theorem enc_sN (l : List UInt8) : encStr l = .string (sN l) := rfl
def addF (D : Dm) (acc : List Nat) (s : List UInt8) : List Nat := if atN D (sN s) ∈ acc then acc else acc ++ [atN D (sN s)]
/-- The files of names, each once, in order. -/
def filesN (D : Dm) : List Nat := (keysN D).foldl (addF D) []
theorem mem_keys {w : World} {b n : Nat} {N : Dm} (h : w.ownsMap Tryz.prog 9 ptrE b n N) (s : List UInt8) (hs : s ∈ keysN N) : hasN N (sN s) = true ∧ s.length ≤ maxLen := by
  have hs' : s ∈ strKeys N := (List.mergeSort_perm _ _).mem_iff.1 hs
  refine ⟨?_, strKeys_le h Tryz.underlying9 s hs'⟩
  obtain ⟨es, rfl, hk⟩ := h.keysOf
  obtain ⟨p, hp, rfl⟩ := List.mem_map.1 hs'
  obtain ⟨v, hv⟩ := hk p hp
  obtain ⟨x, _, hx, _⟩ := Maps.keyOf_str Tryz.underlying9 hv
  unfold hasN
  rw [nk_sN, Maps.has_eq]
  refine List.any_eq_true.2 ⟨p, hp, ?_⟩
  rw [hx]
  simp [strOf, Lit.sameKey]
theorem keys_len {w : World} {b n : Nat} {N : Dm} (h : w.ownsMap Tryz.prog 9 ptrE b n N) : (keysN N).length ≤ n := by
  unfold keysN
  rw [List.length_mergeSort]
  have := h.size_le
  obtain ⟨es, rfl, _⟩ := h.keysOf
  simpa [strKeys, Maps.size] using this
/-- A row of strings as the sort leaves it. -/
theorem row_of_owns {w : World} {base : Nat} {v : Value} {xs : List Value} {k : Nat} (h : w.ownsRow base 9 1 v k xs) : ∃ ρ o cap, v = .slice o k cap ∧ PRow 9 1 ρ o cap k xs w ∧ ∀ r, ρ = some r → base ≤ r := by
  obtain ⟨hl, h | ⟨gb, cap, cur, rfl, hb, hg, r1, r2, r3, r4⟩⟩ := h
  · obtain ⟨rfl, rfl⟩ := h
    have : xs = [] := List.eq_nil_of_length_eq_zero (by simpa using hl)
    subst this
    exact ⟨none, none, 0, rfl, PRow.nil _ _ _, fun r hr => by cases hr⟩
  · exact ⟨some gb, some ⟨gb, 0, none⟩, cap, rfl, ⟨by simpa using hl, Or.inr ⟨gb, cur, rfl, rfl, hg, r1, r2, by simpa using r3, by simpa using r4⟩⟩, fun r hr => by cases hr; exact hb⟩
end Go.Proofs.YtjkpopdjmmgbbabGreat.Dk
