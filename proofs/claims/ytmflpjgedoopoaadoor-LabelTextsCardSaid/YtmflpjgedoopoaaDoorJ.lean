/- Small letters: the call's own bytes read and written in place; texts that grow byte by byte. -/
import Derived.Test.YtmflpjgedoopoaaDoorF
namespace Go.Proofs.YtmflpjgedoopoaaDoor
open Go.RowKit

/-- Block g begins with these bytes; none is frozen. -/
def Bts (w : World) (g : Nat) (l : List UInt8) : Prop :=
  ∀ j, j < l.length → w.cell? ⟨g, j, none⟩ = some (.int .u8 ((l.getD j 0).toNat : Int)) ∧ w.frozen? ⟨g, j, none⟩ = false

theorem Bts.lt {w : World} {g : Nat} {l : List UInt8} (h : Bts w g l) (hl : 0 < l.length) : g < w.heap.size := by
  have := (h 0 hl).1
  rcases Nat.lt_or_ge g w.heap.size with hlt | hge
  · exact hlt
  · simp [World.cell?, Array.getElem?_eq_none hge] at this
theorem Bts.alloc {w : World} {g : Nat} {l : List UInt8} (h : Bts w g l) (o : Obj) : Bts (w.alloc o) g l := by
  intro j hj
  have hlt := h.lt (by omega)
  obtain ⟨h1, h2⟩ := h j hj
  have hb := Below.heap_alloc w o g hlt
  exact ⟨(World.cell?_of_block (w := w) hb).trans h1, (World.frozen?_of_block (w := w) hb).trans h2⟩
theorem Bts.drewN {w : World} {g : Nat} {l : List UInt8} (h : Bts w g l) (n : Nat) : Bts (w.drewN n) g l := h
theorem Bts.below {w w' : World} {B g : Nat} {l : List UInt8} (h : Bts w g l) (hb : Below B w w') (hg : g < B) : Bts w' g l := by
  intro j hj
  obtain ⟨h1, h2⟩ := h j hj
  exact ⟨(hb.cell (p := ⟨g, j, none⟩) hg).trans h1, (hb.frozen (p := ⟨g, j, none⟩) hg).trans h2⟩
theorem Bts.set {w : World} {g : Nat} {l : List UInt8} (h : Bts w g l) (k : Nat) (hk : k < l.length) (c : Int) (x : UInt8) (hc : c = (x.toNat : Int)) : Bts (w.setCell ⟨g, k, none⟩ (.int .u8 c)) g (l.set k x) := by
  subst hc
  intro j hj
  rw [List.length_set] at hj
  obtain ⟨h1, h2⟩ := h j hj
  by_cases e : j = k
  · subst e
    refine ⟨?_, ?_⟩
    · have := (h j hj).1
      rw [World.cell?_setCell_same w _ _ this]
      simp [List.getD, hj]
    · rw [World.frozen?_setCell]; exact h2
  · refine ⟨?_, ?_⟩
    · rw [World.cell?_setCell_other w _ _ _ (by intro he; injection he with _ he _; exact e he.symm), h1]
      simp [List.getD, Ne.symm e]
    · rw [World.frozen?_setCell]; exact h2

theorem Bts.string {w : World} {g cap : Nat} {l : List UInt8} (h : Bts w g l) :
    (convert 56 9 (.slice (some ⟨g, 0, none⟩) l.length cap)).run Tryd.prog w = .ok (.string (str l)) w := by
  refine run_convert_bytes_back (P := Tryd.prog) w 56 9 5 ⟨g, 0, none⟩ cap l Tryd.underlying56 Tryd.underlying5 Tryd.underlying9 ?_
  intro j hj
  have := (h j hj).1
  rw [show (⟨g, 0, none⟩ : Addr).add j = ⟨g, j, none⟩ by simp [Addr.add]; intro e; exact e.symm, this]
  simp [List.getD, hj]

/-- '[]byte(s)'. -/
theorem bytes_of (w : World) (s : ByteArray) : ∃ cap w', (convert 9 56 (.string s)).run Tryd.prog w = .ok (.slice (some ⟨w.heap.size, 0, none⟩) s.size cap) w' ∧ Bts w' w.heap.size s.data.toList ∧ Below w.heap.size w w' ∧ w.heap.size < w'.heap.size := by
  refine ⟨_, _, run_bytes_of_string w 9 56 5 s Tryd.underlying9 Tryd.underlying56 Tryd.underlying5, ?_, ?_, ?_⟩
  · intro j hj
    have hc := grownCap_ge w s.size 0 5
    have hj' : j < s.size := by simpa using hj
    generalize grownCap w s.size 0 5 = cap at *
    refine ⟨?_, ?_⟩
    · have h := World.cell?_alloc_mark w.drew (bytesRow s cap) 5 ((bytesRow s cap).size, (bytesRow s cap).size + 1) j
      refine h.trans ?_
      rw [bytesRow, Array.getElem?_append_left (by simpa using hj'), Array.getElem?_map]
      have hd : j < s.data.size := hj'
      rw [Array.getElem?_eq_getElem hd]
      simp [List.getD]
      rw [Array.getElem?_eq_getElem hd]
      rfl
    · have h := World.frozen?_alloc_mark w.drew (bytesRow s cap) 5 (bytesRow s cap).size ((bytesRow s cap).size + 1) j
      refine h.trans ?_
      have : s.size ≤ (bytesRow s cap).size := by
        rw [bytesRow, Array.size_append, Array.size_map]; exact Nat.le_add_right _ _
      simp; omega
  · exact ((Below.refl _ w).drew).alloc (Nat.le_refl _) _
  · simp

theorem run_one_byte (W : World) (c : Int) (x : UInt8) (hc : c = (x.toNat : Int)) :
    (convert 56 9 (.slice (some ⟨W.heap.size, 0, none⟩) 1 1)).run Tryd.prog (W.alloc (.cells #[.int .u8 c] 5)) = .ok (.string (str [x])) (W.alloc (.cells #[.int .u8 c] 5)) := by
  subst hc
  refine run_convert_bytes_back (P := Tryd.prog) (W.alloc (.cells #[.int .u8 (x.toNat : Int)] 5)) 56 9 5 ⟨W.heap.size, 0, none⟩ 1 [x] Tryd.underlying56 Tryd.underlying5 Tryd.underlying9 ?_
  intro j hj
  match j, hj with
  | 0, _ => simp [Addr.add]
theorem str_append (a b : List UInt8) : str a ++ str b = str (a ++ b) := by
  apply ByteArray.ext
  simp [str]
theorem run_str_add (a b : List UInt8) (h : a.length + b.length ≤ 140737488355328) (W : World) : (Op.stringOp .add (str a) (str b)).run Tryd.prog W = .ok (.string (str (a ++ b))) W := by
  rw [run_string_add_sum W (str a) (str b) (by rw [str_size, str_size]; omega), str_append]

theorem ret_string {a b : ByteArray} (h : a = b) : Ending.returned (.string a) = Ending.returned (.string b) := by rw [h]
theorem lowC_nat (c : UInt8) : (lowC c).toNat = if 65 ≤ c.toNat ∧ c.toNat ≤ 90 then c.toNat + 32 else c.toNat := by
  unfold lowC
  split
  · rename_i h; rw [UInt8.toNat_ofNat', Nat.mod_eq_of_lt (by omega)]
  · rfl
theorem low_take (l : List UInt8) (k : Nat) (h : k < l.length) : low (l.take (k + 1)) = low (l.take k) ++ [lowC (l.getD k 0)] := by
  unfold low
  rw [List.take_succ_eq_append_getElem h, List.map_append, List.getD_eq_getElem?_getD, List.getElem?_eq_getElem h]; rfl

set_option maxRecDepth 1000000 in
set_option maxHeartbeats 1000000 in
theorem rlower_any (s : ByteArray) (w : World) (hs : s.size ≤ 140737488351232) :
    Calls Tryd.prog 23 #[.string s] w fun e w' => e = .returned (.string (str (low s.data.toList))) ∧ Below w.heap.size w w' := by
  have HL := Lib.hid (Lib.size_eq s)
  go_enter Tryd.func23, Tryd.ntmps23
  go_wp2
  go_loopw [3, 4] (fun o i wr => ∃ (k : Nat) (acc : List UInt8), k ≤ s.size ∧ o = .string (str acc) ∧ i = .int .i64 k ∧ Below w.heap.size w wr ∧ Hid (acc = low (s.data.toList.take k))) (fun _ i _ => s.size - (intOf i).toNat)
  case atStart => exact ⟨0, [], by omega, rfl, rfl, Below.refl _ _, Lib.hid rfl⟩
  case round =>
    obtain ⟨k, acc, hk, rfl, rfl, hb, hj⟩ := hrel
    by_cases hlt : k < s.size
    · have hn0 := getD_at s k hlt
      have NX := Lib.hid (low_take s.data.toList k (by rw [← HL.out]; exact hlt))
      have hlen : acc.length ≤ k := by rw [hj.out, low, List.length_map, List.length_take]; omega
      rw [hn0, ← hj.out] at NX
      clear hn0
      have hx := lowC_nat s[k]
      have hadd := run_str_add acc [lowC s[k]] (by simp; omega)
      have hbs := hb.size
      by_cases hu : 65 ≤ s[k].toNat ∧ s[k].toNat ≤ 90
      · rw [if_pos hu] at hx
        have hcv := run_one_byte wr ((s[k].toNat : Int) + 32) (lowC s[k]) (by omega)
        have HX := Lib.hid hx
        generalize lowC s[k] = x at hcv hadd NX
        obtain ⟨u1, u2⟩ := hu
        clear hx HX
        generalize hn : s[k].toNat = n at hcv u1 u2
        go_wp2
        go_roundw
        case rel => exact ⟨k + 1, acc ++ [x], by omega, rfl, by go_num, hb.alloc hbs _, Lib.hid NX.out.symm⟩
        case measure => simp [intOf] <;> omega
      · rw [if_neg hu] at hx
        have hcv := run_one_byte wr (s[k].toNat : Int) (lowC s[k]) (by omega)
        generalize lowC s[k] = x at hcv hadd NX
        clear hx
        generalize hn : s[k].toNat = n at hcv hu
        by_cases hl : n < 65
        · go_wp2
          go_roundw
          case rel => exact ⟨k + 1, acc ++ [x], by omega, rfl, by go_num, hb.alloc hbs _, Lib.hid NX.out.symm⟩
          case measure => simp [intOf] <;> omega
        · have hl2 : 90 < n := by omega
          clear hu
          go_wp2
          go_roundw
          case rel => exact ⟨k + 1, acc ++ [x], by omega, rfl, by go_num, hb.alloc hbs _, Lib.hid NX.out.symm⟩
          case measure => simp [intOf] <;> omega
    · have hkk : k = s.size := by omega
      have HA := Lib.hid hj.out
      rw [hkk, HL.out, List.take_length] at HA
      clear hkk
      go_wp2
      go_ret
      exact ⟨ret_string (by rw [HA.out]), hb⟩

/-- What stands in the bytes, the first k of them turned. -/
def half (l : List UInt8) (k : Nat) : List UInt8 := low (l.take k) ++ l.drop k
theorem half_len (l : List UInt8) (k : Nat) : (half l k).length = l.length := by unfold half low; simp; omega
theorem half_at (l : List UInt8) (k : Nat) (h : k < l.length) : (half l k).getD k 0 = l.getD k 0 := by
  unfold half
  rw [List.getD_eq_getElem?_getD, List.getElem?_append_right (by unfold low; simp; omega), List.getElem?_drop, List.getD_eq_getElem?_getD]
  congr 2
  unfold low; simp; omega
theorem half_set (l : List UInt8) (k : Nat) (h : k < l.length) : (half l k).set k (lowC (l.getD k 0)) = half l (k + 1) := by
  unfold half
  have e : (low (l.take k)).length = k := by unfold low; simp; omega
  rw [List.set_append_right _ _ (by omega), e, Nat.sub_self, low_take l k h, List.drop_eq_getElem_cons h, List.set_cons_zero, List.append_assoc]; rfl
theorem half_stay (l : List UInt8) (k : Nat) (h : k < l.length) (hc : lowC (l.getD k 0) = l.getD k 0) : half l k = half l (k + 1) := by
  rw [← half_set l k h, hc]
  unfold half
  have e : (low (l.take k)).length = k := by unfold low; simp; omega
  rw [List.set_append_right _ _ (by omega), e, Nat.sub_self, List.drop_eq_getElem_cons h, List.set_cons_zero, List.getD_eq_getElem?_getD, List.getElem?_eq_getElem h]; rfl

set_option maxRecDepth 1000000 in
set_option maxHeartbeats 1000000 in
theorem lower_any (s : ByteArray) (w : World) (hs : s.size ≤ 140737488351232) :
    Calls Tryd.prog 22 #[.string s] w fun e w' => e = .returned (.string (str (low s.data.toList))) ∧ Below w.heap.size w w' := by
  have HL := Lib.hid (Lib.size_eq s)
  obtain ⟨cap, w1, hrun, hbt, hb1, hlt1⟩ := bytes_of w s
  have HBT := Lib.hid hbt
  have HB1 := Lib.hid hb1
  clear hbt hb1
  go_enter Tryd.func22, Tryd.ntmps22
  go_wp2
  go_loopw [10] (fun i wr => ∃ k : Nat, k ≤ s.size ∧ i = .int .i64 k ∧ Bts wr w.heap.size (half s.data.toList k) ∧ Below w.heap.size w wr) (fun i _ => s.size - (intOf i).toNat)
  case atStart => exact ⟨0, by omega, rfl, HBT.out, HB1.out⟩
  case round =>
    obtain ⟨k, hk, rfl, hbt, hb⟩ := hrel
    by_cases hlt : k < s.size
    · have hkl : k < s.data.toList.length := by rw [← HL.out]; exact hlt
      obtain ⟨hc, hf⟩ := hbt k (by rw [half_len]; exact hkl)
      rw [half_at _ k hkl] at hc
      have ST := Lib.hid (half_stay s.data.toList k hkl)
      have SE := Lib.hid (half_set s.data.toList k hkl)
      have hx := lowC_nat (s.data.toList.getD k 0)
      have hset : 65 ≤ (s.data.toList.getD k 0).toNat ∧ (s.data.toList.getD k 0).toNat ≤ 90 → Bts (wr.setCell ⟨w.heap.size, k, none⟩ (.int .u8 (((s.data.toList.getD k 0).toNat : Int) - 65 + 97))) w.heap.size (half s.data.toList (k + 1)) := fun h => by
        rw [if_pos h] at hx
        have := hbt.set k (by rw [half_len]; exact hkl) (((s.data.toList.getD k 0).toNat : Int) - 65 + 97) (lowC (s.data.toList.getD k 0)) (by omega)
        rw [SE.out] at this
        exact this
      have hbset := fun v => hb.setCell (p := ⟨w.heap.size, k, none⟩) (Nat.le_refl _) v
      have HBS := Lib.hid hbset
      have hcc : lowC (s.data.toList.getD k 0) = s.data.toList.getD k 0 ↔ (lowC (s.data.toList.getD k 0)).toNat = (s.data.toList.getD k 0).toNat := byte_eq _ _
      rw [hx] at hcc
      have HCC := Lib.hid hcc
      clear hx hcc SE hbset
      have BT0 := Lib.hid hbt
      clear hbt
      generalize (s.data.toList.getD k 0).toNat = n at hc hset HCC
      by_cases hu : 65 ≤ n ∧ n ≤ 90
      · have HS := Lib.hid (hset hu)
        clear hset HCC ST
        obtain ⟨u1, u2⟩ := hu
        go_wp2
        go_roundw
        case rel => exact ⟨k + 1, by omega, by go_num, HS.out, HBS.out _⟩
        case measure => simp [intOf] <;> omega
      · have NX : Hid (Bts wr w.heap.size (half s.data.toList (k + 1))) := Lib.hid (by
          have := ST.out (HCC.out.2 (by rw [if_neg hu]))
          rw [← this]; exact BT0.out)
        clear hset HCC ST
        by_cases hl : n < 65
        · go_wp2
          go_roundw
          case rel => exact ⟨k + 1, by omega, by go_num, NX.out, hb⟩
          case measure => simp [intOf] <;> omega
        · have hl2 : 90 < n := by omega
          clear hu
          go_wp2
          go_roundw
          case rel => exact ⟨k + 1, by omega, by go_num, NX.out, hb⟩
          case measure => simp [intOf] <;> omega
    · have hcv := hbt.string (cap := cap)
      rw [half_len, ← HL.out] at hcv
      have HE : Hid (half s.data.toList k = low s.data.toList) := Lib.hid (by
        unfold half
        rw [List.take_of_length_le (by rw [← HL.out]; omega), List.drop_of_length_le (by rw [← HL.out]; omega), List.append_nil])
      go_wp2
      go_ret
      exact ⟨ret_string (by rw [HE.out]), hb⟩
end Go.Proofs.YtmflpjgedoopoaaDoor
