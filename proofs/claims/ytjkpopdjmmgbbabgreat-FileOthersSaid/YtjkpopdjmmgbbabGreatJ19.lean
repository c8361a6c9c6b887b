/- New, Steps, Names.; Rows of bytes; what is copied into them.; What survives of a file. -/
import Derived.Test.YtjkpopdjmmgbbabGreatJ18
import Derived.Deep.OwnRows
set_option linter.unusedVariables false
set_option linter.unusedSimpArgs false
namespace Go.Proofs.YtjkpopdjmmgbbabGreat.Dk
open Go.RowKit Go.Maps Go.Sort

/-- A new disk. -/
def St.fresh (room : Nat) : St := ⟨room, .map [], .map [], [], -1, 0, false, fun _ => (⟨#[]⟩, ⟨#[]⟩)⟩
theorem fil_none : Fil (.map [] : Dm) := fun k hk => by simp [Maps.has] at hk
theorem fresh_live (room c : Nat) : ¬ (St.fresh room).live c := by
  rintro (⟨k, hk, _⟩ | ⟨k, hk, _⟩ | ⟨t, ht, _⟩)
  · exact absurd (fil_none k hk) (by simp [St.fresh, Maps.has] at hk)
  · exact absurd (fil_none k hk) (by simp [St.fresh, Maps.has] at hk)
  · cases ht
theorem new_many (n : Int) (hn : n < 0 ∨ 65536 < n) (w : World) : Calls Tryz.prog 5 #[.int .i64 n] w fun e w' => e = .returned (.tuple #[.pointer none, .int .i64 7]) ∧ w' = w := by
  rcases hn with hn | hn
  · go_enter Tryz.func5, Tryz.ntmps5
    go_wp2
    go_ret2
    exact ⟨rfl, rfl⟩
  · go_enter Tryz.func5, Tryz.ntmps5
    go_wp2
    go_ret2
    exact ⟨rfl, rfl⟩
def NewQ (n : Nat) (w : World) (e : Ending) (w' : World) : Prop :=
  ∃ D g, e = .returned (.tuple #[.pointer (some ⟨D, 0, none⟩), .int .i64 0]) ∧ DW w' (Kn (fun _ => False) w w') D g (St.fresh n) ∧ g.nn = 0 ∧ w.heap.size ≤ D ∧ Below w.heap.size w w'
set_option maxRecDepth 100000 in
set_option maxHeartbeats 2000000 in
theorem new_any (n : Nat) (hn : n ≤ 65536) (w : World) : Calls Tryz.prog 5 #[.int .i64 (n : Int)] w (NewQ n w) := by
  have hmm := @run_makeMap Tryz.prog
  go_enter Tryz.func5, Tryz.ntmps5
  go_wp2
  go_ret2
  have s1 : (w.alloc (.map #[] 0)).heap.size = w.heap.size + 1 := by simp
  have s2 : ((w.alloc (.map #[] 0)).alloc (.map #[] 0)).heap.size = w.heap.size + 1 + 1 := by simp
  obtain ⟨w2, hw2⟩ : ∃ w2, w2 = (w.alloc (.map #[] 0)).alloc (.map #[] 0) := ⟨_, rfl⟩
  have m1 : w2.ownsMap Tryz.prog 9 ptrE w.heap.size 0 (.map []) := by rw [hw2]; exact (World.ownsMap_made w Tryz.prog 9 ptrE).alloc _
  have m2 : w2.ownsMap Tryz.prog 9 ptrE (w.heap.size + 1) 0 (.map []) := by
    have := World.ownsMap_made (w.alloc (.map #[] 0)) Tryz.prog 9 ptrE
    rw [s1] at this
    rw [hw2]; exact this
  have b2 : Below w.heap.size w w2 := by
    rw [hw2]
    exact (alloc_below w _).alloc (by omega) _
  rw [← hw2] at s2 ⊢
  clear hw2
  obtain ⟨o, ho⟩ : ∃ o : Obj, o = .cells #[.int .i64 (n : Int), .map (some w.heap.size), .map (some (w.heap.size + 1)), .slice none 0 0, .int .i64 (-1), .int .i64 0, .bool false] 47 := ⟨_, rfl⟩
  have hnew := heap_new w2 o
  rw [s2] at hnew
  have s3 : (w2.alloc o).heap.size = w.heap.size + 1 + 1 + 1 := by simp [s2]
  rw [← ho]
  refine ⟨w.heap.size + 1 + 1, ⟨w.heap.size, w.heap.size + 1, 0, none, 0, none, []⟩, rfl, ?_, rfl, by omega, b2.alloc (by omega) _⟩
  refine ⟨by rw [hnew, ho]; rfl, m1.alloc _, m2.alloc _, by show w.heap.size ≠ w.heap.size + 1; omega, ⟨rfl, Or.inl ⟨rfl, rfl, rfl, rfl⟩⟩, fun i hi => absurd hi (by show ¬ i < 0; omega), fun c hc => absurd hc (fresh_live n c), fun c hc => absurd hc (fresh_live n c), fil_none, fil_none, ?_, ?_⟩
  · exact ⟨by show (0 : Nat) ≤ 1000000; omega, by show (0 : Nat) ≤ 1000000; omega, by show (0 : Nat) ≤ 1000000000; omega, hn, by show (-1000000 : Int) ≤ -1; omega, by show (-1 : Int) ≤ 1000000; omega⟩
  · refine ⟨Or.inr ⟨by omega, by omega⟩, Or.inr ⟨Nat.le_refl _, by show w.heap.size < _; omega⟩, Or.inr ⟨by show _ ≤ w.heap.size + 1; omega, by show w.heap.size + 1 < _; omega⟩, fun r hr => (by cases hr), fun c hc => absurd hc (fresh_live n c), fun b hb => ?_⟩
    rcases hb with hb | hb
    · exact hb.elim
    · exact hb.2
theorem lnames_nil (w : World) : Calls Tryz.prog 9 #[.pointer none] w fun e w' => e = .returned (.slice none 0 0) ∧ w' = w := by
  have K1 := Lib.hid (fun w => refuses_nil w)
  go_enter Tryz.func9, Tryz.ntmps9
  go_wp2_with (first | (go_at_call 21; ((with_reducible refine (K1.out _).mono ?_); rintro e w' ⟨rfl, rfl⟩)))
  go_ret
  exact ⟨rfl, rfl⟩
theorem set_same {w : World} {b j : Nat} {v : Value} {cur : Array Value} {T : TypeId} (h : w.heap[b]? = some (.cells cur T (0, 0))) (hc : cur[j]? = some v) : (w.setCell ⟨b, j, none⟩ v).heap[b]? = some (.cells cur T (0, 0)) := by
  rw [heap_setCell_same _ _ _ _ _ _ h]
  have e : cur.setIfInBounds j v = cur := by
    apply Array.ext'
    rw [Array.toList_setIfInBounds]
    apply List.ext_getElem?
    intro i
    by_cases hi : i = j
    · subst hi
      rw [List.getElem?_set_self (by have := (Array.getElem?_eq_some_iff.1 hc).1; simpa using this), Array.getElem?_toList, hc]
    · rw [List.getElem?_set_ne (fun e => hi e.symm)]
  rw [e]
/-- A row's cell is written as it was. -/
theorem PRow.same {T : TypeId} {m : Nat} {ρ : Option Nat} {o : Option Addr} {cap n : Nat} {xs : List Value} {w : World} (h : PRow T m ρ o cap n xs w) (r j : Nat) (u : Value) (hr : ρ = some r) (hj : xs[j]? = some u) : PRow T m ρ o cap n xs (w.setCell ⟨r, j, none⟩ u) := by
  have hjl := (List.getElem?_eq_some_iff.1 hj).1
  rcases h.2 with ⟨_, _, h0, _⟩ | ⟨q, cur, h1, h2, h4, h5, h6, h7, htk⟩
  · rw [h0] at hr; cases hr
  · rw [h1] at hr; cases hr
    refine ⟨h.1, Or.inr ⟨r, cur, h1, h2, set_same h4 ?_, h5, h6, h7, htk⟩⟩
    rw [← Array.getElem?_toList]
    have := congrArg (fun l => l[j]?) htk
    simp only [List.getElem?_take] at this
    rw [if_pos (by rw [← h.1]; exact hjl)] at this
    rw [this]; exact hj
def LnQ (l : List (List UInt8)) (w : World) (e : Ending) (w' : World) : Prop :=
  ∃ ρ o cap, e = .returned (.slice o l.length cap) ∧ PRow 9 1 ρ o cap l.length (l.map encStr) w' ∧ (∀ r, ρ = some r → w.heap.size ≤ r) ∧ Below w.heap.size w w'
set_option maxRecDepth 100000 in
set_option maxHeartbeats 2000000 in
theorem lnames_any {w : World} {K : Nat → Prop} {D : Nat} {g : Gh} {st : St} (h : DW w K D g st) (hd : st.down = false) (hsh : ∀ s ∈ keysN st.N, s.length ≤ 1000000000) : Calls Tryz.prog 9 #[.pointer (some ⟨D, 0, none⟩)] w (LnQ (keysN st.N) w) := by
  have K0 := Lib.hid (refuses_any h)
  have hr : refE st = 0 := by unfold refE; rw [hd]; rfl
  rw [hr] at K0
  have K1 := Lib.hid (rising_any g.bn g.nn st.N w h.names h.few.1)
  have c1 := h.c1
  have HMEM := Lib.hid hsh
  have hml' := Nat.le_trans (keys_len h.names) h.few.1
  generalize keysN st.N = ks at *
  obtain ⟨m, hm⟩ : ∃ m, m = ks.length := ⟨_, rfl⟩
  rw [← hm] at K1
  have HM := Lib.hid hm
  have hml : m ≤ 1000000 := by rw [hm]; exact hml'
  have K2 : Hid (Calls Tryz.prog 22 #[.map (some g.bn)] w fun e w' => ∃ ρ o cap, e = .returned (.slice o m cap) ∧ Hid (PRow 9 1 ρ o cap m (ks.map encStr) w' ∧ (∀ r, ρ = some r → w.heap.size ≤ r)) ∧ Hid (Below w.heap.size w w')) := Lib.hid (K1.out.mono (fun e w' ⟨v, he, hr, hb⟩ => by
    obtain ⟨ρ, o, cap, rfl, h1, h2⟩ := row_of_owns hr
    exact ⟨ρ, o, cap, he, Lib.hid ⟨h1, h2⟩, Lib.hid hb⟩))
  clear h hd hr hm hml' K1 hsh
  go_enter Tryz.func9, Tryz.ntmps9
  go_wp2_with (first
    | (go_at_call 21; ((with_reducible refine (K0.out).mono ?_); rintro e w0 ⟨rfl, rfl⟩))
    | (go_at_call 22; ((with_reducible refine (K2.out).mono ?_); rintro e w1 ⟨ρk, ok, capk, rfl, HK, HB⟩)))
  go_loopw [16] (fun i wr => ∃ k : Nat, k ≤ m ∧ i = .int .i64 (k : Int) ∧ Hid (PRow 9 1 ρk ok capk m (ks.map encStr) wr) ∧ Hid (Below w0.heap.size w0 wr)) (fun i _ => m - (intOf i).toNat)
  case atStart => exact ⟨0, by omega, rfl, Lib.hid HK.out.1, HB⟩
  case round =>
    obtain ⟨k, hk, rfl, HR, HBB⟩ := hrel
    by_cases hlt : k < m
    · have hkl : k < ks.length := by rw [← HM.out]; exact hlt
      obtain ⟨s, hs⟩ : ∃ s, s = ks[k] := ⟨_, rfl⟩
      have hxk : (ks.map encStr)[k]? = some (.string (sN s)) := by rw [List.getElem?_map, List.getElem?_eq_getElem hkl, hs]; rfl
      have HXK := Lib.hid hxk
      obtain ⟨r, hρk, ho, hcell⟩ := HR.out.cell k (.string (sN s)) hxk
      have hmem := HMEM.out s (by rw [hs]; exact List.getElem_mem hkl)
      have HRL : Hid (r < wr.heap.size ∧ (∃ cur, wr.heap[r]? = some (.cells cur 9 (0, 0)))) := Lib.hid (by
        rcases HR.out.2 with h | ⟨q, cur, h1, _, h4, _⟩
        · rw [h.2.2.1] at hρk; cases hρk
        · rw [h1] at hρk; cases hρk; exact ⟨lt_of_heap h4, cur, h4⟩)
      have K3 := Lib.hid (fun wy => sclone_any (sN s) wy (by rw [sN_size]; exact hmem))
      have hfz : wr.frozen? ⟨r, k, none⟩ = false := by obtain ⟨cur, hc⟩ := HRL.out.2; exact frozen_of_row wr r k _ _ hc
      have HRB : Hid (w0.heap.size ≤ r) := Lib.hid (HK.out.2 r hρk)
      have HRHO := Lib.hid hρk
      subst ho
      have q1 : (0 : Int) ≤ (k : Int) := by omega
      have q2 : (k : Int) < (m : Int) := by omega
      generalize sN s = ss at hcell HXK K3
      clear hmem hρk hs hkl hxk
      go_wp2_with (first
        | (go_at_call 23; go_loud ((with_reducible refine (K3.out _).mono ?_); rintro e w2 ⟨rfl, hb2⟩; have HB2 := Lib.hid hb2; have hcell2 := (hb2.cell (p := ⟨r, k, none⟩) HRL.out.1).trans hcell; have hfz2 : w2.frozen? ⟨r, k, none⟩ = false := (by obtain ⟨cur, hc⟩ := HRL.out.2; exact frozen_of_row w2 r k _ _ ((hb2.block r HRL.out.1).trans hc)); clear hb2)))
      go_roundw
      case rel =>
        refine ⟨k + 1, by omega, by go_num, Lib.hid ((HR.out.keep (fun q hq => HB2.out.block q (by rw [HRHO.out] at hq; cases hq; exact HRL.out.1))).same r k (.string ss) HRHO.out HXK.out), Lib.hid ((HBB.out.trans (HB2.out.mono HBB.out.size)).setCell (p := ⟨r, k, none⟩) HRB.out _)⟩
      case measure => simp [intOf]; omega
    · have hkm : k = m := by omega
      subst hkm
      have HR' := HR
      go_wp2
      go_ret
      exact ⟨ρk, ok, capk, (by rw [← HM.out]; rfl), (by rw [← HM.out]; exact HR'.out), HK.out.2, HBB.out⟩
end Go.Proofs.YtjkpopdjmmgbbabGreat.Dk

namespace Go.Proofs.YtjkpopdjmmgbbabGreat.Dk
open Go.RowKit Go.Maps Go.Sort

def bcl (l : List UInt8) : List Value := l.map fun b => .int .u8 (b.toNat : Int)
/-- A block that holds bytes. -/
def BB (g : Nat) (T : TypeId) (l : List UInt8) (w : World) : Prop := w.heap[g]? = some (.cells (bcl l).toArray T (0, 0))
section
variable {g : Nat} {T : TypeId} {l : List UInt8} {w w' : World}
theorem BB.lt (h : BB g T l w) : g < w.heap.size := lt_of_heap h
theorem BB.later (h : BB g T l w) (hb : Below w.heap.size w w') : BB g T l w' := (hb.block _ h.lt).trans h
theorem BB.cell (h : BB g T l w) (j : Nat) (hj : j < l.length) : w.cell? ⟨g, j, none⟩ = some (.int .u8 (l[j].toNat : Int)) := by
  rw [cell_of_row w g j _ _ _ h]; simp [bcl, hj]
theorem BB.frozen (h : BB g T l w) (j : Nat) : w.frozen? ⟨g, j, none⟩ = false := frozen_of_row w g j _ _ h
theorem BB.put (h : BB g T l w) (j : Nat) (x : UInt8) : BB g T (l.set j x) (w.setCell ⟨g, j, none⟩ (.int .u8 (x.toNat : Int))) := by
  have := heap_setCell_same w g j _ _ (.int .u8 (x.toNat : Int)) h
  rw [show (bcl l).toArray.setIfInBounds j (.int .u8 (x.toNat : Int)) = (bcl (l.set j x)).toArray by apply Array.ext'; simp [bcl, List.map_set]] at this
  exact this
end
theorem bb_new (w : World) (l : List UInt8) (T : TypeId) : BB w.heap.size T l (w.alloc (.cells (bcl l).toArray T)) := heap_alloc_new w _
theorem bb_cells {g : Nat} {T : TypeId} : ∀ (xs : List UInt8) (l : List UInt8) (o : Nat) (w : World), BB g T l w →
    ∃ l', BB g T l' (w.setCells g o (bcl xs)) ∧ l'.length = l.length ∧ (∀ j, j < l.length → l'[j]? = if o ≤ j ∧ j < o + xs.length then xs[j - o]? else l[j]?) ∧ Kp (· = g) w (w.setCells g o (bcl xs))
  | [], l, o, w, h => ⟨l, h, rfl, fun j _ => by rw [if_neg (by simp only [List.length_nil]; omega)], Kp.refl _ _⟩
  | x :: xs, l, o, w, h => by
    obtain ⟨l', h1, h2, h3, h4⟩ := bb_cells xs (l.set o x) (o + 1) _ (h.put o x)
    refine ⟨l', h1, by rw [h2, List.length_set], fun j hj => ?_, (kp_set w g o _).trans h4⟩
    rw [h3 j (by rw [List.length_set]; exact hj)]
    by_cases e : j = o
    · subst e
      rw [if_neg (by omega), if_pos (by simp), List.getElem?_set_self hj]
      simp
    · by_cases e2 : o + 1 ≤ j ∧ j < o + 1 + xs.length
      · rw [if_pos e2, if_pos (by simp only [List.length_cons]; omega)]
        rw [show j - o = (j - (o + 1)) + 1 by omega, List.getElem?_cons_succ]
      · rw [if_neg e2, if_neg (by simp only [List.length_cons]; omega), List.getElem?_set_ne (fun e' => e e'.symm)]
theorem info5 : (Tryz.prog.info? 5).map (fun i => (i.zero, i.size, i.bytes)) = some (some (.int .u8 0), 1, 1) := by kernel_rfl
theorem first_bytes (s : ByteArray) (k : Nat) (hk : k ≤ s.size) (w : World) : (Builtin.firstCells 1 k (.string s)).run Tryz.prog w = .ok (bcl (s.data.toList.take k)).toArray w := by
  simp [Builtin.firstCells, bcl, ByteArray.data_extract]
  apply Array.ext'
  simp [Array.toList_extract, List.extract_eq_take_drop]
/-- 'copy(b[o:..], s)', s a string. -/
theorem copy_str {g : Nat} {T : TypeId} {l : List UInt8} {w : World} (h : BB g T l w) (s : ByteArray) (o dLen dCap : Nat) (ty : TypeId) (hl : o + Nat.min s.size dLen ≤ l.length) :
    ∃ l', (Builtin.copy_ #[51, 9] ty #[.slice (some ⟨g, o, none⟩) dLen dCap, .string s]).run Tryz.prog w = .ok (.int .i64 (Nat.min s.size dLen : Nat)) (w.setCells g o (bcl (s.data.toList.take (Nat.min s.size dLen)))) ∧
      BB g T l' (w.setCells g o (bcl (s.data.toList.take (Nat.min s.size dLen)))) ∧ l'.length = l.length ∧ (∀ j, j < l.length → l'[j]? = if o ≤ j ∧ j < o + Nat.min s.size dLen then s.data.toList[j - o]? else l[j]?) ∧ Kp (· = g) w (w.setCells g o (bcl (s.data.toList.take (Nat.min s.size dLen)))) := by
  obtain ⟨k, hk⟩ : ∃ k, k = Nat.min s.size dLen := ⟨_, rfl⟩
  rw [← hk] at hl ⊢
  have hks : k ≤ s.size := by rw [hk]; exact Nat.min_le_left _ _
  have hlen : (s.data.toList.take k).length = k := by rw [List.length_take, Array.length_toList]; exact Nat.min_eq_left hks
  obtain ⟨l', h1, h2, h3, h4⟩ := bb_cells (s.data.toList.take k) l o w h
  refine ⟨l', ?_, h1, h2, fun j hj => ?_, h4⟩
  · have hst := run_storeCells_cells (P := Tryz.prog) g o (bcl (s.data.toList.take k)) 0 w (by
        intro i hi
        have hi4 : i < k := by simp only [bcl, List.length_map, hlen] at hi; exact hi
        rw [h.cell (o + 0 + i) (by omega)]; rfl) (fun i _ => h.frozen _) (by
        intro v hv
        simp only [bcl, List.mem_map] at hv
        obtain ⟨b, _, rfl⟩ := hv
        rfl)
    have k1 := first_bytes s k hks w
    obtain ⟨i, hi, hz0, hsz, _⟩ := info_parts info5
    simp only [Nat.add_zero] at hst
    generalize bcl (s.data.toList.take k) = vs at *
    simp [Builtin.copy_, run_underlying Tryz.underlying51, Builtin.lenOf, sizeOf, typeInfo, hi, hsz, ← hk, k1, hst]
    rfl
  · rw [h3 j hj, hlen]
    split
    · rename_i hc
      rw [List.getElem?_take, if_pos (by omega)]
    · rfl
theorem conv_bb {g : Nat} {l : List UInt8} {w : World} (h : BB g 5 l w) : (convert 51 9 (.slice (some ⟨g, 0, none⟩) l.length l.length)).run Tryz.prog w = .ok (.string ⟨l.toArray⟩) w := by
  have h2 := run_convert_bytes_back (P := Tryz.prog) w 51 9 5 ⟨g, 0, none⟩ l.length l Tryz.underlying51 Tryz.underlying5 Tryz.underlying9 (fun j hj => by
    rw [plain_add, Nat.zero_add, h.cell j hj])
  exact h2
end Go.Proofs.YtjkpopdjmmgbbabGreat.Dk

namespace Go.Proofs.YtjkpopdjmmgbbabGreat.Dk
open Go.RowKit Go.Maps Go.Sort

def SvQ (a b : ByteArray) (w : World) (e : Ending) (w' : World) : Prop := ∃ t : ByteArray, e = .returned (.string t) ∧ t.size ≤ 100000 ∧ (a = b → t = a) ∧ Below w.heap.size w w'
theorem made_bytes (n : Nat) : madeCells #[Value.int .u8 0] n = (bcl (List.replicate n 0)).toArray := by
  apply Array.ext'
  simp [madeCells, bcl, Array.toList_range]
  exact List.ext_getElem (by simp) (fun i _ _ => by simp [Nat.mod_one])
theorem sv_row {a x : ByteArray} {z k P Q R : Nat} {l l' : List UInt8} (hxa : x = a) (hza : z = a.size) (p1 : P = 64 * k) (p2 : Q = if z < P + 64 then z else P + 64) (p3 : R = if x.size < P then x.size else P) (hl : l.length = z) (hl1 : l'.length = l.length)
    (hl2 : ∀ j, j < l.length → l'[j]? = if P ≤ j ∧ j < P + Nat.min (x.extract R x.size).size (Q - P) then (x.extract R x.size).data.toList[j - P]? else l[j]?) (hold : ∀ j, j < 64 * k → j < z → l[j]? = a.data.toList[j]?) (j : Nat) (hj : j < 64 * (k + 1)) (hjz : j < z) : l'[j]? = a.data.toList[j]? := by
  subst hxa
  rw [hl2 j (by omega)]
  by_cases hjP : P ≤ j
  · have eR : R = P := by rw [p3, if_neg (by omega)]
    have hjQ : j < Q := by rw [p2]; split <;> omega
    have hQz : Q ≤ z := by rw [p2]; split <;> omega
    have hes : (x.extract R x.size).size = z - P := by rw [ByteArray.size_extract, eR, hza]; omega
    have hn : Nat.min (x.extract R x.size).size (Q - P) = Q - P := Nat.min_eq_right (by rw [hes]; omega)
    rw [hn, if_pos ⟨hjP, by omega⟩, eR]
    have hxl : x.data.toList.length = z := hza.symm
    rw [ByteArray.data_extract, Array.toList_extract, List.extract_eq_take_drop, List.getElem?_take, if_pos (by show j - P < x.size - P; omega), List.getElem?_drop]
    congr 1
    omega
  · rw [if_neg (fun hc => hjP hc.1)]
    exact hold j (by omega) hjz
set_option maxRecDepth 100000 in
set_option maxHeartbeats 2000000 in
theorem survives_any (c : Nat) (a b : ByteArray) (w : World) (hf : w.heap[c]? = some (.cells #[.string a, .string b] 67 (0, 0))) (hz : a.size ≤ 100000 ∧ b.size ≤ 100000) (m : Int) (hm : 0 ≤ m ∧ m ≤ 18446744073709551615) :
    Calls Tryz.prog 61 #[.pointer (some ⟨c, 0, none⟩), .int .u64 m] w (SvQ a b w) := by
  obtain ⟨d0, d1, f0, f1⟩ := two_cells hf
  have ⟨h0, h1⟩ := hz
  have ⟨m0, m1⟩ := hm
  have hma := fun w => run_make_row' (P := Tryz.prog) 51 5 (.int .u8 0) 1 Tryz.underlying51 info5 rfl .i64 .i64 a.size (by omega) (by omega) w
  have hmb := fun w => run_make_row' (P := Tryz.prog) 51 5 (.int .u8 0) 1 Tryz.underlying51 info5 rfl .i64 .i64 b.size (by omega) (by omega) w
  rw [made_bytes] at hma hmb
  rcases Bool.eq_false_or_eq_true (m / 9223372036854775808 == 1) with hB | hB
  all_goals
    go_enter Tryz.func61, Tryz.ntmps61
    go_wp2
    have HBB := Lib.hid hB
    clear hB
    first
      | (obtain ⟨z, hze⟩ : ∃ z, z = a.size := ⟨_, rfl⟩; have HZ : Hid (z = a.size ∨ z = b.size) := Lib.hid (Or.inl hze); have hz1 : z ≤ 100000 := (by omega); rw [← hze]; clear hze)
      | (obtain ⟨z, hze⟩ : ∃ z, z = b.size := ⟨_, rfl⟩; have HZ : Hid (z = a.size ∨ z = b.size) := Lib.hid (Or.inr hze); have hz1 : z ≤ 100000 := (by omega); rw [← hze]; clear hze)
    clear hma hmb hz hm
    have HFC := Lib.hid hf
    clear hf d0 d1 f0 f1
    go_loopw [7] (fun kv wr => ∃ (k : Nat) (l : List UInt8), kv = .int .i64 (k : Int) ∧ 64 * k ≤ z + 63 ∧ Hid (l.length = z ∧ BB w.heap.size 5 l wr ∧ (a = b → ∀ j, j < 64 * k → j < z → l[j]? = a.data.toList[j]?)) ∧ Hid (Below w.heap.size w wr)) (fun kv _ => z + 64 - 64 * (intOf kv).toNat)
    case atStart => exact ⟨0, List.replicate z 0, rfl, by omega, Lib.hid ⟨by simp, bb_new w _ 5, fun _ j hj => by omega⟩, Lib.hid (alloc_below w _)⟩
    case round =>
      obtain ⟨k, l, rfl, hk, HL, HB⟩ := hrel
      by_cases hlt : 64 * k < z
      · have hfr := (HB.out.block c (lt_of_heap HFC.out)).trans HFC.out
        obtain ⟨d0, d1, f0, f1⟩ := two_cells hfr
        have HFR := Lib.hid hfr
        have i1 : (k : Int) * 64 < (z : Int) := by omega
        have i2 : (0 : Int) ≤ (k : Int) := by omega
        have i3 : (k : Int) * 64 ≤ 100000 := by omega
        clear hfr hk
        go_wp2
        all_goals
          obtain ⟨P, hP⟩ : ∃ P, P = 64 * k := ⟨_, rfl⟩
          have eP : (k : Int) * 64 = (P : Int) := by omega
          rw [eP]
          obtain ⟨x, hx, hxs, HX⟩ : ∃ x : ByteArray, Hid (((bits BinOp.and IntKind.u64 (m / 2 ^ (k % 63)) 1 == 1) = true → x = a) ∧ ((bits BinOp.and IntKind.u64 (m / 2 ^ (k % 63)) 1 == 1) = false → x = b)) ∧ x.size ≤ 100000 ∧ Hid (x = a ∨ x = b) := by
            cases hbt : (bits BinOp.and IntKind.u64 (m / 2 ^ (k % 63)) 1 == 1)
            · exact ⟨b, Lib.hid ⟨fun e => (by cases e), fun _ => rfl⟩, h1, Lib.hid (Or.inr rfl)⟩
            · exact ⟨a, Lib.hid ⟨fun _ => rfl, fun e => (by cases e)⟩, h0, Lib.hid (Or.inl rfl)⟩
          obtain ⟨Q, hQ⟩ : ∃ Q : Nat, Q = if z < P + 64 then z else P + 64 := ⟨_, rfl⟩
          obtain ⟨R, hR⟩ : ∃ R : Nat, R = if x.size < P then x.size else P := ⟨_, rfl⟩
          have hm1 : min ((P : Int) + 64) (z : Int) = (Q : Int) := by rw [hQ]; split <;> omega
          have hm2 : min (P : Int) (x.size : Int) = (R : Int) := by rw [hR]; split <;> omega
          have hQz : Q ≤ z ∧ P ≤ Q := by rw [hQ]; split <;> omega
          have hRx : R ≤ x.size := by rw [hR]; split <;> omega
          have ew : IntKind.i64.wrap ((P : Int) + 64) = (P : Int) + 64 := IntWalk.i64_in _ ⟨by omega, by omega⟩
          have j1 : (0 : Int) ≤ (P : Int) := by omega
          have j2 : (P : Int) ≤ (Q : Int) := by omega
          have j3 : (Q : Int) ≤ (z : Int) := by omega
          have j4 : (0 : Int) ≤ (R : Int) := by omega
          have j5 : (R : Int) ≤ (x.size : Int) := by omega
          obtain ⟨l', hcp, hbb, hlen', hcopy, hkp⟩ := copy_str (w := wr.drew) HL.out.2.1 (x.extract R x.size) P (Q - P) (z - P) 3 (by rw [HL.out.1]; have hmn : Nat.min (x.extract R x.size).size (Q - P) ≤ Q - P := Nat.min_le_right _ _; omega)
          have HBB := Lib.hid hbb
          have HCOPY := Lib.hid (And.intro hlen' (And.intro hcopy hkp))
          have HPQ := Lib.hid (And.intro hP (And.intro hQ hR))
          clear hbb hlen' hcopy hkp hP hQ hR
          generalize wr.drew.setCells w.heap.size P (bcl ((x.extract R x.size).data.toList.take (Nat.min (x.extract R x.size).size (Q - P)))) = w5 at *
          have HXAB : Hid (a = b → x = a) := Lib.hid (fun hab => by rcases HX.out with e | e; exact e; rw [e, hab])
          first
            | (have hxe := hx.out.1 (by assumption); clear HX hx; subst hxe)
            | (have hxe := hx.out.2 (by assumption); clear HX hx; subst hxe)
          go_region_held3 (fun _ => True) (first | exact True.intro) (first | fail)
          simp only [Exit.inBlock, Exit.then]
          apply_assumption
          go_wp2
          all_goals
            go_roundw
            case rel =>
              obtain ⟨hl1, hl2, hl3⟩ := HCOPY.out
              obtain ⟨p1, p2, p3⟩ := HPQ.out
              refine ⟨k + 1, l', by go_num, by omega, Lib.hid ⟨by rw [hl1]; exact HL.out.1, HBB.out, fun hab j hj hjz => ?_⟩, Lib.hid (HB.out.drew.trans (hl3.below (fun i e => by have e' : i = w.heap.size := e; omega) HB.out.size))⟩
              exact sv_row (by first | rfl | exact HXAB.out hab) (by rcases HZ.out with e | e; exact e; rw [e, hab]) p1 p2 p3 HL.out.1 hl1 hl2 (HL.out.2.2 hab) j hj hjz
            case measure => simp [intOf]; omega
      · have i1 : ¬ (k : Int) * 64 < (z : Int) := by omega
        have hconv := conv_bb HL.out.2.1
        rw [HL.out.1] at hconv
        go_wp2
        go_ret
        refine ⟨⟨l.toArray⟩, rfl, by show l.length ≤ 100000; rw [HL.out.1]; exact hz1, fun hab => ?_, HB.out⟩
        have hza : z = a.size := by rcases HZ.out with e | e; exact e; rw [e, hab]
        have hzx : z = a.data.toList.length := hza
        refine ByteArray.ext (Array.ext' (List.ext_getElem? (fun j => ?_)))
        by_cases hjz : j < z
        · exact HL.out.2.2 hab j (by omega) hjz
        · rw [List.getElem?_eq_none (by have := HL.out.1; show l.length ≤ j; omega), List.getElem?_eq_none (by omega)]
end Go.Proofs.YtjkpopdjmmgbbabGreat.Dk
