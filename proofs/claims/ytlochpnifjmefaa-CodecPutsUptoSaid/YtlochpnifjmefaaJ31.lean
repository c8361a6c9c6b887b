/- law07.Made: plainly; rows of whole numbers.; law07.Made: what holds of its memory. -/
import Derived.Test.YtlochpnifjmefaaJ30
set_option linter.unusedVariables false
set_option linter.unusedSimpArgs false
namespace Go.Proofs.Ytlochpnifjmefaa
open Go.RowKit

/-- A row of whole numbers. -/
def IRow (T : TypeId) (ρ : Option Nat) (o : Option Addr) (cap n : Nat) (xs : List Value) (w : World) : Prop :=
  xs.length = n * 1 ∧ ((o = none ∧ cap = 0 ∧ ρ = none ∧ n = 0) ∨ ∃ (r : Nat) (cur : Array Value), ρ = some r ∧ o = some ⟨r, 0, none⟩ ∧ w.heap[r]? = some (.cells cur T (0, 0)) ∧ n ≤ cap ∧ cap ≤ maxLen ∧ cur.size = cap * 1 ∧ cur.toList.take (n * 1) = xs)
theorem IRow.nil (T : TypeId) (w : World) : IRow T none none 0 0 [] w := ⟨rfl, Or.inl ⟨rfl, rfl, rfl, rfl⟩⟩
theorem IRow.keep {T : TypeId} {ρ : Option Nat} {o : Option Addr} {cap n : Nat} {xs : List Value} {w w' : World} (h : IRow T ρ o cap n xs w) (hk : ∀ r, ρ = some r → w'.heap[r]? = w.heap[r]?) : IRow T ρ o cap n xs w' := by
  refine ⟨h.1, ?_⟩
  rcases h.2 with h | ⟨r, cur, h1, h2, h4, h5⟩
  · exact Or.inl h
  · exact Or.inr ⟨r, cur, h1, h2, (hk r h1).trans h4, h5⟩
theorem IRow.lt {T : TypeId} {ρ : Option Nat} {o : Option Addr} {cap n : Nat} {xs : List Value} {w : World} (h : IRow T ρ o cap n xs w) (r : Nat) (hr : ρ = some r) : r < w.heap.size := by
  rcases h.2 with ⟨_, _, h, _⟩ | ⟨q, cur, h1, _, h4, _⟩
  · rw [h] at hr; cases hr
  · rw [h1] at hr; cases hr; exact lt_of_heap h4
theorem IRow.cell {T : TypeId} {ρ : Option Nat} {o : Option Addr} {cap n : Nat} {xs : List Value} {w : World} (h : IRow T ρ o cap n xs w) (j : Nat) (u : Value) (hj : xs[j]? = some u) : ∃ r, ρ = some r ∧ o = some ⟨r, 0, none⟩ ∧ w.cell? ⟨r, j, none⟩ = some u := by
  have hjl := (List.getElem?_eq_some_iff.1 hj).1
  rcases h.2 with ⟨_, _, _, h0⟩ | ⟨r, cur, h1, h2, h4, _, _, _, htk⟩
  · rw [h.1, h0] at hjl; omega
  · refine ⟨r, h1, h2, ?_⟩
    rw [cell_of_row w r j _ _ _ h4, ← Array.getElem?_toList]
    have := congrArg (fun l => l[j]?) htk
    simp only [List.getElem?_take] at this
    rw [if_pos (by rw [← h.1]; exact hjl)] at this
    rw [this]; exact hj

theorem irow_append (t T ty : TypeId) (hu : Try.prog.underlying t = some (.slice T)) (hinfo : (Try.prog.info? T).map (fun i => (i.zero, i.size, i.bytes)) = some (some (.int .i64 0), 1, 8))
    (g : Nat) (w : World) (ρ : Option Nat) (o : Option Addr) (cap n : Nat) (xs : List Value) (hR : IRow T ρ o cap n xs w) (hn : n + 1 ≤ 1000000000) (a : Addr) (news : List Value) (hl : news.length = 1) (hnews : ∀ j u, news[j]? = some u → w.cell? (a.add j) = some u) (h1 : ∀ u ∈ news, u.oneCell' = true) :
    ∃ o' cap' w' ρ', (Builtin.append_ #[t, t] ty #[.slice o n cap, .slice (some a) 1 1]).run Try.prog w = .ok (.slice o' (n + 1) cap') w' ∧ IRow T ρ' o' cap' (n + 1) (xs ++ news) w' ∧ Nxt ρ ρ' w ∧ Chg g ρ w w' := by

  obtain ⟨i, hi, hz, hsz, hby⟩ := info_parts hinfo
  have hml : (n + 1 : Nat) ≤ maxLen := by unfold maxLen; omega
  have hnl : news.length = 1 * i.size := by rw [hl, hsz]
  have hxl : (xs ++ news).length = (n + 1) * 1 := by rw [List.length_append, hR.1, hl]; omega
  have fresh : ∀ old, IRow T (some w.heap.size) (some ⟨w.heap.size, 0, none⟩) (grownCap w (n + 1) old T) (n + 1) (xs ++ news) (w.drew.alloc (.cells (xs.toArray ++ news.toArray ++ Builtin.zeroCells (Value.int .i64 0).cells (grownCap w (n + 1) old T - (n + 1))) T)) := by
    intro old
    refine ⟨hxl, Or.inr ⟨w.heap.size, _, rfl, rfl, heap_alloc_new w.drew _, grownCap_ge w (n + 1) old T, grownCap_le_maxLen w (n + 1) old T hml, ?_, ?_⟩⟩
    · have hge := grownCap_ge w (n + 1) old T
      have hz1 : (Value.int .i64 0).cells.size = 1 := rfl
      simp only [Array.size_append, List.size_toArray, size_zeroCells, hz1, hR.1, hl]
      omega
    · rw [← hxl]
      simp only [Array.toList_append]
      exact List.take_left
  rcases hR.2 with ⟨rfl, rfl, rfl, rfl⟩ | ⟨r, cur, rfl, rfl, hg, hnc, hcm, hcs, htk⟩
  · have hx : xs = [] := List.eq_nil_of_length_eq_zero (by simpa using hR.1)
    subst hx
    have hr := run_append_nil (P := Try.prog) w t ty T i _ hu hi hz a 1 1 news hnl hnews (by omega) (by omega) (by rw [hby]; omega)
    have hf := fresh 0
    simp only [List.nil_append, Array.empty_append] at hf
    exact ⟨_, _, _, _, hr, hf, Or.inr ⟨_, rfl, Nat.le_refl _⟩, grown_chg _ _ _ _⟩
  · by_cases hroom : n + 1 ≤ cap
    · have hr := run_append_room (P := Try.prog) w t ty T i hu hi r n cap cur hg a 1 1 news hnl hnews h1 hroom (by rw [hsz, hl, hcs]; omega)
      rw [hsz] at hr
      refine ⟨_, _, _, some r, hr, ⟨hxl, Or.inr ⟨r, _, rfl, rfl, setRow_heap w r cur _ T _ hg, hroom, hcm, ?_, ?_⟩⟩, Or.inl rfl, rfl, rfl, rfl, by simp, fun k _ _ hk => setRow_other w r k _ (fun e => hk (by rw [e]))⟩
      · simp only [List.size_toArray, List.length_append, List.length_take, List.length_drop, Array.length_toList]
        omega
      · rw [htk, ← hxl]
        exact List.take_left
    · have holds : ∀ j u, xs[j]? = some u → w.cell? ((⟨r, 0, none⟩ : Addr).add j) = some u := by
        intro j u hj
        obtain ⟨r2, e1, _, e3⟩ := hR.cell j u hj
        cases e1
        rw [plain_add]; exact e3
      have hr := run_append_grow (P := Try.prog) w t ty T i _ hu hi hz ⟨r, 0, none⟩ n cap xs (by rw [hsz]; exact hR.1) holds a 1 1 news hnl hnews (by omega) (by omega) (by rw [hby]; exact growslice_fits (by omega) (by omega))
      exact ⟨_, _, _, _, hr, fresh cap, Or.inr ⟨_, rfl, Nat.le_refl _⟩, grown_chg _ _ _ _⟩
theorem info3q : (Try.prog.info? 3).map (fun i => (i.zero, i.size, i.bytes)) = some (some (.int .i64 0), 1, 8) := by kernel_rfl

/-- A node of a row of which a value is made. -/
structure Nd where
  k : Int
  n : Nat
  s : ByteArray
  back : List UInt8
/-- Those that a node names, by their places from itself on back. -/
def kidsOf {α : Type} (all : List α) (i : Nat) (back : List UInt8) : List α := back.filterMap fun b => if b.toNat + 1 ≤ i then all[i - 1 - b.toNat]? else none
theorem kidsOf_no {α : Type} (all : List α) (i : Nat) (back : List UInt8) (j : Nat) (hj : j < back.length) (h : ¬ back[j].toNat + 1 ≤ i) : kidsOf all i (back.take (j + 1)) = kidsOf all i (back.take j) := by
  unfold kidsOf
  rw [List.take_add_one, List.getElem?_eq_getElem hj, List.filterMap_append]
  simp [h]
theorem kidsOf_one {α : Type} (all : List α) (i : Nat) (back : List UInt8) (j : Nat) (hj : j < back.length) (h : back[j].toNat + 1 ≤ i) (hi : i = all.length) : kidsOf all i (back.take (j + 1)) = kidsOf all i (back.take j) ++ [all[i - 1 - back[j].toNat]'(by omega)] := by
  unfold kidsOf
  rw [List.take_add_one, List.getElem?_eq_getElem hj, List.filterMap_append]
  have h2 : i - 1 - back[j].toNat < all.length := by omega
  simp [h, List.getElem?_eq_getElem h2]
theorem kidsOf_len {α : Type} (all : List α) (i : Nat) (back : List UInt8) : (kidsOf all i back).length ≤ back.length := List.length_filterMap_le _ _
theorem kidsOf_mem {α : Type} (all : List α) (i : Nat) (back : List UInt8) (x : α) (h : x ∈ kidsOf all i back) : x ∈ all := by
  unfold kidsOf at h
  obtain ⟨b, _, hb⟩ := List.mem_filterMap.1 h
  split at hb
  · exact List.mem_of_getElem? hb
  · cases hb
/-- A value out of a node; how great it is. -/
def ndT (all : List Tr) (x : Nd) : Tr := .mk x.k x.n x.s (kidsOf all all.length x.back)
def ndK (sz : List Nat) (x : Nd) : Nat := 1 + x.s.size / 8 + (kidsOf sz sz.length x.back).sum
/-- What Made makes: the values of all nodes, or nothing. -/
def madeF (len : Nat) : List Nd → List Tr → List Nat → Option (List Tr)
  | [], all, _ => some all
  | x :: xs, all, sz => if 2000 < ndK sz x ∨ 9000 < x.s.size ∨ 20 < x.back.length ∨ 40 < len then none else madeF len xs (all ++ [ndT all x]) (sz ++ [ndK sz x])
def made (l : List Nd) : Option Tr := (madeF l.length l [] []).bind fun all => all.getLast?

mutual
def tsz : Tr → Nat
  | .mk _ _ s l => 1 + s.size / 8 + tszL l
def tszL : List Tr → Nat
  | [] => 0
  | t :: ts => tsz t + tszL ts
end
theorem tszL_sum : ∀ l : List Tr, tszL l = (l.map tsz).sum
  | [] => by unfold tszL; rfl
  | t :: ts => by unfold tszL; rw [List.map_cons, List.sum_cons, tszL_sum ts]
theorem kidsOf_map {α β : Type} (f : α → β) (all : List α) (i : Nat) (back : List UInt8) : kidsOf (all.map f) i back = (kidsOf all i back).map f := by
  unfold kidsOf
  rw [List.map_filterMap]
  congr 1
  funext b
  split
  · rw [List.getElem?_map]
  · rfl
theorem ndT_size (all : List Tr) (x : Nd) : tsz (ndT all x) = ndK (all.map tsz) x := by
  unfold ndT ndK tsz
  rw [tszL_sum, kidsOf_map, List.length_map]
mutual
/-- Numbers and texts as they come in. -/
def okN : Tr → Prop
  | .mk _ n s l => n ≤ 18446744073709551615 ∧ s.size ≤ 9000 ∧ okNL l
def okNL : List Tr → Prop
  | [] => True
  | t :: ts => okN t ∧ okNL ts
end
theorem okNL_of : ∀ l : List Tr, (∀ x ∈ l, okN x) → okNL l
  | [], _ => by unfold okNL; trivial
  | t :: ts, h => by unfold okNL; exact ⟨h t (by simp), okNL_of ts (fun x hx => h x (by simp [hx]))⟩
/-- A value that is made is not great. -/
theorem great_no : ∀ t : Tr, okN t → deepT t ≤ tsz t ∧ (tsz t ≤ 1000000 → (txtT t).length ≤ 20 * tsz t ∧ okT t) := by
  refine Tr.ind ?_
  intro k n s l ih hok
  unfold okN at hok
  obtain ⟨hn, hs, hl⟩ := hok
  have hmem : ∀ x ∈ l, okN x := by
    clear ih
    induction l with
    | nil => intro x hx; cases hx
    | cons t ts ih2 =>
      unfold okNL at hl
      intro x hx
      rcases List.mem_cons.1 hx with rfl | hx
      · exact hl.1
      · exact ih2 hl.2 x hx
  have hL : deepL l ≤ tszL l ∧ l.length ≤ tszL l ∧ (tszL l ≤ 1000000 → (txtL l).length ≤ 20 * tszL l ∧ okL l) := by
    clear hl
    induction l with
    | nil => unfold deepL txtL tszL okL; simp
    | cons t ts ih2 =>
      have h1 := ih t (by simp) (hmem t (by simp))
      have h2 := ih2 (fun x hx => ih x (by simp [hx])) (fun x hx => hmem x (by simp [hx]))
      have hp : 1 ≤ tsz t := by cases t; unfold tsz; omega
      unfold deepL txtL tszL okL
      refine ⟨by omega, by rw [List.length_cons]; omega, fun h => ?_⟩
      have h3 := h1.2 (by omega)
      have h4 := h2.2.2 (by omega)
      exact ⟨by rw [List.length_append]; omega, h3.2, h4.2⟩
  have hsh : ∀ m, m ≤ 18446744073709551615 → (sh m).length ≤ 10 := fun m hm => sh_ten m hm
  have hsl : s.data.toList.length = s.size := by simp
  unfold deepT txtT tsz okT
  refine ⟨by split <;> omega, fun h => ?_⟩
  have h2 := hL.2.2 (by omega)
  refine ⟨?_, hn, by omega, by omega, h2.2⟩
  split
  · have := hsh n hn; simp only [List.length_cons]; omega
  · split
    · have := hsh s.size (by omega)
      simp only [List.length_cons, List.length_append, hsl]; omega
    · have h1 := hsh l.length (by omega)
      simp only [List.length_cons, List.length_append]
      omega
end Go.Proofs.Ytlochpnifjmefaa

namespace Go.Proofs.Ytlochpnifjmefaa
open Go.RowKit

/-- A node as it lies in memory. -/
def NdIn (w : World) (x : Nd) (c0 c1 c2 c3 : Value) : Prop :=
  c0 = .int .i64 x.k ∧ c1 = .int .u64 (x.n : Int) ∧ x.n ≤ 18446744073709551615 ∧ c2 = .string x.s ∧ (x.s.size ≤ 2000000 ∧ x.back.length ≤ 2000000) ∧ ∃ (o : Option Addr) (cap b off : Nat), c3 = .slice o x.back.length cap ∧ (0 < x.back.length → o = some ⟨b, off, none⟩ ∧ b < w.heap.size) ∧ ∀ j (h : j < x.back.length), w.cell? ⟨b, off + j, none⟩ = some (.int .u8 ((x.back[j].toNat : Nat) : Int))
def NdsIn (w : World) (b off : Nat) (l : List Nd) : Prop := ∀ i (h : i < l.length), ∃ c0 c1 c2 c3, w.cell? ⟨b, off + i * 4, none⟩ = some c0 ∧ w.cell? ⟨b, off + i * 4 + 1, none⟩ = some c1 ∧ w.cell? ⟨b, off + i * 4 + 2, none⟩ = some c2 ∧ w.cell? ⟨b, off + i * 4 + 3, none⟩ = some c3 ∧ NdIn w l[i] c0 c1 c2 c3

def intC (sz : List Nat) : List Value := sz.map fun (k : Nat) => Value.int .i64 (k : Int)
/-- Nobody's but the values'. -/
def PU (B U : Nat) (ρa ρs : Option Nat) (b : Nat) : Prop := B ≤ b ∧ b < U ∧ ρa ≠ some b ∧ ρs ≠ some b
/-- Behind some nodes: all of it below U. -/
structure MW (w : World) (U : Nat) (all : List Tr) (sz : List Nat) (ρa : Option Nat) (oa : Option Addr) (ca : Nat) (xa : List Value) (ρs : Option Nat) (os : Option Addr) (cs : Nat) (wz : World) : Prop where
  below : Below w.heap.size w wz
  up : w.heap.size + 1 ≤ U
  top : U ≤ wz.heap.size
  res : wz.heap[w.heap.size]? = some (.cells #[.int .i64 0, .int .u64 0, .string ⟨#[]⟩, .slice none 0 0] 27 (0, 0))
  va : VRow 27 ρa oa ca all.length xa wz
  la : ∀ r, ρa = some r → w.heap.size + 1 ≤ r ∧ r < U
  vs : IRow 3 ρs os cs sz.length (intC sz) wz
  ls : ∀ r, ρs = some r → w.heap.size + 1 ≤ r ∧ r < U
  ne : ∀ r, ρa = some r → ρs ≠ some r
  el : Elts wz (PU (w.heap.size + 1) U ρa ρs) xa all
section
variable {w wz w1 : World} {U : Nat} {all : List Tr} {sz : List Nat} {ρa : Option Nat} {oa : Option Addr} {ca : Nat} {xa : List Value} {ρs : Option Nat} {os : Option Addr} {cs : Nat}
theorem IRow.keep2 {T : TypeId} {ρ : Option Nat} {o : Option Addr} {cap n : Nat} {xs : List Value} {w w' : World} (h : IRow T ρ o cap n xs w) (hk : ∀ r, ρ = some r → w'.heap[r]? = w.heap[r]?) : IRow T ρ o cap n xs w' := h.keep hk
theorem MW.keep (h : MW w U all sz ρa oa ca xa ρs os cs wz) (hb : Below U wz w1) : MW w U all sz ρa oa ca xa ρs os cs w1 where
  below := h.below.trans (hb.mono (by have := h.up; omega))
  up := h.up
  top := Nat.le_trans h.top hb.size
  res := (hb.block _ (by have := h.up; omega)).trans h.res
  va := h.va.keep (fun r hr => hb.block r (h.la r hr).2)
  la := h.la
  vs := h.vs.keep (fun r hr => hb.block r (h.ls r hr).2)
  ls := h.ls
  ne := h.ne
  el := h.el.keep hb.size (fun b _ hP => ⟨hb.block b hP.2.1, hP⟩)
theorem MW.lift (h : MW w U all sz ρa oa ca xa ρs os cs wz) (U' : Nat) (h1 : U ≤ U') (h2 : U' ≤ wz.heap.size) : MW w U' all sz ρa oa ca xa ρs os cs wz where
  below := h.below
  up := Nat.le_trans h.up h1
  top := h2
  res := h.res
  va := h.va
  la := fun r hr => ⟨(h.la r hr).1, by have := (h.la r hr).2; omega⟩
  vs := h.vs
  ls := fun r hr => ⟨(h.ls r hr).1, by have := (h.ls r hr).2; omega⟩
  ne := h.ne
  el := h.el.keep (Nat.le_refl _) (fun b _ hP => ⟨rfl, hP.1, by have := hP.2.1; omega, hP.2.2⟩)
/-- Behind some places of a node. -/
structure IW (w : World) (U X : Nat) (all : List Tr) (sz : List Nat) (ρa : Option Nat) (oa : Option Addr) (ca : Nat) (xa : List Value) (ρs : Option Nat) (os : Option Addr) (cs : Nat) (k : Int) (n : Nat) (s : ByteArray) (ob : Option Addr) (lb cb : Nat) (kids : List Tr) (ρv : Option Nat) (ov : Option Addr) (cv : Nat) (xv : List Value) (wz : World) : Prop where
  mw : MW w U all sz ρa oa ca xa ρs os cs wz
  ux : U ≤ X
  bx : wz.heap[X]? = some (.cells #[.int .i64 k, .int .u64 (n : Int), .string s, .slice ob lb cb] 75 (0, 0))
  bv : wz.heap[X + 1]? = some (.cells #[.int .i64 k, .int .u64 (n : Int), .string s, .slice ov kids.length cv] 27 (0, 0))
  vv : VRow 27 ρv ov cv kids.length xv wz
  lv : ∀ r, ρv = some r → X + 2 ≤ r
  ev : Elts wz (PU (w.heap.size + 1) U ρa ρs) xv kids
variable {X : Nat} {k : Int} {n : Nat} {s : ByteArray} {ob : Option Addr} {lb cb : Nat} {kids : List Tr} {ρv : Option Nat} {ov : Option Addr} {cv : Nat} {xv : List Value}
theorem IW.later (h : IW w U X all sz ρa oa ca xa ρs os cs k n s ob lb cb kids ρv ov cv xv wz) (hb : Below wz.heap.size wz w1) : IW w U X all sz ρa oa ca xa ρs os cs k n s ob lb cb kids ρv ov cv xv w1 where
  mw := h.mw.keep (hb.mono h.mw.top)
  ux := h.ux
  bx := (hb.block _ (lt_of_heap h.bx)).trans h.bx
  bv := (hb.block _ (lt_of_heap h.bv)).trans h.bv
  vv := h.vv.keep (fun r hr => hb.block r (h.vv.lt r hr))
  lv := h.lv
  ev := h.ev.keep hb.size (fun b hb' hP => ⟨hb.block b hb', hP⟩)
/-- One more is put behind the node's. -/
theorem IW.put {w7 : World} {t : Tr} {d0 d1 d2 d3 : Value} {ρ' : Option Nat} {o' : Option Addr} {c' g : Nat} (h : IW w U X all sz ρa oa ca xa ρs os cs k n s ob lb cb kids ρv ov cv xv wz) (hv : VInP wz (PU (w.heap.size + 1) U ρa ρs) t d0 d1 d2 d3)
    (hR : VRow 27 ρ' o' c' (kids.length + 1) (xv ++ [d0, d1, d2, d3]) w7) (hn : Nxt ρv ρ' wz) (hc : Chg g ρv wz w7) (hg : wz.heap.size ≤ g) :
    IW w U X all sz ρa oa ca xa ρs os cs k n s ob lb cb (kids ++ [t]) ρ' o' c' (xv ++ [d0, d1, d2, d3]) (w7.setCell ⟨X + 1, 3, none⟩ (.slice o' (kids.length + 1) c')) := by
  have hx := lt_of_heap h.bv
  have hux := h.ux
  have hst : ∀ q, q < wz.heap.size → ρv ≠ some q → w7.heap[q]? = wz.heap[q]? := fun q hq hr => hc.2.2.2.2 q hq (by omega) hr
  have hlow : ∀ q, q < X + 2 → w7.heap[q]? = wz.heap[q]? := fun q hq => hst q (by omega) (fun e => by have := h.lv q e; omega)
  have hset : ∀ q, q ≠ X + 1 → (w7.setCell ⟨X + 1, 3, none⟩ (.slice o' (kids.length + 1) c')).heap[q]? = w7.heap[q]? := fun q hq => heap_setCell_other w7 ⟨X + 1, 3, none⟩ q _ hq
  have hnew : ∀ r, ρ' = some r → X + 2 ≤ r := by
    intro r hr
    rcases hn with e | ⟨q, e, hq⟩
    · exact h.lv r (by rw [← e]; exact hr)
    · rw [e] at hr; cases hr; omega
  have hB : Below U wz (w7.setCell ⟨X + 1, 3, none⟩ (.slice o' (kids.length + 1) c')) := ⟨hc.1, hc.2.1, hc.2.2.1, by rw [sc_size]; exact hc.2.2.2.1, fun q hq => (hset q (by omega)).trans (hlow q (by omega))⟩
  have hkeep : ∀ b, b < wz.heap.size → PU (w.heap.size + 1) U ρa ρs b → (w7.setCell ⟨X + 1, 3, none⟩ (.slice o' (kids.length + 1) c')).heap[b]? = wz.heap[b]? ∧ PU (w.heap.size + 1) U ρa ρs b := fun b _ hP => ⟨hB.block b hP.2.1, hP⟩
  refine ⟨h.mw.keep hB, hux, (hset _ (by omega)).trans ((hlow _ (by omega)).trans h.bx), ?_, ?_, hnew, (h.ev.keep hB.size hkeep).put h.vv.1 (VInP.keep hB.size hkeep _ hv)⟩
  · have := heap_setCell_same w7 (X + 1) 3 _ _ (.slice o' (kids.length + 1) c') ((hlow _ (by omega)).trans h.bv)
    rw [List.length_append, List.length_singleton]
    simpa using this
  · rw [List.length_append, List.length_singleton]
    exact hR.keep (fun r hr => hset r (by have := hnew r hr; omega))
/-- A node is done. -/
theorem IW.done {w7 w8 w9 : World} {ρa' ρs' : Option Nat} {oa' os' : Option Addr} {ca' cs' g g' m : Nat} (h : IW w U X all sz ρa oa ca xa ρs os cs k n s ob lb cb kids ρv ov cv xv wz) (hn64 : n ≤ 18446744073709551615) (hz : s.size ≤ 1000000000 ∧ kids.length ≤ 1000000)
    (hR : VRow 27 ρa' oa' ca' (all.length + 1) (xa ++ [.int .i64 k, .int .u64 (n : Int), .string s, .slice ov kids.length cv]) w7) (hn : Nxt ρa ρa' wz) (hc : Chg g ρa wz w7) (hg : wz.heap.size ≤ g)
    (hb : Below w7.heap.size w7 w8)
    (hR2 : IRow 3 ρs' os' cs' (sz.length + 1) (intC sz ++ [.int .i64 (m : Int)]) w9) (hn2 : Nxt ρs ρs' w8) (hc2 : Chg g' ρs w8 w9) (hg2 : w8.heap.size ≤ g') :
    MW w w9.heap.size (all ++ [.mk k n s kids]) (sz ++ [m]) ρa' oa' ca' (xa ++ [.int .i64 k, .int .u64 (n : Int), .string s, .slice ov kids.length cv]) ρs' os' cs' w9 := by
  have hx := lt_of_heap h.bv
  have hux := h.ux
  have hup := h.mw.up
  have htop := h.mw.top
  have s1 : wz.heap.size ≤ w7.heap.size := hc.2.2.2.1
  have s2 : w7.heap.size ≤ w8.heap.size := hb.size
  have s3 : w8.heap.size ≤ w9.heap.size := hc2.2.2.2.1
  have hst : ∀ q, q < wz.heap.size → ρa ≠ some q → ρs ≠ some q → w9.heap[q]? = wz.heap[q]? := fun q hq h1 h2 =>
    (hc2.2.2.2.2 q (by omega) (by omega) h2).trans ((hb.block q (by omega)).trans (hc.2.2.2.2 q hq (by omega) h1))
  have ha' : ∀ r, ρa' = some r → w.heap.size + 1 ≤ r ∧ r < w9.heap.size ∧ (r < wz.heap.size → ρa = some r) := by
    intro r hr
    rcases hn with e | ⟨q, e, hq⟩
    · rw [e] at hr; have := h.mw.la r hr; exact ⟨this.1, by omega, fun _ => hr⟩
    · rw [e] at hr; cases hr; have := hR.lt r e; exact ⟨by omega, by omega, fun h => by omega⟩
  have hs' : ∀ r, ρs' = some r → w.heap.size + 1 ≤ r ∧ r < w9.heap.size ∧ (r < w8.heap.size → ρs = some r) := by
    intro r hr
    rcases hn2 with e | ⟨q, e, hq⟩
    · rw [e] at hr; have := h.mw.ls r hr; exact ⟨this.1, by omega, fun _ => hr⟩
    · rw [e] at hr; cases hr; have := hR2.lt r e; exact ⟨by omega, by omega, fun h => by omega⟩
  have hkeep : ∀ b, b < wz.heap.size → ρa ≠ some b → ρs ≠ some b → ρa' ≠ some b ∧ ρs' ≠ some b := fun b hb' h1 h2 => ⟨fun e => h1 ((ha' b e).2.2 hb'), fun e => h2 ((hs' b e).2.2 (by omega))⟩
  have hPU : ∀ b, b < wz.heap.size → PU (w.heap.size + 1) U ρa ρs b → w9.heap[b]? = wz.heap[b]? ∧ PU (w.heap.size + 1) w9.heap.size ρa' ρs' b := fun b hb' hP => ⟨hst b hb' hP.2.2.1 hP.2.2.2, hP.1, by omega, hkeep b hb' hP.2.2.1 hP.2.2.2⟩
  have hva8 : ∀ r, ρa' = some r → ρs ≠ some r := by
    intro r hr e
    have h1 := h.mw.ls r e
    exact h.mw.ne r ((ha' r hr).2.2 (by omega)) e
  have hvr : ∀ r, ρv = some r → ρa ≠ some r ∧ ρs ≠ some r := fun r hr => ⟨fun e => by have := h.mw.la r e; have := h.lv r hr; omega, fun e => by have := h.mw.ls r e; have := h.lv r hr; omega⟩
  refine ⟨⟨hc2.1.trans (hb.os.trans (hc.1.trans h.mw.below.os)), hc2.2.1.trans (hb.tape.trans (hc.2.1.trans h.mw.below.tape)), hc2.2.2.1.trans (hb.output.trans (hc.2.2.1.trans h.mw.below.output)), by have := h.mw.below.size; omega, fun q hq => (hst q (by omega) (fun e => by have := h.mw.la q e; omega) (fun e => by have := h.mw.ls q e; omega)).trans (h.mw.below.block q hq)⟩, by omega, Nat.le_refl _, (hst _ (by omega) (fun e => by have := h.mw.la _ e; omega) (fun e => by have := h.mw.ls _ e; omega)).trans h.mw.res, ?_, fun r hr => ⟨(ha' r hr).1, (ha' r hr).2.1⟩, ?_, fun r hr => ⟨(hs' r hr).1, (hs' r hr).2.1⟩, ?_, ?_⟩
  · rw [List.length_append, List.length_singleton]
    exact hR.keep (fun r hr => (hc2.2.2.2.2 r (by have := hR.lt r hr; omega) (by have := hR.lt r hr; omega) (hva8 r hr)).trans (hb.block r (hR.lt r hr)))
  · rw [List.length_append, List.length_singleton]
    have e : intC (sz ++ [m]) = intC sz ++ [.int .i64 (m : Int)] := by simp [intC]
    rw [e]; exact hR2
  · intro r hr e
    have h1 := hR.lt r hr
    have h2 := (hs' r e).2.2 (by omega)
    exact hva8 r hr h2
  · refine (h.mw.el.keep (by omega) hPU).put h.mw.va.1 ?_
    unfold VInP
    refine ⟨rfl, rfl, hn64, rfl, hz, ov, cv, ρv.getD 0, 0, rfl, ?_, ?_⟩
    · intro hp
      obtain ⟨d0, _, _, _, x0, _⟩ := h.ev 0 hp
      obtain ⟨r, e1, e2, _⟩ := h.vv.cell _ _ x0
      have hrl := h.vv.lt r e1
      have := h.lv r e1
      rw [e1]
      exact ⟨e2, by show r < w9.heap.size; omega, by show w.heap.size + 1 ≤ r; omega, by show r < w9.heap.size; omega, hkeep r hrl (hvr r e1).1 (hvr r e1).2⟩
    · refine VInPL.of (fun j hj => ?_)
      obtain ⟨d0, d1, d2, d3, x0, x1, x2, x3, hvj⟩ := h.ev j hj
      obtain ⟨r, e1, _, _⟩ := h.vv.cell _ _ x0
      have hrb := hst r (h.vv.lt r e1) (hvr r e1).1 (hvr r e1).2
      have cell : ∀ j u, xv[j]? = some u → w9.cell? ⟨r, j, none⟩ = some u := fun j u hj => by
        obtain ⟨r', q1, _, q3⟩ := h.vv.cell j u hj
        rw [e1] at q1
        cases q1
        exact (World.cell?_of_block (a := ⟨r, j, none⟩) hrb).trans q3
      rw [e1, Nat.zero_add]
      exact ⟨d0, d1, d2, d3, cell _ _ x0, cell _ _ x1, cell _ _ x2, cell _ _ x3, VInP.keep (by omega) hPU _ hvj⟩
end
end Go.Proofs.Ytlochpnifjmefaa
