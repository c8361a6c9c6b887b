/- law07.Made: one place of a node.; Frames as arguments, opened. -/
import Derived.Test.YtlochpnifjmefaaJ31
import Derived.Test.YtlochpnifjmefaaRows
import Derived.Test.YtlochpnifjmefaaJ09
import Derived.WalkKit
import Derived.ProofKit
import Derived.OpenShut
import Derived.ShutString
import Derived.ChangeOld
import Derived.ChangeSame
import Derived.Below
set_option linter.unusedVariables false
set_option linter.unusedSimpArgs false
namespace Go.Proofs.Ytlochpnifjmefaa
open Go.RowKit

theorem store75 (w : World) (k : Int) (n : Nat) (s : ByteArray) (o : Option Addr) (l c : Nat) :
    (storeVar 75 ⟨w.heap.size, 0, none⟩ (.agg #[.int .i64 k, .int .u64 (n : Int), .string s, .slice o l c])).run Try.prog (w.alloc (.cells #[.int .i64 0, .int .u64 0, .string ⟨#[]⟩, .slice none 0 0] 75)) = .ok () (w.alloc (.cells #[.int .i64 k, .int .u64 (n : Int), .string s, .slice o l c] 75)) := by
  simp [go_sem]
section
variable {w wz : World} {U X : Nat} {all : List Tr} {sz : List Nat} {ρa : Option Nat} {oa : Option Addr} {ca : Nat} {xa : List Value} {ρs : Option Nat} {os : Option Addr} {cs : Nat} {k : Int} {n : Nat} {s : ByteArray} {ob : Option Addr} {lb cb : Nat} {kids : List Tr} {ρv : Option Nat} {ov : Option Addr} {cv : Nat} {xv : List Value}
theorem IW.cx (h : IW w U X all sz ρa oa ca xa ρs os cs k n s ob lb cb kids ρv ov cv xv wz) : wz.cell? ⟨X, 2, none⟩ = some (.string s) ∧ wz.cell? ⟨X, 3, none⟩ = some (.slice ob lb cb) := ⟨by rw [cell_of_row wz _ _ _ _ _ h.bx]; rfl, by rw [cell_of_row wz _ _ _ _ _ h.bx]; rfl⟩
theorem IW.cv0 (h : IW w U X all sz ρa oa ca xa ρs os cs k n s ob lb cb kids ρv ov cv xv wz) : wz.cell? ⟨X + 1, 0, none⟩ = some (.int .i64 k) ∧ wz.cell? ⟨X + 1, 1, none⟩ = some (.int .u64 (n : Int)) ∧ wz.cell? ⟨X + 1, 2, none⟩ = some (.string s) ∧ wz.cell? ⟨X + 1, 3, none⟩ = some (.slice ov kids.length cv) ∧ wz.frozen? ⟨X + 1, 3, none⟩ = false := by
  refine ⟨?_, ?_, ?_, ?_, frozen_of_row wz _ 3 _ _ h.bv⟩
  all_goals (rw [cell_of_row wz _ _ _ _ _ h.bv]; rfl)
theorem IW.boxc {w7 : World} {g : Nat} (h : IW w U X all sz ρa oa ca xa ρs os cs k n s ob lb cb kids ρv ov cv xv wz) (hc : Chg g ρv wz w7) (hg : wz.heap.size ≤ g) : w7.cell? ⟨X + 1, 3, none⟩ = some (.slice ov kids.length cv) ∧ w7.frozen? ⟨X + 1, 3, none⟩ = false := by
  have hx := lt_of_heap h.bv
  have hb := (hc.2.2.2.2 (X + 1) hx (by omega) (fun e => by have := h.lv _ e; omega)).trans h.bv
  exact ⟨by rw [cell_of_row w7 _ _ _ _ _ hb]; rfl, frozen_of_row w7 _ 3 _ _ hb⟩
theorem IW.start {wr : World} (h : MW w U all sz ρa oa ca xa ρs os cs wr) (k : Int) (n : Nat) (s : ByteArray) (ob : Option Addr) (lb cb : Nat) :
    IW w U wr.heap.size all sz ρa oa ca xa ρs os cs k n s ob lb cb [] none none 0 [] ((wr.alloc (.cells #[.int .i64 k, .int .u64 (n : Int), .string s, .slice ob lb cb] 75)).alloc (.cells #[.int .i64 k, .int .u64 (n : Int), .string s, .slice none 0 0] 27)) := by
  have g0 := heap_alloc_new wr (.cells #[.int .i64 k, .int .u64 (n : Int), .string s, .slice ob lb cb] 75)
  have g1 := heap_alloc_new (wr.alloc (.cells #[.int .i64 k, .int .u64 (n : Int), .string s, .slice ob lb cb] 75)) (.cells #[.int .i64 k, .int .u64 (n : Int), .string s, .slice none 0 0] 27)
  rw [show (wr.alloc (.cells #[.int .i64 k, .int .u64 (n : Int), .string s, .slice ob lb cb] 75)).heap.size = wr.heap.size + 1 by simp] at g1
  exact ⟨h.keep (((alloc_below wr _).trans ((alloc_below _ _).mono (by simp))).mono h.top), h.top, (heap_alloc_old _ _ (lt_of_heap g0)).trans g0, g1, VRow.nil 27 _, fun r hr => (by cases hr), fun j hj => absurd hj (by simp)⟩
end

/-- A value of all, by its place. -/
theorem MW.at {w wz : World} {U : Nat} {all : List Tr} {sz : List Nat} {ρa : Option Nat} {oa : Option Addr} {ca : Nat} {xa : List Value} {ρs : Option Nat} {os : Option Addr} {cs : Nat} (h : MW w U all sz ρa oa ca xa ρs os cs wz) (p : Nat) (hp : p < all.length) :
    ∃ (r : Nat) (k : Int) (n : Nat) (s : ByteArray) (o : Option Addr) (l c : Nat), oa = some ⟨r, 0, none⟩ ∧ wz.cell? ⟨r, p * 4, none⟩ = some (.int .i64 k) ∧ wz.cell? ⟨r, p * 4 + 1, none⟩ = some (.int .u64 (n : Int)) ∧ wz.cell? ⟨r, p * 4 + 2, none⟩ = some (.string s) ∧ wz.cell? ⟨r, p * 4 + 3, none⟩ = some (.slice o l c) ∧ VInP wz (PU (w.heap.size + 1) U ρa ρs) all[p] (.int .i64 k) (.int .u64 (n : Int)) (.string s) (.slice o l c) := by
  obtain ⟨d0, d1, d2, d3, x0, x1, x2, x3, hv⟩ := h.el p hp
  obtain ⟨k, n, s, o, l, c, rfl, rfl, rfl, rfl⟩ := hv.cells
  obtain ⟨r, e1, e2, _⟩ := h.va.cell _ _ x0
  have cell : ∀ j u, xa[j]? = some u → wz.cell? ⟨r, j, none⟩ = some u := fun j u hj => by
    obtain ⟨r', q1, _, q3⟩ := h.va.cell j u hj
    rw [e1] at q1
    cases q1
    exact q3
  exact ⟨r, k, n, s, o, l, c, e2, cell _ _ x0, cell _ _ x1, cell _ _ x2, cell _ _ x3, hv⟩
theorem MW.szAt {w wz : World} {U : Nat} {all : List Tr} {sz : List Nat} {ρa : Option Nat} {oa : Option Addr} {ca : Nat} {xa : List Value} {ρs : Option Nat} {os : Option Addr} {cs : Nat} (h : MW w U all sz ρa oa ca xa ρs os cs wz) (p : Nat) (hp : p < sz.length) :
    ∃ r : Nat, os = some ⟨r, 0, none⟩ ∧ ρs = some r ∧ wz.cell? ⟨r, p, none⟩ = some (.int .i64 (sz[p] : Nat)) := by
  have hx : (intC sz)[p]? = some (.int .i64 (sz[p] : Nat)) := by
    unfold intC
    rw [List.getElem?_map, List.getElem?_eq_getElem hp]; rfl
  obtain ⟨r, e1, e2, e3⟩ := h.vs.cell p _ hx
  exact ⟨r, e2, e1, e3⟩

/-- What Made answers. -/
def MdQ (w : World) (R : Option (List Tr)) (e : Ending) (w' : World) : Prop :=
  match R.bind fun all => all.getLast? with
  | none => e = .returned (.tuple #[.agg #[.int .i64 0, .int .u64 0, .string ⟨#[]⟩, .slice none 0 0], .bool false]) ∧ Below w.heap.size w w'
  | some t => ∃ d0 d1 d2 d3, e = .returned (.tuple #[.agg #[d0, d1, d2, d3], .bool true]) ∧ VInP w' (fun b => w.heap.size ≤ b) t d0 d1 d2 d3 ∧ Below w.heap.size w w' ∧ okN t ∧ tsz t ≤ 2000
theorem below_four {w wz : World} (h : Below w.heap.size w wz) (a b c d : Value) : Below w.heap.size w ((((wz.setCell ⟨w.heap.size, 0, none⟩ a).setCell ⟨w.heap.size, 1, none⟩ b).setCell ⟨w.heap.size, 2, none⟩ c).setCell ⟨w.heap.size, 3, none⟩ d) :=
  below_set (below_set (below_set (below_set h w.heap.size 0 (Nat.le_refl _) a) w.heap.size 1 (Nat.le_refl _) b) w.heap.size 2 (Nat.le_refl _) c) w.heap.size 3 (Nat.le_refl _) d
theorem MdQ.no {w wz : World} (h : Below w.heap.size w wz) : MdQ w none (.returned (.tuple #[.agg #[.int .i64 0, .int .u64 0, .string ⟨#[]⟩, .slice none 0 0], .bool false])) ((((wz.setCell ⟨w.heap.size, 0, none⟩ (.int .i64 0)).setCell ⟨w.heap.size, 1, none⟩ (.int .u64 0)).setCell ⟨w.heap.size, 2, none⟩ (.string ⟨#[]⟩)).setCell ⟨w.heap.size, 3, none⟩ (.slice none 0 0)) := ⟨rfl, below_four h _ _ _ _⟩
theorem MW.cr {w wz : World} {U : Nat} {all : List Tr} {sz : List Nat} {ρa : Option Nat} {oa : Option Addr} {ca : Nat} {xa : List Value} {ρs : Option Nat} {os : Option Addr} {cs : Nat} (h : MW w U all sz ρa oa ca xa ρs os cs wz) : wz.cell? ⟨w.heap.size, 0, none⟩ = some (.int .i64 0) ∧ wz.cell? ⟨w.heap.size, 1, none⟩ = some (.int .u64 0) ∧ wz.cell? ⟨w.heap.size, 2, none⟩ = some (.string ⟨#[]⟩) ∧ wz.cell? ⟨w.heap.size, 3, none⟩ = some (.slice none 0 0) ∧ wz.frozen? ⟨w.heap.size, 0, none⟩ = false ∧ wz.frozen? ⟨w.heap.size, 1, none⟩ = false ∧ wz.frozen? ⟨w.heap.size, 2, none⟩ = false ∧ wz.frozen? ⟨w.heap.size, 3, none⟩ = false := by
  refine ⟨?_, ?_, ?_, ?_, frozen_of_row wz _ 0 _ _ h.res, frozen_of_row wz _ 1 _ _ h.res, frozen_of_row wz _ 2 _ _ h.res, frozen_of_row wz _ 3 _ _ h.res⟩
  all_goals (rw [cell_of_row wz _ _ _ _ _ h.res]; rfl)
theorem wpList_vrow {w : World} {ops : Array Oper} {rest : List Oper} {o : Oper} {a : Act} {Q : Exit → Act → World → Prop} (hgd : o.guard = none) (s x : Operand)
    (ho : o.op = .call { callee := .builtin .append, args := #[s, x], argTypes := #[25, 25] })
    (g : Nat) (ρ : Option Nat) (oo : Option Addr) (cap n : Nat) (xs : List Value) (hR : VRow 27 ρ oo cap n xs w) (hn : n + 1 ≤ 1000000000) (ad : Addr) (news : List Value) (hl : news.length = 4) (hnews : ∀ j u, news[j]? = some u → w.cell? (ad.add j) = some u) (h1 : ∀ u ∈ news, u.oneCell' = true)
    (hs : a.eval s = .slice oo n cap) (hx : a.eval x = .slice (some ad) 1 1)
    (h : ∀ o' cap' w' ρ', VRow 27 ρ' o' cap' (n + 1) (xs ++ news) w' → Nxt ρ ρ' w → Chg g ρ w w' → wpList Try.prog ops Q rest (a.put o.dst (.slice o' (n + 1) cap')) w') : wpList Try.prog ops Q (o :: rest) a w := by
  refine wpList_plain hgd fun K hK => ?_
  obtain ⟨o', cap', w', ρ', hr, h2, h3, h4⟩ := vrow_append 25 27 o.type Try.underlying25 info27 g w ρ oo cap n xs hR hn ad news hl hnews h1
  unfold Oper.wp execOp
  simp only [ho, resolve, invoke, builtin, Sem.run_bind, Sem.run_pure, Result.andThen_ok, List.map_toArray, List.map_cons, List.map_nil, hs, hx, hr]
  exact hK _ _ (h o' cap' w' ρ' h2 h3 h4)
theorem wpList_irow {w : World} {ops : Array Oper} {rest : List Oper} {o : Oper} {a : Act} {Q : Exit → Act → World → Prop} (hgd : o.guard = none) (s x : Operand)
    (ho : o.op = .call { callee := .builtin .append, args := #[s, x], argTypes := #[71, 71] })
    (g : Nat) (ρ : Option Nat) (oo : Option Addr) (cap n : Nat) (xs : List Value) (hR : IRow 3 ρ oo cap n xs w) (hn : n + 1 ≤ 1000000000) (ad : Addr) (news : List Value) (hl : news.length = 1) (hnews : ∀ j u, news[j]? = some u → w.cell? (ad.add j) = some u) (h1 : ∀ u ∈ news, u.oneCell' = true)
    (hs : a.eval s = .slice oo n cap) (hx : a.eval x = .slice (some ad) 1 1)
    (h : ∀ o' cap' w' ρ', IRow 3 ρ' o' cap' (n + 1) (xs ++ news) w' → Nxt ρ ρ' w → Chg g ρ w w' → wpList Try.prog ops Q rest (a.put o.dst (.slice o' (n + 1) cap')) w') : wpList Try.prog ops Q (o :: rest) a w := by
  refine wpList_plain hgd fun K hK => ?_
  obtain ⟨o', cap', w', ρ', hr, h2, h3, h4⟩ := irow_append 71 3 o.type Try.underlying71 info3q g w ρ oo cap n xs hR hn ad news hl hnews h1
  unfold Oper.wp execOp
  simp only [ho, resolve, invoke, builtin, Sem.run_bind, Sem.run_pure, Result.andThen_ok, List.map_toArray, List.map_cons, List.map_nil, hs, hx, hr]
  exact hK _ _ (h o' cap' w' ρ' h2 h3 h4)
theorem sum_le : ∀ (l : List Nat), (∀ y ∈ l, y ≤ 2000) → l.sum ≤ 2000 * l.length
  | [], _ => by simp
  | y :: l, h => by
    rw [List.sum_cons, List.length_cons]
    have h1 := h y (by simp)
    have h2 := sum_le l (fun z hz => h z (by simp [hz]))
    omega
set_option maxRecDepth 100000 in
set_option maxHeartbeats 4000000 in
theorem made_any (l : List Nd) (o : Option Addr) (cap b off : Nat) (w : World) (hlen : l.length ≤ 2000000) (ho : 0 < l.length → o = some ⟨b, off, none⟩ ∧ b < w.heap.size) (hl : NdsIn w b off l) :
    Calls Try.prog 10 #[.slice o l.length cap] w (MdQ w (madeF l.length l [] [])) := by
  obtain ⟨m, hm⟩ : ∃ m, m = l.length := ⟨_, rfl⟩
  rw [← hm] at hlen ⊢
  obtain ⟨R, hR⟩ : ∃ R, madeF m l [] [] = R := ⟨_, rfl⟩
  rw [hR]
  have HM := Lib.hid hm
  have HO := Lib.hid ho
  have HL := Lib.hid hl
  have H0 := Lib.hid (show MW w (w.heap.size + 1) [] [] none none 0 [] none none 0 (w.alloc (.cells #[.int .i64 0, .int .u64 0, .string ⟨#[]⟩, .slice none 0 0] 27)) from ⟨alloc_below _ _, Nat.le_refl _, by simp, heap_alloc_new w _, VRow.nil 27 _, fun r hr => (by cases hr), ⟨rfl, Or.inl ⟨rfl, rfl, rfl, rfl⟩⟩, fun r hr => (by cases hr), fun r hr => (by cases hr), fun j hj => absurd hj (by simp)⟩)
  have HR := Lib.hid hR
  clear ho hl hm hR
  go_enter Try.func10, Try.ntmps10
  go_wp2_with fail
  refine gen_wp (S := fun wz => Hid (MW w (w.heap.size + 1) [] [] none none 0 [] none none 0 wz)) H0 ?_
  intro W1 H1
  clear H0
  go_loopw [4, 5, 15] (fun av sv iv wr => ∃ (i : Nat) (all : List Tr) (sz : List Nat) (U : Nat) (ρa : Option Nat) (oa : Option Addr) (ca : Nat) (xa : List Value) (ρs : Option Nat) (os : Option Addr) (cs : Nat), i ≤ m ∧ iv = .int .i64 (i : Int) ∧ av = .slice oa i ca ∧ sv = .slice os i cs ∧ Hid (all.length = i ∧ sz = all.map tsz ∧ (∀ t ∈ all, okN t ∧ tsz t ≤ 2000) ∧ madeF m (l.drop i) all sz = R) ∧ Hid (MW w U all sz ρa oa ca xa ρs os cs wr)) (fun _ _ iv _ => m - (intOf iv).toNat)
  case atStart => exact ⟨0, [], [], _, none, none, 0, [], none, none, 0, Nat.zero_le _, rfl, rfl, rfl, Lib.hid ⟨rfl, rfl, fun t h => (by cases h), HR.out⟩, H1⟩
  case round =>
    clear H1
    obtain ⟨i, all, sz, U, ρa, oa, ca, xa, ρs, os, cs, him, rfl, rfl, rfl, HP, HW⟩ := hrel
    by_cases hi : i < m
    · have hil : i < l.length := by rw [← HM.out]; exact hi
      obtain ⟨ho', hb'⟩ := HO.out (by omega)
      subst ho'
      obtain ⟨c0, c1, c2, c3, e0, e1, e2, e3, hx⟩ := HL.out i hil
      obtain ⟨rfl, rfl, hn64, rfl, hxz, ob, cb, bb, offb, rfl, hob, hbk⟩ := hx
      have hB := HW.out.below
      have f0 := (hB.cell (p := ⟨b, _, none⟩) hb').trans e0
      have f1 := (hB.cell (p := ⟨b, _, none⟩) hb').trans e1
      have f2 := (hB.cell (p := ⟨b, _, none⟩) hb').trans e2
      have f3 := (hB.cell (p := ⟨b, _, none⟩) hb').trans e3
      obtain ⟨x, hx⟩ : ∃ x, l[i] = x := ⟨_, rfl⟩
      rw [hx] at f0 f1 f2 f3 hn64 hxz hob hbk
      obtain ⟨q, hq⟩ : ∃ q, q = x.back.length := ⟨_, rfl⟩
      rw [← hq] at f3 hob
      have HXZ := Lib.hid hxz
      have HOB := Lib.hid hob
      have HBK := Lib.hid hbk
      have HX := Lib.hid hx
      have HQ := Lib.hid hq
      have hst := store75 wr x.k x.n x.s ob q cb
      have hst2 := store27 (wr.alloc (.cells #[.int .i64 x.k, .int .u64 (x.n : Int), .string x.s, .slice ob q cb] 75)) x.k x.n x.s none 0 0
      have hsz1 : (wr.alloc (.cells #[.int .i64 x.k, .int .u64 (x.n : Int), .string x.s, .slice ob q cb] 75)).heap.size = wr.heap.size + 1 := by simp
      rw [hsz1] at hst2
      have HI0 := Lib.hid (IW.start HW.out x.k x.n x.s ob q cb)
      have HN64 := Lib.hid hn64
      obtain ⟨xk, hxk⟩ : ∃ y, x.k = y := ⟨_, rfl⟩
      obtain ⟨xn, hxn⟩ : ∃ y, x.n = y := ⟨_, rfl⟩
      obtain ⟨xs, hxs⟩ : ∃ y, x.s = y := ⟨_, rfl⟩
      rw [hxk, hxn, hxs] at hst hst2 HI0
      rw [hxk] at f0
      rw [hxn] at f1
      rw [hxs] at f2
      have HXK := Lib.hid (And.intro hxk (And.intro hxn hxs))
      have hqz : q ≤ 2000000 := by have := hxz.2; omega
      have hsz : xs.size ≤ 2000000 := by rw [← hxs]; exact hxz.1
      clear e0 e1 e2 e3 hbk hob hx hq hxz hB hn64 hxk hxn hxs hsz1
      go_upto_region 7 with fail
      clear hst hst2 f0 f1 f2 f3
      refine gen_wp (S := fun wz => Hid (IW w U wr.heap.size all sz ρa oa ca xa ρs os cs xk xn xs ob q cb [] none none 0 [] wz)) HI0 ?_
      intro W2 H2
      clear HI0 HW
      generalize wr.heap.size = X at *
      obtain ⟨x2, x3⟩ := H2.out.cx
      obtain ⟨K0, hK0⟩ : ∃ K0, K0 = 1 + xs.size / 8 := ⟨_, rfl⟩
      have hk0 : (1 : Int) + (xs.size : Int) / 8 = (K0 : Int) := by omega
      have hk0w : IntKind.i64.wrap (K0 : Int) = (K0 : Int) := IntWalk.i64_in _ ⟨by omega, by omega⟩
      have HK0 := Lib.hid hK0
      clear hK0
      go_wp2_with fail
      clear x2 x3 hk0 hk0w
      go_loopw [9, 35] (fun kv jv wz => ∃ (j K : Nat) (ρv : Option Nat) (ov : Option Addr) (cv : Nat) (xv : List Value), j ≤ q ∧ jv = .int .i64 (j : Int) ∧ kv = .int .i64 (K : Int) ∧ Hid (K = K0 + (kidsOf sz i (x.back.take j)).sum) ∧ Hid (IW w U X all sz ρa oa ca xa ρs os cs xk xn xs ob q cb (kidsOf all i (x.back.take j)) ρv ov cv xv wz)) (fun _ jv _ => q - (intOf jv).toNat)
      case atStart => exact ⟨0, K0, none, none, 0, [], Nat.zero_le _, rfl, rfl, Lib.hid (by simp [kidsOf]), by simpa [kidsOf] using H2⟩
      case round =>
        clear H2
        obtain ⟨j, K, ρv, ov, cv, xv, hjq, rfl, rfl, HK, HI⟩ := hrel
        by_cases hj : j < q
        · obtain ⟨rfl, hbb⟩ := HOB.out (by omega)
          have hjl : j < x.back.length := by rw [← HQ.out]; exact hj
          obtain ⟨c, hc⟩ : ∃ c, x.back[j].toNat = c := ⟨_, rfl⟩
          have hc256 : c < 256 := by rw [← hc]; exact x.back[j].toNat_lt
          have c0 : wr.cell? ⟨bb, offb + j, none⟩ = some (.int .u8 (c : Int)) := by
            have h1 := HBK.out j hjl
            rw [hc] at h1
            exact (HI.out.mw.below.cell (p := ⟨bb, _, none⟩) hbb).trans h1
          have hcw : IntKind.i64.wrap (c : Int) = (c : Int) := IntWalk.i64_in _ ⟨by omega, by omega⟩
          have hi200 : i ≤ 2000000 := by omega
          obtain ⟨A1, e1⟩ : ∃ A1, (i : Int) - 1 = A1 := ⟨_, rfl⟩
          have w1 : IntKind.i64.wrap A1 = A1 := IntWalk.i64_in _ ⟨by omega, by omega⟩
          have ijq : (j : Int) < (q : Int) := by omega
          have hsl : sz.length = i := by rw [HP.out.2.1, List.length_map]; exact HP.out.1
          have hks : (kidsOf sz i (x.back.take j)).sum ≤ 2000 * j := by
            have h1 := sum_le (kidsOf sz i (x.back.take j)) (fun y hy => by
              have h2 := kidsOf_mem _ _ _ _ hy
              rw [HP.out.2.1] at h2
              obtain ⟨t, ht, rfl⟩ := List.mem_map.1 h2
              exact (HP.out.2.2.1 t ht).2)
            have h2 := kidsOf_len sz i (x.back.take j)
            rw [List.length_take] at h2
            omega
          have hKb : K ≤ 5000000000 := by have := HK.out; have := HK0.out; omega
          by_cases hci : c + 1 ≤ i
          · obtain ⟨p, hp⟩ : ∃ p, p = i - 1 - c := ⟨_, rfl⟩
            have e2 : A1 - (c : Int) = (p : Int) := by omega
            have w2 : IntKind.i64.wrap (p : Int) = (p : Int) := IntWalk.i64_in _ ⟨by omega, by omega⟩
            have g2 : (0 : Int) ≤ (p : Int) := by omega
            have hpa : p < all.length := by rw [HP.out.1]; omega
            have hps : p < sz.length := by omega
            have ipi : (p : Int) < (i : Int) := by omega
            obtain ⟨ra, k2, n2, s2, o2, l2, cc2, rfl, a0, a1, a2, a3, hv⟩ := HI.out.mw.at p hpa
            obtain ⟨rs, rfl, hrs, z0⟩ := HI.out.mw.szAt p hps
            obtain ⟨_, _, _, v3, vf⟩ := HI.out.cv0
            obtain ⟨kids, hkids⟩ : ∃ kids, kidsOf all i (x.back.take j) = kids := ⟨_, rfl⟩
            rw [hkids] at HI v3
            obtain ⟨kn, hkn⟩ : ∃ kn, kids.length = kn := ⟨_, rfl⟩
            rw [hkn] at v3
            have hknb : kn ≤ 2000000 := by
              have h2 := kidsOf_len all i (x.back.take j)
              rw [hkids, hkn, List.length_take] at h2
              omega
            obtain ⟨sp, hsp⟩ : ∃ sp, sz[p] = sp := ⟨_, rfl⟩
            have hsp2 : sp ≤ 2000 := by
              have h2 : sz[p] ∈ sz := List.getElem_mem hps
              rw [hsp, HP.out.2.1] at h2
              obtain ⟨t, ht, e⟩ := List.mem_map.1 h2
              rw [← e]; exact (HP.out.2.2.1 t ht).2
            rw [hsp] at z0
            obtain ⟨K', hK'⟩ : ∃ K', K' = K + sp := ⟨_, rfl⟩
            have eK : (K : Int) + (sp : Int) = (K' : Int) := by omega
            have wK : IntKind.i64.wrap (K' : Int) = (K' : Int) := IntWalk.i64_in _ ⟨by omega, by omega⟩
            have HIN : Hid (kidsOf all i (x.back.take (j + 1)) = kids ++ [all[p]] ∧ K' = K0 + (kidsOf sz i (x.back.take (j + 1))).sum) := Lib.hid (by
              have h1 := kidsOf_one all i x.back j hjl (by rw [hc]; exact hci) HP.out.1.symm
              have h2 := kidsOf_one sz i x.back j hjl (by rw [hc]; exact hci) hsl.symm
              have h3 : i - 1 - x.back[j].toNat = p := by rw [hc]; exact hp.symm
              simp only [h3] at h1 h2
              rw [h1, h2, hkids]
              refine ⟨rfl, ?_⟩
              rw [List.sum_append, List.sum_singleton, hsp, hK', HK.out]
              omega)
            have HV := Lib.hid hv
            have HKN := Lib.hid hkn
            have HRS := Lib.hid hrs
            have hat : all[p] = all[p] := rfl
            have AW1 := Lib.hid (show Below wr.heap.size wr (wr.alloc (.cells #[.int .i64 k2, .int .u64 (n2 : Int), .string s2, .slice o2 l2 cc2] 27)).drew from (alloc_below wr _).trans ((Below.refl _ _).drew))
            have AW2 := Lib.hid (show Below wr.heap.size wr (wr.drew.alloc (.cells #[.int .i64 k2, .int .u64 (n2 : Int), .string s2, .slice o2 l2 cc2] 27)) from (Below.refl _ _).drew.trans (alloc_below wr.drew _))
            have NW1 := Lib.hid (show ∀ y u, [Value.int .i64 k2, .int .u64 (n2 : Int), .string s2, .slice o2 l2 cc2][y]? = some u → (wr.alloc (.cells #[.int .i64 k2, .int .u64 (n2 : Int), .string s2, .slice o2 l2 cc2] 27)).drew.cell? ((⟨wr.heap.size, 0, none⟩ : Addr).add y) = some u from news_at wr [Value.int .i64 k2, .int .u64 (n2 : Int), .string s2, .slice o2 l2 cc2] 27 _ rfl)
            have NW2 := Lib.hid (show ∀ y u, [Value.int .i64 k2, .int .u64 (n2 : Int), .string s2, .slice o2 l2 cc2][y]? = some u → (wr.drew.alloc (.cells #[.int .i64 k2, .int .u64 (n2 : Int), .string s2, .slice o2 l2 cc2] 27)).cell? ((⟨wr.heap.size, 0, none⟩ : Addr).add y) = some u from news_at wr.drew [Value.int .i64 k2, .int .u64 (n2 : Int), .string s2, .slice o2 l2 cc2] 27 _ rfl)
            have HVR : Hid (∀ wy, Below wr.heap.size wr wy → VRow 27 ρv ov cv kn xv wy) := Lib.hid (fun wy hy => by rw [← hkn]; exact (HI.out.later hy).vv)
            have HPT : Hid (∀ wy o7 c7 w7 ρ7, Below wr.heap.size wr wy → wy.heap.size ≤ wr.heap.size + 1 → VRow 27 ρ7 o7 c7 (kn + 1) (xv ++ [.int .i64 k2, .int .u64 (n2 : Int), .string s2, .slice o2 l2 cc2]) w7 → Nxt ρv ρ7 wy → Chg (wr.heap.size + 1) ρv wy w7 →
                (w7.cell? ⟨X + 1, 3, none⟩ = some (.slice ov kn cv) ∧ w7.frozen? ⟨X + 1, 3, none⟩ = false) ∧ Hid (∃ xv', IW w U X all sz ρa (some ⟨ra, 0, none⟩) ca xa ρs (some ⟨rs, 0, none⟩) cs xk xn xs (some ⟨bb, offb, none⟩) q cb (kids ++ [all[p]]) ρ7 o7 c7 xv' (w7.setCell ⟨X + 1, 3, none⟩ (.slice o7 (kn + 1) c7)))) := Lib.hid (fun wy o7 c7 w7 ρ7 hy hsz2 hr7 hn7 hc7 => by
              have hl := HI.out.later hy
              have hbx := hl.boxc hc7 hsz2
              rw [hkn] at hbx
              have hr8 : VRow 27 ρ7 o7 c7 (kids.length + 1) (xv ++ [.int .i64 k2, .int .u64 (n2 : Int), .string s2, .slice o2 l2 cc2]) w7 := by rw [hkn]; exact hr7
              have hp7 := hl.put (VInP.keep (w := wr) hy.size (fun b hb hP => ⟨hy.block b hb, hP⟩) all[p] HV.out) hr8 hn7 hc7 hsz2
              rw [hkn] at hp7
              exact ⟨hbx, Lib.hid ⟨_, hp7⟩⟩)
            have hz1 : (wr.alloc (.cells #[.int .i64 k2, .int .u64 (n2 : Int), .string s2, .slice o2 l2 cc2] 27)).drew.heap.size ≤ wr.heap.size + 1 := by simp
            have hz2 : (wr.drew.alloc (.cells #[.int .i64 k2, .int .u64 (n2 : Int), .string s2, .slice o2 l2 cc2] 27)).heap.size ≤ wr.heap.size + 1 := by simp
            have HZ1 := Lib.hid hz1
            have hXl : X + 1 < wr.heap.size := lt_of_heap HI.out.bv
            have u1 := (AW1.out.cell (p := ⟨X + 1, 3, none⟩) hXl).trans v3
            have u2 := (AW2.out.cell (p := ⟨X + 1, 3, none⟩) hXl).trans v3
            have u3 := ((alloc_below wr (.cells #[.int .i64 k2, .int .u64 (n2 : Int), .string s2, .slice o2 l2 cc2] 27)).cell (p := ⟨X + 1, 3, none⟩) hXl).trans v3
            have HZ2 := Lib.hid hz2
            have HS7 : Hid (∀ (W7 : World), MW w U all sz ρa (some ⟨ra, 0, none⟩) ca xa ρs (some ⟨rs, 0, none⟩) cs W7 → W7.cell? ⟨rs, p, none⟩ = some (.int .i64 (sp : Int))) := Lib.hid (fun W7 h => by
              obtain ⟨r', q1, _, q3⟩ := h.szAt p hps
              cases q1
              rw [hsp] at q3
              exact q3)
            clear hz1 hz2 hat hv hK' hrs hsp hsp2 hkids hkn hp hps hc hc256 hks hsl HI hjl hci
            go_upto_region 13 with fail
            go_region_law (first
              | (refine step_vrow rfl (.tmp 47) (.tmp 52) 25 27 rfl Try.underlying25 info27 (wr.heap.size + 1) ρv ov cv kn xv (HVR.out _ (by first | exact AW1.out | exact AW2.out)) (by omega) ⟨wr.heap.size, 0, none⟩ [.int .i64 k2, .int .u64 (n2 : Int), .string s2, .slice o2 l2 cc2] rfl (by first | exact NW1.out | exact NW2.out) (by intro u hu; simp at hu; rcases hu with rfl | rfl | rfl | rfl <;> rfl) rfl rfl ?_; intro o7 c7 w7 ρ7 hr7 hn7 hc7; obtain ⟨⟨y3, yf⟩, H7⟩ := HPT.out _ _ _ _ _ (by first | exact AW1.out | exact AW2.out) (by first | exact HZ1.out | exact HZ2.out) hr7 hn7 hc7; clear hr7 hn7 hc7))
            all_goals
              try simp only [Exit.then]
              try apply_assumption
              refine gen_wp (S := fun wy => Hid (∃ xv', IW w U X all sz ρa (some ⟨ra, 0, none⟩) ca xa ρs (some ⟨rs, 0, none⟩) cs xk xn xs (some ⟨bb, offb, none⟩) q cb (kids ++ [all[p]]) ρ7 o7 c7 xv' wy)) H7 ?_
              clear H7 y3 yf u1 u2 u3 a0 a1 a2 a3 z0 v3 vf c0
              intro W7 H8
              obtain ⟨xv', HI8⟩ := H8.out
              have z7 := HS7.out W7 HI8.mw
              have HI9 := Lib.hid HI8
              clear H8 HI8
              go_wp2
              go_roundw
              case rel => exact ⟨j + 1, K', ρ7, o7, c7, xv', by omega, by go_num, rfl, Lib.hid HIN.out.2, by rw [HIN.out.1]; exact HI9⟩
              case measure => simp [intOf]; omega
          · obtain ⟨A2, e2⟩ : ∃ A2, A1 - (c : Int) = A2 := ⟨_, rfl⟩
            have w2 : IntKind.i64.wrap A2 = A2 := IntWalk.i64_in _ ⟨by omega, by omega⟩
            have g2 : ¬ (0 : Int) ≤ A2 := by omega
            have HIN : Hid (kidsOf all i (x.back.take (j + 1)) = kidsOf all i (x.back.take j) ∧ K = K0 + (kidsOf sz i (x.back.take (j + 1))).sum) := Lib.hid ⟨kidsOf_no all i x.back j hjl (by rw [hc]; exact hci), by rw [kidsOf_no sz i x.back j hjl (by rw [hc]; exact hci)]; exact HK.out⟩
            clear hc hc256 hks hsl hjl hci
            go_wp2
            go_roundw
            case rel => exact ⟨j + 1, K, ρv, ov, cv, xv, by omega, by go_num, rfl, Lib.hid HIN.out.2, by rw [HIN.out.1]; exact HI⟩
            case measure => simp [intOf]; omega
        · obtain rfl : j = q := by omega
          obtain ⟨x2, x3⟩ := HI.out.cx
          obtain ⟨r0, r1, r2, r3, t0', t1', t2', t3'⟩ := HI.out.mw.cr
          have HBE := Lib.hid HI.out.mw.below
          have hback : x.back.take j = x.back := List.take_of_length_le (by rw [← HQ.out]; exact Nat.le_refl _)
          rw [hback] at HI HK
          have hsl : sz.length = i := by rw [HP.out.2.1, List.length_map]; exact HP.out.1
          have hKK : ndK sz x = K := by unfold ndK; rw [hsl, HXK.out.2.2, HK.out, HK0.out]
          have hil2 : i < l.length := by rw [← HM.out]; exact hi
          have hdrop : (if 2000 < K ∨ 9000 < xs.size ∨ 20 < j ∨ 40 < m then none else madeF m (l.drop (i + 1)) (all ++ [ndT all x]) (sz ++ [K])) = R := by
            have h1 := HP.out.2.2.2
            rw [List.drop_eq_getElem_cons hil2, HX.out, madeF, hKK, HXK.out.2.2, ← HQ.out] at h1
            exact h1
          have i20 : (K : Int) ≤ 2000 ∨ (2000 : Int) < (K : Int) := by omega
          by_cases b1 : 2000 < K
          · have q1 : (2000 : Int) < (K : Int) := by omega
            have HNO : Hid (R = none) := Lib.hid (by rw [← hdrop, if_pos (Or.inl b1)])
            clear i20
            clear hdrop
            go_wp2
            refine bodyPost_ret (v := .tuple #[.agg #[.int .i64 0, .int .u64 0, .string ⟨#[]⟩, .slice none 0 0], .bool false]) (by simp [results, Try.results10, go_sem, *]) rfl ?_
            rw [HNO.out]
            exact MdQ.no HBE.out
          · have q1 : ¬ (2000 : Int) < (K : Int) := by omega
            by_cases b2 : 9000 < xs.size
            · have q2 : (9000 : Int) < (xs.size : Int) := by omega
              have HNO : Hid (R = none) := Lib.hid (by rw [← hdrop, if_pos (Or.inr (Or.inl b2))])
              clear i20
              clear hdrop
              go_wp2
              refine bodyPost_ret (v := .tuple #[.agg #[.int .i64 0, .int .u64 0, .string ⟨#[]⟩, .slice none 0 0], .bool false]) (by simp [results, Try.results10, go_sem, *]) rfl ?_
              rw [HNO.out]
              exact MdQ.no HBE.out
            · have q2 : ¬ (9000 : Int) < (xs.size : Int) := by omega
              by_cases b3 : 20 < j
              · have q3 : (20 : Int) < (j : Int) := by omega
                have HNO : Hid (R = none) := Lib.hid (by rw [← hdrop, if_pos (Or.inr (Or.inr (Or.inl b3)))])
                clear i20
                clear hdrop
                go_wp2
                refine bodyPost_ret (v := .tuple #[.agg #[.int .i64 0, .int .u64 0, .string ⟨#[]⟩, .slice none 0 0], .bool false]) (by simp [results, Try.results10, go_sem, *]) rfl ?_
                rw [HNO.out]
                exact MdQ.no HBE.out
              · have q3 : ¬ (20 : Int) < (j : Int) := by omega
                by_cases b4 : 40 < m
                · have q4 : (40 : Int) < (m : Int) := by omega
                  have HNO : Hid (R = none) := Lib.hid (by rw [← hdrop, if_pos (Or.inr (Or.inr (Or.inr b4)))])
                  clear i20
                  clear hdrop
                  go_wp2
                  refine bodyPost_ret (v := .tuple #[.agg #[.int .i64 0, .int .u64 0, .string ⟨#[]⟩, .slice none 0 0], .bool false]) (by simp [results, Try.results10, go_sem, *]) rfl ?_
                  rw [HNO.out]
                  exact MdQ.no HBE.out
                · have q4 : ¬ (40 : Int) < (m : Int) := by omega
                  have hkl : (kidsOf all i x.back).length ≤ 20 := by
                    have h1 := kidsOf_len all i x.back
                    rw [← HQ.out] at h1
                    omega
                  rw [if_neg (by omega)] at hdrop
                  obtain ⟨kids, hkids⟩ : ∃ kids, kidsOf all i x.back = kids := ⟨_, rfl⟩
                  rw [hkids] at HI hkl
                  have htr : ndT all x = Tr.mk xk xn xs kids := by unfold ndT; rw [HP.out.1, hkids, HXK.out.1, HXK.out.2.1, HXK.out.2.2]
                  have hts : tsz (Tr.mk xk xn xs kids) = K := by rw [← htr, ndT_size, ← HP.out.2.1, hKK]
                  have hok : okN (Tr.mk xk xn xs kids) := by
                    unfold okN
                    refine ⟨by rw [← HXK.out.2.1]; exact HN64.out, by omega, okNL_of kids (fun t ht => ?_)⟩
                    rw [← hkids] at ht
                    exact (HP.out.2.2.1 t (kidsOf_mem _ _ _ _ ht)).1
                  have HP2 : Hid ((all ++ [Tr.mk xk xn xs kids]).length = i + 1 ∧ sz ++ [K] = (all ++ [Tr.mk xk xn xs kids]).map tsz ∧ (∀ t ∈ all ++ [Tr.mk xk xn xs kids], okN t ∧ tsz t ≤ 2000) ∧ madeF m (l.drop (i + 1)) (all ++ [Tr.mk xk xn xs kids]) (sz ++ [K]) = R) := Lib.hid ⟨by simp [HP.out.1], by rw [List.map_append, List.map_singleton, hts, ← HP.out.2.1], fun t ht => by
                    rcases List.mem_append.1 ht with ht | ht
                    · exact HP.out.2.2.1 t ht
                    · rw [List.mem_singleton] at ht; subst ht; exact ⟨hok, by omega⟩, by rw [← htr]; exact hdrop⟩
                  have HKB := Lib.hid hkl
                  have HAL : Hid (all.length = i ∧ sz.length = i) := Lib.hid ⟨HP.out.1, hsl⟩
                  have HN6 : Hid (xn ≤ 18446744073709551615) := Lib.hid (by rw [← HXK.out.2.1]; exact HN64.out)
                  obtain ⟨kn, hkn⟩ : ∃ kn, kids.length = kn := ⟨_, rfl⟩
                  have HKN := Lib.hid hkn
                  obtain ⟨v0, v1, v2, v3, vf⟩ := HI.out.cv0
                  rw [hkn] at v3
                  have HVA : Hid (∀ wy, Below wr.heap.size wr wy → VRow 27 ρa oa ca i xa wy) := Lib.hid (fun wy hy => by have h1 := (HI.out.later hy).mw.va; rw [HP.out.1] at h1; exact h1)
                  have HDN : Hid (∀ wy o7 c7 w7 ρ7 w8 o9 c9 w9 ρ9 g, Below wr.heap.size wr wy → VRow 27 ρ7 o7 c7 (i + 1) (xa ++ [.int .i64 xk, .int .u64 (xn : Int), .string xs, .slice ov kn cv]) w7 → Nxt ρa ρ7 wy → Chg wy.heap.size ρa wy w7 → Below w7.heap.size w7 w8 → IRow 3 ρ9 o9 c9 (i + 1) (intC sz ++ [.int .i64 (K : Int)]) w9 → Nxt ρs ρ9 w8 → Chg g ρs w8 w9 → w8.heap.size ≤ g →
                      Hid (∃ xa', MW w w9.heap.size (all ++ [Tr.mk xk xn xs kids]) (sz ++ [K]) ρ7 o7 c7 xa' ρ9 o9 c9 w9)) := Lib.hid (fun wy o7 c7 w7 ρ7 w8 o9 c9 w9 ρ9 g hy hr7 hn7 hc7 h78 hr9 hn9 hc9 hg => by
                    have h1 := HI.out.later hy
                    rw [← hkn] at hr7
                    refine Lib.hid ⟨_, h1.done HN6.out ⟨by omega, by have := HKB.out; omega⟩ (by rw [HP.out.1]; exact hr7) hn7 hc7 (Nat.le_refl _) h78 (by rw [hsl]; exact hr9) hn9 hc9 hg⟩)
                  have HVS : Hid (∀ wy o7 c7 w7 ρ7, Below wr.heap.size wr wy → VRow 27 ρ7 o7 c7 (i + 1) (xa ++ [.int .i64 xk, .int .u64 (xn : Int), .string xs, .slice ov kn cv]) w7 → Nxt ρa ρ7 wy → Chg wy.heap.size ρa wy w7 → ∀ w8, Below w7.heap.size w7 w8 → IRow 3 ρs os cs i (intC sz) w8) := Lib.hid (fun wy o7 c7 w7 ρ7 hy hr7 hn7 hc7 w8 h78 => by
                    have h1 := (HI.out.later hy).mw
                    have h2 : IRow 3 ρs os cs i (intC sz) wy := by have h3 := h1.vs; rw [hsl] at h3; exact h3
                    refine h2.keep (fun r hr => (h78.block r ?_).trans (hc7.2.2.2.2 r ?_ ?_ (fun e => h1.ne r e hr)))
                    · have := h2.lt r hr; have := hc7.2.2.2.1; omega
                    · exact h2.lt r hr
                    · have := h2.lt r hr; omega)
                  clear i20 hdrop hkids htr hts hok hkl hkn hKK hback HI r0 r1 r2 r3 t0' t1' t2' t3' hsl hil2 b1 b2 b3 b4
                  go_wp2_with (first
                    | (at_builtin; (refine wpList_vrow rfl (.tmp 82) (.tmp 84) rfl (wr.alloc (.cells #[.int .i64 xk, .int .u64 (xn : Int), .string xs, .slice ov kn cv] 27)).heap.size ρa oa ca i xa (HVA.out _ (alloc_below wr _)) (by omega) ⟨wr.heap.size, 0, none⟩ [.int .i64 xk, .int .u64 (xn : Int), .string xs, .slice ov kn cv] rfl (news_at wr _ 27 _ rfl) (by intro u hu; simp at hu; rcases hu with rfl | rfl | rfl | rfl <;> rfl) rfl rfl ?_); intro o7 c7 w7 ρ7 hr7 hn7 hc7; have H7 := Lib.hid (HVS.out _ _ _ _ _ (alloc_below wr _) hr7 hn7 hc7); have H7b := Lib.hid (fun o9 c9 w9 ρ9 g => HDN.out _ o7 c7 w7 ρ7 (w7.alloc (.cells #[.int .i64 (K : Int)] 3)) o9 c9 w9 ρ9 g (alloc_below wr _) hr7 hn7 hc7 (alloc_below w7 _)); clear hr7 hn7 hc7)
                    | (at_builtin; (refine wpList_irow rfl (.tmp 86) (.tmp 88) rfl (w7.alloc (.cells #[.int .i64 (K : Int)] 3)).heap.size ρs os cs i (intC sz) (H7.out _ (alloc_below w7 _)) (by omega) ⟨w7.heap.size, 0, none⟩ [.int .i64 (K : Int)] rfl (news_at w7 _ 3 _ rfl) (by intro u hu; simp at hu; subst hu; rfl) rfl rfl ?_); intro o9 c9 w9 ρ9 hr9 hn9 hc9; have H9 := H7b.out o9 c9 w9 ρ9 _ hr9 hn9 hc9 (Nat.le_refl _); clear hr9 hn9 hc9))
                  go_roundw
                  case rel =>
                    obtain ⟨xa', h9⟩ := H9.out
                    exact ⟨i + 1, _, _, _, _, _, _, xa', _, _, _, by omega, by go_num, rfl, rfl, HP2, Lib.hid h9⟩
                  case measure => simp [intOf]; omega
    · obtain rfl : i = m := by omega
      have hR2 : some all = R := by
        have h1 := HP.out.2.2.2
        rw [List.drop_of_length_le (by rw [← HM.out]; exact Nat.le_refl _), madeF] at h1
        exact h1
      have HR2 := Lib.hid hR2
      obtain ⟨r0, r1, r2, r3, t0', t1', t2', t3'⟩ := HW.out.cr
      have HBE := Lib.hid HW.out.below
      by_cases h0 : i = 0
      · have hal : all = [] := List.eq_nil_of_length_eq_zero (by rw [HP.out.1]; exact h0)
        have HNO : Hid (R.bind (fun all => all.getLast?) = none) := Lib.hid (by rw [← hR2, hal]; rfl)
        have hz : ((i : Int) == 0) = true := by rw [beq_iff_eq]; omega
        clear hR2 hal h0
        go_wp2
        refine bodyPost_ret (v := .tuple #[.agg #[.int .i64 0, .int .u64 0, .string ⟨#[]⟩, .slice none 0 0], .bool false]) (by simp [results, Try.results10, go_sem, *]) rfl ?_
        unfold MdQ
        rw [HNO.out]
        exact ⟨rfl, below_four HBE.out _ _ _ _⟩
      · have hz : ((i : Int) == 0) = false := by rw [beq_eq_false_iff_ne]; omega
        have hal : i - 1 < all.length := by rw [HP.out.1]; omega
        obtain ⟨ra, k2, n2, s2, o2, l2, cc2, rfl, a0, a1, a2, a3, hv⟩ := HW.out.at (i - 1) hal
        obtain ⟨p, hp⟩ : ∃ p, p = i - 1 := ⟨_, rfl⟩
        have hgl : all.getLast? = some all[i - 1] := by
          rw [List.getLast?_eq_getElem?, HP.out.1, List.getElem?_eq_getElem hal]
        have HYES : Hid (R.bind (fun all => all.getLast?) = some all[i - 1] ∧ okN all[i - 1] ∧ tsz all[i - 1] ≤ 2000) := Lib.hid ⟨by rw [← hR2]; exact hgl, HP.out.2.2.1 _ (List.getElem_mem hal)⟩
        generalize all[i - 1] = t at *
        rw [← hp] at a0 a1 a2 a3
        have e1 : (i : Int) - 1 = (p : Int) := by omega
        have w1 : IntKind.i64.wrap (p : Int) = (p : Int) := IntWalk.i64_in _ ⟨by omega, by omega⟩
        have ip : (p : Int) < (i : Int) := by omega
        have HV := Lib.hid hv
        clear hR2 hgl hv hal hp h0
        go_wp2
        refine bodyPost_ret (v := .tuple #[.agg #[.int .i64 k2, .int .u64 (n2 : Int), .string s2, .slice o2 l2 cc2], .bool true]) (by simp [results, Try.results10, go_sem, *]) rfl ?_
        unfold MdQ
        rw [HYES.out.1]
        refine ⟨_, _, _, _, rfl, ?_, below_four HBE.out _ _ _ _, HYES.out.2⟩
        refine VInP.keep (w := wr) (by simp) (fun b hb hP => ⟨setfour (X := w.heap.size) b (by have := hP.1; omega), by have := hP.1; omega⟩) t HV.out
end Go.Proofs.Ytlochpnifjmefaa

namespace Go.Proofs.Ytlochpnifjmefaa
open Go.ChangeShapes Go.WideShapes Go.ChangeAt Go.RowKit

theorem cells51 : Try.prog.cellsOf 51 = 3 := by kernel_rfl
theorem cells3 : Try.prog.cellsOf 3 = 1 := by kernel_rfl
theorem cells24 : Try.prog.cellsOf 24 = 1 := by kernel_rfl
theorem cells9 : Try.prog.cellsOf 9 = 1 := by kernel_rfl
theorem nat64 {n : Int} (h : (Lit.int .u64 n).wf = true) : ∃ a : Nat, n = a ∧ a ≤ 18446744073709551615 := by
  have h0 : 0 ≤ n ∧ n ≤ 18446744073709551615 := by
    simp [Lit.wf, IntKind.min, IntKind.max, IntKind.signed, IntKind.bits] at h; omega
  exact ⟨n.toNat, by omega, by omega⟩
set_option linter.constructorNameAsVariable false
section
variable {H : Type} {enc : TypeId × Value → H} {w : World} {base : Nat} {sp : Nat → Bool} {held : Bool}
set_option maxRecDepth 100000 in
theorem trod_fr {fuel : Nat} {cs : List Value} {x : DataW H × List MemPlace} (h : DataW.trod enc Try.prog w base sp held fuel 51 cs = some x) :
    ∃ (k : Int) (e : Nat) (b : ByteArray), (Lit.int .i64 k).wf = true ∧ e ≤ 18446744073709551615 ∧ b.size ≤ maxLen ∧ cs = [.int .i64 k, .int .u64 e, .string b] := by
  obtain ⟨xs, n, _, rfl, hl, hlen, hf⟩ := DataW.trod_struct Try.underlying51 h
  rw [cells51] at hl
  match cs, hl with
  | [v0, v1, v2], _ =>
    match xs, hlen with
    | [x0, x1, x2], _ =>
      have f0 := hf 0 _ rfl
      have f1 := hf 1 _ rfl
      have f2 := hf 2 _ rfl
      simp [cells3, cells24, cells9] at f0 f1 f2
      obtain ⟨k, e0, _, wk⟩ := DataW.trod_int Try.underlying3 f0
      obtain ⟨e, e1, _, we⟩ := DataW.trod_int Try.underlying24 f1
      obtain ⟨b, e2, _, wb⟩ := DataW.trod_string Try.underlying9 f2
      simp at e0 e1 e2
      obtain ⟨e', rfl, he⟩ := nat64 we
      exact ⟨k, e', b, wk, he, wb, by rw [e0, e1, e2]⟩
set_option maxRecDepth 100000 in
theorem open_frame {r : Reach} {b0 : Nat} {v : Value} {dd : DataW H} {ps : List MemPlace} (hv : Value.okWide Try.prog w r b0 51 v) (h : DataW.Trod enc Try.prog w base sp held 51 v dd ps) :
    ∃ (k : Int) (e : Nat) (b : ByteArray), (Lit.int .i64 k).wf = true ∧ e ≤ 18446744073709551615 ∧ b.size ≤ maxLen ∧ v = .agg #[.int .i64 k, .int .u64 (e : Int), .string b] := by
  obtain ⟨cs, rfl, hsz⟩ := okWide_struct Try.underlying51 hv
  obtain ⟨f, h⟩ := h
  obtain ⟨k, e, b, hk, he, hb, ec⟩ := trod_fr h
  have e' : cs = #[.int .i64 k, .int .u64 (e : Int), .string b] := by
    have : cs.toList = [.int .i64 k, .int .u64 (e : Int), .string b] := ec
    exact Array.toList_inj.1 this
  exact ⟨k, e, b, hk, he, hb, by rw [e']⟩
end
end Go.Proofs.Ytlochpnifjmefaa
