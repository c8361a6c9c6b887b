/- Walks of digest.divided and digest.primes. -/
import Derived.Test.YtfakkbjnapelfaaDB
namespace Go.Proofs.Ytfakkbjnapelfaa.Dg
open Go.RowKit

def ucells (l : List Nat) : List Value := l.map fun p : Nat => .int .u64 (p : Int)

theorem divided_any (n : Nat) (l : List Nat) (hn : n < 1000000) (hl : ∀ p ∈ l, 2 ≤ p ∧ p ≤ 1000) (hlen : l.length ≤ 64) (at0 : Option Addr) (m cap g : Nat) (hm : m = l.length) (w : World)
    (hat : 0 < l.length → at0 = some ⟨g, 0, none⟩) (hc : ∀ k (h : k < l.length), w.cell? ⟨g, k, none⟩ = some (.int .u64 (l[k] : Int))) :
    Calls Try.prog 61 #[.int .u64 (n : Int), .slice at0 m cap] w fun e w' => e = .returned (.bool (divB n l)) ∧ w = w' := by
  subst hm
  obtain ⟨D, hD⟩ : ∃ D, divB n l = D := ⟨_, rfl⟩
  rw [hD]
  have HD := Lib.hid hD
  have HC := Lib.hid hc
  have HAT := Lib.hid hat
  have HL := Lib.hid hl
  clear hD hc hat hl
  go_enter Try.func61, Try.ntmps61
  go_wp2
  go_loop [9] (fun i => ∃ (k : Nat), k ≤ l.length ∧ i = .int .i64 k ∧ Hid (divB n (l.drop k) = D)) (fun i => l.length - (intOf i).toNat)
  case atStart => exact ⟨0, by omega, rfl, HD⟩
  case round =>
    obtain ⟨k, hk, rfl, hD⟩ := hrel
    by_cases hlt : k < l.length
    · have hcell := HC.out k hlt
      obtain rfl := HAT.out (by omega)
      have hin := HL.out l[k] (List.getElem_mem hlt)
      have hd := hD.out
      rw [List.drop_eq_getElem_cons hlt] at hd
      have hd2 : ((n % l[k] == 0) || divB n (l.drop (k + 1))) = D := hd
      generalize l[k] = p at *
      by_cases h : n % p = 0
      · have hz : ((n : Int) % (p : Int) == 0) = true := by rw [beq_iff_eq]; omega
        have HE : Hid (D = true) := Lib.hid (by rw [← hd2, h]; rfl)
        clear hd hd2 hD h
        go_wp2
        go_ret
        rw [HE.out]
        exact ⟨rfl, rfl⟩
      · have hz : ((n : Int) % (p : Int) == 0) = false := by rw [beq_eq_false_iff_ne]; omega
        have HE : Hid (divB n (l.drop (k + 1)) = D) := Lib.hid (by rw [← hd2, show (n % p == 0) = false from by rw [beq_eq_false_iff_ne]; exact h]; rfl)
        clear hd hd2 hD h
        go_wp2
        go_round
        case rel => exact ⟨k + 1, by omega, by go_num, HE⟩
        case measure => simp [intOf]; omega
    · have hd := hD.out
      rw [List.drop_of_length_le (by omega)] at hd
      have HE : Hid (D = false) := Lib.hid (by rw [← hd]; rfl)
      clear hd hD
      go_wp2
      go_ret
      rw [HE.out]
      exact ⟨rfl, rfl⟩

theorem Try.info87 : (Try.prog.info? 87).map (fun i => (i.zero, i.size, i.bytes)) = some (some (.int .u64 0), 1, 8) := by kernel_rfl
theorem ucells_snoc (l : List Nat) (p : Nat) : ucells l ++ [.int .u64 (p : Int)] = ucells (l ++ [p]) := by simp [ucells]
/-- 'l = append(l, p)' of one number, l nil or the call's own. -/
theorem wpList_append_u64 (W : World) {ops : Array Oper} {rest : List Oper} {o : Oper} {a : Act} {Q : Exit → Act → World → Prop} (hgd : o.guard = none) (s x : Operand)
    (ho : o.op = .call { callee := .builtin .append, args := #[s, x], argTypes := #[89, 89] })
    (B : Nat) (v : Value) (k : Nat) (l : List Nat) (hs : a.eval s = v) (hown : W.ownsRow B 87 1 v k (ucells l))
    (c : Int) (p : Nat) (hcp : c = (p : Int)) (hx : a.eval x = .slice (some ⟨W.heap.size, 0, none⟩) 1 1)
    (hk : k + 1 ≤ 1000) (hB : B ≤ W.heap.size)
    (h : ∀ v' w', w'.ownsRow B 87 1 v' (k + 1) (ucells (l ++ [p])) → Below B W w' → wpList Try.prog ops Q rest (a.put o.dst v') w') :
    wpList Try.prog ops Q (o :: rest) a (W.alloc (.cells #[.int .u64 c] 87)) := by
  subst hcp
  obtain ⟨i0, hi, hz0, hz1, hz2⟩ := info_parts Try.info87
  refine wpList_append_own _ hgd s x 89 ho B 87 i0 (.int .u64 0) 1 8 Try.underlying89 hi hz0 hz1 hz2 rfl (by decide) v k (ucells l) hs (hown.alloc _) ⟨W.heap.size, 0, none⟩ 1 1 [.int .u64 (p : Int)] hx rfl ?_ ?_ ?_ ?_ ?_ ?_
  · intro j u hj
    match j, hj with
    | 0, hj => simp at hj; subst hj; simp [Addr.add]
  · intro u hu; simp at hu; subst hu; rfl
  · unfold maxLen; omega
  · omega
  · simp; omega
  · intro v' w' h1 h2 _
    rw [ucells_snoc l p] at h1
    refine h v' w' h1 (((Below.refl B W).alloc hB _).grown h2 (by simp; omega) ?_)
    intro g hg
    exact (hown.lt g hg).1
/-- What is known of a row that the call owns, for those that read it. -/
theorem owns_read {B n : Nat} {v : Value} {l : List Nat} {wr : World} (h : wr.ownsRow B 87 1 v n (ucells l)) :
    ∃ (at0 : Option Addr) (cap g : Nat), v = .slice at0 n cap ∧ n = l.length ∧ (0 < l.length → at0 = some ⟨g, 0, none⟩) ∧ (∀ k (hk : k < l.length), wr.cell? ⟨g, k, none⟩ = some (.int .u64 (l[k] : Int))) ∧ (0 < l.length → B ≤ g) := by
  have hn : n = l.length := by have := h.1; simp [ucells] at this; omega
  rcases h.2 with ⟨rfl, h0⟩ | ⟨g, cap, cur, rfl, hbg, _⟩
  · exact ⟨none, 0, 0, by rw [h0], hn, fun h => by omega, fun k hk => by omega, fun h => by omega⟩
  · refine ⟨some ⟨g, 0, none⟩, cap, g, rfl, hn, fun _ => rfl, fun k hk => ?_, fun _ => hbg⟩
    rw [h.cellAt k (by omega)]
    unfold ucells
    rw [List.getElem?_map, List.getElem?_eq_getElem hk]; rfl

/-- The row of primes that a call gives. -/
def PrimesR (n K : Nat) (w : World) (e : Ending) (w' : World) : Prop :=
  ∃ v, e = .returned v ∧ w'.ownsRow w.heap.size 87 1 v n (ucells (upto (K + 1))) ∧ Below w.heap.size w w'

set_option maxRecDepth 1000000 in
theorem primes_any (n K : Nat) (hK : K ≤ 900) (h1 : (upto K).length + 1 = n) (h2 : (upto (K + 1)).length = n) (hn : n ≤ 64) (w : World) :
    Calls Try.prog 48 #[.int .i64 (n : Int)] w (PrimesR n K w) := by
  have HU : Hid (∀ k, k ≤ K → (upto k).length < n) := Lib.hid (fun k hk => upto_lt (K := K) (by omega) hk)
  have H2 := Lib.hid h2
  clear h1 h2
  go_enter Try.func48, Try.ntmps48
  go_wp2
  go_loopw [3, 4] (fun v q wr => ∃ (k m : Nat), k ≤ K + 1 ∧ q = .int .u64 ((k : Int) + 2) ∧ Hid (m = (upto k).length) ∧ Hid (wr.ownsRow w.heap.size 87 1 v m (ucells (upto k))) ∧ Hid (Below w.heap.size w wr)) (fun _ q _ => K + 3 - (intOf q).toNat)
  case atStart => exact ⟨0, 0, by omega, rfl, Lib.hid rfl, Lib.hid (World.ownsRow_nil w w.heap.size 87 1), Lib.hid (Below.refl _ _)⟩
  case round =>
    obtain ⟨k, m, hk, rfl, hm, hown, hb⟩ := hrel
    obtain ⟨at0, cap, g, rfl, -, hat, hc, -⟩ := owns_read hown.out
    have HAT := Lib.hid hat
    have HC := Lib.hid hc
    clear hat hc
    by_cases hlt : k ≤ K
    · have hmn : m < n := by rw [hm.out]; exact HU.out k hlt
      have hm64 : m ≤ 63 := by omega
      have KD : Hid (∀ wx, (∀ j (h : j < (upto k).length), wx.cell? ⟨g, j, none⟩ = some (.int .u64 ((upto k)[j] : Int))) → Calls Try.prog 61 #[.int .u64 ((k : Int) + 2), .slice at0 m cap] wx fun e w' => e = .returned (.bool (divB (k + 2) (upto k))) ∧ wx = w') := Lib.hid (fun wx hwx =>
        divided_any (k + 2) (upto k) (by omega) (fun p hp => by have := upto_bd k p hp; omega) (by rw [← hm.out]; omega) at0 m cap g hm.out wx HAT.out hwx)
      have hw3 : IntKind.u64.wrap ((k : Int) + 2 + 1) = (k : Int) + 2 + 1 := IntWalk.u64_in _ ⟨by omega, by omega⟩
      have hn' : n ≤ 64 := hn
      have hb0 := hb.out.size
      by_cases hdv : divB (k + 2) (upto k) = true
      · have hu : upto (k + 1) = upto k := by rw [upto_succ, if_pos hdv]
        have HM2 : Hid (m = (upto (k + 1)).length) := Lib.hid (by rw [hu]; exact hm.out)
        have HO2 : Hid (wr.ownsRow w.heap.size 87 1 (.slice at0 m cap) m (ucells (upto (k + 1)))) := Lib.hid (by rw [hu]; exact hown.out)
        rw [hdv] at KD
        clear hu hdv hown hm
        go_wp2_with ((go_at_call 61; ((with_reducible refine (KD.out _ HC.out).mono ?_); rintro e w1 ⟨rfl, rfl⟩)))
        go_roundw
        case rel => exact ⟨k + 1, m, by omega, by go_num, HM2, HO2, hb⟩
        case measure => simp [intOf]; omega
      · have hu : upto (k + 1) = upto k ++ [k + 2] := by rw [upto_succ, if_neg hdv]
        have hdf : divB (k + 2) (upto k) = false := by simpa using hdv
        have HM2 : Hid (m + 1 = (upto (k + 1)).length) := Lib.hid (by rw [hu, List.length_append, ← hm.out]; rfl)
        rw [hdf] at KD
        have HU2 := Lib.hid hu
        clear hu hdv hdf hm
        go_wp2_with (first
          | (go_at_call 61; ((with_reducible refine (KD.out _ HC.out).mono ?_); rintro e w1 ⟨rfl, rfl⟩))
          | (at_builtin; go_must (refine wpList_append_u64 wr rfl (.tmp 15) (.tmp 17) rfl w.heap.size (.slice at0 m cap) m (upto k) rfl hown.out _ (k + 2) (by omega) rfl (by omega) hb0 ?_); intro v' w' hown3 hb3))
        go_roundw
        case rel => exact ⟨k + 1, m + 1, by omega, by go_num, HM2, by rw [HU2.out]; exact Lib.hid hown3, Lib.hid (hb.out.trans hb3)⟩
        case measure => simp [intOf]; omega
    · obtain rfl : k = K + 1 := by omega
      obtain rfl : m = n := hm.out.trans H2.out
      clear hlt
      go_wp2
      go_ret
      exact ⟨_, rfl, hown.out, hb.out⟩
end Go.Proofs.Ytfakkbjnapelfaa.Dg
