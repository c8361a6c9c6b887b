/- codec.read: a list begins.; codec.read of any text.; codec.Get and codec.Next of any text; of a text that Put has written.; config: what is written alike is the same.; config: two configs whose bytes are the same are the same.; config: ConfigApart, over awake. -/
import Derived.Test.YtjfjliobencppaaGreatDoorJ18
import Derived.Test.YtjfjliobencppaaGreatDoorJ11
set_option linter.unusedVariables false
set_option linter.unusedSimpArgs false
namespace Go.Proofs.YtjfjliobencppaaGreatDoor
open Go.RowKit

end Go.Proofs.YtjfjliobencppaaGreatDoor

namespace Go.Proofs.YtjfjliobencppaaGreatDoor
open Go.RowKit

/-- What read answers of a text. -/
def rdA (s : ByteArray) : Nat × Tr × List UInt8 := if 8192 < s.size then (5, t0, []) else rd .v [] s.data.toList
end Go.Proofs.YtjfjliobencppaaGreatDoor

namespace Go.Proofs.YtjfjliobencppaaGreatDoor
open Go.RowKit

/-- What Get answers: the error, the value. -/
def getC (s : ByteArray) : Nat := if (rdA s).1 ≠ 0 then (rdA s).1 else if 0 < (rdA s).2.2.length then 4 else 0
def getT (s : ByteArray) : Tr := if getC s = 0 then (rdA s).2.1 else t0
theorem str_size (l : List UInt8) : (str l).size = l.length := by simp [str, ByteArray.size]
end Go.Proofs.YtjfjliobencppaaGreatDoor

namespace Go.Proofs.YtjfjliobencppaaGreatDoor.Cf
open Go.RowKit

theorem map_inj_on {α β : Type} {f : α → β} {P : α → Prop} (hf : ∀ a b, P a → P b → f a = f b → a = b) : ∀ {l l' : List α}, (∀ a ∈ l, P a) → (∀ a ∈ l', P a) → l.map f = l'.map f → l = l'
  | [], [], _, _, _ => rfl
  | [], _ :: _, _, _, h => by cases h
  | _ :: _, [], _, _, h => by cases h
  | a :: l, b :: l', h1, h2, h => by
    simp only [List.map_cons, List.cons.injEq] at h
    rw [hf a b (h1 a (List.mem_cons_self ..)) (h2 b (List.mem_cons_self ..)) h.1, map_inj_on hf (fun x hx => h1 x (List.mem_cons_of_mem _ hx)) (fun x hx => h2 x (List.mem_cons_of_mem _ hx)) h.2]
theorem str_inj {a b : List UInt8} (h : str a = str b) : a = b := by
  have := congrArg ByteArray.toList h
  rwa [show (str a).toList = a from ByteArray.toList_mk a, show (str b).toList = b from ByteArray.toList_mk b] at this
theorem byte_inj {a b : Nat} (ha : a ≤ 255) (hb : b ≤ 255) (h : UInt8.ofNat a = UInt8.ofNat b) : a = b := by
  have := congrArg UInt8.toNat h
  simp at this; omega
theorem Pl.inj {p q : Pl} (hp : p.ok) (hq : q.ok) (h : p.bytes = q.bytes) : p = q := by
  obtain ⟨a, b, c, d, n⟩ := p
  obtain ⟨a', b', c', d', n'⟩ := q
  obtain ⟨h1, h2, h3, h4, h5⟩ := hp
  obtain ⟨g1, g2, g3, g4, g5⟩ := hq
  simp only at h1 h2 h3 h4 h5 g1 g2 g3 g4 g5
  simp only [Pl.bytes, List.cons_append, List.nil_append, List.cons.injEq] at h
  obtain ⟨e1, e2, e3, e4, e5⟩ := h
  obtain rfl := byte_inj h1 g1 e1
  obtain rfl := byte_inj h2 g2 e2
  obtain rfl := byte_inj h3 g3 e3
  obtain rfl := byte_inj h4 g4 e4
  have : n = n' := by
    simp only [be, List.cons.injEq, and_true, Nat.pow_one, Nat.pow_zero, Nat.div_one] at e5
    have k1 := congrArg UInt8.toNat e5.1
    have k2 := congrArg UInt8.toNat e5.2
    simp only [UInt8.toNat_ofNat', Nat.reducePow] at k1 k2
    omega
  rw [this]
theorem Rt.inj {r s : Rt} (h : r.tr = s.tr) : r = s := by
  obtain ⟨a, b, c, d⟩ := r
  obtain ⟨a', b', c', d'⟩ := s
  simp [Rt.tr, rowT, strT, numT] at h
  simp [h]
theorem Ls.inj {r s : Ls} (h1 : r.p.ok) (h2 : s.p.ok) (h : r.tr = s.tr) : r = s := by
  obtain ⟨n, p, l⟩ := r
  obtain ⟨n', p', l'⟩ := s
  simp only [Ls.tr, rowT, strT, numT, Tr.mk.injEq, List.cons.injEq, and_true, true_and] at h
  obtain ⟨e1, e2, e3⟩ := h
  have k2 : p = p' := Pl.inj h1 h2 (str_inj e2)
  have k3 : l = l' := map_inj_on (P := fun _ => True) (fun a b _ _ => Rt.inj) (fun _ _ => trivial) (fun _ _ => trivial) e3
  rw [e1, k2, k3]
/-- What a machine's config keeps to, where none of its weights is below 0. -/
def Co.wf (c : Co) : Prop := (∀ l ∈ c.l, l.p.ok) ∧ ∀ x ∈ c.c, ∀ e ∈ x.e, e.p.ok ∧ 0 ≤ e.w
end Go.Proofs.YtjfjliobencppaaGreatDoor.Cf

namespace Go.Proofs.YtjfjliobencppaaGreatDoor.Cf
open Go.RowKit

/-- What a config in memory keeps to. -/
def Co.held (c : Co) : Prop := c.v ≤ 18446744073709551615 ∧ (∀ l ∈ c.l, l.p.ok ∧ ∀ r ∈ l.r, r.idle ≤ 18446744073709551615) ∧ ∀ x ∈ c.c, ∀ e ∈ x.e, e.ok
theorem Rw.all {α : Type} {k : Nat} {R : World → List Value → α → Prop} {w : World} {v : Value} {l : List α} (h : Rw k R w v l) {P : α → Prop} (hP : ∀ cs a, R w cs a → P a) : ∀ a ∈ l, P a := by
  intro a ha
  obtain ⟨i, hi, rfl⟩ := List.getElem_of_mem ha
  obtain ⟨o, cap, b, off, _, _, hE⟩ := h
  obtain ⟨cs, _, hR⟩ := hE i hi
  exact hP cs _ hR
theorem CoIn.held {w : World} {c0 c1 c2 : Value} {c : Co} (h : CoIn w c0 c1 c2 c) : c.held :=
  ⟨h.2.1, h.2.2.1.all (fun cs l hl => by
    obtain ⟨v, _, _, hp, hR⟩ := hl
    exact ⟨hp, hR.all fun cs r hr => hr.2.2.2.2⟩), h.2.2.2.all (fun cs x hx => by
    obtain ⟨v, _, _, hR⟩ := hx
    exact hR.all fun cs e he => he.2)⟩
end Go.Proofs.YtjfjliobencppaaGreatDoor.Cf

namespace Go.Proofs.YtjfjliobencppaaGreatDoor.Cf
open Go.RowKit

end Go.Proofs.YtjfjliobencppaaGreatDoor.Cf
