/- word.Long of any text.; codec.Get, out of what codec.read answers.; What codec.read does, plainly: a stack of lists under way.; A stack of lists under way, as it lies in memory. -/
import Derived.Test.YtjfjliobencppaaGreatDoorJ00
import Derived.Test.YtjfjliobencppaaGreatDoorJ08
set_option linter.unusedVariables false
set_option linter.unusedSimpArgs false
namespace Go.Proofs.YtjfjliobencppaaGreatDoor
open Go.RowKit

/-- The number by sevens that a text begins with: it, of how many bytes, the error. -/
def lngA (acc j : Nat) : List UInt8 → Nat × Nat × Nat
  | [] => if j = 10 then (0, 0, 4) else (0, 0, 3)
  | c :: cs => if j = 10 then (0, 0, 4) else if 128 ≤ c.toNat then lngA (acc + 128 ^ j * (c.toNat % 128)) (j + 1) cs else if 0 < j ∧ c.toNat = 0 then (0, 0, 4) else if j = 9 ∧ 1 < c.toNat then (0, 0, 4) else (acc + 128 ^ j * c.toNat, j + 1, 0)

/-- At 'next', j bytes read. -/
def LongK (s : ByteArray) (R : Nat × Nat × Nat) (w : World) (a' : Act) (w' : World) : Prop :=
  w' = w ∧ ∃ (j acc : Nat) (z : Int) (u1 u2 u3 u4 u7 u8 u9 u10 u11 u12 u13 u14 u15 u16 u17 u18 u19 u20 u21 u22 u23 u24 u25 u26 u27 u28 u29 u30 u31 u32 u33 u34 u35 u36 u37 u38 u39 u40 u41 u42 : Value),
    a' = { tmps := #[.string s, u1, u2, u3, u4, .int .u64 z, .int .i64 j, u7, u8, u9, u10, u11, u12, u13, u14, u15, u16, u17, u18, u19, u20, u21, u22, u23, u24, u25, u26, u27, u28, u29, u30, u31, u32, u33, u34, u35, u36, u37, u38, u39, u40, u41, u42], defers := [] } ∧
    1 ≤ j ∧ j ≤ 10 ∧ j ≤ s.size ∧ (j ≤ 9 → z = (acc : Int) ∧ acc < 128 ^ j) ∧ lngA acc j (s.data.toList.drop j) = R

def lonV (R : Nat × Nat × Nat) : Value := .tuple #[.int .u64 (R.1 : Int), .int .i64 (R.2.1 : Int), .int .i64 (R.2.2 : Int)]
end Go.Proofs.YtjfjliobencppaaGreatDoor

namespace Go.Proofs.YtjfjliobencppaaGreatDoor
open Go.RowKit

/-- A value, a rest, an error. -/
def crV (a b c d : Value) (r : ByteArray) (e : Nat) : Value := .tuple #[.agg #[a, b, c, d], .string r, .int .i64 (e : Int)]
def cgV (a b c d : Value) (e : Nat) : Value := .tuple #[.agg #[a, b, c, d], .int .i64 (e : Int)]
/-- The zero value's box, at the head of what is new. -/
def Zx (w wz : World) : Prop := wz.heap[w.heap.size]? = some (.cells #[.int .i64 0, .int .u64 0, .string ⟨#[]⟩, .slice none 0 0] 69 (0, 0)) ∧ Below w.heap.size w wz
end Go.Proofs.YtjfjliobencppaaGreatDoor

namespace Go.Proofs.YtjfjliobencppaaGreatDoor
open Go.RowKit

def t0 : Tr := .mk 0 0 ⟨#[]⟩ []
/-- Where it stands: at a value's beginning, behind a value, with a value in hand. -/
inductive Md where
  | v : Md
  | n : Md
  | w : Tr → Md
def Md.rk : Md → Nat
  | .v => 0
  | .n => 1
  | .w _ => 2
def rd (m : Md) (st : List (Nat × List Tr)) (s : List UInt8) : Nat × Tr × List UInt8 :=
  match m, st, s with
  | .v, _, [] => (3, t0, [])
  | .v, st, k :: s1 =>
    if k.toNat < 1 ∨ 3 < k.toNat then (10, t0, [])
    else if (lngA 0 0 s1).2.2 ≠ 0 then ((lngA 0 0 s1).2.2, t0, [])
    else if k.toNat = 1 then rd (.w (.mk 1 (lngA 0 0 s1).1 ⟨#[]⟩ [])) st (s1.drop (lngA 0 0 s1).2.1)
    else if k.toNat = 2 then
      if (s1.drop (lngA 0 0 s1).2.1).length < (lngA 0 0 s1).1 then (3, t0, [])
      else rd (.w (.mk 2 0 (str ((s1.drop (lngA 0 0 s1).2.1).take (lngA 0 0 s1).1)) [])) st ((s1.drop (lngA 0 0 s1).2.1).drop (lngA 0 0 s1).1)
    else if st.length = 6 then (8, t0, [])
    else rd .n (((lngA 0 0 s1).1, []) :: st) (s1.drop (lngA 0 0 s1).2.1)
  | .n, [], _ => (0, t0, [])
  | .n, (0, h) :: st, s => rd (.w (.mk 3 0 ⟨#[]⟩ h)) st s
  | .n, (k + 1, h) :: st, s => rd .v ((k + 1, h) :: st) s
  | .w t, [], s => (0, t, s)
  | .w t, (k, h) :: st, s => rd .n ((k - 1, h ++ [t]) :: st) s
termination_by (s.length, st.length, m.rk)
decreasing_by
  all_goals simp_wf
  all_goals first
    | (apply Prod.Lex.left; (try simp only [List.length_drop]); omega)
    | (apply Prod.Lex.right; apply Prod.Lex.left; simp; done)
    | (apply Prod.Lex.right; apply Prod.Lex.right; simp [Md.rk]; done)

mutual
/-- Numbers, texts and lists that a machine holds. -/
def okT : Tr → Prop
  | .mk _ n s l => n ≤ 18446744073709551615 ∧ s.size ≤ 1000000000 ∧ l.length ≤ 1000000 ∧ okL l
def okL : List Tr → Prop
  | [] => True
  | t :: ts => okT t ∧ okL ts
end
end Go.Proofs.YtjfjliobencppaaGreatDoor

namespace Go.Proofs.YtjfjliobencppaaGreatDoor
open Go.RowKit

/-- A row of lists under way, of two cells each. -/
def SRow (T : TypeId) (ρ : Option Nat) (o : Option Addr) (cap n : Nat) (xs : List Value) (w : World) : Prop :=
  xs.length = n * 2 ∧ ((o = none ∧ cap = 0 ∧ ρ = none ∧ n = 0) ∨ ∃ (r : Nat) (cur : Array Value), ρ = some r ∧ o = some ⟨r, 0, none⟩ ∧ w.heap[r]? = some (.cells cur T (0, 0)) ∧ n ≤ cap ∧ cap ≤ maxLen ∧ cur.size = cap * 2 ∧ cur.toList.take (n * 2) = xs)
/-- A list under way: how many values are to come; those that it has, where they lie. -/
structure Ent where
  left : Nat
  hv : List Tr
  ρ : Option Nat
  oo : Option Addr
  cap : Nat
  xs : List Value
def Ent.cells (e : Ent) : List Value := [.int .u64 (e.left : Int), .slice e.oo e.hv.length e.cap]
def entL (L : List Ent) : List Value := L.flatMap Ent.cells
/-- The blocks that are nobody's of those. -/
def Own (B : Nat) (sρ : Option Nat) (L : List Ent) (b : Nat) : Prop := B ≤ b ∧ sρ ≠ some b ∧ ∀ e ∈ L, e.ρ ≠ some b
/-- The values that a row's cells hold. -/
def Elts (wz : World) (P : Nat → Prop) (xs : List Value) (l : List Tr) : Prop := ∀ j (h : j < l.length), ∃ d0 d1 d2 d3, xs[j * 4]? = some d0 ∧ xs[j * 4 + 1]? = some d1 ∧ xs[j * 4 + 2]? = some d2 ∧ xs[j * 4 + 3]? = some d3 ∧ VInP wz P l[j] d0 d1 d2 d3
/-- The stack. -/
structure StW (B : Nat) (sρ : Option Nat) (so : Option Addr) (scap : Nat) (L : List Ent) (wz : World) : Prop where
  row : SRow 169 sρ so scap L.length (entL L) wz
  lo : ∀ r, sρ = some r → B ≤ r
  vrow : ∀ e ∈ L, VRow 69 e.ρ e.oo e.cap e.hv.length e.xs wz
  elo : ∀ e ∈ L, ∀ r, e.ρ = some r → B ≤ r ∧ sρ ≠ some r
  elts : ∀ e ∈ L, Elts wz (Own B sρ L) e.xs e.hv
  dis : L.Pairwise (fun e f => ∀ r, e.ρ = some r → f.ρ ≠ some r)
end Go.Proofs.YtjfjliobencppaaGreatDoor
