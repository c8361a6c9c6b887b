/- codec.read: what holds at its labels; with a value in hand. -/
import Derived.Test.YtjfjliobencppaaGreatDoorJ14
set_option linter.unusedVariables false
set_option linter.unusedSimpArgs false
namespace Go.Proofs.YtjfjliobencppaaGreatDoor
open Go.RowKit

def scopeIn : Code → Option Code
  | .scope c => some c
  | .seq a b => match scopeIn a with
    | some c => some c
    | none => scopeIn b
  | .block _ c => scopeIn c
  | _ => none
noncomputable def labC (l : Nat) : Code := (((Tryz.f71.body.bind scopeIn).bind fun c => findLabel c l).getD .skip)
noncomputable def labT (l : Nat) : Code := match labC l with
  | .seq _ c => c
  | c => c

def JV (w : World) (A : Nat × Tr × List UInt8) (n : Nat) (a : Act) (wz : World) : Prop :=
  ∃ (u : Nat → Value) (sρ : Option Nat) (so : Option Addr) (scap : Nat) (L : List Ent) (s : ByteArray) (k0 : Int) (n0 : Nat) (s0 : ByteArray) (o0 : Option Addr) (l0 p0 : Nat), a = ⟨List.toArray (u 0 :: .pointer (some ⟨w.heap.size, 0, none⟩) :: .pointer (some ⟨w.heap.size + 1, 0, none⟩) :: .string ⟨#[]⟩ :: .int .i64 0 :: .pointer (some ⟨w.heap.size + 2, 0, none⟩) :: .pointer (some ⟨w.heap.size + 3, 0, none⟩) :: u 7 :: u 8 :: u 9 :: u 10 :: .func (Fn.func 104) #[] #[.pointer (some ⟨w.heap.size, 0, none⟩)] :: .func (Fn.func 105) #[] #[.pointer (some ⟨w.heap.size + 2, 0, none⟩)] :: u 13 :: u 14 :: u 15 :: u 16 :: u 17 :: u 18 :: u 19 :: u 20 :: u 21 :: u 22 :: u 23 :: u 24 :: u 25 :: u 26 :: u 27 :: u 28 :: u 29 :: u 30 :: u 31 :: u 32 :: u 33 :: u 34 :: u 35 :: u 36 :: u 37 :: u 38 :: u 39 :: u 40 :: u 41 :: u 42 :: u 43 :: u 44 :: u 45 :: u 46 :: u 47 :: u 48 :: u 49 :: u 50 :: u 51 :: u 52 :: u 53 :: u 54 :: u 55 :: u 56 :: u 57 :: u 58 :: u 59 :: u 60 :: u 61 :: u 62 :: u 63 :: u 64 :: u 65 :: u 66 :: u 67 :: u 68 :: u 69 :: u 70 :: u 71 :: u 72 :: u 73 :: u 74 :: u 75 :: u 76 :: u 77 :: u 78 :: u 79 :: u 80 :: u 81 :: u 82 :: u 83 :: u 84 :: u 85 :: u 86 :: u 87 :: u 88 :: u 89 :: u 90 :: u 91 :: u 92 :: u 93 :: u 94 :: u 95 :: u 96 :: u 97 :: u 98 :: List.nil), []⟩ ∧ Hid (RdW w sρ so scap L s k0 n0 s0 o0 l0 p0 wz) ∧
    Hid (L.length ≤ 6 ∧ s.size ≤ 8192 ∧ (∀ e ∈ L, e.left ≤ 18446744073709551615 ∧ 1 ≤ e.left ∧ e.hv.length + s.size ≤ 8192) ∧ rd .v (stk L) s.data.toList = A ∧ n = s.size * 100 + L.length * 10)
def JN (w : World) (A : Nat × Tr × List UInt8) (n : Nat) (a : Act) (wz : World) : Prop :=
  ∃ (u : Nat → Value) (sρ : Option Nat) (so : Option Addr) (scap : Nat) (L : List Ent) (s : ByteArray) (k0 : Int) (n0 : Nat) (s0 : ByteArray) (o0 : Option Addr) (l0 p0 : Nat) (e : Ent), a = ⟨List.toArray (u 0 :: .pointer (some ⟨w.heap.size, 0, none⟩) :: .pointer (some ⟨w.heap.size + 1, 0, none⟩) :: .string ⟨#[]⟩ :: .int .i64 0 :: .pointer (some ⟨w.heap.size + 2, 0, none⟩) :: .pointer (some ⟨w.heap.size + 3, 0, none⟩) :: u 7 :: u 8 :: u 9 :: u 10 :: .func (Fn.func 104) #[] #[.pointer (some ⟨w.heap.size, 0, none⟩)] :: .func (Fn.func 105) #[] #[.pointer (some ⟨w.heap.size + 2, 0, none⟩)] :: u 13 :: u 14 :: u 15 :: u 16 :: u 17 :: u 18 :: u 19 :: u 20 :: u 21 :: u 22 :: u 23 :: u 24 :: u 25 :: u 26 :: u 27 :: u 28 :: u 29 :: u 30 :: u 31 :: u 32 :: u 33 :: u 34 :: u 35 :: u 36 :: u 37 :: u 38 :: u 39 :: u 40 :: u 41 :: u 42 :: u 43 :: u 44 :: u 45 :: u 46 :: u 47 :: u 48 :: u 49 :: u 50 :: u 51 :: u 52 :: u 53 :: u 54 :: u 55 :: u 56 :: u 57 :: u 58 :: u 59 :: u 60 :: u 61 :: u 62 :: u 63 :: u 64 :: u 65 :: u 66 :: u 67 :: u 68 :: u 69 :: u 70 :: u 71 :: u 72 :: u 73 :: u 74 :: u 75 :: u 76 :: u 77 :: u 78 :: u 79 :: u 80 :: u 81 :: u 82 :: u 83 :: u 84 :: u 85 :: u 86 :: u 87 :: u 88 :: u 89 :: u 90 :: u 91 :: u 92 :: u 93 :: u 94 :: u 95 :: u 96 :: u 97 :: u 98 :: List.nil), []⟩ ∧ Hid (RdW w sρ so scap (L ++ [e]) s k0 n0 s0 o0 l0 p0 wz) ∧
    Hid (L.length ≤ 5 ∧ s.size ≤ 8192 ∧ (∀ f ∈ L, f.left ≤ 18446744073709551615 ∧ 1 ≤ f.left ∧ f.hv.length + s.size + 1 ≤ 8192) ∧ e.left ≤ 18446744073709551615 ∧ e.hv.length + s.size ≤ 8192 ∧ rd .n (stk (L ++ [e])) s.data.toList = A ∧ n = s.size * 100 + L.length * 10 + 11)
def JW (w : World) (A : Nat × Tr × List UInt8) (n : Nat) (a : Act) (wz : World) : Prop :=
  ∃ (u : Nat → Value) (sρ : Option Nat) (so : Option Addr) (scap : Nat) (L : List Ent) (s : ByteArray) (k0 : Int) (n0 : Nat) (s0 : ByteArray) (o0 : Option Addr) (l0 p0 : Nat) (t : Tr), a = ⟨List.toArray (u 0 :: .pointer (some ⟨w.heap.size, 0, none⟩) :: .pointer (some ⟨w.heap.size + 1, 0, none⟩) :: .string ⟨#[]⟩ :: .int .i64 0 :: .pointer (some ⟨w.heap.size + 2, 0, none⟩) :: .pointer (some ⟨w.heap.size + 3, 0, none⟩) :: u 7 :: u 8 :: u 9 :: u 10 :: .func (Fn.func 104) #[] #[.pointer (some ⟨w.heap.size, 0, none⟩)] :: .func (Fn.func 105) #[] #[.pointer (some ⟨w.heap.size + 2, 0, none⟩)] :: u 13 :: u 14 :: u 15 :: u 16 :: u 17 :: u 18 :: u 19 :: u 20 :: u 21 :: u 22 :: u 23 :: u 24 :: u 25 :: u 26 :: u 27 :: u 28 :: u 29 :: u 30 :: u 31 :: u 32 :: u 33 :: u 34 :: u 35 :: u 36 :: u 37 :: u 38 :: u 39 :: u 40 :: u 41 :: u 42 :: u 43 :: u 44 :: u 45 :: u 46 :: u 47 :: u 48 :: u 49 :: u 50 :: u 51 :: u 52 :: u 53 :: u 54 :: u 55 :: u 56 :: u 57 :: u 58 :: u 59 :: u 60 :: u 61 :: u 62 :: u 63 :: u 64 :: u 65 :: u 66 :: u 67 :: u 68 :: u 69 :: u 70 :: u 71 :: u 72 :: u 73 :: u 74 :: u 75 :: u 76 :: u 77 :: u 78 :: u 79 :: u 80 :: u 81 :: u 82 :: u 83 :: u 84 :: u 85 :: u 86 :: u 87 :: u 88 :: u 89 :: u 90 :: u 91 :: u 92 :: u 93 :: u 94 :: u 95 :: u 96 :: u 97 :: u 98 :: List.nil), []⟩ ∧ Hid (RdW w sρ so scap L s k0 n0 s0 o0 l0 p0 wz) ∧ Hid (VInP wz (Own (w.heap.size + 4) sρ L) t (.int .i64 k0) (.int .u64 (n0 : Int)) (.string s0) (.slice o0 l0 p0)) ∧
    Hid (L.length ≤ 6 ∧ s.size ≤ 8192 ∧ (∀ f ∈ L, f.left ≤ 18446744073709551615 ∧ 1 ≤ f.left ∧ f.hv.length + s.size + 1 ≤ 8192) ∧ rd (.w t) (stk L) s.data.toList = A ∧ n = s.size * 100 + L.length * 10 + 2)
def JR (w : World) (A : Nat × Tr × List UInt8) (l n : Nat) (a : Act) (wz : World) : Prop := (l = 0 ∧ JV w A n a wz) ∨ (l = 2 ∧ JN w A n a wz) ∨ (l = 1 ∧ JW w A n a wz)
/-- What read answers. -/
def RdQ (w : World) (A : Nat × Tr × List UInt8) (e : Ending) (w' : World) : Prop := ∃ d0 d1 d2 d3, e = .returned (crV d0 d1 d2 d3 (str A.2.2) A.1) ∧ VInP w' (fun b => w.heap.size ≤ b) A.2.1 d0 d1 d2 d3 ∧ Below w.heap.size w w' ∧ (A.1 ≠ 0 → d0 = .int .i64 0 ∧ d1 = .int .u64 0 ∧ d2 = .string ⟨#[]⟩ ∧ d3 = .slice none 0 0)
end Go.Proofs.YtjfjliobencppaaGreatDoor
