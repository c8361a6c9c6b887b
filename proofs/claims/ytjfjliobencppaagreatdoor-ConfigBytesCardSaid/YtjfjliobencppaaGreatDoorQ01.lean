/- YtjfjliobencppaaGreatDoorK; YtjfjliobencppaaGreatDoorL; YtjfjliobencppaaGreatDoorH; YtjfjliobencppaaGreatDoorM; YtjfjliobencppaaGreatDoorN; YtjfjliobencppaaGreatDoorO; YtjfjliobencppaaGreatDoorQ -/
import Derived.Laws.BitsAllLaws
import Derived.Test.YtjfjliobencppaaGreatDoorQ00
set_option linter.unusedVariables false
set_option linter.unusedSimpArgs false
namespace Go.Proofs.YtjfjliobencppaaGreatDoor

/-- The CRC's polynomial. -/
def poly : Nat := 2197175160
/-- One bit of the register. -/
def bit (n : Nat) : Nat := if n % 2 = 1 then n / 2 ^^^ poly else n / 2
/-- So many bits. -/
def bitN : Nat → Nat → Nat
  | 0, n => n
  | k + 1, n => bitN k (bit n)
/-- One byte. -/
def stepN (n c : Nat) : Nat := bitN 8 (n ^^^ c)
/-- Bytes, one behind the other. -/
def runN (n : Nat) (l : List UInt8) : Nat := l.foldl (fun n c => stepN n c.toNat) n

/-! ### The quick sum -/
def quickStep (n c : Nat) : Nat := (n ^^^ c) * 1099511628211 % 18446744073709551616
def quickRun (n : Nat) (l : List UInt8) : Nat := l.foldl (fun n c => quickStep n c.toNat) n
end Go.Proofs.YtjfjliobencppaaGreatDoor

namespace Go.Proofs.YtjfjliobencppaaGreatDoor
open Go.RowKit

/-- What holds at each jump back. -/
def StepJ (N c : Nat) (w : World) (a' : Act) (w' : World) : Prop :=
  w = w' ∧ ∃ (m i : Nat) (u2 u3 u4 u6 u7 u8 u9 u10 u11 u12 u13 u14 u15 u16 u17 u18 u19 u20 u21 u22 : Value), a' = { tmps := #[.int .u32 m, .int .u8 c, u2, u3, u4, .int .i64 i, u6, u7, u8, u9, u10, u11, u12, u13, u14, u15, u16, u17, u18, u19, u20, u21, u22], defers := [] } ∧ m < 4294967296 ∧ i ≤ 7 ∧ bitN (8 - i) m = N

end Go.Proofs.YtjfjliobencppaaGreatDoor

namespace Go.Proofs.YtjfjliobencppaaGreatDoor
open Go.RowKit

/-- The number of a list of bytes, the highest first. -/
def gt (l : List UInt8) : Nat := l.foldl (fun n c => n * 256 + c.toNat) 0
end Go.Proofs.YtjfjliobencppaaGreatDoor

namespace Go.Proofs.YtjfjliobencppaaGreatDoor
open Go.RowKit

/-- The bytes of parts, one behind the other. -/
def flat (ps : List ByteArray) : List UInt8 := ps.flatMap fun p => p.data.toList
/-- A slice of strings, by its cells. -/
def Parts (w : World) (g : Nat) (ps : List ByteArray) : Prop :=
  ∀ j, j < ps.length → w.cell? ⟨g, j, none⟩ = some (.string (ps.getD j ByteArray.empty))

/-- The register at the start of a sum. -/
def crc0 (l : List UInt8) : Nat := runN 4294967295 l
end Go.Proofs.YtjfjliobencppaaGreatDoor

namespace Go.Proofs.YtjfjliobencppaaGreatDoor
open Go.RowKit

end Go.Proofs.YtjfjliobencppaaGreatDoor

namespace Go.Proofs.YtjfjliobencppaaGreatDoor
open Go.RowKit

/-- The CRC of a list of bytes. -/
def crcV (l : List UInt8) : Nat := 4294967295 - crc0 l
theorem cell_new (w : World) (cs : Array Value) (t : TypeId) (j : Nat) : (w.alloc (.cells cs t)).cell? ⟨w.heap.size, j, none⟩ = cs[j]? := World.cell?_alloc_new w cs t j

end Go.Proofs.YtjfjliobencppaaGreatDoor

namespace Go.Proofs.YtjfjliobencppaaGreatDoor
open Go.RowKit

/-- The bytes turned about. -/
def revN (x : Nat) : Nat := 65536 * (256 * (x % 256) + x / 256 % 256) + (256 * (x / 65536 % 256) + x / 16777216)

/-- A number of 32 bits as bytes, the lowest first. -/
def le4 (n : Nat) : List UInt8 := [UInt8.ofNat n, UInt8.ofNat (n / 256), UInt8.ofNat (n / 65536), UInt8.ofNat (n / 16777216)]
end Go.Proofs.YtjfjliobencppaaGreatDoor
