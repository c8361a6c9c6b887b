/- SHA-256's constants, plainly: the first primes, and roots of them bit by bit. -/
import Derived.KernelRfl
namespace Go.Proofs.Ytfakkbjnapelfaa.Dg

def hiU : Nat → Nat → Nat → Nat → Nat
  | 0, _, u, _ => u
  | k + 1, r, u, l => hiU k r ((u * r + l * r / 18446744073709551616) % 18446744073709551616) (l * r % 18446744073709551616)
/-- The higher half of a number to a power. -/
def high (r d : Nat) : Nat := hiU d r 0 1
/-- The bits from the k-th down to the lowest, one by one. -/
def rootL : Nat → Nat → Nat → Nat → Nat
  | 0, most, d, r => if high (r ||| 1) d < most then r ||| 1 else r
  | k + 1, most, d, r => rootL k most d (if high (r ||| 2 ^ (k + 1)) d < most then r ||| 2 ^ (k + 1) else r)
def root (p d : Nat) : Nat := rootL 34 (p * 2 ^ (32 * d - 64)) d 0 % 4294967296
def divB (n : Nat) (l : List Nat) : Bool := l.any fun p => n % p == 0
/-- The primes up to k + 1. -/
def upto : Nat → List Nat
  | 0 => []
  | k + 1 => if divB (k + 2) (upto k) then upto k else upto k ++ [k + 2]
def KS : List Nat := [
  0x428a2f98, 0x71374491, 0xb5c0fbcf, 0xe9b5dba5, 0x3956c25b, 0x59f111f1, 0x923f82a4, 0xab1c5ed5,
  0xd807aa98, 0x12835b01, 0x243185be, 0x550c7dc3, 0x72be5d74, 0x80deb1fe, 0x9bdc06a7, 0xc19bf174,
  0xe49b69c1, 0xefbe4786, 0x0fc19dc6, 0x240ca1cc, 0x2de92c6f, 0x4a7484aa, 0x5cb0a9dc, 0x76f988da,
  0x983e5152, 0xa831c66d, 0xb00327c8, 0xbf597fc7, 0xc6e00bf3, 0xd5a79147, 0x06ca6351, 0x14292967,
  0x27b70a85, 0x2e1b2138, 0x4d2c6dfc, 0x53380d13, 0x650a7354, 0x766a0abb, 0x81c2c92e, 0x92722c85,
  0xa2bfe8a1, 0xa81a664b, 0xc24b8b70, 0xc76c51a3, 0xd192e819, 0xd6990624, 0xf40e3585, 0x106aa070,
  0x19a4c116, 0x1e376c08, 0x2748774c, 0x34b0bcb5, 0x391c0cb3, 0x4ed8aa4a, 0x5b9cca4f, 0x682e6ff3,
  0x748f82ee, 0x78a5636f, 0x84c87814, 0x8cc70208, 0x90befffa, 0xa4506ceb, 0xbef9a3f7, 0xc67178f2]
def HS : List Nat := [0x6a09e667, 0xbb67ae85, 0x3c6ef372, 0xa54ff53a, 0x510e527f, 0x9b05688c, 0x1f83d9ab, 0x5be0cd19]
theorem upto_64 : (upto 309).length = 63 ∧ (upto 310).length = 64 := by decide +kernel
theorem upto_8 : (upto 17).length = 7 ∧ (upto 18).length = 8 := by decide +kernel
theorem keys_are : (upto 310).map (fun p => root p 3) = KS := by decide +kernel
theorem start_is : (upto 18).map (fun p => root p 2) = HS := by decide +kernel
theorem upto_bd : ∀ k, ∀ p ∈ upto k, 2 ≤ p ∧ p ≤ k + 1
  | 0, p, h => by simp [upto] at h
  | k + 1, p, h => by
    unfold upto at h
    split at h
    · have := upto_bd k p h; omega
    · rcases List.mem_append.1 h with h | h
      · have := upto_bd k p h; omega
      · simp at h; omega
theorem upto_succ (k : Nat) : upto (k + 1) = if divB (k + 2) (upto k) then upto k else upto k ++ [k + 2] := rfl
theorem upto_mono (k : Nat) : ∀ j, (upto k).length ≤ (upto (k + j)).length
  | 0 => Nat.le_refl _
  | j + 1 => by
    have := upto_mono k j
    rw [show k + (j + 1) = (k + j) + 1 by omega, upto_succ (k + j)]
    split
    · exact this
    · rw [List.length_append]; omega
/-- How many primes there are up to a number. -/
theorem upto_lt {K n : Nat} (h : (upto K).length < n) {k : Nat} (hk : k ≤ K) : (upto k).length < n := by
  have := upto_mono k (K - k)
  rw [show k + (K - k) = K by omega] at this
  omega
end Go.Proofs.Ytfakkbjnapelfaa.Dg
