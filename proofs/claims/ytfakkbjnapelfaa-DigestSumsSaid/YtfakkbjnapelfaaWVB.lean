/- The plain words of layer 1, bytes of numbers, and what the call's own bytes give as a string. -/
import Derived.Test.YtfakkbjnapelfaaRows
import Derived.WalkKit
import Derived.WalkLawsBesides
import Derived.Outline
import Derived.Laws.IdiomStrings
import Derived.Lib.Hide
import Derived.WalkSpells
import Derived.Deep.DeepCutAuto
import Derived.Deep.CutBlock
import Derived.Deep.QuietTactic
import Derived.BigQuiet
import Derived.Deep.RegionHeld3
import Derived.Deep.LoopGhost
import Derived.StillTailTactics
import Derived.Deep.RegionWith
import Derived.Deep.DeepFit
import Derived.Deep.Light
import Derived.Deep.RegionLaw
import Derived.Laws.Externs
namespace Go.Proofs.Ytfakkbjnapelfaa.W
open Go.RowKit

/-- The cells of a row of bytes. -/
def bcells (l : List UInt8) : List Value := l.map fun c => .int .u8 (c.toNat : Int)
/-- The string of a list of bytes. -/
def str (l : List UInt8) : ByteArray := ⟨l.toArray⟩

/-- A number by sevens of bits. -/
def sh (n : Nat) : List UInt8 := if h : 127 < n then UInt8.ofNat (n % 128 + 128) :: sh (n / 128) else [UInt8.ofNat n]
termination_by n
decreasing_by omega

theorem Try.info5 : (Try.prog.info? 5).map (fun i => (i.zero, i.size, i.bytes)) = some (some (.int .u8 0), 1, 1) := by kernel_rfl

theorem own_string {w : World} {B n : Nat} {v : Value} {l : List UInt8} (h : w.ownsRow B 5 1 v n (bcells l)) :
    (convert 46 9 v).run Try.prog w = .ok (.string (str l)) w := by
  have hlen : l.length = n := by have := h.1; simpa [bcells] using this
  rcases h.2 with ⟨rfl, hn⟩ | ⟨g, cap, cur, rfl, _⟩
  · have hl : l = [] := List.eq_nil_of_length_eq_zero (by omega)
    subst hl
    rw [run_convert_bytes_string w 46 9 5 none 0 0 Try.underlying46 Try.underlying5 Try.underlying9]; rfl
  · have h2 := run_convert_bytes_back (P := Try.prog) w 46 9 5 ⟨g, 0, none⟩ cap l Try.underlying46 Try.underlying5 Try.underlying9 (fun j hj => by
      have := h.cells (g := g) rfl j (.int .u8 (l[j].toNat : Int)) (by simp [bcells, hj])
      exact this)
    rw [hlen] at h2
    exact h2

theorem bcells_snoc (l : List UInt8) (n : Nat) (h : n < 256) : bcells l ++ [.int .u8 (n : Int)] = bcells (l ++ [UInt8.ofNat n]) := by
  simp [bcells, Nat.mod_eq_of_lt h]

/-- 'b = append(b, c)' of one byte, b nil or the call's own. -/
theorem wpList_append_byte (W : World) {ops : Array Oper} {rest : List Oper} {o : Oper} {a : Act} {Q : Exit → Act → World → Prop} (hgd : o.guard = none) (s x : Operand)
    (ho : o.op = .call { callee := .builtin .append, args := #[s, x], argTypes := #[46, 46] })
    (B : Nat) (v : Value) (k : Nat) (l : List UInt8) (hs : a.eval s = v) (hown : W.ownsRow B 5 1 v k (bcells l))
    (c : Int) (n : Nat) (hc : c = (n : Int)) (hn : n < 256) (hx : a.eval x = .slice (some ⟨W.heap.size, 0, none⟩) 1 1)
    (hk : k + 1 ≤ 140737488355328) (hB : B ≤ W.heap.size)
    (h : ∀ v' w', w'.ownsRow B 5 1 v' (k + 1) (bcells (l ++ [UInt8.ofNat n])) → Below B W w' → wpList Try.prog ops Q rest (a.put o.dst v') w') :
    wpList Try.prog ops Q (o :: rest) a (W.alloc (.cells #[.int .u8 c] 5)) := by
  subst hc
  obtain ⟨i0, hi, hz0, hz1, hz2⟩ := info_parts Try.info5
  refine wpList_append_own _ hgd s x 46 ho B 5 i0 (.int .u8 0) 1 1 Try.underlying46 hi hz0 hz1 hz2 rfl (by decide) v k (bcells l) hs (hown.alloc _) ⟨W.heap.size, 0, none⟩ 1 1 [.int .u8 (n : Int)] hx rfl ?_ ?_ ?_ ?_ ?_ ?_
  · intro j u hj
    match j, hj with
    | 0, hj => simp at hj; subst hj; simp [Addr.add]
  · intro u hu; simp at hu; subst hu; rfl
  · unfold maxLen; omega
  · omega
  · simp; omega
  · intro v' w' h1 h2 _
    rw [bcells_snoc l n hn] at h1
    refine h v' w' h1 ?_
    refine (((Below.refl B W).alloc hB _).grown h2 (by simp; omega) ?_)
    intro g hg
    exact (hown.lt g hg).1

/-- A pass that lowers the measure is a pass. -/
theorem jump_less {l : Nat} {J : Act → World → Prop} {R : Act → World → Prop} {Q : Exit → Act → World → Prop} (e : Exit) (a : Act) (w : World)
    (h : Exit.jump l (fun a' w' => J a' w' ∧ R a' w') Q e a w) : Exit.jump l J Q e a w := by
  cases e <;> first | exact h | exact ⟨h.1, h.2.1⟩
end Go.Proofs.Ytfakkbjnapelfaa.W
