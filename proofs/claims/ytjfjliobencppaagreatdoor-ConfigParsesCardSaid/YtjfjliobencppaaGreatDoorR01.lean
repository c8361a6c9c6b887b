/- YtjfjliobencppaaGreatDoorE; YtjfjliobencppaaGreatDoorK; YtjfjliobencppaaGreatDoorL; YtjfjliobencppaaGreatDoorH; YtjfjliobencppaaGreatDoorM; YtjfjliobencppaaGreatDoorN; YtjfjliobencppaaGreatDoorO -/
import Derived.Test.YtjfjliobencppaaGreatDoorR00
import Derived.Laws.BitsAllLaws
set_option linter.unusedVariables false
set_option linter.unusedSimpArgs false
namespace Go.Proofs.YtjfjliobencppaaGreatDoor
open Go.RowKit
theorem toList_str (l : List UInt8) : (str l).toList=l:=ByteArray.toList_mk l
theorem awake_any (w : World) : Calls Tryz.prog 122 #[] w fun e w' => e=.returned (.bool true)∧Below w.heap.size w w':=by
 have h1 : (str (sh 300)).toList=[172,2]:=by
  rw [toList_str,sh_more 300 (by omega),sh_last _ (by omega)]
  rfl
 have h2 : ((str (be 258 (clip 2))).toList == [1,2])=true:=by
  rw [toList_str]
  rfl
 go_enter Tryz.func122,Tryz.ntmps122
 go_wp2_with (first
  | (go_at_call 94; go_must (refine (short_any 300 (by omega) _).mono ?_); rintro e w1 ⟨rfl,hb1⟩)
  | (go_at_call 93; go_must (refine (put_any 258 2 (by omega) _).mono ?_); rintro e w2 ⟨rfl,hb2⟩))
 go_ret
 exact ⟨rfl,hb1.trans (hb2.mono hb1.size)⟩
theorem awake1_any (w : World) : Calls Tryz.prog 89 #[] w fun e w' => e=.returned (.bool true)∧Below w.heap.size w w':=by
 go_enter Tryz.func89,Tryz.ntmps89
 go_wp2_with (first
  | (go_at_call 122; go_must (refine (awake_any _).mono ?_); rintro e w1 ⟨rfl,hb1⟩))
 go_ret
 exact ⟨rfl,hb1⟩
end Go.Proofs.YtjfjliobencppaaGreatDoor

namespace Go.Proofs.YtjfjliobencppaaGreatDoor
def poly : Nat:=2197175160
def bit (n : Nat) : Nat:=if n % 2=1 then n / 2 ^^^ poly else n / 2
def bitN : Nat→Nat→Nat
 | 0,n => n
 | k+1,n => bitN k (bit n)
def stepN (n c : Nat) : Nat:=bitN 8 (n ^^^ c)
def runN (n : Nat) (l : List UInt8) : Nat:=l.foldl (fun n c => stepN n c.toNat) n
def quickStep (n c : Nat) : Nat:=(n ^^^ c) * 1099511628211 % 18446744073709551616
def quickRun (n : Nat) (l : List UInt8) : Nat:=l.foldl (fun n c => quickStep n c.toNat) n
end Go.Proofs.YtjfjliobencppaaGreatDoor

namespace Go.Proofs.YtjfjliobencppaaGreatDoor
open Go.RowKit
def StepJ (N c : Nat) (w : World) (a' : Act) (w' : World) : Prop :=
 w=w'∧∃ (m i : Nat) (u2 u3 u4 u6 u7 u8 u9 u10 u11 u12 u13 u14 u15 u16 u17 u18 u19 u20 u21 u22 : Value),a'={ tmps:=#[.int .u32 m,.int .u8 c,u2,u3,u4,.int .i64 i,u6,u7,u8,u9,u10,u11,u12,u13,u14,u15,u16,u17,u18,u19,u20,u21,u22],defers:=[] }∧m < 4294967296∧i≤7∧bitN (8 - i) m=N
end Go.Proofs.YtjfjliobencppaaGreatDoor

namespace Go.Proofs.YtjfjliobencppaaGreatDoor
open Go.RowKit
def gt (l : List UInt8) : Nat:=l.foldl (fun n c => n * 256+c.toNat) 0
end Go.Proofs.YtjfjliobencppaaGreatDoor

namespace Go.Proofs.YtjfjliobencppaaGreatDoor
open Go.RowKit
def flat (ps : List ByteArray) : List UInt8:=ps.flatMap fun p => p.data.toList
def Parts (w : World) (g : Nat) (ps : List ByteArray) : Prop :=
 ∀ j,j < ps.length→w.cell? ⟨g,j,none⟩=some (.string (ps.getD j ByteArray.empty))
def crc0 (l : List UInt8) : Nat:=runN 4294967295 l
end Go.Proofs.YtjfjliobencppaaGreatDoor

namespace Go.Proofs.YtjfjliobencppaaGreatDoor
open Go.RowKit
end Go.Proofs.YtjfjliobencppaaGreatDoor

namespace Go.Proofs.YtjfjliobencppaaGreatDoor
open Go.RowKit
def crcV (l : List UInt8) : Nat:=4294967295 - crc0 l
theorem cell_new (w : World) (cs : Array Value) (t : TypeId) (j : Nat) : (w.alloc (.cells cs t)).cell? ⟨w.heap.size,j,none⟩=cs[j]?:=World.cell?_alloc_new w cs t j
end Go.Proofs.YtjfjliobencppaaGreatDoor
