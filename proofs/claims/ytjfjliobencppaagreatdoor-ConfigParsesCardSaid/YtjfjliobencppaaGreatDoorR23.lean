/- Walks of word.Number. -/
import Derived.Test.YtjfjliobencppaaGreatDoorR21
import Derived.Test.YtjfjliobencppaaGreatDoorR22
set_option linter.unusedVariables false
set_option linter.unusedSimpArgs false
namespace Go.Proofs.YtjfjliobencppaaGreatDoor.Sp.W
open Go.RowKit
theorem number_empty (s : ByteArray) (hs : s.size=0) (w : World) :
  Calls Tryz.prog 120 #[.string s] w fun e w' => e=.returned (.tuple #[.int .u64 0,.int .i64 4])∧Below w.heap.size w w':=by
 have he : s=ByteArray.empty:=by
  apply ByteArray.ext
  exact Array.eq_empty_of_size_eq_zero hs
 subst he
 go_enter Tryz.func120,Tryz.ntmps120
 go_wp2
 go_ret2
 exact ⟨rfl,Below.refl _ _⟩
theorem empty_no (s : ByteArray) (h : 1≤s.size) : s.toList.isEmpty=false:=by
 rw [ByteArray.toList_eq]
 have e : s.data.toList.length=s.size:=by simp
 cases hl : s.data.toList with
 | nil => rw [hl] at e; simp at e; omega
 | cons c l => rfl
theorem number_nought (s : ByteArray) (h1 : 1 < s.size) (hz : s[0].toNat=48) (w : World) :
  Calls Tryz.prog 120 #[.string s] w fun e w' => e=.returned (.tuple #[.int .u64 0,.int .i64 4])∧Below w.heap.size w w':=by
 have hne:=empty_no s (by omega)
 have h0 : 0 < s.size:=by omega
 have hb : ((s[0].toNat : Int) == 48)=true:=by rw [beq_iff_eq]; omega
 clear hz
 go_enter Tryz.func120,Tryz.ntmps120
 go_wp2
 go_ret2
 exact ⟨rfl,Below.refl _ _⟩
theorem number_bad (s : ByteArray) (h1 : 1≤s.size) (hz : ¬ (1 < s.size∧s[0].toNat=48)) (hbad : ∃ j,∃ h : j < s.size,¬ (48≤s[j].toNat∧s[j].toNat≤57)) (hm : s.size≤100) (w : World) :
  Calls Tryz.prog 120 #[.string s] w fun e w' => e=.returned (.tuple #[.int .u64 0,.int .i64 4])∧Below w.heap.size w w':=by
 have hne:=empty_no s (by omega)
 have h0 : 0 < s.size:=by omega
 have HB:=Lib.hid hbad
 clear hbad
 by_cases h48 : s[0].toNat=48
 ·have hb : ((s[0].toNat : Int) == 48)=true:=by rw [beq_iff_eq]; omega
  have hs : ¬ 1 < s.size:=fun h => hz ⟨h,h48⟩
  clear hz h48
  go_enter Tryz.func120,Tryz.ntmps120
  go_wp2
  go_loop [21] (fun i => ∃ k : Nat,k≤s.size∧i=.int .i64 k∧∀ j,(h : j < s.size)→j < k→48≤s[j].toNat∧s[j].toNat≤57) (fun i => s.size - (intOf i).toNat)
  case atStart => exact ⟨0,Nat.zero_le _,rfl,fun j _ h => absurd h (by omega)⟩
  case round =>
   obtain ⟨k,hk,rfl,hall⟩:=hrel
   have HA:=Lib.hid hall
   clear hall
   by_cases hlt : k < s.size
   ·by_cases hlo : s[k].toNat < 48
    ·go_wp2
     go_ret2
     exact ⟨rfl,Below.refl _ _⟩
    ·by_cases hhi : 57 < s[k].toNat
     ·go_wp2
      go_ret2
      exact ⟨rfl,Below.refl _ _⟩
     ·go_wp2
      go_round
      case rel =>
       refine ⟨k+1,by omega,by go_num,fun j h hj => ?_⟩
       by_cases e : j=k
       ·subst e; omega
       ·exact HA.out j h (by omega)
      case measure => simp [intOf]; omega
   ·obtain ⟨j,hj,hn⟩:=HB.out
    exact absurd (HA.out j hj (by omega)) hn
 ·have hb : ((s[0].toNat : Int) == 48)=false:=by rw [beq_eq_false_iff_ne]; omega
  clear hz h48
  go_enter Tryz.func120,Tryz.ntmps120
  go_wp2
  go_loop [21] (fun i => ∃ k : Nat,k≤s.size∧i=.int .i64 k∧∀ j,(h : j < s.size)→j < k→48≤s[j].toNat∧s[j].toNat≤57) (fun i => s.size - (intOf i).toNat)
  case atStart => exact ⟨0,Nat.zero_le _,rfl,fun j _ h => absurd h (by omega)⟩
  case round =>
   obtain ⟨k,hk,rfl,hall⟩:=hrel
   have HA:=Lib.hid hall
   clear hall
   by_cases hlt : k < s.size
   ·by_cases hlo : s[k].toNat < 48
    ·go_wp2
     go_ret2
     exact ⟨rfl,Below.refl _ _⟩
    ·by_cases hhi : 57 < s[k].toNat
     ·go_wp2
      go_ret2
      exact ⟨rfl,Below.refl _ _⟩
     ·go_wp2
      go_round
      case rel =>
       refine ⟨k+1,by omega,by go_num,fun j h hj => ?_⟩
       by_cases e : j=k
       ·subst e; omega
       ·exact HA.out j h (by omega)
      case measure => simp [intOf]; omega
   ·obtain ⟨j,hj,hn⟩:=HB.out
    exact absurd (HA.out j hj (by omega)) hn
theorem number_ok (s : ByteArray) (h1 : 1≤s.size) (hz : ¬ (1 < s.size∧s[0].toNat=48)) (hall : ∀ j,(h : j < s.size)→48≤s[j].toNat∧s[j].toNat≤57) (u : Nat) (hu : Lib.parseUintB 64 s.data.toList=.ok u) (hm : s.size≤100) (w : World) :
  Calls Tryz.prog 120 #[.string s] w fun e w' => e=.returned (.tuple #[.int .u64 u,.int .i64 0])∧Below w.heap.size w w':=by
 have hne:=empty_no s (by omega)
 have h0 : 0 < s.size:=by omega
 have K1:=Lib.hid (fun w => Tryz.z_strconv_ParseUint_10_at64_ok s (by omega) u hu w)
 have HALL:=Lib.hid hall
 clear hall hu
 by_cases h48 : s[0].toNat=48
 ·have hb : ((s[0].toNat : Int) == 48)=true:=by rw [beq_iff_eq]; omega
  have hs : ¬ 1 < s.size:=fun h => hz ⟨h,h48⟩
  clear hz h48
  go_enter Tryz.func120,Tryz.ntmps120
  go_wp2
  go_loop [21] (fun i => ∃ k : Nat,k≤s.size∧i=.int .i64 k∧∀ j,(h : j < s.size)→j < k→48≤s[j].toNat∧s[j].toNat≤57) (fun i => s.size - (intOf i).toNat)
  case atStart => exact ⟨0,Nat.zero_le _,rfl,fun j _ h => absurd h (by omega)⟩
  case round =>
   obtain ⟨k,hk,rfl,hall⟩:=hrel
   have HA:=Lib.hid hall
   clear hall
   by_cases hlt : k < s.size
   ·by_cases hlo : s[k].toNat < 48
    ·have:=HALL.out k hlt; omega
    ·by_cases hhi : 57 < s[k].toNat
     ·have:=HALL.out k hlt; omega
     ·go_wp2
      go_round
      case rel =>
       refine ⟨k+1,by omega,by go_num,fun j h hj => ?_⟩
       by_cases e : j=k
       ·subst e; omega
       ·exact HA.out j h (by omega)
      case measure => simp [intOf]; omega
   ·go_wp2_with (first | (go_at_call 132; go_must (refine (K1.out _).mono ?_); rintro e w1 ⟨rfl,hw1⟩))
    go_ret2
    refine ⟨rfl,?_⟩
    rcases hw1 with rfl | rfl
    ·exact Below.refl _ _
    ·exact Lib.bytesWorld_below _ _ _
 ·have hb : ((s[0].toNat : Int) == 48)=false:=by rw [beq_eq_false_iff_ne]; omega
  clear hz h48
  go_enter Tryz.func120,Tryz.ntmps120
  go_wp2
  go_loop [21] (fun i => ∃ k : Nat,k≤s.size∧i=.int .i64 k∧∀ j,(h : j < s.size)→j < k→48≤s[j].toNat∧s[j].toNat≤57) (fun i => s.size - (intOf i).toNat)
  case atStart => exact ⟨0,Nat.zero_le _,rfl,fun j _ h => absurd h (by omega)⟩
  case round =>
   obtain ⟨k,hk,rfl,hall⟩:=hrel
   have HA:=Lib.hid hall
   clear hall
   by_cases hlt : k < s.size
   ·by_cases hlo : s[k].toNat < 48
    ·have:=HALL.out k hlt; omega
    ·by_cases hhi : 57 < s[k].toNat
     ·have:=HALL.out k hlt; omega
     ·go_wp2
      go_round
      case rel =>
       refine ⟨k+1,by omega,by go_num,fun j h hj => ?_⟩
       by_cases e : j=k
       ·subst e; omega
       ·exact HA.out j h (by omega)
      case measure => simp [intOf]; omega
   ·go_wp2_with (first | (go_at_call 132; go_must (refine (K1.out _).mono ?_); rintro e w1 ⟨rfl,hw1⟩))
    go_ret2
    refine ⟨rfl,?_⟩
    rcases hw1 with rfl | rfl
    ·exact Below.refl _ _
    ·exact Lib.bytesWorld_below _ _ _
theorem number_range (s : ByteArray) (h1 : 1 ≤ s.size) (hz : ¬ (1 < s.size ∧ s[0].toNat = 48)) (hall : ∀ j, (h : j < s.size) → 48 ≤ s[j].toNat ∧ s[j].toNat ≤ 57) (w : World) (hu : Lib.parseUintB 64 s.data.toList = .range) (tp : TypeId) (pv : Value) (hvar : w.var? Tryz.prog "strconv.ErrRange" = some #[.iface tp pv]) (hm : s.size ≤ 100) :
  Calls Tryz.prog 120 #[.string s] w fun e w' => e=.returned (.tuple #[.int .u64 0,.int .i64 7])∧Below w.heap.size w w':=by
 have hne:=empty_no s (by omega)
 have h0 : 0 < s.size:=by omega
 have K1:=Lib.hid (Tryz.z_strconv_ParseUint_10_at64_range_var s (by omega) hu tp pv w hvar)
 have HALL:=Lib.hid hall
 clear hall hu hvar
 by_cases h48 : s[0].toNat=48
 ·have hb : ((s[0].toNat : Int) == 48)=true:=by rw [beq_iff_eq]; omega
  have hs : ¬ 1 < s.size:=fun h => hz ⟨h,h48⟩
  clear hz h48
  go_enter Tryz.func120,Tryz.ntmps120
  go_wp2
  go_loop [21] (fun i => ∃ k : Nat,k≤s.size∧i=.int .i64 k∧∀ j,(h : j < s.size)→j < k→48≤s[j].toNat∧s[j].toNat≤57) (fun i => s.size - (intOf i).toNat)
  case atStart => exact ⟨0,Nat.zero_le _,rfl,fun j _ h => absurd h (by omega)⟩
  case round =>
   obtain ⟨k,hk,rfl,hall⟩:=hrel
   have HA:=Lib.hid hall
   clear hall
   by_cases hlt : k < s.size
   ·by_cases hlo : s[k].toNat < 48
    ·have:=HALL.out k hlt; omega
    ·by_cases hhi : 57 < s[k].toNat
     ·have:=HALL.out k hlt; omega
     ·go_wp2
      go_round
      case rel =>
       refine ⟨k+1,by omega,by go_num,fun j h hj => ?_⟩
       by_cases e : j=k
       ·subst e; omega
       ·exact HA.out j h (by omega)
      case measure => simp [intOf]; omega
   ·go_wp2_with (first | (go_at_call 132; go_must (refine (K1.out).mono ?_); rintro e w1 ⟨N,rfl,_,_,hb1⟩))
    go_ret2
    exact ⟨rfl,hb1⟩
 ·have hb : ((s[0].toNat : Int) == 48)=false:=by rw [beq_eq_false_iff_ne]; omega
  clear hz h48
  go_enter Tryz.func120,Tryz.ntmps120
  go_wp2
  go_loop [21] (fun i => ∃ k : Nat,k≤s.size∧i=.int .i64 k∧∀ j,(h : j < s.size)→j < k→48≤s[j].toNat∧s[j].toNat≤57) (fun i => s.size - (intOf i).toNat)
  case atStart => exact ⟨0,Nat.zero_le _,rfl,fun j _ h => absurd h (by omega)⟩
  case round =>
   obtain ⟨k,hk,rfl,hall⟩:=hrel
   have HA:=Lib.hid hall
   clear hall
   by_cases hlt : k < s.size
   ·by_cases hlo : s[k].toNat < 48
    ·have:=HALL.out k hlt; omega
    ·by_cases hhi : 57 < s[k].toNat
     ·have:=HALL.out k hlt; omega
     ·go_wp2
      go_round
      case rel =>
       refine ⟨k+1,by omega,by go_num,fun j h hj => ?_⟩
       by_cases e : j=k
       ·subst e; omega
       ·exact HA.out j h (by omega)
      case measure => simp [intOf]; omega
   ·go_wp2_with (first | (go_at_call 132; go_must (refine (K1.out).mono ?_); rintro e w1 ⟨N,rfl,_,_,hb1⟩))
    go_ret2
    exact ⟨rfl,hb1⟩
end Go.Proofs.YtjfjliobencppaaGreatDoor.Sp.W
