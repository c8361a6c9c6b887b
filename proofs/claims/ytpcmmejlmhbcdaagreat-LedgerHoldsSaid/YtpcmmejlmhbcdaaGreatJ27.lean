/- A turn of names, walked.; What a turn leaves: files still; which ones.; A turn of names of which it isn't sure yet that it lasts.; turnNames. -/
import Derived.Test.YtpcmmejlmhbcdaaGreatJ26
set_option linter.unusedVariables false
set_option linter.unusedSimpArgs false
namespace Go.Proofs.YtpcmmejlmhbcdaaGreat.Dk
open Go.RowKit Go.Maps Go.Sort

/-- What a turn at hand finds. -/
structure TS (t : Tn) (v2 : Value) (b n X bf : Nat) (cur : Array Value) (N : Dm) (w wz : World) : Prop where
  own : wz.ownsMap Tryz.prog 9 ptrE b n N
  bx : BxT X t v2 wz
  lt : X < wz.heap.size
  ne : X ≠ b
  row : 0 < t.frm.length → wz.heap[bf]? = some (.cells cur 9 (0, 0))
  kp : Kp (· = b) w wz
set_option maxRecDepth 100000 in
set_option maxHeartbeats 4000000 in
theorem do_any (t : Tn) (v2 : Value) (b n : Nat) (N : Dm) (F : Fil N) (w : World) (hown : w.ownsMap Tryz.prog 9 ptrE b n N) (hn : n ≤ 999999) (hF : ∀ s, hasN N s = true → IsF w (atN N s)) (hc : IsF w t.file) (hrow : StrRow w t.frm v2)
    (hsz : (∀ s ∈ t.frm, s.size ≤ maxLen) ∧ t.dest.size ≤ maxLen) (hlen : t.frm.length ≤ 1000000) :
    Calls Tryz.prog 47 #[.agg #[.int .i64 (t.kind : Int), .pointer (some ⟨t.file, 0, none⟩), v2, .string t.dest], .map (some b)] w (DoQ (doT N t) b (n + 1) w) := by
  obtain ⟨o, cap, bf, cur, rfl, ho, hcur⟩ := hrow
  have hal := alloc_below w (.cells #[.int .i64 (t.kind : Int), .pointer (some ⟨t.file, 0, none⟩), .slice o t.frm.length cap, .string t.dest] 105)
  have hb0 := hown.lt
  have hTS : TS t (.slice o t.frm.length cap) b n w.heap.size bf cur N w (w.alloc (.cells #[.int .i64 (t.kind : Int), .pointer (some ⟨t.file, 0, none⟩), .slice o t.frm.length cap, .string t.dest] 105)) :=
    ⟨hown.alloc _, four_cells _ _ _ _ _ _, alloc_lt _ _, by omega, fun hp => (hal.block _ (lt_of_heap (ho hp).2)).trans (ho hp).2, Kp.of_below hal⟩
  have HTS := Lib.hid hTS
  have K31 : Hid (Calls Tryz.prog 75 #[.map (some b), .pointer (some ⟨t.file, 0, none⟩)] (w.alloc (.cells #[.int .i64 (t.kind : Int), .pointer (some ⟨t.file, 0, none⟩), .slice o t.frm.length cap, .string t.dest] 105)) (NamesQ n N t.file (w.alloc (.cells #[.int .i64 (t.kind : Int), .pointer (some ⟨t.file, 0, none⟩), .slice o t.frm.length cap, .string t.dest] 105)))) :=
    Lib.hid (names_any b n t.file N F _ (hown.alloc _) (by omega) (fun s hs => (hF s hs).keep hal) (hc.keep hal))
  have HO := Lib.hid ho
  have HCUR := Lib.hid hcur
  have HSZ := Lib.hid hsz
  have HN := Lib.hid hn
  have hml := hlen
  obtain ⟨m, hm⟩ : ∃ m, m = t.frm.length := ⟨_, rfl⟩
  rw [← hm] at HTS K31 hml ⊢
  have HM := Lib.hid hm
  clear hown hn hF hc ho hcur hsz hlen hal hTS hm
  by_cases hk0 : t.kind = 0
  · have q0 : (((t.kind : Nat) : Int) != 0) = false := by rw [hk0]; rfl
    have HNN : Hid (¬ (t.kind ≠ 0 ∧ NoName N t.file)) := Lib.hid (fun h => h.1 hk0)
    clear hk0 K31
    go_enter Tryz.func47, Tryz.ntmps47
    go_wp2
    refine gen_wp (S := fun wz => Hid (TS t (.slice o m cap) b n w.heap.size bf cur N w wz)) HTS ?_
    intro W2 HS2
    clear HTS
    generalize w.heap.size = X at *
    go_loopw [20] (fun i wr => ∃ k : Nat, k ≤ m ∧ i = .int .i64 (k : Int) ∧ Hid (TS t (.slice o m cap) b n X bf cur (delsN N (t.frm.take k)) w wr)) (fun i _ => m - (intOf i).toNat)
    case atStart => exact ⟨0, by omega, rfl, HS2⟩
    case round =>
      obtain ⟨k, hk, rfl, hts⟩ := hrel
      by_cases hlt : k < m
      · have hkl : k < t.frm.length := by rw [← HM.out]; exact hlt
        have hsk := HSZ.out.1 _ (List.getElem_mem hkl)
        have hst := delsN_take N t.frm k hkl
        have hcell : wr.cell? ⟨bf, k, none⟩ = some (.string t.frm[k]) := (cell_of_row wr bf k _ _ _ (hts.out.row (by omega))).trans (HCUR.out k hkl)
        have hoo := (HO.out (by omega)).1
        generalize t.frm[k] = s at hcell hsk hst
        have HST := Lib.hid hst
        have HSK := Lib.hid hsk
        subst hoo
        have q1 : (0 : Int) ≤ (k : Int) := by omega
        have q2 : (k : Int) < (m : Int) := by omega
        clear hst hsk hkl
        go_wp2_with (first
          | (at_delete; refine wpList_delete_own _ rfl _ _ 97 9 rfl 102 law Tryz.underlying97 ptrE b n (delsN N (t.frm.take k)) rfl hts.out.own _ _ rfl (key_max s HSK.out) ?_; intro w3 hown3 hturn3; have HO3 := Lib.hid hown3; have HT3 := Lib.hid (turned_kp hturn3); clear hown3 hturn3; go_frame))
        go_roundw
        case rel =>
          have kk := HT3.out
          refine ⟨k + 1, by omega, by go_num, Lib.hid ⟨by rw [HST.out]; exact HO3.out, hts.out.bx.kp kk hts.out.lt hts.out.ne, Nat.lt_of_lt_of_le hts.out.lt kk.size, hts.out.ne, fun hp => ?_, hts.out.kp.trans kk⟩⟩
          have hr := hts.out.row hp
          exact (kk.block bf (lt_of_heap hr) (fun e => by have e' : bf = b := e; obtain ⟨es, cl, he, _⟩ := hts.out.own; rw [← e', hr] at he; cases he)).trans hr
        case measure => simp [intOf]; omega
      · have hkm : k = m := by omega
        have htk : t.frm.take k = t.frm := by rw [hkm, HM.out]; exact List.take_length
        rw [htk] at hts
        have hne : ¬ (k : Int) < (m : Int) := by omega
        obtain ⟨x0, x1, x2, x3⟩ := hts.out.bx
        by_cases hk2 : t.kind = 2
        · have q2 : (((t.kind : Nat) : Int) != 2) = false := by rw [hk2]; rfl
          have HD := Lib.hid (show doT N t = delsN N t.frm from by unfold doT; rw [if_neg HNN.out, if_pos hk2])
          clear hk2 htk
          go_wp2
          exact bodyPost_end (v := .tuple #[]) (by simp [results, Tryz.results47, go_sem]) rfl ⟨rfl, by rw [HD.out]; exact hts.out.own.mono (by omega), hts.out.kp⟩
        · have q2 : (((t.kind : Nat) : Int) != 2) = true := by rw [bne_iff_ne]; omega
          have HD := Lib.hid (show doT N t = (delsN N t.frm).put (nk t.dest) (fl t.file) from by unfold doT; rw [if_neg HNN.out, if_neg hk2])
          clear hk2 htk
          go_wp2_with (first
            | (at_mapUpdate; refine wpList_mapUpdate_in _ rfl _ _ _ 97 rfl 9 102 law Tryz.underlying97 ptrE b n (delsN N t.frm) rfl hts.out.own (by have := HN.out; unfold maxLen; omega) _ _ _ rfl rfl (key_max _ HSZ.out.2) (fl t.file) [] (ptrE_mk _) ?_; intro w3 hown3 hturn3; have HO3 := Lib.hid hown3; have HT3 := Lib.hid (turned_kp hturn3); clear hown3 hturn3; go_frame))
          exact bodyPost_end (v := .tuple #[]) (by simp [results, Tryz.results47, go_sem]) rfl ⟨rfl, by rw [HD.out]; exact HO3.out, hts.out.kp.trans HT3.out⟩
  · have q0 : (((t.kind : Nat) : Int) != 0) = true := by rw [bne_iff_ne]; omega
    by_cases hnn : NoName N t.file
    · have HD := Lib.hid (show doT N t = N from if_pos ⟨hk0, hnn⟩)
      have K32 : Hid (Calls Tryz.prog 75 #[.map (some b), .pointer (some ⟨t.file, 0, none⟩)] (w.alloc (.cells #[.int .i64 (t.kind : Int), .pointer (some ⟨t.file, 0, none⟩), .slice o m cap, .string t.dest] 105)) fun e w' => ∃ (ol : Option Addr) (capl : Nat), e = .returned (.slice ol 0 capl) ∧ Hid (Below (w.alloc (.cells #[.int .i64 (t.kind : Int), .pointer (some ⟨t.file, 0, none⟩), .slice o m cap, .string t.dest] 105)).heap.size (w.alloc (.cells #[.int .i64 (t.kind : Int), .pointer (some ⟨t.file, 0, none⟩), .slice o m cap, .string t.dest] 105)) w')) := Lib.hid (K31.out.mono (fun e w' h => by
        obtain ⟨ls, ρ, ol, capl, rfl, _, _, hg, hb, _⟩ := h
        have hz : ls = [] := by
          cases ls with
          | nil => rfl
          | cons s l => have := (hg.1 s).1 (by simp); exact absurd this.2 (hnn s this.1)
        subst hz
        exact ⟨ol, capl, rfl, Lib.hid hb⟩))
      clear hk0 hnn K31
      go_enter Tryz.func47, Tryz.ntmps47
      go_wp2_with (first
        | (go_at_call 75; ((with_reducible refine (K32.out).mono ?_); rintro e w2 ⟨ol, capl, rfl, HB2⟩)))
      exact bodyPost_end (v := .tuple #[]) (by simp [results, Tryz.results47, go_sem]) rfl ⟨rfl, by
        rw [HD.out]
        exact (own_keep HTS.out.own (HB2.out.block _ HTS.out.own.lt)).mono (by omega), HTS.out.kp.trans (Kp.of_below HB2.out)⟩
    · have K32 : Hid (Calls Tryz.prog 75 #[.map (some b), .pointer (some ⟨t.file, 0, none⟩)] (w.alloc (.cells #[.int .i64 (t.kind : Int), .pointer (some ⟨t.file, 0, none⟩), .slice o m cap, .string t.dest] 105)) fun e w' => ∃ (ol : Option Addr) (capl q : Nat), e = .returned (.slice ol q capl) ∧ ((q : Int) == 0) = false ∧ Hid (Below (w.alloc (.cells #[.int .i64 (t.kind : Int), .pointer (some ⟨t.file, 0, none⟩), .slice o m cap, .string t.dest] 105)).heap.size (w.alloc (.cells #[.int .i64 (t.kind : Int), .pointer (some ⟨t.file, 0, none⟩), .slice o m cap, .string t.dest] 105)) w')) := Lib.hid (K31.out.mono (fun e w' h => by
        obtain ⟨ls, ρ, ol, capl, rfl, _, _, hg, hb, _⟩ := h
        refine ⟨ol, capl, ls.length, rfl, ?_, Lib.hid hb⟩
        rw [beq_eq_false_iff_ne]
        intro e
        have hz : ls = [] := List.eq_nil_of_length_eq_zero (by omega)
        subst hz
        exact hnn (fun s hs hc => by have := (hg.1 s).2 ⟨hs, hc⟩; cases this)))
      have HNN : Hid (¬ (t.kind ≠ 0 ∧ NoName N t.file)) := Lib.hid (fun h => hnn h.2)
      clear hk0 hnn K31
      go_enter Tryz.func47, Tryz.ntmps47
      go_wp2_with (first
        | (go_at_call 75; ((with_reducible refine (K32.out).mono ?_); rintro e w2 ⟨ol, capl, q, rfl, hq, HB2⟩; obtain ⟨y0, y1, y2, y3⟩ := HTS.out.bx.kp (Kp.of_below (K := (· = b)) HB2.out) HTS.out.lt HTS.out.ne)))
      refine gen_wp (S := fun wz => Hid (TS t (.slice o m cap) b n w.heap.size bf cur N w wz)) (Lib.hid ⟨own_keep HTS.out.own (HB2.out.block _ HTS.out.own.lt), HTS.out.bx.kp (Kp.of_below (K := (· = b)) HB2.out) HTS.out.lt HTS.out.ne, Nat.lt_of_lt_of_le HTS.out.lt HB2.out.size, HTS.out.ne, fun hp => (HB2.out.block _ (lt_of_heap (HTS.out.row hp))).trans (HTS.out.row hp), HTS.out.kp.trans (Kp.of_below HB2.out)⟩) ?_
      intro W2 HS2
      clear HTS y0 y1 y2 y3 HB2 K32
      generalize w.heap.size = X at *
      go_loopw [20] (fun i wr => ∃ k : Nat, k ≤ m ∧ i = .int .i64 (k : Int) ∧ Hid (TS t (.slice o m cap) b n X bf cur (delsN N (t.frm.take k)) w wr)) (fun i _ => m - (intOf i).toNat)
      case atStart => exact ⟨0, by omega, rfl, HS2⟩
      case round =>
        obtain ⟨k, hk, rfl, hts⟩ := hrel
        by_cases hlt : k < m
        · have hkl : k < t.frm.length := by rw [← HM.out]; exact hlt
          have hsk := HSZ.out.1 _ (List.getElem_mem hkl)
          have hst := delsN_take N t.frm k hkl
          have hcell : wr.cell? ⟨bf, k, none⟩ = some (.string t.frm[k]) := (cell_of_row wr bf k _ _ _ (hts.out.row (by omega))).trans (HCUR.out k hkl)
          have hoo := (HO.out (by omega)).1
          generalize t.frm[k] = s at hcell hsk hst
          have HST := Lib.hid hst
          have HSK := Lib.hid hsk
          subst hoo
          have q1 : (0 : Int) ≤ (k : Int) := by omega
          have q2 : (k : Int) < (m : Int) := by omega
          clear hst hsk hkl
          go_wp2_with (first
            | (at_delete; refine wpList_delete_own _ rfl _ _ 97 9 rfl 102 law Tryz.underlying97 ptrE b n (delsN N (t.frm.take k)) rfl hts.out.own _ _ rfl (key_max s HSK.out) ?_; intro w3 hown3 hturn3; have HO3 := Lib.hid hown3; have HT3 := Lib.hid (turned_kp hturn3); clear hown3 hturn3; go_frame))
          go_roundw
          case rel =>
            have kk := HT3.out
            refine ⟨k + 1, by omega, by go_num, Lib.hid ⟨by rw [HST.out]; exact HO3.out, hts.out.bx.kp kk hts.out.lt hts.out.ne, Nat.lt_of_lt_of_le hts.out.lt kk.size, hts.out.ne, fun hp => ?_, hts.out.kp.trans kk⟩⟩
            have hr := hts.out.row hp
            exact (kk.block bf (lt_of_heap hr) (fun e => by have e' : bf = b := e; obtain ⟨es, cl, he, _⟩ := hts.out.own; rw [← e', hr] at he; cases he)).trans hr
          case measure => simp [intOf]; omega
        · have hkm : k = m := by omega
          have htk : t.frm.take k = t.frm := by rw [hkm, HM.out]; exact List.take_length
          rw [htk] at hts
          have hne : ¬ (k : Int) < (m : Int) := by omega
          obtain ⟨x0, x1, x2, x3⟩ := hts.out.bx
          by_cases hk2 : t.kind = 2
          · have q2 : (((t.kind : Nat) : Int) != 2) = false := by rw [hk2]; rfl
            have HD := Lib.hid (show doT N t = delsN N t.frm from by unfold doT; rw [if_neg HNN.out, if_pos hk2])
            clear hk2 htk
            go_wp2
            exact bodyPost_end (v := .tuple #[]) (by simp [results, Tryz.results47, go_sem]) rfl ⟨rfl, by rw [HD.out]; exact hts.out.own.mono (by omega), hts.out.kp⟩
          · have q2 : (((t.kind : Nat) : Int) != 2) = true := by rw [bne_iff_ne]; omega
            have HD := Lib.hid (show doT N t = (delsN N t.frm).put (nk t.dest) (fl t.file) from by unfold doT; rw [if_neg HNN.out, if_neg hk2])
            clear hk2 htk
            go_wp2_with (first
              | (at_mapUpdate; refine wpList_mapUpdate_in _ rfl _ _ _ 97 rfl 9 102 law Tryz.underlying97 ptrE b n (delsN N t.frm) rfl hts.out.own (by have := HN.out; unfold maxLen; omega) _ _ _ rfl rfl (key_max _ HSZ.out.2) (fl t.file) [] (ptrE_mk _) ?_; intro w3 hown3 hturn3; have HO3 := Lib.hid hown3; have HT3 := Lib.hid (turned_kp hturn3); clear hown3 hturn3; go_frame))
            exact bodyPost_end (v := .tuple #[]) (by simp [results, Tryz.results47, go_sem]) rfl ⟨rfl, by rw [HD.out]; exact HO3.out, hts.out.kp.trans HT3.out⟩
end Go.Proofs.YtpcmmejlmhbcdaaGreat.Dk

namespace Go.Proofs.YtpcmmejlmhbcdaaGreat.Dk
open Go.RowKit Go.Maps Go.Sort

/-- A name's file, as a map tells it. -/
def Leads (D : Dm) (k : Lit) (c : Nat) : Prop := Maps.has D k = true ∧ ∀ z, D.atKey k z = fl c
theorem Leads.one {D : Dm} {k : Lit} {c d : Nat} (h : Leads D k c) (h' : Leads D k d) : c = d := fl_inj ((h.2 .nil).symm.trans (h'.2 .nil))
theorem leads_del {D : Dm} {k k' : Lit} {c : Nat} : Leads (D.del k) k' c ↔ k' ≠ k ∧ Leads D k' c := by
  by_cases e : k' = k
  · subst e
    constructor
    · intro h; have := h.1; rw [Maps.has_del_same] at this; cases this
    · intro h; exact absurd rfl h.1
  · unfold Leads
    rw [Maps.has_del_other e]
    constructor
    · intro h; exact ⟨e, h.1, fun z => by rw [← Maps.atKey_del_other e]; exact h.2 z⟩
    · intro h; exact ⟨h.2.1, fun z => by rw [Maps.atKey_del_other e]; exact h.2.2 z⟩
theorem leads_put {D : Dm} {k k' : Lit} {c d : Nat} (hD : Maps.IsMap D) (hk : WideAt.IsKeyLit k) : Leads (D.put k (fl d)) k' c ↔ (k' = k ∧ c = d) ∨ (k' ≠ k ∧ Leads D k' c) := by
  by_cases e : k' = k
  · subst e
    constructor
    · intro h
      left
      refine ⟨rfl, fl_inj ?_⟩
      rw [← h.2 .nil, Maps.atKey_put_same hD hk]
    · rintro (⟨_, rfl⟩ | h)
      · exact ⟨Maps.has_put_same hD hk _, fun z => Maps.atKey_put_same hD hk _ z⟩
      · exact absurd rfl h.1
  · unfold Leads
    rw [Maps.has_put_other e]
    constructor
    · intro h; right; exact ⟨e, h.1, fun z => by rw [← Maps.atKey_put_other e (fl d)]; exact h.2 z⟩
    · rintro (⟨h, _⟩ | h)
      · exact absurd h e
      · exact ⟨h.2.1, fun z => by rw [Maps.atKey_put_other e]; exact h.2.2 z⟩
theorem leads_dels {N : Dm} {k : Lit} {c : Nat} : ∀ (l : List ByteArray) (N : Dm), Leads (delsN N l) k c ↔ (∀ s ∈ l, k ≠ nk s) ∧ Leads N k c
  | [], N => by simp [delsN]
  | s :: l, N => by
    have h := leads_dels (N := N) (k := k) (c := c) l (N.del (nk s))
    have e : delsN N (s :: l) = delsN (N.del (nk s)) l := rfl
    rw [e, h, leads_del]
    constructor
    · rintro ⟨h1, h2, h3⟩; exact ⟨fun x hx => by rcases List.mem_cons.1 hx with rfl | hx; exact h2; exact h1 x hx, h3⟩
    · rintro ⟨h1, h3⟩; exact ⟨fun x hx => h1 x (by simp [hx]), h1 s (by simp), h3⟩
theorem isMap_dels : ∀ (l : List ByteArray) (N : Dm), Maps.IsMap N → Maps.IsMap (delsN N l)
  | [], N, h => h
  | s :: l, N, h => isMap_dels l (N.del (nk s)) (h.del _)
theorem key_lit (s : ByteArray) : WideAt.IsKeyLit (nk s) := trivial
theorem has_dels {k : Lit} : ∀ (l : List ByteArray) (N : Dm), Maps.has (delsN N l) k = true → Maps.has N k = true ∧ ∀ s ∈ l, k ≠ nk s
  | [], N, h => ⟨h, fun s hs => by cases hs⟩
  | s :: l, N, h => by
    obtain ⟨h1, h2⟩ := has_dels l (N.del (nk s)) h
    have hk : k ≠ nk s := by rintro rfl; rw [Maps.has_del_same] at h1; cases h1
    rw [Maps.has_del_other hk] at h1
    exact ⟨h1, fun x hx => by rcases List.mem_cons.1 hx with rfl | hx; exact hk; exact h2 x hx⟩
theorem fil_iff {D : Dm} : Fil D ↔ ∀ k, Maps.has D k = true → ∃ c, Leads D k c := ⟨fun h k hk => by obtain ⟨c, hc⟩ := h k hk; exact ⟨c, hk, hc⟩, fun h k hk => by obtain ⟨c, hc⟩ := h k hk; exact ⟨c, hc.2⟩⟩
theorem Fil.dels {N : Dm} (h : Fil N) (l : List ByteArray) : Fil (delsN N l) := fil_iff.2 (fun k hk => by
  obtain ⟨h1, h2⟩ := has_dels l N hk
  obtain ⟨c, hc⟩ := fil_iff.1 h k h1
  exact ⟨c, (leads_dels (N := N) l N).2 ⟨h2, hc⟩⟩)
theorem Fil.put {N : Dm} (h : Fil N) (hm : Maps.IsMap N) (s : ByteArray) (c : Nat) : Fil (N.put (nk s) (fl c)) := fil_iff.2 (fun k hk => by
  by_cases e : k = nk s
  · exact ⟨c, (leads_put hm (key_lit s)).2 (Or.inl ⟨e, rfl⟩)⟩
  · rw [Maps.has_put_other e] at hk
    obtain ⟨d, hd⟩ := fil_iff.1 h k hk
    exact ⟨d, (leads_put hm (key_lit s)).2 (Or.inr ⟨e, hd⟩)⟩)
theorem Fil.doT {N : Dm} (h : Fil N) (hm : Maps.IsMap N) (t : Tn) : Fil (doT N t) := by
  unfold YtpcmmejlmhbcdaaGreat.Dk.doT
  split
  · exact h
  · split
    · exact h.dels _
    · exact (h.dels _).put (isMap_dels _ _ hm) _ _
theorem leads_doT {N : Dm} (hm : Maps.IsMap N) (t : Tn) (k : Lit) (c : Nat) (h : Leads (doT N t) k c) : Leads N k c ∨ c = t.file := by
  unfold doT at h
  split at h
  · exact Or.inl h
  · split at h
    · exact Or.inl ((leads_dels (N := N) _ _).1 h).2
    · rcases (leads_put (isMap_dels _ _ hm) (key_lit _)).1 h with ⟨_, e⟩ | ⟨_, h2⟩
      · exact Or.inr e
      · exact Or.inl ((leads_dels (N := N) _ _).1 h2).2
end Go.Proofs.YtpcmmejlmhbcdaaGreat.Dk

namespace Go.Proofs.YtpcmmejlmhbcdaaGreat.Dk
open Go.RowKit Go.Maps Go.Sort

theorem wp_prow {w : World} {o : Oper} {a : Act} {K : Act → World → Prop} {Q : Exit → Act → World → Prop} (s x : Operand) (t T : TypeId)
    (ho : o.op = .call { callee := .builtin .append, args := #[s, x], argTypes := #[t, t] }) (hu : Tryz.prog.underlying t = some (.slice T)) (z : Value) (m by' : Nat) (hinfo : (Tryz.prog.info? T).map (fun i => (i.zero, i.size, i.bytes)) = some (some z, m, by')) (hzs : z.cells.size = m) (hm : 0 < m) (hb : by' ≤ 64)
    (ρ : Option Nat) (oo : Option Addr) (cap n : Nat) (xs : List Value) (hR : PRow T m ρ oo cap n xs w) (hn : n + 1 ≤ 1000000000) (ad : Addr) (news : List Value) (hl : news.length = m) (hnews : ∀ j u, news[j]? = some u → w.cell? (ad.add j) = some u) (h1 : ∀ u ∈ news, u.oneCell' = true)
    (hs : a.eval s = .slice oo n cap) (hx : a.eval x = .slice (some ad) 1 1)
    (h : ∀ o' cap' w' ρ', PRow T m ρ' o' cap' (n + 1) (xs ++ news) w' → Nxt ρ ρ' w → Kp (fun b => ρ = some b) w w' → K (a.put o.dst (.slice o' (n + 1) cap')) w') : Oper.wp Tryz.prog o a w K Q := by
  obtain ⟨o', cap', w', ρ', hr, h2, h3, h4⟩ := prow_append t T o.type hu z m by' hinfo hzs hm hb w ρ oo cap n xs hR hn ad news hl hnews h1
  unfold Oper.wp execOp
  simp only [ho, resolve, invoke, builtin, Sem.run_bind, Sem.run_pure, Result.andThen_ok, List.map_toArray, List.map_cons, List.map_nil, hs, hx, hr]
  exact h o' cap' w' ρ' h2 h3 h4
theorem four_news (w : World) (a b c d : Value) (T : TypeId) (j : Nat) (u : Value) (h : [a, b, c, d][j]? = some u) : (w.alloc (.cells #[a, b, c, d] T)).cell? ((⟨w.heap.size, 0, none⟩ : Addr).add j) = some u := by
  rw [plain_add, Nat.zero_add, World.cell?_alloc_new w #[a, b, c, d] T j]
  match j, h with
  | 0, h => exact h
  | 1, h => exact h
  | 2, h => exact h
  | 3, h => exact h
/-- What the append finds: a disk's row, and the box of a turn. -/
structure SS (D X : Nat) (t : Tn) (v2 v : Value) (wz : World) : Prop where
  c : wz.cell? ⟨D, 3, none⟩ = some v
  f : wz.frozen? ⟨D, 3, none⟩ = false
  b : BxT X t v2 wz
  d : D < wz.heap.size
  x : X < wz.heap.size
theorem SS.blocks {D X : Nat} {t : Tn} {v2 v : Value} {w w' : World} (h : SS D X t v2 v w) (hs : w.heap.size ≤ w'.heap.size) (hD : w'.heap[D]? = w.heap[D]?) (hX : w'.heap[X]? = w.heap[X]?) : SS D X t v2 v w' :=
  ⟨(World.cell?_of_block (a := ⟨D, 3, none⟩) hD).trans h.c, (World.frozen?_of_block (a := ⟨D, 3, none⟩) hD).trans h.f, ⟨(World.cell?_of_block (a := ⟨X, 0, none⟩) hX).trans h.b.1, (World.cell?_of_block (a := ⟨X, 1, none⟩) hX).trans h.b.2.1, (World.cell?_of_block (a := ⟨X, 2, none⟩) hX).trans h.b.2.2.1, (World.cell?_of_block (a := ⟨X, 3, none⟩) hX).trans h.b.2.2.2⟩, Nat.lt_of_lt_of_le h.d hs, Nat.lt_of_lt_of_le h.x hs⟩
theorem SS.alloc {D X : Nat} {t : Tn} {v2 v : Value} {w : World} (h : SS D X t v2 v w) (o : Obj) : SS D X t v2 v (w.alloc o) := h.blocks (by simp) ((alloc_below w o).block D h.d) ((alloc_below w o).block X h.x)
theorem SS.kp {D X : Nat} {t : Tn} {v2 v : Value} {w w' : World} {ρ : Option Nat} (h : SS D X t v2 v w) (hk : Kp (fun b => ρ = some b) w w') (h1 : ρ ≠ some D) (h2 : ρ ≠ some X) : SS D X t v2 v w' := h.blocks hk.size (hk.block D h.d h1) (hk.block X h.x h2)
end Go.Proofs.YtpcmmejlmhbcdaaGreat.Dk

namespace Go.Proofs.YtpcmmejlmhbcdaaGreat.Dk
open Go.RowKit Go.Maps Go.Sort

noncomputable def turnS (st : St) (t : Tn) : St := { st with N := doT st.N t, P := st.P ++ [t] }
/-- What is left of a disk behind a turn, its pieces put together. -/
theorem DW.turned {w wd w3 w4 w5 w9 : World} {K : Nat → Prop} {D : Nat} {g : Gh} {st : St} (h : DW wd K D g st) (hww : w.heap.size ≤ wd.heap.size) (t : Tn) (v2 : Value)
    (hfile : wd.heap[t.file]? = some (.cells #[.string (st.F t.file).1, .string (st.F t.file).2] 111 (0, 0))) (hsz : (st.F t.file).1.size ≤ 100000 ∧ (st.F t.file).2.size ≤ 100000) (hK : K t.file) (hrow : StrRow wd t.frm v2)
    (hs : (∀ s ∈ t.frm, s.size ≤ maxLen) ∧ t.dest.size ≤ maxLen) (hk2 : t.kind ≤ 2 ∧ t.frm.length ≤ 1000000) (hfew : g.nn + 1 ≤ 900000 ∧ st.P.length + 1 ≤ 1000000) (hKw : ∀ b, K b → b < w.heap.size)
    (hown : w3.ownsMap Tryz.prog 9 ptrE g.bn (g.nn + 1) (doT st.N t)) (k3 : Kp (· = g.bn) wd w3) (k4 : Below w3.heap.size w3 w4) (ρ2 : Option Nat) (o2 : Option Addr) (cap2 : Nat)
    (hr : PRow 105 4 ρ2 o2 cap2 (st.P.length + 1) (g.xs ++ [.int .i64 (t.kind : Int), .pointer (some ⟨t.file, 0, none⟩), v2, .string t.dest]) w5) (hn : Nxt g.ρ ρ2 w4) (k5 : Kp (fun b => g.ρ = some b) w4 w5)
    (h9 : w9 = w5.setCell ⟨D, 3, none⟩ (.slice o2 (st.P.length + 1) cap2)) :
    DW w9 (Kn K w w9) D { g with nn := g.nn + 1, o := o2, cap := cap2, ρ := ρ2, xs := g.xs ++ [.int .i64 (t.kind : Int), .pointer (some ⟨t.file, 0, none⟩), v2, .string t.dest] } (turnS st t) ∧ Kp K wd w9 := by
  have k9 : Kp (· = D) w5 w9 := by rw [h9]; exact kp_set _ _ _ _
  have hKD := h.own.1
  have kall : Kp K wd w9 := (((k3.mono (K' := K) (fun i _ e => by have e' : i = g.bn := e; rw [e']; exact h.own.2.1)).trans (Kp.of_below (K := K) k4)).trans (k5.mono (K' := K) (fun i _ e => h.own.2.2.2.1 i e))).trans (k9.mono (K' := K) (fun i _ e => by have e' : i = D := e; rw [e']; exact hKD))
  have s3 := k3.size
  have s4 := k4.size
  have s5 := k5.size
  have s9 := k9.size
  -- whatever is no map, no row of turns, no disk lies there still
  have stay : ∀ (b : Nat) (o : Obj), wd.heap[b]? = some o → b ≠ g.bn → g.ρ ≠ some b → b ≠ D → w9.heap[b]? = some o := fun b o hb h1 h2 h3 =>
    (k9.block b (by have := lt_of_heap hb; omega) h3).trans ((k5.block b (by have := lt_of_heap hb; omega) h2).trans ((k4.block b (by have := lt_of_heap hb; omega)).trans ((k3.block b (lt_of_heap hb) h1).trans hb)))
  have nbn : ∀ (b : Nat) (cs : Array Value) (T : TypeId), wd.heap[b]? = some (.cells cs T (0, 0)) → b ≠ g.bn := fun b cs T hb e => by
    obtain ⟨es, cl, he, _⟩ := h.names
    rw [← e, hb] at he
    cases he
  have nρ : ∀ (b : Nat) (o : Obj), wd.heap[b]? = some o → (∀ cur, o ≠ .cells cur 105 (0, 0)) → g.ρ ≠ some b := fun b o hb hne e => by
    rcases h.row.2 with h1 | ⟨r, cur, h1, _, h4, _⟩
    · rw [h1.2.2.1] at e; cases e
    · rw [h1] at e; cases e; rw [hb] at h4; exact hne cur (Option.some.inj h4)
  have nD : ∀ (b : Nat) (o : Obj), wd.heap[b]? = some o → o ≠ .cells (dcells g st) 100 (0, 0) → b ≠ D := fun b o hb hne e => by
    have hb2 := h.blk
    rw [← e, hb] at hb2
    exact hne (Option.some.inj hb2)
  have hm := h.names.isMap
  have hxl : g.xs.length = st.P.length * 4 := h.row.1
  have live : ∀ c, (turnS st t).live c → st.live c ∨ c = t.file := fun c hc => by
    rcases hc with ⟨k, h1, h2⟩ | hc | ⟨q, hq, rfl⟩
    · rcases leads_doT hm t k c ⟨h1, h2⟩ with hh | hh
      · exact Or.inl (Or.inl ⟨k, hh.1, hh.2⟩)
      · exact Or.inr hh
    · exact Or.inl (Or.inr (Or.inl hc))
    · rcases List.mem_append.1 hq with hq | hq
      · exact Or.inl (Or.inr (Or.inr ⟨q, hq, rfl⟩))
      · simp at hq; subst hq; exact Or.inr rfl
  have fileAt : ∀ c, (turnS st t).live c → wd.heap[c]? = some (.cells #[.string (st.F c).1, .string (st.F c).2] 111 (0, 0)) := fun c hc => by
    rcases live c hc with hh | rfl
    · exact h.file c hh
    · exact hfile
  have strow : ∀ (l : List ByteArray) (v : Value), StrRow wd l v → StrRow w9 l v := fun l v hv => hv.keep (fun b cur hb => stay b _ hb (nbn _ _ _ hb) (nρ _ _ hb (by simp)) (nD _ _ hb (by simp)))
  have hDb : D ≠ g.bn := fun e => nbn _ _ _ h.blk e
  have hDρ : g.ρ ≠ some D := nρ _ _ h.blk (by simp)
  have hD5 : w5.heap[D]? = some (.cells (dcells g st) 100 (0, 0)) := (k5.block D (by have := h.lt; omega) hDρ).trans ((k4.block D (by have := h.lt; omega)).trans ((k3.block D h.lt hDb).trans h.blk))
  refine ⟨⟨?_, ?_, ?_, h.ne, ?_, ?_, ?_, ?_, h.filN.doT hm t, h.filS, ⟨?_, ?_, h.few.2.2⟩, ⟨Or.inl h.own.1, Or.inl h.own.2.1, Or.inl h.own.2.2.1, ?_, ?_, ?_⟩⟩, kall⟩
  · rw [h9, heap_setCell_same _ _ _ _ _ _ hD5]
    simp [dcells, turnS]
  · have hbl := h.names.lt
    have hρb : g.ρ ≠ some g.bn := fun e => by obtain ⟨es, cl, he, _⟩ := h.names; exact nρ _ _ he (by simp) e
    exact own_keep (own_keep (own_keep hown (k4.block g.bn (by omega))) (k5.block g.bn (by omega) hρb)) (k9.block g.bn (by omega) (fun e => hDb e.symm))
  · obtain ⟨es, cl, he, hf, hl2, hD'⟩ := h.sure
    have hne : g.bs ≠ g.bn := fun e => h.ne e.symm
    have hst := stay _ _ he hne (nρ _ _ he (by simp)) (nD _ _ he (by simp))
    exact ⟨es, cl, hst, hf, Nat.le_succ_of_le hl2, hD'⟩
  · have hr9 : PRow 105 4 ρ2 o2 cap2 (st.P.length + 1) (g.xs ++ [.int .i64 (t.kind : Int), .pointer (some ⟨t.file, 0, none⟩), v2, .string t.dest]) w9 := by
      refine ⟨hr.1, ?_⟩
      rcases hr.2 with hh | ⟨r, cur, h1, h2, h4, h5⟩
      · exact Or.inl hh
      · refine Or.inr ⟨r, cur, h1, h2, (k9.block r (lt_of_heap h4) (fun e => ?_)).trans h4, h5⟩
        have e' : r = D := e
        rw [e', hD5] at h4
        simp at h4
    simpa [turnS] using hr9
  · intro i hi
    have hi' : i < st.P.length + 1 := by simpa [turnS] using hi
    by_cases hip : i < st.P.length
    · obtain ⟨c0, c1, c2, c3, e0, e1, e2, e3, t0, t1, t2, t3⟩ := h.turn i hip
      have hget : (turnS st t).P[i] = st.P[i] := by simp [turnS, List.getElem_append_left hip]
      rw [hget]
      have app : ∀ j u, g.xs[j]? = some u → (g.xs ++ [Value.int .i64 (t.kind : Int), .pointer (some ⟨t.file, 0, none⟩), v2, .string t.dest])[j]? = some u := fun j u hj => by rw [List.getElem?_append_left (List.getElem?_eq_some_iff.1 hj).1]; exact hj
      exact ⟨c0, c1, c2, c3, app _ _ e0, app _ _ e1, app _ _ e2, app _ _ e3, t0, t1, strow _ _ t2, t3⟩
    · have hip' : i = st.P.length := by omega
      subst hip'
      have hget : (turnS st t).P[st.P.length]'hi = t := by simp [turnS]
      rw [hget]
      refine ⟨_, _, _, _, ?_, ?_, ?_, ?_, rfl, rfl, strow _ _ hrow, rfl, hs.2, hs.1, hk2⟩
      · rw [List.getElem?_append_right (by omega), hxl]; simp
      · rw [List.getElem?_append_right (by omega), hxl]; simp
      · rw [List.getElem?_append_right (by omega), hxl]; simp
      · rw [List.getElem?_append_right (by omega), hxl]; simp
  · intro c hc
    have hf := fileAt c hc
    exact stay _ _ hf (nbn _ _ _ hf) (nρ _ _ hf (by simp)) (nD _ _ hf (by simp [dcells]))
  · intro c hc
    rcases live c hc with hh | rfl
    · exact h.size c hh
    · exact hsz
  · show g.nn + 1 ≤ 1000000
    omega
  · show (st.P ++ [t]).length ≤ 1000000
    simp
    omega
  · intro r hr2
    rcases hn with e | ⟨q, e, hq⟩
    · exact Or.inl (h.own.2.2.2.1 r (by rw [← e]; exact hr2))
    · have hr2' : ρ2 = some r := hr2
      rw [e] at hr2'
      cases hr2'
      refine Or.inr ⟨by omega, ?_⟩
      rcases hr.2 with hh | ⟨r', cur, h1, h2, h4, h5⟩
      · rw [hh.2.2.1] at e; cases e
      · rw [h1] at e; cases e; have := lt_of_heap h4; omega
  · intro c hc
    rcases live c hc with hh | rfl
    · exact Or.inl (h.own.2.2.2.2.1 c hh)
    · exact Or.inl hK
  · intro b hb
    rcases hb with hb | hb
    · have := h.own.2.2.2.2.2 b hb; omega
    · exact hb.2
end Go.Proofs.YtpcmmejlmhbcdaaGreat.Dk
