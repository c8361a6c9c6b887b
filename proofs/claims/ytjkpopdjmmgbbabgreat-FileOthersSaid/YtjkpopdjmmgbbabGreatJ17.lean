/- A turn of names, walked.; What a turn leaves: files still; which ones.; A turn of names of which it isn't sure yet that it lasts. -/
import Derived.Test.YtjkpopdjmmgbbabGreatJ16
set_option linter.unusedVariables false
set_option linter.unusedSimpArgs false
namespace Go.Proofs.YtjkpopdjmmgbbabGreat.Dk
open Go.RowKit Go.Maps Go.Sort

/-- What a turn at hand finds. -/
structure TS (t : Tn) (v2 : Value) (b n X bf : Nat) (cur : Array Value) (N : Dm) (w wz : World) : Prop where
  own : wz.ownsMap Tryz.prog 9 ptrE b n N
  bx : BxT X t v2 wz
  lt : X < wz.heap.size
  ne : X ≠ b
  row : 0 < t.frm.length → wz.heap[bf]? = some (.cells cur 9 (0, 0))
  kp : Kp (· = b) w wz
set_option maxRecDepth 100000 in
set_option maxHeartbeats 4000000 in
theorem do_any (t : Tn) (v2 : Value) (b n : Nat) (N : Dm) (F : Fil N) (w : World) (hown : w.ownsMap Tryz.prog 9 ptrE b n N) (hn : n ≤ 999999) (hF : ∀ s, hasN N s = true → IsF w (atN N s)) (hc : IsF w t.file) (hrow : StrRow w t.frm v2)
    (hsz : (∀ s ∈ t.frm, s.size ≤ maxLen) ∧ t.dest.size ≤ maxLen) (hlen : t.frm.length ≤ 1000000) :
    Calls Tryz.prog 49 #[.agg #[.int .i64 (t.kind : Int), .pointer (some ⟨t.file, 0, none⟩), v2, .string t.dest], .map (some b)] w (DoQ (doT N t) b (n + 1) w) := by
  obtain ⟨o, cap, bf, cur, rfl, ho, hcur⟩ := hrow
  have hal := alloc_below w (.cells #[.int .i64 (t.kind : Int), .pointer (some ⟨t.file, 0, none⟩), .slice o t.frm.length cap, .string t.dest] 70)
  have hb0 := hown.lt
  have hTS : TS t (.slice o t.frm.length cap) b n w.heap.size bf cur N w (w.alloc (.cells #[.int .i64 (t.kind : Int), .pointer (some ⟨t.file, 0, none⟩), .slice o t.frm.length cap, .string t.dest] 70)) :=
    ⟨hown.alloc _, four_cells _ _ _ _ _ _, alloc_lt _ _, by omega, fun hp => (hal.block _ (lt_of_heap (ho hp).2)).trans (ho hp).2, Kp.of_below hal⟩
  have HTS := Lib.hid hTS
  have K31 : Hid (Calls Tryz.prog 37 #[.map (some b), .pointer (some ⟨t.file, 0, none⟩)] (w.alloc (.cells #[.int .i64 (t.kind : Int), .pointer (some ⟨t.file, 0, none⟩), .slice o t.frm.length cap, .string t.dest] 70)) (NamesQ n N t.file (w.alloc (.cells #[.int .i64 (t.kind : Int), .pointer (some ⟨t.file, 0, none⟩), .slice o t.frm.length cap, .string t.dest] 70)))) :=
    Lib.hid (names_any b n t.file N F _ (hown.alloc _) (by omega) (fun s hs => (hF s hs).keep hal) (hc.keep hal))
  have HO := Lib.hid ho
  have HCUR := Lib.hid hcur
  have HSZ := Lib.hid hsz
  have HN := Lib.hid hn
  have hml := hlen
  obtain ⟨m, hm⟩ : ∃ m, m = t.frm.length := ⟨_, rfl⟩
  rw [← hm] at HTS K31 hml ⊢
  have HM := Lib.hid hm
  clear hown hn hF hc ho hcur hsz hlen hal hTS hm
  by_cases hk0 : t.kind = 0
  · have q0 : (((t.kind : Nat) : Int) != 0) = false := by rw [hk0]; rfl
    have HNN : Hid (¬ (t.kind ≠ 0 ∧ NoName N t.file)) := Lib.hid (fun h => h.1 hk0)
    clear hk0 K31
    go_enter Tryz.func49, Tryz.ntmps49
    go_wp2
    refine gen_wp (S := fun wz => Hid (TS t (.slice o m cap) b n w.heap.size bf cur N w wz)) HTS ?_
    intro W2 HS2
    clear HTS
    generalize w.heap.size = X at *
    go_loopw [20] (fun i wr => ∃ k : Nat, k ≤ m ∧ i = .int .i64 (k : Int) ∧ Hid (TS t (.slice o m cap) b n X bf cur (delsN N (t.frm.take k)) w wr)) (fun i _ => m - (intOf i).toNat)
    case atStart => exact ⟨0, by omega, rfl, HS2⟩
    case round =>
      obtain ⟨k, hk, rfl, hts⟩ := hrel
      by_cases hlt : k < m
      · have hkl : k < t.frm.length := by rw [← HM.out]; exact hlt
        have hsk := HSZ.out.1 _ (List.getElem_mem hkl)
        have hst := delsN_take N t.frm k hkl
        have hcell : wr.cell? ⟨bf, k, none⟩ = some (.string t.frm[k]) := (cell_of_row wr bf k _ _ _ (hts.out.row (by omega))).trans (HCUR.out k hkl)
        have hoo := (HO.out (by omega)).1
        generalize t.frm[k] = s at hcell hsk hst
        have HST := Lib.hid hst
        have HSK := Lib.hid hsk
        subst hoo
        have q1 : (0 : Int) ≤ (k : Int) := by omega
        have q2 : (k : Int) < (m : Int) := by omega
        clear hst hsk hkl
        go_wp2_with (first
          | (at_delete; refine wpList_delete_own _ rfl _ _ 44 9 rfl 62 law Tryz.underlying44 ptrE b n (delsN N (t.frm.take k)) rfl hts.out.own _ _ rfl (key_max s HSK.out) ?_; intro w3 hown3 hturn3; have HO3 := Lib.hid hown3; have HT3 := Lib.hid (turned_kp hturn3); clear hown3 hturn3; go_frame))
        go_roundw
        case rel =>
          have kk := HT3.out
          refine ⟨k + 1, by omega, by go_num, Lib.hid ⟨by rw [HST.out]; exact HO3.out, hts.out.bx.kp kk hts.out.lt hts.out.ne, Nat.lt_of_lt_of_le hts.out.lt kk.size, hts.out.ne, fun hp => ?_, hts.out.kp.trans kk⟩⟩
          have hr := hts.out.row hp
          exact (kk.block bf (lt_of_heap hr) (fun e => by have e' : bf = b := e; obtain ⟨es, cl, he, _⟩ := hts.out.own; rw [← e', hr] at he; cases he)).trans hr
        case measure => simp [intOf]; omega
      · have hkm : k = m := by omega
        have htk : t.frm.take k = t.frm := by rw [hkm, HM.out]; exact List.take_length
        rw [htk] at hts
        have hne : ¬ (k : Int) < (m : Int) := by omega
        obtain ⟨x0, x1, x2, x3⟩ := hts.out.bx
        by_cases hk2 : t.kind = 2
        · have q2 : (((t.kind : Nat) : Int) != 2) = false := by rw [hk2]; rfl
          have HD := Lib.hid (show doT N t = delsN N t.frm from by unfold doT; rw [if_neg HNN.out, if_pos hk2])
          clear hk2 htk
          go_wp2
          exact bodyPost_end (v := .tuple #[]) (by simp [results, Tryz.results49, go_sem]) rfl ⟨rfl, by rw [HD.out]; exact hts.out.own.mono (by omega), hts.out.kp⟩
        · have q2 : (((t.kind : Nat) : Int) != 2) = true := by rw [bne_iff_ne]; omega
          have HD := Lib.hid (show doT N t = (delsN N t.frm).put (nk t.dest) (fl t.file) from by unfold doT; rw [if_neg HNN.out, if_neg hk2])
          clear hk2 htk
          go_wp2_with (first
            | (at_mapUpdate; refine wpList_mapUpdate_in _ rfl _ _ _ 44 rfl 9 62 law Tryz.underlying44 ptrE b n (delsN N t.frm) rfl hts.out.own (by have := HN.out; unfold maxLen; omega) _ _ _ rfl rfl (key_max _ HSZ.out.2) (fl t.file) [] (ptrE_mk _) ?_; intro w3 hown3 hturn3; have HO3 := Lib.hid hown3; have HT3 := Lib.hid (turned_kp hturn3); clear hown3 hturn3; go_frame))
          exact bodyPost_end (v := .tuple #[]) (by simp [results, Tryz.results49, go_sem]) rfl ⟨rfl, by rw [HD.out]; exact HO3.out, hts.out.kp.trans HT3.out⟩
  · have q0 : (((t.kind : Nat) : Int) != 0) = true := by rw [bne_iff_ne]; omega
    by_cases hnn : NoName N t.file
    · have HD := Lib.hid (show doT N t = N from if_pos ⟨hk0, hnn⟩)
      have K32 : Hid (Calls Tryz.prog 37 #[.map (some b), .pointer (some ⟨t.file, 0, none⟩)] (w.alloc (.cells #[.int .i64 (t.kind : Int), .pointer (some ⟨t.file, 0, none⟩), .slice o m cap, .string t.dest] 70)) fun e w' => ∃ (ol : Option Addr) (capl : Nat), e = .returned (.slice ol 0 capl) ∧ Hid (Below (w.alloc (.cells #[.int .i64 (t.kind : Int), .pointer (some ⟨t.file, 0, none⟩), .slice o m cap, .string t.dest] 70)).heap.size (w.alloc (.cells #[.int .i64 (t.kind : Int), .pointer (some ⟨t.file, 0, none⟩), .slice o m cap, .string t.dest] 70)) w')) := Lib.hid (K31.out.mono (fun e w' h => by
        obtain ⟨ls, ρ, ol, capl, rfl, _, _, hg, hb, _⟩ := h
        have hz : ls = [] := by
          cases ls with
          | nil => rfl
          | cons s l => have := (hg.1 s).1 (by simp); exact absurd this.2 (hnn s this.1)
        subst hz
        exact ⟨ol, capl, rfl, Lib.hid hb⟩))
      clear hk0 hnn K31
      go_enter Tryz.func49, Tryz.ntmps49
      go_wp2_with (first
        | (go_at_call 37; ((with_reducible refine (K32.out).mono ?_); rintro e w2 ⟨ol, capl, rfl, HB2⟩)))
      exact bodyPost_end (v := .tuple #[]) (by simp [results, Tryz.results49, go_sem]) rfl ⟨rfl, by
        rw [HD.out]
        exact (own_keep HTS.out.own (HB2.out.block _ HTS.out.own.lt)).mono (by omega), HTS.out.kp.trans (Kp.of_below HB2.out)⟩
    · have K32 : Hid (Calls Tryz.prog 37 #[.map (some b), .pointer (some ⟨t.file, 0, none⟩)] (w.alloc (.cells #[.int .i64 (t.kind : Int), .pointer (some ⟨t.file, 0, none⟩), .slice o m cap, .string t.dest] 70)) fun e w' => ∃ (ol : Option Addr) (capl q : Nat), e = .returned (.slice ol q capl) ∧ ((q : Int) == 0) = false ∧ Hid (Below (w.alloc (.cells #[.int .i64 (t.kind : Int), .pointer (some ⟨t.file, 0, none⟩), .slice o m cap, .string t.dest] 70)).heap.size (w.alloc (.cells #[.int .i64 (t.kind : Int), .pointer (some ⟨t.file, 0, none⟩), .slice o m cap, .string t.dest] 70)) w')) := Lib.hid (K31.out.mono (fun e w' h => by
        obtain ⟨ls, ρ, ol, capl, rfl, _, _, hg, hb, _⟩ := h
        refine ⟨ol, capl, ls.length, rfl, ?_, Lib.hid hb⟩
        rw [beq_eq_false_iff_ne]
        intro e
        have hz : ls = [] := List.eq_nil_of_length_eq_zero (by omega)
        subst hz
        exact hnn (fun s hs hc => by have := (hg.1 s).2 ⟨hs, hc⟩; cases this)))
      have HNN : Hid (¬ (t.kind ≠ 0 ∧ NoName N t.file)) := Lib.hid (fun h => hnn h.2)
      clear hk0 hnn K31
      go_enter Tryz.func49, Tryz.ntmps49
      go_wp2_with (first
        | (go_at_call 37; ((with_reducible refine (K32.out).mono ?_); rintro e w2 ⟨ol, capl, q, rfl, hq, HB2⟩; obtain ⟨y0, y1, y2, y3⟩ := HTS.out.bx.kp (Kp.of_below (K := (· = b)) HB2.out) HTS.out.lt HTS.out.ne)))
      refine gen_wp (S := fun wz => Hid (TS t (.slice o m cap) b n w.heap.size bf cur N w wz)) (Lib.hid ⟨own_keep HTS.out.own (HB2.out.block _ HTS.out.own.lt), HTS.out.bx.kp (Kp.of_below (K := (· = b)) HB2.out) HTS.out.lt HTS.out.ne, Nat.lt_of_lt_of_le HTS.out.lt HB2.out.size, HTS.out.ne, fun hp => (HB2.out.block _ (lt_of_heap (HTS.out.row hp))).trans (HTS.out.row hp), HTS.out.kp.trans (Kp.of_below HB2.out)⟩) ?_
      intro W2 HS2
      clear HTS y0 y1 y2 y3 HB2 K32
      generalize w.heap.size = X at *
      go_loopw [20] (fun i wr => ∃ k : Nat, k ≤ m ∧ i = .int .i64 (k : Int) ∧ Hid (TS t (.slice o m cap) b n X bf cur (delsN N (t.frm.take k)) w wr)) (fun i _ => m - (intOf i).toNat)
      case atStart => exact ⟨0, by omega, rfl, HS2⟩
      case round =>
        obtain ⟨k, hk, rfl, hts⟩ := hrel
        by_cases hlt : k < m
        · have hkl : k < t.frm.length := by rw [← HM.out]; exact hlt
          have hsk := HSZ.out.1 _ (List.getElem_mem hkl)
          have hst := delsN_take N t.frm k hkl
          have hcell : wr.cell? ⟨bf, k, none⟩ = some (.string t.frm[k]) := (cell_of_row wr bf k _ _ _ (hts.out.row (by omega))).trans (HCUR.out k hkl)
          have hoo := (HO.out (by omega)).1
          generalize t.frm[k] = s at hcell hsk hst
          have HST := Lib.hid hst
          have HSK := Lib.hid hsk
          subst hoo
          have q1 : (0 : Int) ≤ (k : Int) := by omega
          have q2 : (k : Int) < (m : Int) := by omega
          clear hst hsk hkl
          go_wp2_with (first
            | (at_delete; refine wpList_delete_own _ rfl _ _ 44 9 rfl 62 law Tryz.underlying44 ptrE b n (delsN N (t.frm.take k)) rfl hts.out.own _ _ rfl (key_max s HSK.out) ?_; intro w3 hown3 hturn3; have HO3 := Lib.hid hown3; have HT3 := Lib.hid (turned_kp hturn3); clear hown3 hturn3; go_frame))
          go_roundw
          case rel =>
            have kk := HT3.out
            refine ⟨k + 1, by omega, by go_num, Lib.hid ⟨by rw [HST.out]; exact HO3.out, hts.out.bx.kp kk hts.out.lt hts.out.ne, Nat.lt_of_lt_of_le hts.out.lt kk.size, hts.out.ne, fun hp => ?_, hts.out.kp.trans kk⟩⟩
            have hr := hts.out.row hp
            exact (kk.block bf (lt_of_heap hr) (fun e => by have e' : bf = b := e; obtain ⟨es, cl, he, _⟩ := hts.out.own; rw [← e', hr] at he; cases he)).trans hr
          case measure => simp [intOf]; omega
        · have hkm : k = m := by omega
          have htk : t.frm.take k = t.frm := by rw [hkm, HM.out]; exact List.take_length
          rw [htk] at hts
          have hne : ¬ (k : Int) < (m : Int) := by omega
          obtain ⟨x0, x1, x2, x3⟩ := hts.out.bx
          by_cases hk2 : t.kind = 2
          · have q2 : (((t.kind : Nat) : Int) != 2) = false := by rw [hk2]; rfl
            have HD := Lib.hid (show doT N t = delsN N t.frm from by unfold doT; rw [if_neg HNN.out, if_pos hk2])
            clear hk2 htk
            go_wp2
            exact bodyPost_end (v := .tuple #[]) (by simp [results, Tryz.results49, go_sem]) rfl ⟨rfl, by rw [HD.out]; exact hts.out.own.mono (by omega), hts.out.kp⟩
          · have q2 : (((t.kind : Nat) : Int) != 2) = true := by rw [bne_iff_ne]; omega
            have HD := Lib.hid (show doT N t = (delsN N t.frm).put (nk t.dest) (fl t.file) from by unfold doT; rw [if_neg HNN.out, if_neg hk2])
            clear hk2 htk
            go_wp2_with (first
              | (at_mapUpdate; refine wpList_mapUpdate_in _ rfl _ _ _ 44 rfl 9 62 law Tryz.underlying44 ptrE b n (delsN N t.frm) rfl hts.out.own (by have := HN.out; unfold maxLen; omega) _ _ _ rfl rfl (key_max _ HSZ.out.2) (fl t.file) [] (ptrE_mk _) ?_; intro w3 hown3 hturn3; have HO3 := Lib.hid hown3; have HT3 := Lib.hid (turned_kp hturn3); clear hown3 hturn3; go_frame))
            exact bodyPost_end (v := .tuple #[]) (by simp [results, Tryz.results49, go_sem]) rfl ⟨rfl, by rw [HD.out]; exact HO3.out, hts.out.kp.trans HT3.out⟩
end Go.Proofs.YtjkpopdjmmgbbabGreat.Dk

namespace Go.Proofs.YtjkpopdjmmgbbabGreat.Dk
open Go.RowKit Go.Maps Go.Sort

/-- A name's file, as a map tells it. -/
def Leads (D : Dm) (k : Lit) (c : Nat) : Prop := Maps.has D k = true ∧ ∀ z, D.atKey k z = fl c
theorem Leads.one {D : Dm} {k : Lit} {c d : Nat} (h : Leads D k c) (h' : Leads D k d) : c = d := fl_inj ((h.2 .nil).symm.trans (h'.2 .nil))
theorem leads_del {D : Dm} {k k' : Lit} {c : Nat} : Leads (D.del k) k' c ↔ k' ≠ k ∧ Leads D k' c := by
  by_cases e : k' = k
  · subst e
    constructor
    · intro h; have := h.1; rw [Maps.has_del_same] at this; cases this
    · intro h; exact absurd rfl h.1
  · unfold Leads
    rw [Maps.has_del_other e]
    constructor
    · intro h; exact ⟨e, h.1, fun z => by rw [← Maps.atKey_del_other e]; exact h.2 z⟩
    · intro h; exact ⟨h.2.1, fun z => by rw [Maps.atKey_del_other e]; exact h.2.2 z⟩
theorem leads_put {D : Dm} {k k' : Lit} {c d : Nat} (hD : Maps.IsMap D) (hk : WideAt.IsKeyLit k) : Leads (D.put k (fl d)) k' c ↔ (k' = k ∧ c = d) ∨ (k' ≠ k ∧ Leads D k' c) := by
  by_cases e : k' = k
  · subst e
    constructor
    · intro h
      left
      refine ⟨rfl, fl_inj ?_⟩
      rw [← h.2 .nil, Maps.atKey_put_same hD hk]
    · rintro (⟨_, rfl⟩ | h)
      · exact ⟨Maps.has_put_same hD hk _, fun z => Maps.atKey_put_same hD hk _ z⟩
      · exact absurd rfl h.1
  · unfold Leads
    rw [Maps.has_put_other e]
    constructor
    · intro h; right; exact ⟨e, h.1, fun z => by rw [← Maps.atKey_put_other e (fl d)]; exact h.2 z⟩
    · rintro (⟨h, _⟩ | h)
      · exact absurd h e
      · exact ⟨h.2.1, fun z => by rw [Maps.atKey_put_other e]; exact h.2.2 z⟩
theorem leads_dels {N : Dm} {k : Lit} {c : Nat} : ∀ (l : List ByteArray) (N : Dm), Leads (delsN N l) k c ↔ (∀ s ∈ l, k ≠ nk s) ∧ Leads N k c
  | [], N => by simp [delsN]
  | s :: l, N => by
    have h := leads_dels (N := N) (k := k) (c := c) l (N.del (nk s))
    have e : delsN N (s :: l) = delsN (N.del (nk s)) l := rfl
    rw [e, h, leads_del]
    constructor
    · rintro ⟨h1, h2, h3⟩; exact ⟨fun x hx => by rcases List.mem_cons.1 hx with rfl | hx; exact h2; exact h1 x hx, h3⟩
    · rintro ⟨h1, h3⟩; exact ⟨fun x hx => h1 x (by simp [hx]), h1 s (by simp), h3⟩
theorem isMap_dels : ∀ (l : List ByteArray) (N : Dm), Maps.IsMap N → Maps.IsMap (delsN N l)
  | [], N, h => h
  | s :: l, N, h => isMap_dels l (N.del (nk s)) (h.del _)
theorem key_lit (s : ByteArray) : WideAt.IsKeyLit (nk s) := trivial
theorem has_dels {k : Lit} : ∀ (l : List ByteArray) (N : Dm), Maps.has (delsN N l) k = true → Maps.has N k = true ∧ ∀ s ∈ l, k ≠ nk s
  | [], N, h => ⟨h, fun s hs => by cases hs⟩
  | s :: l, N, h => by
    obtain ⟨h1, h2⟩ := has_dels l (N.del (nk s)) h
    have hk : k ≠ nk s := by rintro rfl; rw [Maps.has_del_same] at h1; cases h1
    rw [Maps.has_del_other hk] at h1
    exact ⟨h1, fun x hx => by rcases List.mem_cons.1 hx with rfl | hx; exact hk; exact h2 x hx⟩
theorem fil_iff {D : Dm} : Fil D ↔ ∀ k, Maps.has D k = true → ∃ c, Leads D k c := ⟨fun h k hk => by obtain ⟨c, hc⟩ := h k hk; exact ⟨c, hk, hc⟩, fun h k hk => by obtain ⟨c, hc⟩ := h k hk; exact ⟨c, hc.2⟩⟩
theorem Fil.dels {N : Dm} (h : Fil N) (l : List ByteArray) : Fil (delsN N l) := fil_iff.2 (fun k hk => by
  obtain ⟨h1, h2⟩ := has_dels l N hk
  obtain ⟨c, hc⟩ := fil_iff.1 h k h1
  exact ⟨c, (leads_dels (N := N) l N).2 ⟨h2, hc⟩⟩)
theorem Fil.put {N : Dm} (h : Fil N) (hm : Maps.IsMap N) (s : ByteArray) (c : Nat) : Fil (N.put (nk s) (fl c)) := fil_iff.2 (fun k hk => by
  by_cases e : k = nk s
  · exact ⟨c, (leads_put hm (key_lit s)).2 (Or.inl ⟨e, rfl⟩)⟩
  · rw [Maps.has_put_other e] at hk
    obtain ⟨d, hd⟩ := fil_iff.1 h k hk
    exact ⟨d, (leads_put hm (key_lit s)).2 (Or.inr ⟨e, hd⟩)⟩)
theorem Fil.doT {N : Dm} (h : Fil N) (hm : Maps.IsMap N) (t : Tn) : Fil (doT N t) := by
  unfold YtjkpopdjmmgbbabGreat.Dk.doT
  split
  · exact h
  · split
    · exact h.dels _
    · exact (h.dels _).put (isMap_dels _ _ hm) _ _
theorem leads_doT {N : Dm} (hm : Maps.IsMap N) (t : Tn) (k : Lit) (c : Nat) (h : Leads (doT N t) k c) : Leads N k c ∨ c = t.file := by
  unfold doT at h
  split at h
  · exact Or.inl h
  · split at h
    · exact Or.inl ((leads_dels (N := N) _ _).1 h).2
    · rcases (leads_put (isMap_dels _ _ hm) (key_lit _)).1 h with ⟨_, e⟩ | ⟨_, h2⟩
      · exact Or.inr e
      · exact Or.inl ((leads_dels (N := N) _ _).1 h2).2
end Go.Proofs.YtjkpopdjmmgbbabGreat.Dk

namespace Go.Proofs.YtjkpopdjmmgbbabGreat.Dk
open Go.RowKit Go.Maps Go.Sort

theorem wp_prow {w : World} {o : Oper} {a : Act} {K : Act → World → Prop} {Q : Exit → Act → World → Prop} (s x : Operand) (t T : TypeId)
    (ho : o.op = .call { callee := .builtin .append, args := #[s, x], argTypes := #[t, t] }) (hu : Tryz.prog.underlying t = some (.slice T)) (z : Value) (m by' : Nat) (hinfo : (Tryz.prog.info? T).map (fun i => (i.zero, i.size, i.bytes)) = some (some z, m, by')) (hzs : z.cells.size = m) (hm : 0 < m) (hb : by' ≤ 64)
    (ρ : Option Nat) (oo : Option Addr) (cap n : Nat) (xs : List Value) (hR : PRow T m ρ oo cap n xs w) (hn : n + 1 ≤ 1000000000) (ad : Addr) (news : List Value) (hl : news.length = m) (hnews : ∀ j u, news[j]? = some u → w.cell? (ad.add j) = some u) (h1 : ∀ u ∈ news, u.oneCell' = true)
    (hs : a.eval s = .slice oo n cap) (hx : a.eval x = .slice (some ad) 1 1)
    (h : ∀ o' cap' w' ρ', PRow T m ρ' o' cap' (n + 1) (xs ++ news) w' → Nxt ρ ρ' w → Kp (fun b => ρ = some b) w w' → K (a.put o.dst (.slice o' (n + 1) cap')) w') : Oper.wp Tryz.prog o a w K Q := by
  obtain ⟨o', cap', w', ρ', hr, h2, h3, h4⟩ := prow_append t T o.type hu z m by' hinfo hzs hm hb w ρ oo cap n xs hR hn ad news hl hnews h1
  unfold Oper.wp execOp
  simp only [ho, resolve, invoke, builtin, Sem.run_bind, Sem.run_pure, Result.andThen_ok, List.map_toArray, List.map_cons, List.map_nil, hs, hx, hr]
  exact h o' cap' w' ρ' h2 h3 h4
theorem four_news (w : World) (a b c d : Value) (T : TypeId) (j : Nat) (u : Value) (h : [a, b, c, d][j]? = some u) : (w.alloc (.cells #[a, b, c, d] T)).cell? ((⟨w.heap.size, 0, none⟩ : Addr).add j) = some u := by
  rw [plain_add, Nat.zero_add, World.cell?_alloc_new w #[a, b, c, d] T j]
  match j, h with
  | 0, h => exact h
  | 1, h => exact h
  | 2, h => exact h
  | 3, h => exact h
/-- What the append finds: a disk's row, and the box of a turn. -/
structure SS (D X : Nat) (t : Tn) (v2 v : Value) (wz : World) : Prop where
  c : wz.cell? ⟨D, 3, none⟩ = some v
  f : wz.frozen? ⟨D, 3, none⟩ = false
  b : BxT X t v2 wz
  d : D < wz.heap.size
  x : X < wz.heap.size
theorem SS.blocks {D X : Nat} {t : Tn} {v2 v : Value} {w w' : World} (h : SS D X t v2 v w) (hs : w.heap.size ≤ w'.heap.size) (hD : w'.heap[D]? = w.heap[D]?) (hX : w'.heap[X]? = w.heap[X]?) : SS D X t v2 v w' :=
  ⟨(World.cell?_of_block (a := ⟨D, 3, none⟩) hD).trans h.c, (World.frozen?_of_block (a := ⟨D, 3, none⟩) hD).trans h.f, ⟨(World.cell?_of_block (a := ⟨X, 0, none⟩) hX).trans h.b.1, (World.cell?_of_block (a := ⟨X, 1, none⟩) hX).trans h.b.2.1, (World.cell?_of_block (a := ⟨X, 2, none⟩) hX).trans h.b.2.2.1, (World.cell?_of_block (a := ⟨X, 3, none⟩) hX).trans h.b.2.2.2⟩, Nat.lt_of_lt_of_le h.d hs, Nat.lt_of_lt_of_le h.x hs⟩
theorem SS.alloc {D X : Nat} {t : Tn} {v2 v : Value} {w : World} (h : SS D X t v2 v w) (o : Obj) : SS D X t v2 v (w.alloc o) := h.blocks (by simp) ((alloc_below w o).block D h.d) ((alloc_below w o).block X h.x)
theorem SS.kp {D X : Nat} {t : Tn} {v2 v : Value} {w w' : World} {ρ : Option Nat} (h : SS D X t v2 v w) (hk : Kp (fun b => ρ = some b) w w') (h1 : ρ ≠ some D) (h2 : ρ ≠ some X) : SS D X t v2 v w' := h.blocks hk.size (hk.block D h.d h1) (hk.block X h.x h2)
end Go.Proofs.YtjkpopdjmmgbbabGreat.Dk
