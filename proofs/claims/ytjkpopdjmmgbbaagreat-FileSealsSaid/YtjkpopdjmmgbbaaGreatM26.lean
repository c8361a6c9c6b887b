/- One round of the document's sum: plain facts.; The bodies of the loops of the document's sum.; Walk of the document's sum: the body of one of its loops. -/
import Derived.Test.YtjkpopdjmmgbbaaGreatM25
import Derived.BigQuiet
import Derived.StillTailTactics
set_option linter.unusedVariables false
set_option linter.unusedSimpArgs false
namespace Go.Proofs.YtjkpopdjmmgbbaaGreat.Dg
open Go.RowKit

theorem not_sub (e : Nat) (h : e < 4294967296) : 4294967295 - e = 4294967295 ^^^ e := by
  have h2 : (~~~(BitVec.ofNat 32 e)).toNat = 4294967295 - e := by
    rw [BitVec.toNat_not, BitVec.toNat_ofNat, Nat.mod_eq_of_lt (by omega)]
  have h3 : (BitVec.allOnes 32 ^^^ BitVec.ofNat 32 e).toNat = 4294967295 ^^^ e := by
    rw [BitVec.toNat_xor, BitVec.toNat_allOnes, BitVec.toNat_ofNat, Nat.mod_eq_of_lt (by omega)]
  rw [← h2, ← h3, BitVec.allOnes_xor]
theorem eight (l : List Nat) (h : l.length = 8) : ∃ a b c d e f g h, l = [a, b, c, d, e, f, g, h] := by
  match l, h with
  | [a, b, c, d, e, f, g, h], _ => exact ⟨a, b, c, d, e, f, g, h, rfl⟩
/-- What the operations of a round come to. -/
theorem rotr3 (x a b c : Nat) (hx : x < 4294967296) : bits BinOp.xor IntKind.u32 (ror x a : Nat) (ror x b : Nat) = ((ror x a ^^^ ror x b : Nat) : Int) ∧ bits BinOp.xor IntKind.u32 ((ror x a ^^^ ror x b : Nat) : Int) (ror x c : Nat) = ((ror x a ^^^ ror x b ^^^ ror x c : Nat) : Int) := by
  have ha := (ror_or x a hx).2.2
  have hb := (ror_or x b hx).2.2
  have hc := (ror_or x c hx).2.2
  have h1 := xor_nat _ _ ha hb
  exact ⟨h1.1, (xor_nat _ _ h1.2 hc).1⟩
/-- The sum's words, and its bytes. -/
def OX (w : World) (gk gh go : Nat) (h : List Nat) (l : List UInt8) (wr : World) : Prop := T2 w gk gh h wr ∧ BB go 5 l wr ∧ gh < go
section
variable {w wr w1 : World} {gk gh go : Nat} {h : List Nat} {l : List UInt8}
theorem OX.later (t : OX w gk gh go h l wr) (hb : Below wr.heap.size wr w1) : OX w gk gh go h l w1 := ⟨t.1.later hb, t.2.1.later hb, t.2.2⟩
theorem OX.put (t : OX w gk gh go h l wr) (j : Nat) (x : UInt8) : OX w gk gh go h (l.set j x) (wr.setCell ⟨go, j, none⟩ (.int .u8 (x.toNat : Int))) :=
  ⟨⟨t.1.1.other _ (by have := t.2.2; have := t.1.2.2.2.1; show gk ≠ go; omega), t.1.2.1.other _ (by have := t.2.2; show gh ≠ go; omega), t.1.2.2.1, t.1.2.2.2.1, t.1.2.2.2.2.setCell (by have := t.2.2; have := t.1.2.2.1; have := t.1.2.2.2.1; show w.heap.size ≤ go; omega) _⟩, t.2.1.put j x, t.2.2⟩
theorem OX.fresh (t : T2 w gk gh h wr) : OX w gk gh wr.heap.size h zb32 (wr.alloc (.cells (W.bcells zb32).toArray 5)) :=
  ⟨t.later ((Below.refl _ _).alloc (Nat.le_refl _) _), bb_new wr zb32 5, t.2.1.lt⟩
end
/-- The first bytes of a sum, then noughts. -/
def outB (h : List Nat) (i : Nat) : List UInt8 := (bytes4 h).take i ++ List.replicate (32 - i) 0
theorem outB_len (h : List Nat) (h1 : h.length = 8) (i : Nat) (hi : i ≤ 32) : (outB h i).length = 32 := by
  have := bytes4_len h
  unfold outB; simp; omega
theorem outB_0 (h : List Nat) : outB h 0 = zb32 := rfl
theorem outB_32 (h : List Nat) (h1 : h.length = 8) : outB h 32 = bytes4 h := by
  have := bytes4_len h
  unfold outB; rw [List.take_of_length_le (by omega)]; simp
theorem outB_set (h : List Nat) (h1 : h.length = 8) (i : Nat) (hi : i < 32) (x : UInt8) (hx : (bytes4 h)[i]? = some x) : (outB h i).set i x = outB h (i + 1) := by
  have hl := bytes4_len h
  have hi' : i < (bytes4 h).length := by omega
  rw [List.getElem?_eq_getElem hi'] at hx
  unfold outB
  rw [List.set_append_right _ _ (List.length_take_le _ _), show i - ((bytes4 h).take i).length = 0 by simp; omega, show 32 - i = (32 - (i + 1)) + 1 by omega, List.replicate_succ, List.set_cons_zero, List.take_succ_eq_append_getElem hi', List.append_assoc]
  congr 1
  simp at hx
  rw [hx]; rfl
theorem bytes4_at : ∀ (h : List Nat) (q r : Nat) (hq : q < h.length), r < 4 → (bytes4 h)[4 * q + r]? = some (UInt8.ofNat (h[q] / 256 ^ (3 - r)))
  | [], q, _, hq, _ => absurd hq (by simp)
  | x :: h, 0, r, _, hr => by
    have e : bytes4 (x :: h) = W.be x 4 ++ bytes4 h := by simp [bytes4]
    rw [e, List.getElem?_append_left (by rw [W.be_length]; omega)]
    match r, hr with
    | 0, _ => rfl
    | 1, _ => rfl
    | 2, _ => rfl
    | 3, _ => rfl
  | x :: h, q + 1, r, hq, hr => by
    have e : bytes4 (x :: h) = W.be x 4 ++ bytes4 h := by simp [bytes4]
    have ih := bytes4_at h q r (by simpa using hq) hr
    rw [e, List.getElem?_append_right (by rw [W.be_length]; omega), W.be_length, show 4 * (q + 1) + r - 4 = 4 * q + r by omega, ih]
    rfl
theorem conv_bb {g : Nat} {l : List UInt8} {w : World} (h : BB g 5 l w) (hl : l.length = 32) : (convert 68 9 (.slice (some ⟨g, 0, none⟩) 32 32)).run Tryz.prog w = .ok (.string (W.str l)) w := by
  have h2 := run_convert_bytes_back (P := Tryz.prog) w 68 9 5 ⟨g, 0, none⟩ 32 l Tryz.underlying68 Tryz.underlying5 Tryz.underlying9 (fun j hj => by
    have := h.cell j hj
    have hadd : (⟨g, 0, none⟩ : Addr).add j = ⟨g, j, none⟩ := by unfold Addr.add; split <;> simp_all
    rw [hadd]; exact this)
  rw [hl] at h2
  exact h2
end Go.Proofs.YtjkpopdjmmgbbaaGreat.Dg

namespace Go.Proofs.YtjkpopdjmmgbbaaGreat.Dg
open Go.RowKit

def loopsIn : Code → List Code
  | .loop c => c :: loopsIn c
  | .seq a b => loopsIn a ++ loopsIn b
  | .block _ c => loopsIn c
  | .scope c => loopsIn c
  | .cond _ a b => loopsIn a ++ loopsIn b
  | _ => []
noncomputable def body20 (n : Nat) : Code := ((Tryz.f34.body.bind fun c => (loopsIn c)[n]?).getD .skip)
end Go.Proofs.YtjkpopdjmmgbbaaGreat.Dg

namespace Go.Proofs.YtjkpopdjmmgbbaaGreat.Dg
open Go.RowKit
set_option linter.unusedVariables false

set_option maxRecDepth 1000000 in
set_option maxHeartbeats 40000000 in
def post_R (w : World) (j gk gh gw gv : Nat) (H Wd V R : List Nat) (wr : World) (u0 u1 u2 u3 u5 u6 u8 u9 u10 u11 u12 u20 u21 u22 u23 u24 u25 u26 u27 u28 u29 u30 u31 u32 u33 u34 u35 u36 u37 u38 u39 u40 u41 u42 u43 u44 u45 u46 u47 u48 u49 u50 u51 u52 u53 u54 u55 u56 u57 u58 u59 u60 u61 u62 u63 u64 u65 u66 u67 u68 u69 u70 u71 u72 u73 u74 u75 u76 u77 u78 u79 u80 u81 u82 u83 u84 u85 u86 u87 u88 u89 u90 u91 u92 u93 u94 u95 u96 u97 u98 u99 u100 u101 u102 u103 u104 u105 u106 u107 u108 u109 u110 u111 u112 u113 u114 u115 u116 u117 u118 u119 u120 u121 u122 u123 u124 u125 u126 u127 u128 u129 u130 u131 u132 u133 u134 u135 u136 u137 u138 u139 u140 u141 u142 u143 u144 u145 u146 u264 u265 u266 u267 u268 u269 u270 u271 u272 u273 u274 u275 u276 u277 u278 u279 u280 u281 u282 u283 u284 u285 u286 u287 u288 u289 u290 u291 u292 u293 u294 u295 u296 u297 u298 u299 u300 : Value) (a2 : Act) (wr2 : World) : Prop := ∃ (x : Nat → Value) (gv2 : Nat) (V2 : List Nat), a2 = ⟨List.toArray (u0 :: u1 :: u2 :: u3 :: .slice (some ⟨gk, 0, none⟩) 64 64 :: u5 :: u6 :: .slice (some ⟨gw, 0, none⟩) 64 64 :: u8 :: u9 :: u10 :: u11 :: u12 :: .slice (some ⟨gv2, 0, none⟩) 8 8 :: .int .i64 ((j : Int) + 1) :: x 15 :: x 16 :: x 17 :: x 18 :: x 19 :: u20 :: u21 :: u22 :: u23 :: u24 :: u25 :: u26 :: u27 :: u28 :: u29 :: u30 :: u31 :: u32 :: u33 :: u34 :: u35 :: u36 :: u37 :: u38 :: u39 :: u40 :: u41 :: u42 :: u43 :: u44 :: u45 :: u46 :: u47 :: u48 :: u49 :: u50 :: u51 :: u52 :: u53 :: u54 :: u55 :: u56 :: u57 :: u58 :: u59 :: u60 :: u61 :: u62 :: u63 :: u64 :: u65 :: u66 :: u67 :: u68 :: u69 :: u70 :: u71 :: u72 :: u73 :: u74 :: u75 :: u76 :: u77 :: u78 :: u79 :: u80 :: u81 :: u82 :: u83 :: u84 :: u85 :: u86 :: u87 :: u88 :: u89 :: u90 :: u91 :: u92 :: u93 :: u94 :: u95 :: u96 :: u97 :: u98 :: u99 :: u100 :: u101 :: u102 :: u103 :: u104 :: u105 :: u106 :: u107 :: u108 :: u109 :: u110 :: u111 :: u112 :: u113 :: u114 :: u115 :: u116 :: u117 :: u118 :: u119 :: u120 :: u121 :: u122 :: u123 :: u124 :: u125 :: u126 :: u127 :: u128 :: u129 :: u130 :: u131 :: u132 :: u133 :: u134 :: u135 :: u136 :: u137 :: u138 :: u139 :: u140 :: u141 :: u142 :: u143 :: u144 :: u145 :: u146 :: x 147 :: x 148 :: x 149 :: x 150 :: x 151 :: x 152 :: x 153 :: x 154 :: x 155 :: x 156 :: x 157 :: x 158 :: x 159 :: x 160 :: x 161 :: x 162 :: x 163 :: x 164 :: x 165 :: x 166 :: x 167 :: x 168 :: x 169 :: x 170 :: x 171 :: x 172 :: x 173 :: x 174 :: x 175 :: x 176 :: x 177 :: x 178 :: x 179 :: x 180 :: x 181 :: x 182 :: x 183 :: x 184 :: x 185 :: x 186 :: x 187 :: x 188 :: x 189 :: x 190 :: x 191 :: x 192 :: x 193 :: x 194 :: x 195 :: x 196 :: x 197 :: x 198 :: x 199 :: x 200 :: x 201 :: x 202 :: x 203 :: x 204 :: x 205 :: x 206 :: x 207 :: x 208 :: x 209 :: x 210 :: x 211 :: x 212 :: x 213 :: x 214 :: x 215 :: x 216 :: x 217 :: x 218 :: x 219 :: x 220 :: x 221 :: x 222 :: x 223 :: x 224 :: x 225 :: x 226 :: x 227 :: x 228 :: x 229 :: x 230 :: x 231 :: x 232 :: x 233 :: x 234 :: x 235 :: x 236 :: x 237 :: x 238 :: x 239 :: x 240 :: x 241 :: x 242 :: x 243 :: x 244 :: x 245 :: x 246 :: x 247 :: x 248 :: x 249 :: x 250 :: x 251 :: x 252 :: x 253 :: x 254 :: x 255 :: x 256 :: x 257 :: x 258 :: x 259 :: x 260 :: x 261 :: x 262 :: x 263 :: u264 :: u265 :: u266 :: u267 :: u268 :: u269 :: u270 :: u271 :: u272 :: u273 :: u274 :: u275 :: u276 :: u277 :: u278 :: u279 :: u280 :: u281 :: u282 :: u283 :: u284 :: u285 :: u286 :: u287 :: u288 :: u289 :: u290 :: u291 :: u292 :: u293 :: u294 :: u295 :: u296 :: u297 :: u298 :: u299 :: u300 :: List.nil), []⟩ ∧ Hid (T4 w gk gh gw gv2 H Wd V2 wr2) ∧ Hid (V2.length = 8 ∧ small V2) ∧ Hid (rds (KS.drop (j + 1)) (Wd.drop (j + 1)) V2 = R)
set_option maxRecDepth 1000000 in
theorem post_mk_R (w : World) (j gk gh gw gv : Nat) (H Wd V R : List Nat) (wr : World) (u0 u1 u2 u3 u5 u6 u8 u9 u10 u11 u12 u20 u21 u22 u23 u24 u25 u26 u27 u28 u29 u30 u31 u32 u33 u34 u35 u36 u37 u38 u39 u40 u41 u42 u43 u44 u45 u46 u47 u48 u49 u50 u51 u52 u53 u54 u55 u56 u57 u58 u59 u60 u61 u62 u63 u64 u65 u66 u67 u68 u69 u70 u71 u72 u73 u74 u75 u76 u77 u78 u79 u80 u81 u82 u83 u84 u85 u86 u87 u88 u89 u90 u91 u92 u93 u94 u95 u96 u97 u98 u99 u100 u101 u102 u103 u104 u105 u106 u107 u108 u109 u110 u111 u112 u113 u114 u115 u116 u117 u118 u119 u120 u121 u122 u123 u124 u125 u126 u127 u128 u129 u130 u131 u132 u133 u134 u135 u136 u137 u138 u139 u140 u141 u142 u143 u144 u145 u146 u264 u265 u266 u267 u268 u269 u270 u271 u272 u273 u274 u275 u276 u277 u278 u279 u280 u281 u282 u283 u284 u285 u286 u287 u288 u289 u290 u291 u292 u293 u294 u295 u296 u297 u298 u299 u300 : Value) (a2 : Act) (gv2 : Nat) (V2 : List Nat) (wr2 : World) (h : a2 = ⟨List.toArray (u0 :: u1 :: u2 :: u3 :: .slice (some ⟨gk, 0, none⟩) 64 64 :: u5 :: u6 :: .slice (some ⟨gw, 0, none⟩) 64 64 :: u8 :: u9 :: u10 :: u11 :: u12 :: .slice (some ⟨gv2, 0, none⟩) 8 8 :: .int .i64 ((j : Int) + 1) :: Array.getD a2.tmps 15 undef :: Array.getD a2.tmps 16 undef :: Array.getD a2.tmps 17 undef :: Array.getD a2.tmps 18 undef :: Array.getD a2.tmps 19 undef :: u20 :: u21 :: u22 :: u23 :: u24 :: u25 :: u26 :: u27 :: u28 :: u29 :: u30 :: u31 :: u32 :: u33 :: u34 :: u35 :: u36 :: u37 :: u38 :: u39 :: u40 :: u41 :: u42 :: u43 :: u44 :: u45 :: u46 :: u47 :: u48 :: u49 :: u50 :: u51 :: u52 :: u53 :: u54 :: u55 :: u56 :: u57 :: u58 :: u59 :: u60 :: u61 :: u62 :: u63 :: u64 :: u65 :: u66 :: u67 :: u68 :: u69 :: u70 :: u71 :: u72 :: u73 :: u74 :: u75 :: u76 :: u77 :: u78 :: u79 :: u80 :: u81 :: u82 :: u83 :: u84 :: u85 :: u86 :: u87 :: u88 :: u89 :: u90 :: u91 :: u92 :: u93 :: u94 :: u95 :: u96 :: u97 :: u98 :: u99 :: u100 :: u101 :: u102 :: u103 :: u104 :: u105 :: u106 :: u107 :: u108 :: u109 :: u110 :: u111 :: u112 :: u113 :: u114 :: u115 :: u116 :: u117 :: u118 :: u119 :: u120 :: u121 :: u122 :: u123 :: u124 :: u125 :: u126 :: u127 :: u128 :: u129 :: u130 :: u131 :: u132 :: u133 :: u134 :: u135 :: u136 :: u137 :: u138 :: u139 :: u140 :: u141 :: u142 :: u143 :: u144 :: u145 :: u146 :: Array.getD a2.tmps 147 undef :: Array.getD a2.tmps 148 undef :: Array.getD a2.tmps 149 undef :: Array.getD a2.tmps 150 undef :: Array.getD a2.tmps 151 undef :: Array.getD a2.tmps 152 undef :: Array.getD a2.tmps 153 undef :: Array.getD a2.tmps 154 undef :: Array.getD a2.tmps 155 undef :: Array.getD a2.tmps 156 undef :: Array.getD a2.tmps 157 undef :: Array.getD a2.tmps 158 undef :: Array.getD a2.tmps 159 undef :: Array.getD a2.tmps 160 undef :: Array.getD a2.tmps 161 undef :: Array.getD a2.tmps 162 undef :: Array.getD a2.tmps 163 undef :: Array.getD a2.tmps 164 undef :: Array.getD a2.tmps 165 undef :: Array.getD a2.tmps 166 undef :: Array.getD a2.tmps 167 undef :: Array.getD a2.tmps 168 undef :: Array.getD a2.tmps 169 undef :: Array.getD a2.tmps 170 undef :: Array.getD a2.tmps 171 undef :: Array.getD a2.tmps 172 undef :: Array.getD a2.tmps 173 undef :: Array.getD a2.tmps 174 undef :: Array.getD a2.tmps 175 undef :: Array.getD a2.tmps 176 undef :: Array.getD a2.tmps 177 undef :: Array.getD a2.tmps 178 undef :: Array.getD a2.tmps 179 undef :: Array.getD a2.tmps 180 undef :: Array.getD a2.tmps 181 undef :: Array.getD a2.tmps 182 undef :: Array.getD a2.tmps 183 undef :: Array.getD a2.tmps 184 undef :: Array.getD a2.tmps 185 undef :: Array.getD a2.tmps 186 undef :: Array.getD a2.tmps 187 undef :: Array.getD a2.tmps 188 undef :: Array.getD a2.tmps 189 undef :: Array.getD a2.tmps 190 undef :: Array.getD a2.tmps 191 undef :: Array.getD a2.tmps 192 undef :: Array.getD a2.tmps 193 undef :: Array.getD a2.tmps 194 undef :: Array.getD a2.tmps 195 undef :: Array.getD a2.tmps 196 undef :: Array.getD a2.tmps 197 undef :: Array.getD a2.tmps 198 undef :: Array.getD a2.tmps 199 undef :: Array.getD a2.tmps 200 undef :: Array.getD a2.tmps 201 undef :: Array.getD a2.tmps 202 undef :: Array.getD a2.tmps 203 undef :: Array.getD a2.tmps 204 undef :: Array.getD a2.tmps 205 undef :: Array.getD a2.tmps 206 undef :: Array.getD a2.tmps 207 undef :: Array.getD a2.tmps 208 undef :: Array.getD a2.tmps 209 undef :: Array.getD a2.tmps 210 undef :: Array.getD a2.tmps 211 undef :: Array.getD a2.tmps 212 undef :: Array.getD a2.tmps 213 undef :: Array.getD a2.tmps 214 undef :: Array.getD a2.tmps 215 undef :: Array.getD a2.tmps 216 undef :: Array.getD a2.tmps 217 undef :: Array.getD a2.tmps 218 undef :: Array.getD a2.tmps 219 undef :: Array.getD a2.tmps 220 undef :: Array.getD a2.tmps 221 undef :: Array.getD a2.tmps 222 undef :: Array.getD a2.tmps 223 undef :: Array.getD a2.tmps 224 undef :: Array.getD a2.tmps 225 undef :: Array.getD a2.tmps 226 undef :: Array.getD a2.tmps 227 undef :: Array.getD a2.tmps 228 undef :: Array.getD a2.tmps 229 undef :: Array.getD a2.tmps 230 undef :: Array.getD a2.tmps 231 undef :: Array.getD a2.tmps 232 undef :: Array.getD a2.tmps 233 undef :: Array.getD a2.tmps 234 undef :: Array.getD a2.tmps 235 undef :: Array.getD a2.tmps 236 undef :: Array.getD a2.tmps 237 undef :: Array.getD a2.tmps 238 undef :: Array.getD a2.tmps 239 undef :: Array.getD a2.tmps 240 undef :: Array.getD a2.tmps 241 undef :: Array.getD a2.tmps 242 undef :: Array.getD a2.tmps 243 undef :: Array.getD a2.tmps 244 undef :: Array.getD a2.tmps 245 undef :: Array.getD a2.tmps 246 undef :: Array.getD a2.tmps 247 undef :: Array.getD a2.tmps 248 undef :: Array.getD a2.tmps 249 undef :: Array.getD a2.tmps 250 undef :: Array.getD a2.tmps 251 undef :: Array.getD a2.tmps 252 undef :: Array.getD a2.tmps 253 undef :: Array.getD a2.tmps 254 undef :: Array.getD a2.tmps 255 undef :: Array.getD a2.tmps 256 undef :: Array.getD a2.tmps 257 undef :: Array.getD a2.tmps 258 undef :: Array.getD a2.tmps 259 undef :: Array.getD a2.tmps 260 undef :: Array.getD a2.tmps 261 undef :: Array.getD a2.tmps 262 undef :: Array.getD a2.tmps 263 undef :: u264 :: u265 :: u266 :: u267 :: u268 :: u269 :: u270 :: u271 :: u272 :: u273 :: u274 :: u275 :: u276 :: u277 :: u278 :: u279 :: u280 :: u281 :: u282 :: u283 :: u284 :: u285 :: u286 :: u287 :: u288 :: u289 :: u290 :: u291 :: u292 :: u293 :: u294 :: u295 :: u296 :: u297 :: u298 :: u299 :: u300 :: List.nil), []⟩) (g0 : Hid (T4 w gk gh gw gv2 H Wd V2 wr2)) (g1 : Hid (V2.length = 8 ∧ small V2)) (g2 : Hid (rds (KS.drop (j + 1)) (Wd.drop (j + 1)) V2 = R)) : post_R w j gk gh gw gv H Wd V R wr u0 u1 u2 u3 u5 u6 u8 u9 u10 u11 u12 u20 u21 u22 u23 u24 u25 u26 u27 u28 u29 u30 u31 u32 u33 u34 u35 u36 u37 u38 u39 u40 u41 u42 u43 u44 u45 u46 u47 u48 u49 u50 u51 u52 u53 u54 u55 u56 u57 u58 u59 u60 u61 u62 u63 u64 u65 u66 u67 u68 u69 u70 u71 u72 u73 u74 u75 u76 u77 u78 u79 u80 u81 u82 u83 u84 u85 u86 u87 u88 u89 u90 u91 u92 u93 u94 u95 u96 u97 u98 u99 u100 u101 u102 u103 u104 u105 u106 u107 u108 u109 u110 u111 u112 u113 u114 u115 u116 u117 u118 u119 u120 u121 u122 u123 u124 u125 u126 u127 u128 u129 u130 u131 u132 u133 u134 u135 u136 u137 u138 u139 u140 u141 u142 u143 u144 u145 u146 u264 u265 u266 u267 u268 u269 u270 u271 u272 u273 u274 u275 u276 u277 u278 u279 u280 u281 u282 u283 u284 u285 u286 u287 u288 u289 u290 u291 u292 u293 u294 u295 u296 u297 u298 u299 u300 a2 wr2 := ⟨fun i => Array.getD a2.tmps i undef, gv2, V2, h, g0, g1, g2⟩

set_option maxRecDepth 1000000 in
set_option maxHeartbeats 40000000 in
theorem rt_R (w : World) (j gk gh gw gv : Nat) (H Wd V R : List Nat) (wr : World) (Q0 : Exit → Act → World → Prop)
    (u0 u1 u2 u3 u5 u6 u8 u9 u10 u11 u12 u15 u16 u17 u18 u19 u20 u21 u22 u23 u24 u25 u26 u27 u28 u29 u30 u31 u32 u33 u34 u35 u36 u37 u38 u39 u40 u41 u42 u43 u44 u45 u46 u47 u48 u49 u50 u51 u52 u53 u54 u55 u56 u57 u58 u59 u60 u61 u62 u63 u64 u65 u66 u67 u68 u69 u70 u71 u72 u73 u74 u75 u76 u77 u78 u79 u80 u81 u82 u83 u84 u85 u86 u87 u88 u89 u90 u91 u92 u93 u94 u95 u96 u97 u98 u99 u100 u101 u102 u103 u104 u105 u106 u107 u108 u109 u110 u111 u112 u113 u114 u115 u116 u117 u118 u119 u120 u121 u122 u123 u124 u125 u126 u127 u128 u129 u130 u131 u132 u133 u134 u135 u136 u137 u138 u139 u140 u141 u142 u143 u144 u145 u146 u147 u148 u149 u150 u151 u152 u153 u154 u155 u156 u157 u158 u159 u160 u161 u162 u163 u164 u165 u166 u167 u168 u169 u170 u171 u172 u173 u174 u175 u176 u177 u178 u179 u180 u181 u182 u183 u184 u185 u186 u187 u188 u189 u190 u191 u192 u193 u194 u195 u196 u197 u198 u199 u200 u201 u202 u203 u204 u205 u206 u207 u208 u209 u210 u211 u212 u213 u214 u215 u216 u217 u218 u219 u220 u221 u222 u223 u224 u225 u226 u227 u228 u229 u230 u231 u232 u233 u234 u235 u236 u237 u238 u239 u240 u241 u242 u243 u244 u245 u246 u247 u248 u249 u250 u251 u252 u253 u254 u255 u256 u257 u258 u259 u260 u261 u262 u263 u264 u265 u266 u267 u268 u269 u270 u271 u272 u273 u274 u275 u276 u277 u278 u279 u280 u281 u282 u283 u284 u285 u286 u287 u288 u289 u290 u291 u292 u293 u294 u295 u296 u297 u298 u299 u300 : Value)
    (HWL : Hid (Wd.length = 64)) (HWS : Hid (small Wd)) (hj : j ≤ 64) (hj64 : j < 64) (hV : Hid (T4 w gk gh gw gv H Wd V wr)) (hVok : Hid (V.length = 8 ∧ small V)) (hVR : Hid (rds (KS.drop j) (Wd.drop j) V = R)) :
    Code.wp Tryz.prog (body20 4) (Exit.then (post_R w j gk gh gw gv H Wd V R wr u0 u1 u2 u3 u5 u6 u8 u9 u10 u11 u12 u20 u21 u22 u23 u24 u25 u26 u27 u28 u29 u30 u31 u32 u33 u34 u35 u36 u37 u38 u39 u40 u41 u42 u43 u44 u45 u46 u47 u48 u49 u50 u51 u52 u53 u54 u55 u56 u57 u58 u59 u60 u61 u62 u63 u64 u65 u66 u67 u68 u69 u70 u71 u72 u73 u74 u75 u76 u77 u78 u79 u80 u81 u82 u83 u84 u85 u86 u87 u88 u89 u90 u91 u92 u93 u94 u95 u96 u97 u98 u99 u100 u101 u102 u103 u104 u105 u106 u107 u108 u109 u110 u111 u112 u113 u114 u115 u116 u117 u118 u119 u120 u121 u122 u123 u124 u125 u126 u127 u128 u129 u130 u131 u132 u133 u134 u135 u136 u137 u138 u139 u140 u141 u142 u143 u144 u145 u146 u264 u265 u266 u267 u268 u269 u270 u271 u272 u273 u274 u275 u276 u277 u278 u279 u280 u281 u282 u283 u284 u285 u286 u287 u288 u289 u290 u291 u292 u293 u294 u295 u296 u297 u298 u299 u300) Q0) ⟨List.toArray (u0 :: u1 :: u2 :: u3 :: .slice (some ⟨gk, 0, none⟩) 64 64 :: u5 :: u6 :: .slice (some ⟨gw, 0, none⟩) 64 64 :: u8 :: u9 :: u10 :: u11 :: u12 :: .slice (some ⟨gv, 0, none⟩) 8 8 :: .int .i64 (j : Int) :: u15 :: u16 :: u17 :: u18 :: u19 :: u20 :: u21 :: u22 :: u23 :: u24 :: u25 :: u26 :: u27 :: u28 :: u29 :: u30 :: u31 :: u32 :: u33 :: u34 :: u35 :: u36 :: u37 :: u38 :: u39 :: u40 :: u41 :: u42 :: u43 :: u44 :: u45 :: u46 :: u47 :: u48 :: u49 :: u50 :: u51 :: u52 :: u53 :: u54 :: u55 :: u56 :: u57 :: u58 :: u59 :: u60 :: u61 :: u62 :: u63 :: u64 :: u65 :: u66 :: u67 :: u68 :: u69 :: u70 :: u71 :: u72 :: u73 :: u74 :: u75 :: u76 :: u77 :: u78 :: u79 :: u80 :: u81 :: u82 :: u83 :: u84 :: u85 :: u86 :: u87 :: u88 :: u89 :: u90 :: u91 :: u92 :: u93 :: u94 :: u95 :: u96 :: u97 :: u98 :: u99 :: u100 :: u101 :: u102 :: u103 :: u104 :: u105 :: u106 :: u107 :: u108 :: u109 :: u110 :: u111 :: u112 :: u113 :: u114 :: u115 :: u116 :: u117 :: u118 :: u119 :: u120 :: u121 :: u122 :: u123 :: u124 :: u125 :: u126 :: u127 :: u128 :: u129 :: u130 :: u131 :: u132 :: u133 :: u134 :: u135 :: u136 :: u137 :: u138 :: u139 :: u140 :: u141 :: u142 :: u143 :: u144 :: u145 :: u146 :: u147 :: u148 :: u149 :: u150 :: u151 :: u152 :: u153 :: u154 :: u155 :: u156 :: u157 :: u158 :: u159 :: u160 :: u161 :: u162 :: u163 :: u164 :: u165 :: u166 :: u167 :: u168 :: u169 :: u170 :: u171 :: u172 :: u173 :: u174 :: u175 :: u176 :: u177 :: u178 :: u179 :: u180 :: u181 :: u182 :: u183 :: u184 :: u185 :: u186 :: u187 :: u188 :: u189 :: u190 :: u191 :: u192 :: u193 :: u194 :: u195 :: u196 :: u197 :: u198 :: u199 :: u200 :: u201 :: u202 :: u203 :: u204 :: u205 :: u206 :: u207 :: u208 :: u209 :: u210 :: u211 :: u212 :: u213 :: u214 :: u215 :: u216 :: u217 :: u218 :: u219 :: u220 :: u221 :: u222 :: u223 :: u224 :: u225 :: u226 :: u227 :: u228 :: u229 :: u230 :: u231 :: u232 :: u233 :: u234 :: u235 :: u236 :: u237 :: u238 :: u239 :: u240 :: u241 :: u242 :: u243 :: u244 :: u245 :: u246 :: u247 :: u248 :: u249 :: u250 :: u251 :: u252 :: u253 :: u254 :: u255 :: u256 :: u257 :: u258 :: u259 :: u260 :: u261 :: u262 :: u263 :: u264 :: u265 :: u266 :: u267 :: u268 :: u269 :: u270 :: u271 :: u272 :: u273 :: u274 :: u275 :: u276 :: u277 :: u278 :: u279 :: u280 :: u281 :: u282 :: u283 :: u284 :: u285 :: u286 :: u287 :: u288 :: u289 :: u290 :: u291 :: u292 :: u293 :: u294 :: u295 :: u296 :: u297 :: u298 :: u299 :: u300 :: List.nil), []⟩ wr := by
  conv => arg 2; whnf
  obtain ⟨a', b', c', d', e', f', g', h', hVe⟩ := eight V hVok.out.1
  have hkl : j < KS.length := by rw [small_KS.1]; exact hj64
  have hwl : j < Wd.length := by rw [HWL.out]; exact hj64
  have hU := hV.out.2.1
  have v0 := hU.cell 0 (by rw [hVok.out.1]; omega)
  have v1 := hU.cell 1 (by rw [hVok.out.1]; omega)
  have v2 := hU.cell 2 (by rw [hVok.out.1]; omega)
  have v3 := hU.cell 3 (by rw [hVok.out.1]; omega)
  have v4 := hU.cell 4 (by rw [hVok.out.1]; omega)
  have v5 := hU.cell 5 (by rw [hVok.out.1]; omega)
  have v6 := hU.cell 6 (by rw [hVok.out.1]; omega)
  have v7 := hU.cell 7 (by rw [hVok.out.1]; omega)
  have ck := hV.out.1.1.1.cell j hkl
  have cw := hV.out.1.2.1.cell j hwl
  simp only [hVe, List.getElem_cons_zero, List.getElem_cons_succ] at v0 v1 v2 v3 v4 v5 v6 v7
  have hsm := hVok.out.2
  rw [hVe] at hsm
  have la : a' < 4294967296 := hsm _ (by simp)
  have lb : b' < 4294967296 := hsm _ (by simp)
  have lc : c' < 4294967296 := hsm _ (by simp)
  have ld : d' < 4294967296 := hsm _ (by simp)
  have le : e' < 4294967296 := hsm _ (by simp)
  have lf : f' < 4294967296 := hsm _ (by simp)
  have lg : g' < 4294967296 := hsm _ (by simp)
  have hdrop : rds (KS.drop (j + 1)) (Wd.drop (j + 1)) (stp KS[j] Wd[j] V) = R := by
    have h := hVR.out
    rw [List.drop_eq_getElem_cons hkl, List.drop_eq_getElem_cons hwl] at h
    exact h
  have hsok := stp_ok KS[j] Wd[j] V hVok.out.1 hVok.out.2
  rw [hVe] at hdrop hsok
  generalize KS[j] = kj at *
  generalize Wd[j] = wj at *
  have KE1 := Lib.hid (fun w => rotr_any e' 6 le (by omega) (by omega) w)
  have KE2 := Lib.hid (fun w => rotr_any e' 11 le (by omega) (by omega) w)
  have KE3 := Lib.hid (fun w => rotr_any e' 25 le (by omega) (by omega) w)
  have KA1 := Lib.hid (fun w => rotr_any a' 2 la (by omega) (by omega) w)
  have KA2 := Lib.hid (fun w => rotr_any a' 13 la (by omega) (by omega) w)
  have KA3 := Lib.hid (fun w => rotr_any a' 22 la (by omega) (by omega) w)
  obtain ⟨x1, x2⟩ := rotr3 e' 6 11 25 le
  obtain ⟨x3, x4⟩ := rotr3 a' 2 13 22 la
  obtain ⟨t1, ht1⟩ : ∃ t, t1N e' f' g' h' kj wj = t := ⟨_, rfl⟩
  obtain ⟨t2, ht2⟩ : ∃ t, t2N a' b' c' = t := ⟨_, rfl⟩
  have hst : stp kj wj [a', b', c', d', e', f', g', h'] = [(t1 + t2) % 4294967296, a', b', c', (d' + t1) % 4294967296, e', f', g'] := by rw [← ht1, ← ht2]; rfl
  rw [hst] at hdrop hsok
  have HD := Lib.hid hdrop
  have HSOK := Lib.hid hsok
  have nn : IntKind.u32.wrap (4294967295 - (e' : Int)) = ((4294967295 ^^^ e' : Nat) : Int) := by rw [← not_sub e' le, IntKind.wrap_u32]; omega
  have nn2 : (4294967295 : Int) - (e' : Int) = ((4294967295 ^^^ e' : Nat) : Int) := by rw [← not_sub e' le]; omega
  have ln : (4294967295 ^^^ e') < 4294967296 := by rw [← not_sub e' le]; omega
  obtain ⟨a1, la1⟩ := and_nat e' f' le lf
  obtain ⟨a2, la2⟩ := and_nat (4294967295 ^^^ e') g' ln lg
  obtain ⟨a3, la3⟩ := xor_nat (e' &&& f') ((4294967295 ^^^ e') &&& g') la1 la2
  obtain ⟨a4, la4⟩ := and_nat a' b' la lb
  obtain ⟨a5, la5⟩ := and_nat a' c' la lc
  obtain ⟨a6, la6⟩ := and_nat b' c' lb lc
  obtain ⟨a7, la7⟩ := xor_nat (a' &&& b') (a' &&& c') la4 la5
  obtain ⟨a8, la8⟩ := xor_nat (a' &&& b' ^^^ a' &&& c') (b' &&& c') la7 la6
  unfold t1N chN bs1 at ht1
  unfold t2N majN bs0 at ht2
  generalize ror e' 6 ^^^ ror e' 11 ^^^ ror e' 25 = B1 at *
  generalize ror e' 6 ^^^ ror e' 11 = B2 at *
  generalize ror e' 6 = B3 at *
  generalize ror e' 11 = B4 at *
  generalize ror e' 25 = B5 at *
  generalize ror a' 2 ^^^ ror a' 13 ^^^ ror a' 22 = C1 at *
  generalize ror a' 2 ^^^ ror a' 13 = C2 at *
  generalize ror a' 2 = C3 at *
  generalize ror a' 13 = C4 at *
  generalize ror a' 22 = C5 at *
  generalize e' &&& f' ^^^ (4294967295 ^^^ e') &&& g' = D1 at *
  generalize (4294967295 ^^^ e') &&& g' = D2 at *
  generalize 4294967295 ^^^ e' = D3 at *
  generalize e' &&& f' = D4 at *
  generalize a' &&& b' ^^^ a' &&& c' ^^^ b' &&& c' = E1 at *
  generalize a' &&& b' ^^^ a' &&& c' = E2 at *
  generalize a' &&& b' = E3 at *
  generalize a' &&& c' = E4 at *
  generalize b' &&& c' = E5 at *
  have s1 := add_mod32 h' B1
  have s2 := add_mod32 ((h' + B1) % 4294967296) D1
  have s3 := add_mod32 (((h' + B1) % 4294967296 + D1) % 4294967296) kj
  have s4 := add_mod32 ((((h' + B1) % 4294967296 + D1) % 4294967296 + kj) % 4294967296) wj
  have s5 := add_mod32 C1 E1
  rw [ht1] at s4
  rw [ht2] at s5
  have s6 := add_mod32 t1 t2
  have s7 := add_mod32 d' t1
  clear ht1 ht2 hst hdrop hsok hsm la lb lc ld le lf lg ln la1 la2 la3 la4 la5 la6 la7 la8 hU hVok hVR
  generalize (((h' + B1) % 4294967296 + D1) % 4294967296 + kj) % 4294967296 = n3 at *
  generalize ((h' + B1) % 4294967296 + D1) % 4294967296 = n2 at *
  generalize (h' + B1) % 4294967296 = n1 at *
  have HVE := Lib.hid hVe
  have ij : (j : Int) < 64 := by omega
  have HC0 : Hid (wr.cell? ⟨gv, 0, none⟩ = some (.int .u32 (a' : Int)) ∧ wr.cell? ⟨gv, 1, none⟩ = some (.int .u32 (b' : Int)) ∧ wr.cell? ⟨gv, 2, none⟩ = some (.int .u32 (c' : Int)) ∧ wr.cell? ⟨gv, 3, none⟩ = some (.int .u32 (d' : Int)) ∧ wr.cell? ⟨gv, 4, none⟩ = some (.int .u32 (e' : Int)) ∧ wr.cell? ⟨gv, 5, none⟩ = some (.int .u32 (f' : Int)) ∧ wr.cell? ⟨gv, 6, none⟩ = some (.int .u32 (g' : Int)) ∧ wr.cell? ⟨gv, 7, none⟩ = some (.int .u32 (h' : Int)) ∧ wr.cell? ⟨gk, j, none⟩ = some (.int .u32 (kj : Int)) ∧ wr.cell? ⟨gw, j, none⟩ = some (.int .u32 (wj : Int))) := Lib.hid ⟨v0, v1, v2, v3, v4, v5, v6, v7, ck, cw⟩
  have HV0 := hV
  clear hVe hkl hwl hV
  go_wp2_with fail
  go_quiet (first | (go_at_call 64; with_reducible exact Calls.quiet_of (KE1.out _)) | (go_at_call 64; with_reducible exact Calls.quiet_of (KE2.out _)) | (go_at_call 64; with_reducible exact Calls.quiet_of (KE3.out _)))
  have HV1 := Lib.hid (HV0.out.later (bdn wr nq))
  have HC1 : Hid ((wr.drewN nq).cell? ⟨gv, 0, none⟩ = some (.int .u32 (a' : Int)) ∧ (wr.drewN nq).cell? ⟨gv, 1, none⟩ = some (.int .u32 (b' : Int)) ∧ (wr.drewN nq).cell? ⟨gv, 2, none⟩ = some (.int .u32 (c' : Int)) ∧ (wr.drewN nq).cell? ⟨gv, 3, none⟩ = some (.int .u32 (d' : Int)) ∧ (wr.drewN nq).cell? ⟨gv, 4, none⟩ = some (.int .u32 (e' : Int)) ∧ (wr.drewN nq).cell? ⟨gv, 5, none⟩ = some (.int .u32 (f' : Int)) ∧ (wr.drewN nq).cell? ⟨gv, 6, none⟩ = some (.int .u32 (g' : Int)) ∧ (wr.drewN nq).cell? ⟨gv, 7, none⟩ = some (.int .u32 (h' : Int)) ∧ (wr.drewN nq).cell? ⟨gk, j, none⟩ = some (.int .u32 (kj : Int)) ∧ (wr.drewN nq).cell? ⟨gw, j, none⟩ = some (.int .u32 (wj : Int))) := Lib.hid HC0.out
  clear v0 v1 v2 v3 v4 v5 v6 v7 ck cw HV0 HC0
  obtain ⟨wq1, hwq1⟩ : ∃ x, x = wr.drewN nq := ⟨_, rfl⟩
  rw [← hwq1] at HV1 HC1 ⊢
  clear hwq1
  obtain ⟨v0, v1, v2, v3, v4, v5, v6, v7, ck, cw⟩ := HC1.out
  simp only [Exit.then]
  apply_assumption
  go_wp2_with fail
  go_quiet (fail)
  have HV2 := Lib.hid (HV1.out.later (bdn wq1 nq))
  have HC2 : Hid ((wq1.drewN nq).cell? ⟨gv, 0, none⟩ = some (.int .u32 (a' : Int)) ∧ (wq1.drewN nq).cell? ⟨gv, 1, none⟩ = some (.int .u32 (b' : Int)) ∧ (wq1.drewN nq).cell? ⟨gv, 2, none⟩ = some (.int .u32 (c' : Int)) ∧ (wq1.drewN nq).cell? ⟨gv, 3, none⟩ = some (.int .u32 (d' : Int)) ∧ (wq1.drewN nq).cell? ⟨gv, 4, none⟩ = some (.int .u32 (e' : Int)) ∧ (wq1.drewN nq).cell? ⟨gv, 5, none⟩ = some (.int .u32 (f' : Int)) ∧ (wq1.drewN nq).cell? ⟨gv, 6, none⟩ = some (.int .u32 (g' : Int)) ∧ (wq1.drewN nq).cell? ⟨gv, 7, none⟩ = some (.int .u32 (h' : Int)) ∧ (wq1.drewN nq).cell? ⟨gk, j, none⟩ = some (.int .u32 (kj : Int)) ∧ (wq1.drewN nq).cell? ⟨gw, j, none⟩ = some (.int .u32 (wj : Int))) := Lib.hid HC1.out
  clear v0 v1 v2 v3 v4 v5 v6 v7 ck cw HV1 HC1
  obtain ⟨wq2, hwq2⟩ : ∃ x, x = wq1.drewN nq := ⟨_, rfl⟩
  rw [← hwq2] at HV2 HC2 ⊢
  clear hwq2
  obtain ⟨v0, v1, v2, v3, v4, v5, v6, v7, ck, cw⟩ := HC2.out
  simp only [Exit.then]
  apply_assumption
  go_wp2_with fail
  go_quiet (fail)
  have HV3 := Lib.hid (HV2.out.later (bdn wq2 nq))
  have HC3 : Hid ((wq2.drewN nq).cell? ⟨gv, 0, none⟩ = some (.int .u32 (a' : Int)) ∧ (wq2.drewN nq).cell? ⟨gv, 1, none⟩ = some (.int .u32 (b' : Int)) ∧ (wq2.drewN nq).cell? ⟨gv, 2, none⟩ = some (.int .u32 (c' : Int)) ∧ (wq2.drewN nq).cell? ⟨gv, 3, none⟩ = some (.int .u32 (d' : Int)) ∧ (wq2.drewN nq).cell? ⟨gv, 4, none⟩ = some (.int .u32 (e' : Int)) ∧ (wq2.drewN nq).cell? ⟨gv, 5, none⟩ = some (.int .u32 (f' : Int)) ∧ (wq2.drewN nq).cell? ⟨gv, 6, none⟩ = some (.int .u32 (g' : Int)) ∧ (wq2.drewN nq).cell? ⟨gv, 7, none⟩ = some (.int .u32 (h' : Int)) ∧ (wq2.drewN nq).cell? ⟨gk, j, none⟩ = some (.int .u32 (kj : Int)) ∧ (wq2.drewN nq).cell? ⟨gw, j, none⟩ = some (.int .u32 (wj : Int))) := Lib.hid HC2.out
  clear v0 v1 v2 v3 v4 v5 v6 v7 ck cw HV2 HC2
  obtain ⟨wq3, hwq3⟩ : ∃ x, x = wq2.drewN nq := ⟨_, rfl⟩
  rw [← hwq3] at HV3 HC3 ⊢
  clear hwq3
  obtain ⟨v0, v1, v2, v3, v4, v5, v6, v7, ck, cw⟩ := HC3.out
  simp only [Exit.then]
  apply_assumption
  go_wp2_with fail
  go_quiet (first | (go_at_call 64; with_reducible exact Calls.quiet_of (KA1.out _)) | (go_at_call 64; with_reducible exact Calls.quiet_of (KA2.out _)) | (go_at_call 64; with_reducible exact Calls.quiet_of (KA3.out _)))
  have HV4 := Lib.hid (HV3.out.later (bdn wq3 nq))
  have HC4 : Hid ((wq3.drewN nq).cell? ⟨gv, 0, none⟩ = some (.int .u32 (a' : Int)) ∧ (wq3.drewN nq).cell? ⟨gv, 1, none⟩ = some (.int .u32 (b' : Int)) ∧ (wq3.drewN nq).cell? ⟨gv, 2, none⟩ = some (.int .u32 (c' : Int)) ∧ (wq3.drewN nq).cell? ⟨gv, 3, none⟩ = some (.int .u32 (d' : Int)) ∧ (wq3.drewN nq).cell? ⟨gv, 4, none⟩ = some (.int .u32 (e' : Int)) ∧ (wq3.drewN nq).cell? ⟨gv, 5, none⟩ = some (.int .u32 (f' : Int)) ∧ (wq3.drewN nq).cell? ⟨gv, 6, none⟩ = some (.int .u32 (g' : Int)) ∧ (wq3.drewN nq).cell? ⟨gv, 7, none⟩ = some (.int .u32 (h' : Int)) ∧ (wq3.drewN nq).cell? ⟨gk, j, none⟩ = some (.int .u32 (kj : Int)) ∧ (wq3.drewN nq).cell? ⟨gw, j, none⟩ = some (.int .u32 (wj : Int))) := Lib.hid HC3.out
  clear v0 v1 v2 v3 v4 v5 v6 v7 ck cw HV3 HC3
  obtain ⟨wq4, hwq4⟩ : ∃ x, x = wq3.drewN nq := ⟨_, rfl⟩
  rw [← hwq4] at HV4 HC4 ⊢
  clear hwq4
  obtain ⟨v0, v1, v2, v3, v4, v5, v6, v7, ck, cw⟩ := HC4.out
  simp only [Exit.then]
  apply_assumption
  go_wp2_with fail
  go_quiet (fail)
  have HV5 := Lib.hid (HV4.out.later (bdn wq4 nq))
  have HC5 : Hid ((wq4.drewN nq).cell? ⟨gv, 0, none⟩ = some (.int .u32 (a' : Int)) ∧ (wq4.drewN nq).cell? ⟨gv, 1, none⟩ = some (.int .u32 (b' : Int)) ∧ (wq4.drewN nq).cell? ⟨gv, 2, none⟩ = some (.int .u32 (c' : Int)) ∧ (wq4.drewN nq).cell? ⟨gv, 3, none⟩ = some (.int .u32 (d' : Int)) ∧ (wq4.drewN nq).cell? ⟨gv, 4, none⟩ = some (.int .u32 (e' : Int)) ∧ (wq4.drewN nq).cell? ⟨gv, 5, none⟩ = some (.int .u32 (f' : Int)) ∧ (wq4.drewN nq).cell? ⟨gv, 6, none⟩ = some (.int .u32 (g' : Int)) ∧ (wq4.drewN nq).cell? ⟨gv, 7, none⟩ = some (.int .u32 (h' : Int)) ∧ (wq4.drewN nq).cell? ⟨gk, j, none⟩ = some (.int .u32 (kj : Int)) ∧ (wq4.drewN nq).cell? ⟨gw, j, none⟩ = some (.int .u32 (wj : Int))) := Lib.hid HC4.out
  clear v0 v1 v2 v3 v4 v5 v6 v7 ck cw HV4 HC4
  obtain ⟨wq5, hwq5⟩ : ∃ x, x = wq4.drewN nq := ⟨_, rfl⟩
  rw [← hwq5] at HV5 HC5 ⊢
  clear hwq5
  obtain ⟨v0, v1, v2, v3, v4, v5, v6, v7, ck, cw⟩ := HC5.out
  simp only [Exit.then]
  apply_assumption
  go_wp2_with fail
  go_still_tail 26, (by kernel_rfl)
  have HVf := Lib.hid (HV5.out.1.later (bd1 wq5))
  clear v0 v1 v2 v3 v4 v5 v6 v7 ck cw HV5 HC5
  change wpList _ _ _ _ _ wq5.drew
  generalize wq5.drew = wd at *
  go_wp2_with fail
  refine post_mk_R w j gk gh gw gv H Wd V R wr _ _ _ _ _ _ _ _ _ _ _ _ _ _ _ _ _ _ _ _ _ _ _ _ _ _ _ _ _ _ _ _ _ _ _ _ _ _ _ _ _ _ _ _ _ _ _ _ _ _ _ _ _ _ _ _ _ _ _ _ _ _ _ _ _ _ _ _ _ _ _ _ _ _ _ _ _ _ _ _ _ _ _ _ _ _ _ _ _ _ _ _ _ _ _ _ _ _ _ _ _ _ _ _ _ _ _ _ _ _ _ _ _ _ _ _ _ _ _ _ _ _ _ _ _ _ _ _ _ _ _ _ _ _ _ _ _ _ _ _ _ _ _ _ _ _ _ _ _ _ _ _ _ _ _ _ _ _ _ _ _ _ _ _ _ _ _ _ _ _ _ _ _ _ _ _ wd.heap.size [(t1 + t2) % 4294967296, a', b', c', (d' + t1) % 4294967296, e', f', g'] _ ?_ ?_ HSOK HD
  · rfl
  · exact Lib.hid (T4.fresh HVf.out _ (by simp [u32c]))
set_option maxRecDepth 1000000 in
theorem rtm_R (w : World) (j gk gh gw gv : Nat) (H Wd V R : List Nat) (wr : World) (P1 : Act → World → Prop) (Q0 : Exit → Act → World → Prop)
    (u0 u1 u2 u3 u5 u6 u8 u9 u10 u11 u12 u15 u16 u17 u18 u19 u20 u21 u22 u23 u24 u25 u26 u27 u28 u29 u30 u31 u32 u33 u34 u35 u36 u37 u38 u39 u40 u41 u42 u43 u44 u45 u46 u47 u48 u49 u50 u51 u52 u53 u54 u55 u56 u57 u58 u59 u60 u61 u62 u63 u64 u65 u66 u67 u68 u69 u70 u71 u72 u73 u74 u75 u76 u77 u78 u79 u80 u81 u82 u83 u84 u85 u86 u87 u88 u89 u90 u91 u92 u93 u94 u95 u96 u97 u98 u99 u100 u101 u102 u103 u104 u105 u106 u107 u108 u109 u110 u111 u112 u113 u114 u115 u116 u117 u118 u119 u120 u121 u122 u123 u124 u125 u126 u127 u128 u129 u130 u131 u132 u133 u134 u135 u136 u137 u138 u139 u140 u141 u142 u143 u144 u145 u146 u147 u148 u149 u150 u151 u152 u153 u154 u155 u156 u157 u158 u159 u160 u161 u162 u163 u164 u165 u166 u167 u168 u169 u170 u171 u172 u173 u174 u175 u176 u177 u178 u179 u180 u181 u182 u183 u184 u185 u186 u187 u188 u189 u190 u191 u192 u193 u194 u195 u196 u197 u198 u199 u200 u201 u202 u203 u204 u205 u206 u207 u208 u209 u210 u211 u212 u213 u214 u215 u216 u217 u218 u219 u220 u221 u222 u223 u224 u225 u226 u227 u228 u229 u230 u231 u232 u233 u234 u235 u236 u237 u238 u239 u240 u241 u242 u243 u244 u245 u246 u247 u248 u249 u250 u251 u252 u253 u254 u255 u256 u257 u258 u259 u260 u261 u262 u263 u264 u265 u266 u267 u268 u269 u270 u271 u272 u273 u274 u275 u276 u277 u278 u279 u280 u281 u282 u283 u284 u285 u286 u287 u288 u289 u290 u291 u292 u293 u294 u295 u296 u297 u298 u299 u300 : Value)
    (HWL : Hid (Wd.length = 64)) (HWS : Hid (small Wd)) (hj : j ≤ 64) (hj64 : j < 64) (hV : Hid (T4 w gk gh gw gv H Wd V wr)) (hVok : Hid (V.length = 8 ∧ small V)) (hVR : Hid (rds (KS.drop j) (Wd.drop j) V = R)) (hP : ∀ a2 w2, post_R w j gk gh gw gv H Wd V R wr u0 u1 u2 u3 u5 u6 u8 u9 u10 u11 u12 u20 u21 u22 u23 u24 u25 u26 u27 u28 u29 u30 u31 u32 u33 u34 u35 u36 u37 u38 u39 u40 u41 u42 u43 u44 u45 u46 u47 u48 u49 u50 u51 u52 u53 u54 u55 u56 u57 u58 u59 u60 u61 u62 u63 u64 u65 u66 u67 u68 u69 u70 u71 u72 u73 u74 u75 u76 u77 u78 u79 u80 u81 u82 u83 u84 u85 u86 u87 u88 u89 u90 u91 u92 u93 u94 u95 u96 u97 u98 u99 u100 u101 u102 u103 u104 u105 u106 u107 u108 u109 u110 u111 u112 u113 u114 u115 u116 u117 u118 u119 u120 u121 u122 u123 u124 u125 u126 u127 u128 u129 u130 u131 u132 u133 u134 u135 u136 u137 u138 u139 u140 u141 u142 u143 u144 u145 u146 u264 u265 u266 u267 u268 u269 u270 u271 u272 u273 u274 u275 u276 u277 u278 u279 u280 u281 u282 u283 u284 u285 u286 u287 u288 u289 u290 u291 u292 u293 u294 u295 u296 u297 u298 u299 u300 a2 w2 → P1 a2 w2) :
    Code.wp Tryz.prog (body20 4) (Exit.then P1 Q0) ⟨List.toArray (u0 :: u1 :: u2 :: u3 :: .slice (some ⟨gk, 0, none⟩) 64 64 :: u5 :: u6 :: .slice (some ⟨gw, 0, none⟩) 64 64 :: u8 :: u9 :: u10 :: u11 :: u12 :: .slice (some ⟨gv, 0, none⟩) 8 8 :: .int .i64 (j : Int) :: u15 :: u16 :: u17 :: u18 :: u19 :: u20 :: u21 :: u22 :: u23 :: u24 :: u25 :: u26 :: u27 :: u28 :: u29 :: u30 :: u31 :: u32 :: u33 :: u34 :: u35 :: u36 :: u37 :: u38 :: u39 :: u40 :: u41 :: u42 :: u43 :: u44 :: u45 :: u46 :: u47 :: u48 :: u49 :: u50 :: u51 :: u52 :: u53 :: u54 :: u55 :: u56 :: u57 :: u58 :: u59 :: u60 :: u61 :: u62 :: u63 :: u64 :: u65 :: u66 :: u67 :: u68 :: u69 :: u70 :: u71 :: u72 :: u73 :: u74 :: u75 :: u76 :: u77 :: u78 :: u79 :: u80 :: u81 :: u82 :: u83 :: u84 :: u85 :: u86 :: u87 :: u88 :: u89 :: u90 :: u91 :: u92 :: u93 :: u94 :: u95 :: u96 :: u97 :: u98 :: u99 :: u100 :: u101 :: u102 :: u103 :: u104 :: u105 :: u106 :: u107 :: u108 :: u109 :: u110 :: u111 :: u112 :: u113 :: u114 :: u115 :: u116 :: u117 :: u118 :: u119 :: u120 :: u121 :: u122 :: u123 :: u124 :: u125 :: u126 :: u127 :: u128 :: u129 :: u130 :: u131 :: u132 :: u133 :: u134 :: u135 :: u136 :: u137 :: u138 :: u139 :: u140 :: u141 :: u142 :: u143 :: u144 :: u145 :: u146 :: u147 :: u148 :: u149 :: u150 :: u151 :: u152 :: u153 :: u154 :: u155 :: u156 :: u157 :: u158 :: u159 :: u160 :: u161 :: u162 :: u163 :: u164 :: u165 :: u166 :: u167 :: u168 :: u169 :: u170 :: u171 :: u172 :: u173 :: u174 :: u175 :: u176 :: u177 :: u178 :: u179 :: u180 :: u181 :: u182 :: u183 :: u184 :: u185 :: u186 :: u187 :: u188 :: u189 :: u190 :: u191 :: u192 :: u193 :: u194 :: u195 :: u196 :: u197 :: u198 :: u199 :: u200 :: u201 :: u202 :: u203 :: u204 :: u205 :: u206 :: u207 :: u208 :: u209 :: u210 :: u211 :: u212 :: u213 :: u214 :: u215 :: u216 :: u217 :: u218 :: u219 :: u220 :: u221 :: u222 :: u223 :: u224 :: u225 :: u226 :: u227 :: u228 :: u229 :: u230 :: u231 :: u232 :: u233 :: u234 :: u235 :: u236 :: u237 :: u238 :: u239 :: u240 :: u241 :: u242 :: u243 :: u244 :: u245 :: u246 :: u247 :: u248 :: u249 :: u250 :: u251 :: u252 :: u253 :: u254 :: u255 :: u256 :: u257 :: u258 :: u259 :: u260 :: u261 :: u262 :: u263 :: u264 :: u265 :: u266 :: u267 :: u268 :: u269 :: u270 :: u271 :: u272 :: u273 :: u274 :: u275 :: u276 :: u277 :: u278 :: u279 :: u280 :: u281 :: u282 :: u283 :: u284 :: u285 :: u286 :: u287 :: u288 :: u289 :: u290 :: u291 :: u292 :: u293 :: u294 :: u295 :: u296 :: u297 :: u298 :: u299 :: u300 :: List.nil), []⟩ wr := by
  refine Go.wp_mono (rt_R w j gk gh gw gv H Wd V R wr Q0 u0 u1 u2 u3 u5 u6 u8 u9 u10 u11 u12 u15 u16 u17 u18 u19 u20 u21 u22 u23 u24 u25 u26 u27 u28 u29 u30 u31 u32 u33 u34 u35 u36 u37 u38 u39 u40 u41 u42 u43 u44 u45 u46 u47 u48 u49 u50 u51 u52 u53 u54 u55 u56 u57 u58 u59 u60 u61 u62 u63 u64 u65 u66 u67 u68 u69 u70 u71 u72 u73 u74 u75 u76 u77 u78 u79 u80 u81 u82 u83 u84 u85 u86 u87 u88 u89 u90 u91 u92 u93 u94 u95 u96 u97 u98 u99 u100 u101 u102 u103 u104 u105 u106 u107 u108 u109 u110 u111 u112 u113 u114 u115 u116 u117 u118 u119 u120 u121 u122 u123 u124 u125 u126 u127 u128 u129 u130 u131 u132 u133 u134 u135 u136 u137 u138 u139 u140 u141 u142 u143 u144 u145 u146 u147 u148 u149 u150 u151 u152 u153 u154 u155 u156 u157 u158 u159 u160 u161 u162 u163 u164 u165 u166 u167 u168 u169 u170 u171 u172 u173 u174 u175 u176 u177 u178 u179 u180 u181 u182 u183 u184 u185 u186 u187 u188 u189 u190 u191 u192 u193 u194 u195 u196 u197 u198 u199 u200 u201 u202 u203 u204 u205 u206 u207 u208 u209 u210 u211 u212 u213 u214 u215 u216 u217 u218 u219 u220 u221 u222 u223 u224 u225 u226 u227 u228 u229 u230 u231 u232 u233 u234 u235 u236 u237 u238 u239 u240 u241 u242 u243 u244 u245 u246 u247 u248 u249 u250 u251 u252 u253 u254 u255 u256 u257 u258 u259 u260 u261 u262 u263 u264 u265 u266 u267 u268 u269 u270 u271 u272 u273 u274 u275 u276 u277 u278 u279 u280 u281 u282 u283 u284 u285 u286 u287 u288 u289 u290 u291 u292 u293 u294 u295 u296 u297 u298 u299 u300 HWL HWS hj hj64 hV hVok hVR) ?_
  intro e a w h
  cases e with
  | normal => exact hP a w h
  | _ => exact h

end Go.Proofs.YtjkpopdjmmgbbaaGreat.Dg
