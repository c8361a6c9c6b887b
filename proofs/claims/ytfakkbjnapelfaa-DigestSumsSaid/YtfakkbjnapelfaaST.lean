/- Walk of the document's sum: a block's rounds and sums. -/
import Derived.Test.YtfakkbjnapelfaaSR
import Derived.Test.YtfakkbjnapelfaaSQ
namespace Go.Proofs.Ytfakkbjnapelfaa.Dg
open Go.RowKit
set_option linter.unusedVariables false

def cutAt (n : Nat) : Code → Option (Code × Code)
  | .seq (.region m o d) b => if m == n then some (.region m o d, b) else cutAt n b
  | .seq a b => match cutAt n a with
    | some r => some r
    | none => cutAt n b
  | .loop c => cutAt n c
  | .block _ c => cutAt n c
  | .scope c => cutAt n c
  | .cond _ a b => match cutAt n a with
    | some r => some r
    | none => cutAt n b
  | _ => none
noncomputable def regT : Code := (((Try.f20.body.bind (cutAt 21)).map Prod.fst).getD .skip)
noncomputable def restT : Code := (((Try.f20.body.bind (cutAt 21)).map Prod.snd).getD .skip)
set_option maxRecDepth 1000000 in
def post_T (w : World) (gk gh gw : Nat) (H Wd R : List Nat) (u0 u1 u2 u3 u6 u8 u9 u10 u11 u12 u21 u22 u23 u24 u25 u26 u27 u28 u29 u30 u31 u32 u33 u34 u35 u36 u37 u38 u39 u40 u41 u42 u43 u44 u45 u46 u47 u48 u49 u50 u51 u52 u53 u54 u55 u56 u57 u58 u59 u60 u61 u62 u63 u64 u65 u66 u67 u68 u69 u70 u71 u72 u73 u74 u75 u76 u77 u78 u79 u80 u81 u82 u83 u84 u85 u86 u87 u88 u89 u90 u91 u92 u93 u94 u95 u96 u97 u98 u99 u100 u101 u102 u103 u104 u105 u106 u107 u108 u109 u110 u111 u112 u113 u114 u115 u116 u117 u118 u119 u120 u121 u280 u281 u282 u283 u284 u285 u286 u287 u288 u289 u290 u291 u292 u293 u294 u295 u296 u297 u298 u299 u300 : Value) (a2 : Act) (wr2 : World) : Prop := ∃ (x : Nat → Value), a2 = ⟨List.toArray (u0 :: u1 :: u2 :: u3 :: .slice (some ⟨gk, 0, none⟩) 64 64 :: .slice (some ⟨gh, 0, none⟩) 8 8 :: u6 :: .slice (some ⟨gw, 0, none⟩) 64 64 :: u8 :: u9 :: u10 :: u11 :: u12 :: x 13 :: x 14 :: x 15 :: x 16 :: x 17 :: x 18 :: x 19 :: x 20 :: u21 :: u22 :: u23 :: u24 :: u25 :: u26 :: u27 :: u28 :: u29 :: u30 :: u31 :: u32 :: u33 :: u34 :: u35 :: u36 :: u37 :: u38 :: u39 :: u40 :: u41 :: u42 :: u43 :: u44 :: u45 :: u46 :: u47 :: u48 :: u49 :: u50 :: u51 :: u52 :: u53 :: u54 :: u55 :: u56 :: u57 :: u58 :: u59 :: u60 :: u61 :: u62 :: u63 :: u64 :: u65 :: u66 :: u67 :: u68 :: u69 :: u70 :: u71 :: u72 :: u73 :: u74 :: u75 :: u76 :: u77 :: u78 :: u79 :: u80 :: u81 :: u82 :: u83 :: u84 :: u85 :: u86 :: u87 :: u88 :: u89 :: u90 :: u91 :: u92 :: u93 :: u94 :: u95 :: u96 :: u97 :: u98 :: u99 :: u100 :: u101 :: u102 :: u103 :: u104 :: u105 :: u106 :: u107 :: u108 :: u109 :: u110 :: u111 :: u112 :: u113 :: u114 :: u115 :: u116 :: u117 :: u118 :: u119 :: u120 :: u121 :: x 122 :: x 123 :: x 124 :: x 125 :: x 126 :: x 127 :: x 128 :: x 129 :: x 130 :: x 131 :: x 132 :: x 133 :: x 134 :: x 135 :: x 136 :: x 137 :: x 138 :: x 139 :: x 140 :: x 141 :: x 142 :: x 143 :: x 144 :: x 145 :: x 146 :: x 147 :: x 148 :: x 149 :: x 150 :: x 151 :: x 152 :: x 153 :: x 154 :: x 155 :: x 156 :: x 157 :: x 158 :: x 159 :: x 160 :: x 161 :: x 162 :: x 163 :: x 164 :: x 165 :: x 166 :: x 167 :: x 168 :: x 169 :: x 170 :: x 171 :: x 172 :: x 173 :: x 174 :: x 175 :: x 176 :: x 177 :: x 178 :: x 179 :: x 180 :: x 181 :: x 182 :: x 183 :: x 184 :: x 185 :: x 186 :: x 187 :: x 188 :: x 189 :: x 190 :: x 191 :: x 192 :: x 193 :: x 194 :: x 195 :: x 196 :: x 197 :: x 198 :: x 199 :: x 200 :: x 201 :: x 202 :: x 203 :: x 204 :: x 205 :: x 206 :: x 207 :: x 208 :: x 209 :: x 210 :: x 211 :: x 212 :: x 213 :: x 214 :: x 215 :: x 216 :: x 217 :: x 218 :: x 219 :: x 220 :: x 221 :: x 222 :: x 223 :: x 224 :: x 225 :: x 226 :: x 227 :: x 228 :: x 229 :: x 230 :: x 231 :: x 232 :: x 233 :: x 234 :: x 235 :: x 236 :: x 237 :: x 238 :: x 239 :: x 240 :: x 241 :: x 242 :: x 243 :: x 244 :: x 245 :: x 246 :: x 247 :: x 248 :: x 249 :: x 250 :: x 251 :: x 252 :: x 253 :: x 254 :: x 255 :: x 256 :: x 257 :: x 258 :: x 259 :: x 260 :: x 261 :: x 262 :: x 263 :: x 264 :: x 265 :: x 266 :: x 267 :: x 268 :: x 269 :: x 270 :: x 271 :: x 272 :: x 273 :: x 274 :: x 275 :: x 276 :: x 277 :: x 278 :: x 279 :: u280 :: u281 :: u282 :: u283 :: u284 :: u285 :: u286 :: u287 :: u288 :: u289 :: u290 :: u291 :: u292 :: u293 :: u294 :: u295 :: u296 :: u297 :: u298 :: u299 :: u300 :: List.nil), []⟩ ∧ Hid (T2 w gk gh (addL H R) wr2)
set_option maxRecDepth 1000000 in
theorem post_mk_T (w : World) (gk gh gw : Nat) (H Wd R : List Nat) (u0 u1 u2 u3 u6 u8 u9 u10 u11 u12 u21 u22 u23 u24 u25 u26 u27 u28 u29 u30 u31 u32 u33 u34 u35 u36 u37 u38 u39 u40 u41 u42 u43 u44 u45 u46 u47 u48 u49 u50 u51 u52 u53 u54 u55 u56 u57 u58 u59 u60 u61 u62 u63 u64 u65 u66 u67 u68 u69 u70 u71 u72 u73 u74 u75 u76 u77 u78 u79 u80 u81 u82 u83 u84 u85 u86 u87 u88 u89 u90 u91 u92 u93 u94 u95 u96 u97 u98 u99 u100 u101 u102 u103 u104 u105 u106 u107 u108 u109 u110 u111 u112 u113 u114 u115 u116 u117 u118 u119 u120 u121 u280 u281 u282 u283 u284 u285 u286 u287 u288 u289 u290 u291 u292 u293 u294 u295 u296 u297 u298 u299 u300 : Value) (a2 : Act) (wr2 : World) (h : a2 = ⟨List.toArray (u0 :: u1 :: u2 :: u3 :: .slice (some ⟨gk, 0, none⟩) 64 64 :: .slice (some ⟨gh, 0, none⟩) 8 8 :: u6 :: .slice (some ⟨gw, 0, none⟩) 64 64 :: u8 :: u9 :: u10 :: u11 :: u12 :: Array.getD a2.tmps 13 undef :: Array.getD a2.tmps 14 undef :: Array.getD a2.tmps 15 undef :: Array.getD a2.tmps 16 undef :: Array.getD a2.tmps 17 undef :: Array.getD a2.tmps 18 undef :: Array.getD a2.tmps 19 undef :: Array.getD a2.tmps 20 undef :: u21 :: u22 :: u23 :: u24 :: u25 :: u26 :: u27 :: u28 :: u29 :: u30 :: u31 :: u32 :: u33 :: u34 :: u35 :: u36 :: u37 :: u38 :: u39 :: u40 :: u41 :: u42 :: u43 :: u44 :: u45 :: u46 :: u47 :: u48 :: u49 :: u50 :: u51 :: u52 :: u53 :: u54 :: u55 :: u56 :: u57 :: u58 :: u59 :: u60 :: u61 :: u62 :: u63 :: u64 :: u65 :: u66 :: u67 :: u68 :: u69 :: u70 :: u71 :: u72 :: u73 :: u74 :: u75 :: u76 :: u77 :: u78 :: u79 :: u80 :: u81 :: u82 :: u83 :: u84 :: u85 :: u86 :: u87 :: u88 :: u89 :: u90 :: u91 :: u92 :: u93 :: u94 :: u95 :: u96 :: u97 :: u98 :: u99 :: u100 :: u101 :: u102 :: u103 :: u104 :: u105 :: u106 :: u107 :: u108 :: u109 :: u110 :: u111 :: u112 :: u113 :: u114 :: u115 :: u116 :: u117 :: u118 :: u119 :: u120 :: u121 :: Array.getD a2.tmps 122 undef :: Array.getD a2.tmps 123 undef :: Array.getD a2.tmps 124 undef :: Array.getD a2.tmps 125 undef :: Array.getD a2.tmps 126 undef :: Array.getD a2.tmps 127 undef :: Array.getD a2.tmps 128 undef :: Array.getD a2.tmps 129 undef :: Array.getD a2.tmps 130 undef :: Array.getD a2.tmps 131 undef :: Array.getD a2.tmps 132 undef :: Array.getD a2.tmps 133 undef :: Array.getD a2.tmps 134 undef :: Array.getD a2.tmps 135 undef :: Array.getD a2.tmps 136 undef :: Array.getD a2.tmps 137 undef :: Array.getD a2.tmps 138 undef :: Array.getD a2.tmps 139 undef :: Array.getD a2.tmps 140 undef :: Array.getD a2.tmps 141 undef :: Array.getD a2.tmps 142 undef :: Array.getD a2.tmps 143 undef :: Array.getD a2.tmps 144 undef :: Array.getD a2.tmps 145 undef :: Array.getD a2.tmps 146 undef :: Array.getD a2.tmps 147 undef :: Array.getD a2.tmps 148 undef :: Array.getD a2.tmps 149 undef :: Array.getD a2.tmps 150 undef :: Array.getD a2.tmps 151 undef :: Array.getD a2.tmps 152 undef :: Array.getD a2.tmps 153 undef :: Array.getD a2.tmps 154 undef :: Array.getD a2.tmps 155 undef :: Array.getD a2.tmps 156 undef :: Array.getD a2.tmps 157 undef :: Array.getD a2.tmps 158 undef :: Array.getD a2.tmps 159 undef :: Array.getD a2.tmps 160 undef :: Array.getD a2.tmps 161 undef :: Array.getD a2.tmps 162 undef :: Array.getD a2.tmps 163 undef :: Array.getD a2.tmps 164 undef :: Array.getD a2.tmps 165 undef :: Array.getD a2.tmps 166 undef :: Array.getD a2.tmps 167 undef :: Array.getD a2.tmps 168 undef :: Array.getD a2.tmps 169 undef :: Array.getD a2.tmps 170 undef :: Array.getD a2.tmps 171 undef :: Array.getD a2.tmps 172 undef :: Array.getD a2.tmps 173 undef :: Array.getD a2.tmps 174 undef :: Array.getD a2.tmps 175 undef :: Array.getD a2.tmps 176 undef :: Array.getD a2.tmps 177 undef :: Array.getD a2.tmps 178 undef :: Array.getD a2.tmps 179 undef :: Array.getD a2.tmps 180 undef :: Array.getD a2.tmps 181 undef :: Array.getD a2.tmps 182 undef :: Array.getD a2.tmps 183 undef :: Array.getD a2.tmps 184 undef :: Array.getD a2.tmps 185 undef :: Array.getD a2.tmps 186 undef :: Array.getD a2.tmps 187 undef :: Array.getD a2.tmps 188 undef :: Array.getD a2.tmps 189 undef :: Array.getD a2.tmps 190 undef :: Array.getD a2.tmps 191 undef :: Array.getD a2.tmps 192 undef :: Array.getD a2.tmps 193 undef :: Array.getD a2.tmps 194 undef :: Array.getD a2.tmps 195 undef :: Array.getD a2.tmps 196 undef :: Array.getD a2.tmps 197 undef :: Array.getD a2.tmps 198 undef :: Array.getD a2.tmps 199 undef :: Array.getD a2.tmps 200 undef :: Array.getD a2.tmps 201 undef :: Array.getD a2.tmps 202 undef :: Array.getD a2.tmps 203 undef :: Array.getD a2.tmps 204 undef :: Array.getD a2.tmps 205 undef :: Array.getD a2.tmps 206 undef :: Array.getD a2.tmps 207 undef :: Array.getD a2.tmps 208 undef :: Array.getD a2.tmps 209 undef :: Array.getD a2.tmps 210 undef :: Array.getD a2.tmps 211 undef :: Array.getD a2.tmps 212 undef :: Array.getD a2.tmps 213 undef :: Array.getD a2.tmps 214 undef :: Array.getD a2.tmps 215 undef :: Array.getD a2.tmps 216 undef :: Array.getD a2.tmps 217 undef :: Array.getD a2.tmps 218 undef :: Array.getD a2.tmps 219 undef :: Array.getD a2.tmps 220 undef :: Array.getD a2.tmps 221 undef :: Array.getD a2.tmps 222 undef :: Array.getD a2.tmps 223 undef :: Array.getD a2.tmps 224 undef :: Array.getD a2.tmps 225 undef :: Array.getD a2.tmps 226 undef :: Array.getD a2.tmps 227 undef :: Array.getD a2.tmps 228 undef :: Array.getD a2.tmps 229 undef :: Array.getD a2.tmps 230 undef :: Array.getD a2.tmps 231 undef :: Array.getD a2.tmps 232 undef :: Array.getD a2.tmps 233 undef :: Array.getD a2.tmps 234 undef :: Array.getD a2.tmps 235 undef :: Array.getD a2.tmps 236 undef :: Array.getD a2.tmps 237 undef :: Array.getD a2.tmps 238 undef :: Array.getD a2.tmps 239 undef :: Array.getD a2.tmps 240 undef :: Array.getD a2.tmps 241 undef :: Array.getD a2.tmps 242 undef :: Array.getD a2.tmps 243 undef :: Array.getD a2.tmps 244 undef :: Array.getD a2.tmps 245 undef :: Array.getD a2.tmps 246 undef :: Array.getD a2.tmps 247 undef :: Array.getD a2.tmps 248 undef :: Array.getD a2.tmps 249 undef :: Array.getD a2.tmps 250 undef :: Array.getD a2.tmps 251 undef :: Array.getD a2.tmps 252 undef :: Array.getD a2.tmps 253 undef :: Array.getD a2.tmps 254 undef :: Array.getD a2.tmps 255 undef :: Array.getD a2.tmps 256 undef :: Array.getD a2.tmps 257 undef :: Array.getD a2.tmps 258 undef :: Array.getD a2.tmps 259 undef :: Array.getD a2.tmps 260 undef :: Array.getD a2.tmps 261 undef :: Array.getD a2.tmps 262 undef :: Array.getD a2.tmps 263 undef :: Array.getD a2.tmps 264 undef :: Array.getD a2.tmps 265 undef :: Array.getD a2.tmps 266 undef :: Array.getD a2.tmps 267 undef :: Array.getD a2.tmps 268 undef :: Array.getD a2.tmps 269 undef :: Array.getD a2.tmps 270 undef :: Array.getD a2.tmps 271 undef :: Array.getD a2.tmps 272 undef :: Array.getD a2.tmps 273 undef :: Array.getD a2.tmps 274 undef :: Array.getD a2.tmps 275 undef :: Array.getD a2.tmps 276 undef :: Array.getD a2.tmps 277 undef :: Array.getD a2.tmps 278 undef :: Array.getD a2.tmps 279 undef :: u280 :: u281 :: u282 :: u283 :: u284 :: u285 :: u286 :: u287 :: u288 :: u289 :: u290 :: u291 :: u292 :: u293 :: u294 :: u295 :: u296 :: u297 :: u298 :: u299 :: u300 :: List.nil), []⟩) (g0 : Hid (T2 w gk gh (addL H R) wr2)) : post_T w gk gh gw H Wd R u0 u1 u2 u3 u6 u8 u9 u10 u11 u12 u21 u22 u23 u24 u25 u26 u27 u28 u29 u30 u31 u32 u33 u34 u35 u36 u37 u38 u39 u40 u41 u42 u43 u44 u45 u46 u47 u48 u49 u50 u51 u52 u53 u54 u55 u56 u57 u58 u59 u60 u61 u62 u63 u64 u65 u66 u67 u68 u69 u70 u71 u72 u73 u74 u75 u76 u77 u78 u79 u80 u81 u82 u83 u84 u85 u86 u87 u88 u89 u90 u91 u92 u93 u94 u95 u96 u97 u98 u99 u100 u101 u102 u103 u104 u105 u106 u107 u108 u109 u110 u111 u112 u113 u114 u115 u116 u117 u118 u119 u120 u121 u280 u281 u282 u283 u284 u285 u286 u287 u288 u289 u290 u291 u292 u293 u294 u295 u296 u297 u298 u299 u300 a2 wr2 := ⟨fun i => Array.getD a2.tmps i undef, h, g0⟩

set_option maxRecDepth 1000000 in
set_option maxHeartbeats 40000000 in
theorem rt_T (w : World) (gk gh gw : Nat) (H Wd R : List Nat) (wr : World) (P1 : Act → World → Prop) (Q1 : Exit → Act → World → Prop) (K : Act → World → Prop)
    (u0 u1 u2 u3 u6 u8 u9 u10 u11 u12 u13 u14 u15 u16 u17 u18 u19 u20 u21 u22 u23 u24 u25 u26 u27 u28 u29 u30 u31 u32 u33 u34 u35 u36 u37 u38 u39 u40 u41 u42 u43 u44 u45 u46 u47 u48 u49 u50 u51 u52 u53 u54 u55 u56 u57 u58 u59 u60 u61 u62 u63 u64 u65 u66 u67 u68 u69 u70 u71 u72 u73 u74 u75 u76 u77 u78 u79 u80 u81 u82 u83 u84 u85 u86 u87 u88 u89 u90 u91 u92 u93 u94 u95 u96 u97 u98 u99 u100 u101 u102 u103 u104 u105 u106 u107 u108 u109 u110 u111 u112 u113 u114 u115 u116 u117 u118 u119 u120 u121 u122 u123 u124 u125 u126 u127 u128 u129 u130 u131 u132 u133 u134 u135 u136 u137 u138 u139 u140 u141 u142 u143 u144 u145 u146 u147 u148 u149 u150 u151 u152 u153 u154 u155 u156 u157 u158 u159 u160 u161 u162 u163 u164 u165 u166 u167 u168 u169 u170 u171 u172 u173 u174 u175 u176 u177 u178 u179 u180 u181 u182 u183 u184 u185 u186 u187 u188 u189 u190 u191 u192 u193 u194 u195 u196 u197 u198 u199 u200 u201 u202 u203 u204 u205 u206 u207 u208 u209 u210 u211 u212 u213 u214 u215 u216 u217 u218 u219 u220 u221 u222 u223 u224 u225 u226 u227 u228 u229 u230 u231 u232 u233 u234 u235 u236 u237 u238 u239 u240 u241 u242 u243 u244 u245 u246 u247 u248 u249 u250 u251 u252 u253 u254 u255 u256 u257 u258 u259 u260 u261 u262 u263 u264 u265 u266 u267 u268 u269 u270 u271 u272 u273 u274 u275 u276 u277 u278 u279 u280 u281 u282 u283 u284 u285 u286 u287 u288 u289 u290 u291 u292 u293 u294 u295 u296 u297 u298 u299 u300 : Value)
    (HHOK : Hid (H.length = 8 ∧ small H)) (HWL : Hid (Wd.length = 64)) (HWS : Hid (small Wd)) (HROK : Hid (R.length = 8 ∧ small R)) (HR0 : Hid (rds (KS.drop 0) (Wd.drop 0) H = R)) (hK : Hid (T3 w gk gh gw H Wd wr))
    (hP : ∀ a2 w2, post_T w gk gh gw H Wd R u0 u1 u2 u3 u6 u8 u9 u10 u11 u12 u21 u22 u23 u24 u25 u26 u27 u28 u29 u30 u31 u32 u33 u34 u35 u36 u37 u38 u39 u40 u41 u42 u43 u44 u45 u46 u47 u48 u49 u50 u51 u52 u53 u54 u55 u56 u57 u58 u59 u60 u61 u62 u63 u64 u65 u66 u67 u68 u69 u70 u71 u72 u73 u74 u75 u76 u77 u78 u79 u80 u81 u82 u83 u84 u85 u86 u87 u88 u89 u90 u91 u92 u93 u94 u95 u96 u97 u98 u99 u100 u101 u102 u103 u104 u105 u106 u107 u108 u109 u110 u111 u112 u113 u114 u115 u116 u117 u118 u119 u120 u121 u280 u281 u282 u283 u284 u285 u286 u287 u288 u289 u290 u291 u292 u293 u294 u295 u296 u297 u298 u299 u300 a2 w2 → P1 a2 w2)
    (hC : ∀ a w, Code.wp Try.prog restT (Exit.inBlock 1 (Exit.then P1 Q1)) a w → K a w) :
    Code.wp Try.prog regT (Exit.then K (Exit.inBlock 1 (Exit.then P1 Q1))) ⟨List.toArray (u0 :: u1 :: u2 :: u3 :: .slice (some ⟨gk, 0, none⟩) 64 64 :: .slice (some ⟨gh, 0, none⟩) 8 8 :: u6 :: .slice (some ⟨gw, 0, none⟩) 64 64 :: u8 :: u9 :: u10 :: u11 :: u12 :: u13 :: u14 :: u15 :: u16 :: u17 :: u18 :: u19 :: u20 :: u21 :: u22 :: u23 :: u24 :: u25 :: u26 :: u27 :: u28 :: u29 :: u30 :: u31 :: u32 :: u33 :: u34 :: u35 :: u36 :: u37 :: u38 :: u39 :: u40 :: u41 :: u42 :: u43 :: u44 :: u45 :: u46 :: u47 :: u48 :: u49 :: u50 :: u51 :: u52 :: u53 :: u54 :: u55 :: u56 :: u57 :: u58 :: u59 :: u60 :: u61 :: u62 :: u63 :: u64 :: u65 :: u66 :: u67 :: u68 :: u69 :: u70 :: u71 :: u72 :: u73 :: u74 :: u75 :: u76 :: u77 :: u78 :: u79 :: u80 :: u81 :: u82 :: u83 :: u84 :: u85 :: u86 :: u87 :: u88 :: u89 :: u90 :: u91 :: u92 :: u93 :: u94 :: u95 :: u96 :: u97 :: u98 :: u99 :: u100 :: u101 :: u102 :: u103 :: u104 :: u105 :: u106 :: u107 :: u108 :: u109 :: u110 :: u111 :: u112 :: u113 :: u114 :: u115 :: u116 :: u117 :: u118 :: u119 :: u120 :: u121 :: u122 :: u123 :: u124 :: u125 :: u126 :: u127 :: u128 :: u129 :: u130 :: u131 :: u132 :: u133 :: u134 :: u135 :: u136 :: u137 :: u138 :: u139 :: u140 :: u141 :: u142 :: u143 :: u144 :: u145 :: u146 :: u147 :: u148 :: u149 :: u150 :: u151 :: u152 :: u153 :: u154 :: u155 :: u156 :: u157 :: u158 :: u159 :: u160 :: u161 :: u162 :: u163 :: u164 :: u165 :: u166 :: u167 :: u168 :: u169 :: u170 :: u171 :: u172 :: u173 :: u174 :: u175 :: u176 :: u177 :: u178 :: u179 :: u180 :: u181 :: u182 :: u183 :: u184 :: u185 :: u186 :: u187 :: u188 :: u189 :: u190 :: u191 :: u192 :: u193 :: u194 :: u195 :: u196 :: u197 :: u198 :: u199 :: u200 :: u201 :: u202 :: u203 :: u204 :: u205 :: u206 :: u207 :: u208 :: u209 :: u210 :: u211 :: u212 :: u213 :: u214 :: u215 :: u216 :: u217 :: u218 :: u219 :: u220 :: u221 :: u222 :: u223 :: u224 :: u225 :: u226 :: u227 :: u228 :: u229 :: u230 :: u231 :: u232 :: u233 :: u234 :: u235 :: u236 :: u237 :: u238 :: u239 :: u240 :: u241 :: u242 :: u243 :: u244 :: u245 :: u246 :: u247 :: u248 :: u249 :: u250 :: u251 :: u252 :: u253 :: u254 :: u255 :: u256 :: u257 :: u258 :: u259 :: u260 :: u261 :: u262 :: u263 :: u264 :: u265 :: u266 :: u267 :: u268 :: u269 :: u270 :: u271 :: u272 :: u273 :: u274 :: u275 :: u276 :: u277 :: u278 :: u279 :: u280 :: u281 :: u282 :: u283 :: u284 :: u285 :: u286 :: u287 :: u288 :: u289 :: u290 :: u291 :: u292 :: u293 :: u294 :: u295 :: u296 :: u297 :: u298 :: u299 :: u300 :: List.nil), []⟩ wr := by
  have HPT := Lib.hid hP
  clear hP
  conv => arg 2; whnf
  obtain ⟨h0, h1, h2, h3, h4, h5, h6, h7, hHe⟩ := eight H HHOK.out.1
  have hU := hK.out.1.2.1
  have c0 := hU.cell 0 (by rw [HHOK.out.1]; omega)
  have c1 := hU.cell 1 (by rw [HHOK.out.1]; omega)
  have c2 := hU.cell 2 (by rw [HHOK.out.1]; omega)
  have c3 := hU.cell 3 (by rw [HHOK.out.1]; omega)
  have c4 := hU.cell 4 (by rw [HHOK.out.1]; omega)
  have c5 := hU.cell 5 (by rw [HHOK.out.1]; omega)
  have c6 := hU.cell 6 (by rw [HHOK.out.1]; omega)
  have c7 := hU.cell 7 (by rw [HHOK.out.1]; omega)
  simp only [hHe, List.getElem_cons_zero, List.getElem_cons_succ] at c0 c1 c2 c3 c4 c5 c6 c7
  have HHE := Lib.hid hHe
  clear hU hHe
  go_wp2_with fail
  go_still_tail 24, (by kernel_rfl)
  have HT3 := Lib.hid (hK.out.later (bd1 wr))
  clear c0 c1 c2 c3 c4 c5 c6 c7 hK
  change wpList _ _ _ _ _ wr.drew
  generalize wr.drew = wd at *
  go_wp2_with fail
  conv => arg 2; whnf
  go_wp2_with fail
  refine gen_wp (S := fun wz => Hid (T4 w gk gh gw wd.heap.size H Wd H wz)) (Lib.hid (T4.fresh HT3.out H (by rw [HHE.out]; rfl))) ?_
  intro W4 H4
  clear HT3 HHE
  generalize wd.heap.size = gv0 at *
  go_loopw [13, 14] (fun vv jv wr => ∃ (j gv : Nat) (V : List Nat), j ≤ 64 ∧ jv = .int .i64 (j : Int) ∧ vv = .slice (some ⟨gv, 0, none⟩) 8 8 ∧ Hid (T4 w gk gh gw gv H Wd V wr) ∧ Hid (V.length = 8 ∧ small V) ∧ Hid (rds (KS.drop j) (Wd.drop j) V = R)) (fun _ jv _ => 64 - (intOf jv).toNat)
  case atStart => exact ⟨0, gv0, H, Nat.zero_le _, rfl, rfl, H4, HHOK, HR0⟩
  case round =>
    clear H4 HR0
    obtain ⟨j, gv, V, hj, rfl, rfl, hV, hVok, hVR⟩ := hrel
    by_cases hj64 : j < 64
    ·
      refine rtm_R w j gk gh gw gv H Wd V R wr _ _ _ _ _ _ _ _ _ _ _ _ _ _ _ _ _ _ _ _ _ _ _ _ _ _ _ _ _ _ _ _ _ _ _ _ _ _ _ _ _ _ _ _ _ _ _ _ _ _ _ _ _ _ _ _ _ _ _ _ _ _ _ _ _ _ _ _ _ _ _ _ _ _ _ _ _ _ _ _ _ _ _ _ _ _ _ _ _ _ _ _ _ _ _ _ _ _ _ _ _ _ _ _ _ _ _ _ _ _ _ _ _ _ _ _ _ _ _ _ _ _ _ _ _ _ _ _ _ _ _ _ _ _ _ _ _ _ _ _ _ _ _ _ _ _ _ _ _ _ _ _ _ _ _ _ _ _ _ _ _ _ _ _ _ _ _ _ _ _ _ _ _ _ _ _ _ _ _ _ _ _ _ _ _ _ _ _ _ _ _ _ _ _ _ _ _ _ _ _ _ _ _ _ _ _ _ _ _ _ _ _ _ _ _ _ _ _ _ _ _ _ _ _ _ _ _ _ _ _ _ _ _ _ _ _ _ _ _ _ _ _ _ _ _ _ _ _ _ _ _ _ _ _ _ _ _ _ _ _ _ _ _ _ _ _ _ _ _ _ _ _ _ _ _ _ _ _ _ _ _ _ _ _ _ _ _ _ _ _ _ _ _ _ _ _ _ _ _ HWL HWS hj hj64 hV hVok hVR ?_
      intro aa wz hz
      obtain ⟨x, gv2, V2, rfl, h1, h2, h3⟩ := hz
      go_roundw
      case rel => exact ⟨j + 1, gv2, V2, by omega, by go_num, rfl, h1, h2, h3⟩
      case measure => simp [intOf]; omega
    ·
      obtain rfl : j = 64 := by omega
      have hVe : V = R := by
        have h := hVR.out
        rw [List.drop_of_length_le (show KS.length ≤ 64 by rw [small_KS.1]; omega)] at h
        exact h
      rw [hVe] at hV
      clear hVe hVok hVR
      have HV0 : Hid (T4 w gk gh gw gv (mixL H R 0) Wd R wr) := by rw [mixL_0]; exact hV
      clear hV
      go_wp2_with fail
      go_loopw [20] (fun qv wr => ∃ q : Nat, q ≤ 8 ∧ qv = .int .i64 (q : Int) ∧ Hid (T4 w gk gh gw gv (mixL H R q) Wd R wr)) (fun qv _ => 8 - (intOf qv).toNat)
      case atStart => exact ⟨0, Nat.zero_le _, rfl, HV0⟩
      case round =>
        clear HV0
        obtain ⟨q, hq, rfl, hQ⟩ := hrel
        by_cases hq8 : q < 8
        ·
          refine rtm_Q w q gk gh gw gv H Wd R wr _ _ _ _ _ _ _ _ _ _ _ _ _ _ _ _ _ _ _ _ _ _ _ _ _ _ _ _ _ _ _ _ _ _ _ _ _ _ _ _ _ _ _ _ _ _ _ _ _ _ _ _ _ _ _ _ _ _ _ _ _ _ _ _ _ _ _ _ _ _ _ _ _ _ _ _ _ _ _ _ _ _ _ _ _ _ _ _ _ _ _ _ _ _ _ _ _ _ _ _ _ _ _ _ _ _ _ _ _ _ _ _ _ _ _ _ _ _ _ _ _ _ _ _ _ _ _ _ _ _ _ _ _ _ _ _ _ _ _ _ _ _ _ _ _ _ _ _ _ _ _ _ _ _ _ _ _ _ _ _ _ _ _ _ _ _ _ _ _ _ _ _ _ _ _ _ _ _ _ _ _ _ _ _ _ _ _ _ _ _ _ _ _ _ _ _ _ _ _ _ _ _ _ _ _ _ _ _ _ _ _ _ _ _ _ _ _ _ _ _ _ _ _ _ _ _ _ _ _ _ _ _ _ _ _ _ _ _ _ _ _ _ _ _ _ _ _ _ _ _ _ _ _ _ _ _ _ _ _ _ _ _ _ _ _ _ _ _ _ _ _ _ _ _ _ _ _ _ _ _ _ _ _ _ _ _ _ _ _ _ _ _ _ _ _ _ _ _ _ _ HHOK HROK hq hq8 hQ ?_
          intro aa wz hz
          obtain ⟨x, rfl, h1⟩ := hz
          go_roundw
          case rel => exact ⟨q + 1, by omega, by go_num, h1⟩
          case measure => simp [intOf]; omega
        ·
          obtain rfl : q = 8 := by omega
          rw [mixL_8 H R HHOK.out.1 HROK.out.1] at hQ
          have HQ2 := Lib.hid hQ.out.1.1
          clear hQ
          go_wp2
          refine HPT.out _ _ (post_mk_T w gk gh gw H Wd R _ _ _ _ _ _ _ _ _ _ _ _ _ _ _ _ _ _ _ _ _ _ _ _ _ _ _ _ _ _ _ _ _ _ _ _ _ _ _ _ _ _ _ _ _ _ _ _ _ _ _ _ _ _ _ _ _ _ _ _ _ _ _ _ _ _ _ _ _ _ _ _ _ _ _ _ _ _ _ _ _ _ _ _ _ _ _ _ _ _ _ _ _ _ _ _ _ _ _ _ _ _ _ _ _ _ _ _ _ _ _ _ _ _ _ _ _ _ _ _ _ _ _ _ _ _ _ _ _ _ _ _ _ _ ?_ HQ2)
          rfl
end Go.Proofs.Ytfakkbjnapelfaa.Dg
