/-
  The law on ties both ways: the kinds of a tie.
-/
import Derived.Test.YtdnccdobnhbpeaaDoorHcO
import Derived.Test.YtdnccdobnhbpeaaDoorHcV
import Derived.BigQuiet
import Derived.Deep.CutBlock
import Derived.Deep.CutRange
import Derived.Deep.Light
namespace Go.Proofs.YtdnccdobnhbpeaaDoor
open Go Go.RowKit Go.Shelf Go.Maps Go.ChangeShapes
set_option linter.unusedVariables false
set_option linter.unusedSimpArgs false

theorem toNat_pred {a : Int} (h : 1 ≤ a) : a.toNat - 1 = (a - 1).toNat := by omega
/-- Whether one of the first so many is it. -/
def fTo (us : List T3) (t : T3) (j : Nat) : Bool := (List.range j).any fun i => decide (nthT us i = t)
theorem fTo_succ (us : List T3) (t : T3) (j : Nat) : fTo us t (j + 1) = (fTo us t j || decide (nthT us j = t)) := by
  unfold fTo
  rw [List.range_succ, List.any_append]
  simp
theorem fTo_all {us : List T3} {t : T3} (h : t ∈ us) : fTo us t us.length = true := by
  obtain ⟨i, hi, rfl⟩ := List.getElem_of_mem h
  exact List.any_eq_true.2 ⟨i, List.mem_range.2 hi, by simp [nthT_eq hi]⟩
/-- What stays while the law looks at a tie. -/
structure Kp (w0 : World) (B S3 S9 : Nat) (lv : Array Value) (q x y : Int) (p1 : Option Addr) (ts : List T3) (p2 : Option Addr) (us : List T3) (W : World) : Prop where
  tie : Blk W S9 66 #[.int .i64 q, .int .i64 x, .int .i64 y]
  hh : Blk W S3 24 lv
  r1 : Rows3 W p1 ts
  r2 : Rows3 W p2 us
  b : Below B w0 W
  sz : B ≤ W.heap.size
theorem Kp.below {w0 : World} {B S3 S9 : Nat} {lv : Array Value} {q x y : Int} {p1 : Option Addr} {ts : List T3} {p2 : Option Addr} {us : List T3} {W W' : World} (h : Kp w0 B S3 S9 lv q x y p1 ts p2 us W) (hb : Below W.heap.size W W') : Kp w0 B S3 S9 lv q x y p1 ts p2 us W' :=
  ⟨h.tie.below hb h.tie.lt, h.hh.below hb h.hh.lt, h.r1.below hb (Nat.le_refl _), h.r2.below hb (Nat.le_refl _), h.b.trans (hb.mono h.sz), Nat.le_trans h.sz hb.size⟩
theorem chk_two {a b : Int} (ha : Hou a) (hb : Hou b) : chkH [a, b] = 0 := by
  rcases chkH_two (a := a) (b := b) with ⟨h, _⟩ | ⟨_, h⟩
  · exact h
  · exact absurd ⟨ha, hb⟩ h
theorem apartV_ap {a b : Int} (ha : Hou a) (hb : Hou b) : apartV a b = (apN a b : Int) := by
  unfold apartV
  rw [if_pos (chk_two ha hb)]
  rfl
/-- What the law on a tie comes to, with letters for the figures and the ways apart. -/
theorem law_cases {s : List Int} {a b q x y FA FB FX FY N M Q : Int}
    (h : (q = 1 ∧ x = a ∧ y = b ∧ fg s x = fg s y) ∨
    (q = 2 ∧ apN x y = 1 ∧ ((y = b ∧ fg s x = fg s a) ∨ (x = a ∧ fg s y = fg s b))) ∨
    (q = 3 ∧ fg s x = fg s a ∧ fg s y = fg s b ∧ apN x y = 1 ∧ apN x a ≠ 0 ∧ apN y b ≠ 0) ∨
    (q = 4 ∧ fg s x = fg s y ∧ fg s x ≠ fg s a ∧ fg s x ≠ fg s b ∧ apN x a = 1 ∧ apN y b = 1))
    (hFA : fg s a = FA) (hFB : fg s b = FB) (hFX : fg s x = FX) (hFY : fg s y = FY)
    (hN : (apN x y : Int) = N) (hM : (apN x a : Int) = M) (hQ : (apN y b : Int) = Q) :
    (q = 1 ∧ x = a ∧ y = b ∧ FX = FY) ∨ (q = 2 ∧ N = 1 ∧ y = b ∧ FX = FA) ∨ (q = 2 ∧ N = 1 ∧ x = a ∧ FY = FB) ∨ (q = 3 ∧ FX = FA ∧ FY = FB ∧ N = 1 ∧ ¬ M = 0 ∧ ¬ Q = 0) ∨ (q = 4 ∧ FX = FY ∧ ¬ FY = FA ∧ ¬ FY = FB ∧ M = 1 ∧ Q = 1) := by
  subst hFA hFB hFX hFY hN hM hQ
  rcases h with ⟨h1, h2, h3, h4⟩ | ⟨h1, h2, ⟨h3, h4⟩ | ⟨h3, h4⟩⟩ | ⟨h1, h2, h3, h4, h5, h6⟩ | ⟨h1, h2, h3, h4, h5, h6⟩
  · exact .inl ⟨h1, h2, h3, h4⟩
  · exact .inr (.inl ⟨h1, by omega, h3, h4⟩)
  · exact .inr (.inr (.inl ⟨h1, by omega, h3, h4⟩))
  · exact .inr (.inr (.inr (.inl ⟨h1, h2, h3, by omega, by omega, by omega⟩)))
  · exact .inr (.inr (.inr (.inr ⟨h1, h2, by rw [← h2]; exact h3, by rw [← h2]; exact h4, by omega, by omega⟩)))
/-- The first branch of a sequence. -/
def seqL : Code → Code
  | .seq x _ => x
  | c => c
/-- The rest of a sequence. -/
def seqR : Code → Code
  | .seq _ y => y
  | c => c
/-- What a block or a loop holds. -/
def bodyC : Code → Code
  | .block _ x => x
  | .loop x => x
  | c => c
/-- The law's switch over the kinds of a tie. -/
noncomputable def bothSwitch : Code := seqR (seqR (seqR (seqR (seqR (seqR (seqR (seqR (seqR (seqR (bodyC (seqL (seqR (bodyC (bodyC (seqR (seqL (seqR (seqR (seqR (seqR (seqR (seqR (seqR (Tryd.f5.body.getD .skip))))))))))))))))))))))))
set_option maxRecDepth 1000000 in
set_option maxHeartbeats 8000000 in
theorem both_kinds {z0 z1 z2 z3 z6 z7 z8 z9 z10 z11 z12 z13 z14 z16 z17 z23 z25 z27 z28 z29 z30 z31 z32 z33 z34 z35 z36 z37 z38 z39 z40 z41 z42 z43 z44 z45 z46 z47 z48 z49 z50 z51 z52 z53 z54 z55 z56 z57 z58 z59 z60 z61 z62 z63 z64 z65 z66 z67 z68 z69 z70 z71 z72 z73 z74 z75 z76 z77 z78 z79 z80 z81 z82 z83 z84 z85 z86 z87 z88 z89 z90 z91 z92 z93 z94 z95 z96 z97 z98 z99 z100 z101 z102 z103 z104 z105 z106 z107 z108 z109 z110 z111 z112 z113 z114 z115 z116 z117 z118 z119 z120 z121 z122 z123 z124 z125 z126 z127 z128 z129 z130 z131 z132 z133 z134 z135 z136 z137 z138 z139 z140 z141 z142 z143 z144 z145 z146 z147 z148 z149 z150 z151 z152 z153 z154 z155 z156 z157 z158 z159 z160 z161 z162 z163 z164 z165 z166 z167 z168 z169 z170 z171 z172 z173 z174 z175 z176 z177 z178 z179 z180 z181 z182 z183 z184 z185 z186 z187 z188 z189 z190 z191 z192 z193 z194 z195 z196 z197 z198 z199 z200 z201 z202 z203 z204 z205 z206 z207 z208 z209 z210 z211 z212 z213 z214 z215 z216 z217 z218 z219 z220 z221 z222 z223 z225 z226 z227 z228 z229 z230 z231 z232 z233 z234 z235 z236 z237 z238 z239 z240 z241 z242 z243 z244 z245 z246 z247 z248 z249 z250 z251 z252 z253 z254 z255 z256 z257 z258 z259 z260 z261 z262 z263 z264 z265 z266 z267 z268 z269 z270 z271 z272 z273 z274 z275 z276 z277 z278 z279 z280 z281 z282 z283 z284 z285 z286 z287 z288 z289 z290 z291 z292 z293 z294 z295 z296 z297 z298 z299 z300 z301 z302 z303 z304 z305 z306 z307 z308 z309 z310 z311 z312 z313 z314 z315 z316 z317 : Value} (q x y a b FA FB FX FY N M Q : Int) (S9 : Nat) (W : World) (HT : Hid (Blk W S9 66 #[.int .i64 q, .int .i64 x, .int .i64 y])) (HK : Hid ((q = 1 ∧ x = a ∧ y = b ∧ FX = FY) ∨ (q = 2 ∧ N = 1 ∧ y = b ∧ FX = FA) ∨ (q = 2 ∧ N = 1 ∧ x = a ∧ FY = FB) ∨ (q = 3 ∧ FX = FA ∧ FY = FB ∧ N = 1 ∧ ¬ M = 0 ∧ ¬ Q = 0) ∨ (q = 4 ∧ FX = FY ∧ ¬ FY = FA ∧ ¬ FY = FB ∧ M = 1 ∧ Q = 1))) (Qx : Exit → Act → World → Prop)
    (hN : ∀ u225 u226 u227 u228 u229 u230 u231 u232 u233 u234 u235 u236 u237 u238 u239 u240 u241 u242 u243 u244 u245 u246 u247 u248 u249 u250 u251 u252 u253 u254 u255 u256 u257 u258 u259 u260 u261 u262 u263 u264 u265 u266 u267 u268 u269 u270 u271 u272 u273 u274 u275 u276 u277 u278 u279 u280 u281 u282 u283 u284 u285 u286 u287 u288 u289 u290 u291 u292 u293 u294 u295 u296 u297 u298 u299 u300 u301 u302 u303 u304 u305 u306 u307 u308 u309 u310 u311 u312 u313 u314 u315 u316 : Value, Qx .normal ⟨List.toArray (z0 :: z1 :: z2 :: z3 :: .int .i64 a :: .int .i64 b :: z6 :: z7 :: z8 :: z9 :: z10 :: z11 :: z12 :: z13 :: z14 :: .pointer (some ⟨S9, 0, none⟩) :: z16 :: z17 :: .int .i64 FA :: .int .i64 FB :: .int .i64 FX :: .int .i64 FY :: .int .i64 N :: z23 :: .int .i64 M :: z25 :: .int .i64 Q :: z27 :: z28 :: z29 :: z30 :: z31 :: z32 :: z33 :: z34 :: z35 :: z36 :: z37 :: z38 :: z39 :: z40 :: z41 :: z42 :: z43 :: z44 :: z45 :: z46 :: z47 :: z48 :: z49 :: z50 :: z51 :: z52 :: z53 :: z54 :: z55 :: z56 :: z57 :: z58 :: z59 :: z60 :: z61 :: z62 :: z63 :: z64 :: z65 :: z66 :: z67 :: z68 :: z69 :: z70 :: z71 :: z72 :: z73 :: z74 :: z75 :: z76 :: z77 :: z78 :: z79 :: z80 :: z81 :: z82 :: z83 :: z84 :: z85 :: z86 :: z87 :: z88 :: z89 :: z90 :: z91 :: z92 :: z93 :: z94 :: z95 :: z96 :: z97 :: z98 :: z99 :: z100 :: z101 :: z102 :: z103 :: z104 :: z105 :: z106 :: z107 :: z108 :: z109 :: z110 :: z111 :: z112 :: z113 :: z114 :: z115 :: z116 :: z117 :: z118 :: z119 :: z120 :: z121 :: z122 :: z123 :: z124 :: z125 :: z126 :: z127 :: z128 :: z129 :: z130 :: z131 :: z132 :: z133 :: z134 :: z135 :: z136 :: z137 :: z138 :: z139 :: z140 :: z141 :: z142 :: z143 :: z144 :: z145 :: z146 :: z147 :: z148 :: z149 :: z150 :: z151 :: z152 :: z153 :: z154 :: z155 :: z156 :: z157 :: z158 :: z159 :: z160 :: z161 :: z162 :: z163 :: z164 :: z165 :: z166 :: z167 :: z168 :: z169 :: z170 :: z171 :: z172 :: z173 :: z174 :: z175 :: z176 :: z177 :: z178 :: z179 :: z180 :: z181 :: z182 :: z183 :: z184 :: z185 :: z186 :: z187 :: z188 :: z189 :: z190 :: z191 :: z192 :: z193 :: z194 :: z195 :: z196 :: z197 :: z198 :: z199 :: z200 :: z201 :: z202 :: z203 :: z204 :: z205 :: z206 :: z207 :: z208 :: z209 :: z210 :: z211 :: z212 :: z213 :: z214 :: z215 :: z216 :: z217 :: z218 :: z219 :: z220 :: z221 :: z222 :: z223 :: .int .i64 q :: u225 :: u226 :: u227 :: u228 :: u229 :: u230 :: u231 :: u232 :: u233 :: u234 :: u235 :: u236 :: u237 :: u238 :: u239 :: u240 :: u241 :: u242 :: u243 :: u244 :: u245 :: u246 :: u247 :: u248 :: u249 :: u250 :: u251 :: u252 :: u253 :: u254 :: u255 :: u256 :: u257 :: u258 :: u259 :: u260 :: u261 :: u262 :: u263 :: u264 :: u265 :: u266 :: u267 :: u268 :: u269 :: u270 :: u271 :: u272 :: u273 :: u274 :: u275 :: u276 :: u277 :: u278 :: u279 :: u280 :: u281 :: u282 :: u283 :: u284 :: u285 :: u286 :: u287 :: u288 :: u289 :: u290 :: u291 :: u292 :: u293 :: u294 :: u295 :: u296 :: u297 :: u298 :: u299 :: u300 :: u301 :: u302 :: u303 :: u304 :: u305 :: u306 :: u307 :: u308 :: u309 :: u310 :: u311 :: u312 :: u313 :: u314 :: u315 :: u316 :: z317 :: []), []⟩ W) :
    Code.wp Tryd.prog bothSwitch Qx ⟨List.toArray (z0 :: z1 :: z2 :: z3 :: .int .i64 a :: .int .i64 b :: z6 :: z7 :: z8 :: z9 :: z10 :: z11 :: z12 :: z13 :: z14 :: .pointer (some ⟨S9, 0, none⟩) :: z16 :: z17 :: .int .i64 FA :: .int .i64 FB :: .int .i64 FX :: .int .i64 FY :: .int .i64 N :: z23 :: .int .i64 M :: z25 :: .int .i64 Q :: z27 :: z28 :: z29 :: z30 :: z31 :: z32 :: z33 :: z34 :: z35 :: z36 :: z37 :: z38 :: z39 :: z40 :: z41 :: z42 :: z43 :: z44 :: z45 :: z46 :: z47 :: z48 :: z49 :: z50 :: z51 :: z52 :: z53 :: z54 :: z55 :: z56 :: z57 :: z58 :: z59 :: z60 :: z61 :: z62 :: z63 :: z64 :: z65 :: z66 :: z67 :: z68 :: z69 :: z70 :: z71 :: z72 :: z73 :: z74 :: z75 :: z76 :: z77 :: z78 :: z79 :: z80 :: z81 :: z82 :: z83 :: z84 :: z85 :: z86 :: z87 :: z88 :: z89 :: z90 :: z91 :: z92 :: z93 :: z94 :: z95 :: z96 :: z97 :: z98 :: z99 :: z100 :: z101 :: z102 :: z103 :: z104 :: z105 :: z106 :: z107 :: z108 :: z109 :: z110 :: z111 :: z112 :: z113 :: z114 :: z115 :: z116 :: z117 :: z118 :: z119 :: z120 :: z121 :: z122 :: z123 :: z124 :: z125 :: z126 :: z127 :: z128 :: z129 :: z130 :: z131 :: z132 :: z133 :: z134 :: z135 :: z136 :: z137 :: z138 :: z139 :: z140 :: z141 :: z142 :: z143 :: z144 :: z145 :: z146 :: z147 :: z148 :: z149 :: z150 :: z151 :: z152 :: z153 :: z154 :: z155 :: z156 :: z157 :: z158 :: z159 :: z160 :: z161 :: z162 :: z163 :: z164 :: z165 :: z166 :: z167 :: z168 :: z169 :: z170 :: z171 :: z172 :: z173 :: z174 :: z175 :: z176 :: z177 :: z178 :: z179 :: z180 :: z181 :: z182 :: z183 :: z184 :: z185 :: z186 :: z187 :: z188 :: z189 :: z190 :: z191 :: z192 :: z193 :: z194 :: z195 :: z196 :: z197 :: z198 :: z199 :: z200 :: z201 :: z202 :: z203 :: z204 :: z205 :: z206 :: z207 :: z208 :: z209 :: z210 :: z211 :: z212 :: z213 :: z214 :: z215 :: z216 :: z217 :: z218 :: z219 :: z220 :: z221 :: z222 :: z223 :: .int .i64 q :: z225 :: z226 :: z227 :: z228 :: z229 :: z230 :: z231 :: z232 :: z233 :: z234 :: z235 :: z236 :: z237 :: z238 :: z239 :: z240 :: z241 :: z242 :: z243 :: z244 :: z245 :: z246 :: z247 :: z248 :: z249 :: z250 :: z251 :: z252 :: z253 :: z254 :: z255 :: z256 :: z257 :: z258 :: z259 :: z260 :: z261 :: z262 :: z263 :: z264 :: z265 :: z266 :: z267 :: z268 :: z269 :: z270 :: z271 :: z272 :: z273 :: z274 :: z275 :: z276 :: z277 :: z278 :: z279 :: z280 :: z281 :: z282 :: z283 :: z284 :: z285 :: z286 :: z287 :: z288 :: z289 :: z290 :: z291 :: z292 :: z293 :: z294 :: z295 :: z296 :: z297 :: z298 :: z299 :: z300 :: z301 :: z302 :: z303 :: z304 :: z305 :: z306 :: z307 :: z308 :: z309 :: z310 :: z311 :: z312 :: z313 :: z314 :: z315 :: z316 :: z317 :: []), []⟩ W := by
  have t0 : W.cell? ⟨S9, 0, none⟩ = some (.int .i64 q) := HT.out.cell 0
  have t1 : W.cell? ⟨S9, 1, none⟩ = some (.int .i64 x) := HT.out.cell 1
  have t2 : W.cell? ⟨S9, 2, none⟩ = some (.int .i64 y) := HT.out.cell 2
  clear HT
  have HN := Lib.hid hN
  clear hN
  conv => arg 2; whnf
  rcases HK.out with ⟨rfl, rfl, rfl, rfl⟩ | ⟨rfl, rfl, rfl, rfl⟩ | ⟨rfl, rfl, rfl, rfl⟩ | ⟨rfl, rfl, rfl, rfl, hm, hq⟩ | ⟨rfl, rfl, hm, hq, rfl, rfl⟩
  · clear HK
    go_wp2
    apply HN.out
  · clear HK
    go_wp2
    apply HN.out
  · clear HK
    by_cases hyb : y = b
    · by_cases hfa : FX = FA
      · go_wp2
        apply HN.out
      · go_wp2
        apply HN.out
    · go_wp2
      apply HN.out
  · clear HK
    have hm' : (M == 0) = false := by simp [hm]
    have hq' : (Q == 0) = false := by simp [hq]
    clear hm hq
    go_wp2
    apply HN.out
  · clear HK
    have hm' : (FX == FA) = false := by simp [hm]
    have hq' : (FX == FB) = false := by simp [hq]
    clear hm hq
    go_wp2
    apply HN.out
end Go.Proofs.YtdnccdobnhbpeaaDoor
