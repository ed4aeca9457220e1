import Derived.Test.YtfekelmldebplaaGreatDoorYm
import Derived.Test.YtfekelmldebplaaGreatDoorPx
set_option maxRecDepth 100000
set_option maxHeartbeats 8000000
namespace Go.Proofs.YtfekelmldebplaaGreatDoor
open Go.RowKit
section
variable {ev : Operand → Value} {w : World} {dst : Option Tmp} {T : TypeId} {p : String} {af : Array Edge} {g : Option (Nat × Bool)}
theorem uR (x : Operand) (b : Nat) (hx : ev x = .pointer (some ⟨b, 0, none⟩)) : (execOp ev { dst := dst, op := .fieldAddr 91 x 2, type := T, pos := p, after := af, guard := g }).run Tryz.prog w = .ok (.value (.pointer (some ⟨b, 2, none⟩))) w := by
 simp [go_sem, hx]
theorem aCq (x : Operand) (b : Nat) (hx : ev x = .pointer (some ⟨b, 0, none⟩)) : (execOp ev { dst := dst, op := .fieldAddr 95 x 1, type := T, pos := p, after := af, guard := g }).run Tryz.prog w = .ok (.value (.pointer (some ⟨b, 1, none⟩))) w := by
 simp [go_sem, hx]
theorem oE (x : Operand) (b : Addr) (a : Option Addr) (n c : Nat) (hx : ev x = .pointer (some b)) (hc : w.cell? b = some (.slice a n c)) : (execOp ev { dst := dst, op := .load 83 x, type := T, pos := p, after := af, guard := g }).run Tryz.prog w = .ok (.value (.slice a n c)) w := by
 simp [go_sem, hx, hc]
theorem aCo (x : Operand) (a : Option Addr) (n c : Nat) (hx : ev x = .slice a n c) : (execOp ev { dst := dst, op := .call { callee := .builtin .len, args := #[x], argTypes := #[83] }, type := 3, pos := p, after := af, guard := g }).run Tryz.prog w = .ok (.value (.int .i64 (n : Int))) w := by
 simp [go_sem, hx]
theorem aCp (x y : Operand) (b n c k : Nat) (hx : ev x = .slice (some ⟨b, 0, none⟩) n c) (hy : ev y = .int .i64 (k : Int)) (hk : k < n) : (execOp ev { dst := dst, op := .indexAddr 83 x y, type := T, pos := p, after := af, guard := g }).run Tryz.prog w = .ok (.value (.pointer (some ⟨b, k * 2, none⟩))) w := by
 simp [go_sem, hx, hy]
 exact fun h => absurd h (by omega)
theorem aAw (x : Operand) (b k : Nat) (p1 p2 : Option Addr) (hx : ev x = .pointer (some ⟨b, k, none⟩)) (h1 : w.cell? ⟨b, k, none⟩ = some (.pointer p1)) (h2 : w.cell? ⟨b, k + 1, none⟩ = some (.pointer p2)) : (execOp ev { dst := dst, op := .load 122 x, type := T, pos := p, after := af, guard := g }).run Tryz.prog w = .ok (.value (.agg #[.pointer p1, .pointer p2])) w := by
 simp [go_sem, hx, h1, h2]
theorem aAx (x : Operand) (b : Nat) (x0 x1 x2 x3 x4 x5 x6 x7 x8 x9 x10 x11 x12 x13 : Value) (hx : ev x = .pointer (some ⟨b, 0, none⟩)) (c0 : w.cell? ⟨b, 0, none⟩ = some x0) (c1 : w.cell? ⟨b, 1, none⟩ = some x1) (c2 : w.cell? ⟨b, 2, none⟩ = some x2) (c3 : w.cell? ⟨b, 3, none⟩ = some x3) (c4 : w.cell? ⟨b, 4, none⟩ = some x4) (c5 : w.cell? ⟨b, 5, none⟩ = some x5) (c6 : w.cell? ⟨b, 6, none⟩ = some x6) (c7 : w.cell? ⟨b, 7, none⟩ = some x7) (c8 : w.cell? ⟨b, 8, none⟩ = some x8) (c9 : w.cell? ⟨b, 9, none⟩ = some x9) (c10 : w.cell? ⟨b, 10, none⟩ = some x10) (c11 : w.cell? ⟨b, 11, none⟩ = some x11) (c12 : w.cell? ⟨b, 12, none⟩ = some x12) (c13 : w.cell? ⟨b, 13, none⟩ = some x13) : (execOp ev { dst := dst, op := .load 95 x, type := T, pos := p, after := af, guard := g }).run Tryz.prog w = .ok (.value (.agg #[x0, x1, x2, x3, x4, x5, x6, x7, x8, x9, x10, x11, x12, x13])) w := by
 simp [go_sem, hx, c0, c1, c2, c3, c4, c5, c6, c7, c8, c9, c10, c11, c12, c13]
end
theorem wE (args : Array Value) (w : World) : (callFunc 59 args).run Tryz.prog w = .ok (.enter 59 args) w := by
 simp [go_sem]
theorem yW (args : Array Value) (w : World) : (callFunc 58 args).run Tryz.prog w = .ok (.enter 58 args) w := by
 simp [go_sem]
def xP : List Oper := [
 ⟨some 128, .move (.tmp 0), 80, "law.go:146", #[], none⟩,
 ⟨some 129, .load 95 (.tmp 3), 95, "law.go:146", #[], none⟩,
 ⟨some 130, .move (.tmp 0), 80, "law.go:146", #[], none⟩,
 ⟨some 131, .nilCheck (.tmp 130), 0, "law.go:146", #[⟨2, .data⟩], none⟩,
 ⟨some 132, .fieldAddr 91 (.tmp 131) 2, 0, "law.go:146", #[⟨3, .data⟩], none⟩,
 ⟨some 133, .load 83 (.tmp 132), 83, "law.go:146", #[⟨4, .data⟩], none⟩,
 ⟨some 134, .fieldAddr 95 (.tmp 3) 1, 0, "law.go:146", #[], none⟩,
 ⟨some 135, .load 3 (.tmp 134), 3, "law.go:146", #[⟨6, .data⟩], none⟩,
 ⟨some 136, .move (.tmp 0), 80, "law.go:146", #[], none⟩,
 ⟨some 137, .nilCheck (.tmp 136), 0, "law.go:146", #[⟨8, .data⟩], none⟩,
 ⟨some 138, .fieldAddr 91 (.tmp 137) 2, 0, "law.go:146", #[⟨9, .data⟩], none⟩,
 ⟨some 139, .load 83 (.tmp 138), 83, "law.go:146", #[⟨10, .data⟩], none⟩,
 ⟨some 140, .call { callee := .builtin .len, args := #[.tmp 139], argTypes := #[83] }, 3, "law.go:146", #[⟨11, .data⟩], none⟩,
 ⟨some 141, .call { callee := .value (.func 59), args := #[.tmp 135, .tmp 140], argTypes := #[3, 3] }, 3, "law.go:146", #[⟨7, .data⟩, ⟨12, .data⟩], none⟩,
 ⟨some 142, .indexAddr 83 (.tmp 133) (.tmp 141), 0, "law.go:146", #[⟨5, .data⟩, ⟨13, .data⟩], none⟩,
 ⟨some 143, .load 122 (.tmp 142), 122, "law.go:146", #[⟨14, .data⟩], none⟩,
 ⟨some 144, .call { callee := .value (.func 58), args := #[.tmp 128, .tmp 129, .tmp 143], argTypes := #[80, 95, 122] }, 4, "law.go:146", #[⟨0, .data⟩, ⟨1, .data⟩, ⟨15, .data⟩, ⟨13, .chain⟩], none⟩,
 ⟨some 4, .assign (.tmp 144), 4, "law.go:146", #[⟨16, .data⟩, ⟨16, .chain⟩, ⟨0, .phase⟩, ⟨1, .phase⟩, ⟨2, .phase⟩, ⟨3, .phase⟩, ⟨4, .phase⟩, ⟨5, .phase⟩, ⟨6, .phase⟩, ⟨7, .phase⟩, ⟨8, .phase⟩, ⟨9, .phase⟩, ⟨10, .phase⟩, ⟨11, .phase⟩, ⟨12, .phase⟩, ⟨13, .phase⟩, ⟨14, .phase⟩, ⟨15, .phase⟩, ⟨16, .phase⟩], none⟩]
def iH : List (Option Nat) := [some 128, some 129, some 130, some 131, some 132, some 133, some 134, some 135, some 136, some 137, some 138, some 139, some 140, some 141, some 142, some 143, some 144, some 4]
def aEi (bw ob g cp n i : Nat) (A : Int) (p1 p2 : Option Addr) (x0 x1 x2 x3 x4 x5 x6 x7 x8 x9 x10 x11 x12 x13 : Value) : List Value := [.pointer (some ⟨bw, 0, none⟩), .agg #[x0, x1, x2, x3, x4, x5, x6, x7, x8, x9, x10, x11, x12, x13], .pointer (some ⟨bw, 0, none⟩), .pointer (some ⟨bw, 0, none⟩), .pointer (some ⟨bw, 2, none⟩), .slice (some ⟨g, 0, none⟩) n cp, .pointer (some ⟨ob, 1, none⟩), .int .i64 A, .pointer (some ⟨bw, 0, none⟩), .pointer (some ⟨bw, 0, none⟩), .pointer (some ⟨bw, 2, none⟩), .slice (some ⟨g, 0, none⟩) n cp, .int .i64 (n : Int), .int .i64 (i : Int), .pointer (some ⟨g, i * 2, none⟩), .agg #[.pointer p1, .pointer p2], .bool true, .bool true]
theorem aCd (a : Act) (Q : Exit → Act → World → Prop) (w : World) (id : Nat) (bw ob g cp n i : Nat) (A : Int) (p1 p2 : Option Addr) (x0 x2 x3 x4 x5 x6 x7 x8 x9 x10 x11 x12 x13 : Value) (hsz : 145 ≤ a.tmps.size) (h0 : a.eval (.tmp 0) = .pointer (some ⟨bw, 0, none⟩)) (h3 : a.eval (.tmp 3) = .pointer (some ⟨ob, 0, none⟩)) (hb : w.cell? ⟨bw, 2, none⟩ = some (.slice (some ⟨g, 0, none⟩) n cp)) (hi : i < n)
  (c0 : w.cell? ⟨ob, 0, none⟩ = some x0) (c1 : w.cell? ⟨ob, 1, none⟩ = some (.int .i64 A)) (c2 : w.cell? ⟨ob, 2, none⟩ = some x2) (c3 : w.cell? ⟨ob, 3, none⟩ = some x3) (c4 : w.cell? ⟨ob, 4, none⟩ = some x4) (c5 : w.cell? ⟨ob, 5, none⟩ = some x5) (c6 : w.cell? ⟨ob, 6, none⟩ = some x6) (c7 : w.cell? ⟨ob, 7, none⟩ = some x7) (c8 : w.cell? ⟨ob, 8, none⟩ = some x8) (c9 : w.cell? ⟨ob, 9, none⟩ = some x9) (c10 : w.cell? ⟨ob, 10, none⟩ = some x10) (c11 : w.cell? ⟨ob, 11, none⟩ = some x11) (c12 : w.cell? ⟨ob, 12, none⟩ = some x12) (c13 : w.cell? ⟨ob, 13, none⟩ = some x13) (hp1 : w.cell? ⟨g, i * 2, none⟩ = some (.pointer p1)) (hp2 : w.cell? ⟨g, i * 2 + 1, none⟩ = some (.pointer p2))
  (hpick : ∀ W, Calls Tryz.prog 59 #[.int .i64 A, .int .i64 (n : Int)] W fun e w' => e = .returned (.int .i64 (i : Int)) ∧ w' = W) (Post : World → Prop)
  (hbank : Calls Tryz.prog 58 #[.pointer (some ⟨bw, 0, none⟩), .agg #[x0, .int .i64 A, x2, x3, x4, x5, x6, x7, x8, x9, x10, x11, x12, x13], .agg #[.pointer p1, .pointer p2]] w.drew fun e w' => e = .returned (.bool true) ∧ Post w')
  (hend : ∀ u W, Post W → u 4 = .bool true → Q .normal (over a iH u) W) : (Code.region id xP.toArray true).wp Tryz.prog Q a w := by
 have ein : ∀ u k, inS iH 145 k = true → (over a iH u).eval (.tmp k) = u k := cQ a iH 145 hsz
 have eout : ∀ u k, outS iH 145 k = true → (over a iH u).eval (.tmp k) = a.eval (.tmp k) := cF a iH 145 hsz
 have ef : ∀ u f, (over a iH u).eval (.func f) = .func (.func f) #[] #[] := fun u f => by simp [Act.eval]
 refine lR iH 16 (fun b W => if b then Post W else W = w.drew) (fun _ _ => True) (fun k v _ => v = (aEi bw ob g cp n i A p1 p2 x0 (.int .i64 A) x2 x3 x4 x5 x6 x7 x8 x9 x10 x11 x12 x13).getD k undef) (by kernel_rfl) (by decide) rfl (by decide) (fun _ _ _ _ h _ => h) (by decide) (by decide) rfl ?_ (fun u W hS hR => hend u W hS (hR 17 (by decide)))
 unfold xP
 repeat' first | exact trivial | refine eV.cons rfl rfl (fun b u W hb' hS hd => ?_) ?_
 ·obtain rfl : b = false := hb' (by decide)
  obtain rfl : W = w.drew := hS
  exact aB _ rfl (aC _) ((eout u 0 rfl).trans h0) trivial rfl
 ·obtain rfl : b = false := hb' (by decide)
  obtain rfl : W = w.drew := hS
  exact aB _ rfl (aAx _ ob x0 (.int .i64 A) x2 x3 x4 x5 x6 x7 x8 x9 x10 x11 x12 x13 ((eout u 3 rfl).trans h3) c0 c1 c2 c3 c4 c5 c6 c7 c8 c9 c10 c11 c12 c13) rfl trivial rfl
 ·obtain rfl : b = false := hb' (by decide)
  obtain rfl : W = w.drew := hS
  exact aB _ rfl (aC _) ((eout u 0 rfl).trans h0) trivial rfl
 ·obtain rfl : b = false := hb' (by decide)
  obtain rfl : W = w.drew := hS
  have e2 : u 130 = .pointer (some ⟨bw, 0, none⟩) := hd.1
  exact aB _ rfl (kG _ _ ((ein u 130 rfl).trans e2)) rfl trivial rfl
 ·obtain rfl : b = false := hb' (by decide)
  obtain rfl : W = w.drew := hS
  have e3 : u 131 = .pointer (some ⟨bw, 0, none⟩) := hd.1
  exact aB _ rfl (uR _ bw ((ein u 131 rfl).trans e3)) rfl trivial rfl
 ·obtain rfl : b = false := hb' (by decide)
  obtain rfl : W = w.drew := hS
  have e4 : u 132 = .pointer (some ⟨bw, 2, none⟩) := hd.1
  exact aB _ rfl (oE _ _ _ _ _ ((ein u 132 rfl).trans e4) hb) rfl trivial rfl
 ·obtain rfl : b = false := hb' (by decide)
  obtain rfl : W = w.drew := hS
  exact aB _ rfl (aCq _ ob ((eout u 3 rfl).trans h3)) rfl trivial rfl
 ·obtain rfl : b = false := hb' (by decide)
  obtain rfl : W = w.drew := hS
  have e6 : u 134 = .pointer (some ⟨ob, 1, none⟩) := hd.1
  exact aB _ rfl (cY _ ob 1 A ((ein u 134 rfl).trans e6) c1) rfl trivial rfl
 ·obtain rfl : b = false := hb' (by decide)
  obtain rfl : W = w.drew := hS
  exact aB _ rfl (aC _) ((eout u 0 rfl).trans h0) trivial rfl
 ·obtain rfl : b = false := hb' (by decide)
  obtain rfl : W = w.drew := hS
  have e8 : u 136 = .pointer (some ⟨bw, 0, none⟩) := hd.1
  exact aB _ rfl (kG _ _ ((ein u 136 rfl).trans e8)) rfl trivial rfl
 ·obtain rfl : b = false := hb' (by decide)
  obtain rfl : W = w.drew := hS
  have e9 : u 137 = .pointer (some ⟨bw, 0, none⟩) := hd.1
  exact aB _ rfl (uR _ bw ((ein u 137 rfl).trans e9)) rfl trivial rfl
 ·obtain rfl : b = false := hb' (by decide)
  obtain rfl : W = w.drew := hS
  have e10 : u 138 = .pointer (some ⟨bw, 2, none⟩) := hd.1
  exact aB _ rfl (oE _ _ _ _ _ ((ein u 138 rfl).trans e10) hb) rfl trivial rfl
 ·obtain rfl : b = false := hb' (by decide)
  obtain rfl : W = w.drew := hS
  have e11 : u 139 = .slice (some ⟨g, 0, none⟩) n cp := hd.1
  exact aB _ rfl (aCo _ _ _ _ ((ein u 139 rfl).trans e11)) rfl trivial rfl
 ·obtain rfl : b = false := hb' (by decide)
  obtain rfl : W = w.drew := hS
  have e7 : u 135 = .int .i64 A := hd.1
  have e12 : u 140 = .int .i64 (n : Int) := hd.2.1
  have hj := hpick w.drew
  rw [← e7, ← ein u 135 rfl, ← e12, ← ein u 140 rfl] at hj
  refine aN _ rfl (mB _ _ _ _ (ef u _) wE) _ hj ?_
  rintro e w' ⟨rfl, rfl⟩
  exact ⟨_, rfl, rfl, trivial, rfl⟩
 ·obtain rfl : b = false := hb' (by decide)
  obtain rfl : W = w.drew := hS
  have e5 : u 133 = .slice (some ⟨g, 0, none⟩) n cp := hd.1
  have e13 : u 141 = .int .i64 (i : Int) := hd.2.1
  exact aB _ rfl (aCp _ _ g n cp i ((ein u 133 rfl).trans e5) ((ein u 141 rfl).trans e13) hi) rfl trivial rfl
 ·obtain rfl : b = false := hb' (by decide)
  obtain rfl : W = w.drew := hS
  have e14 : u 142 = .pointer (some ⟨g, i * 2, none⟩) := hd.1
  exact aB _ rfl (aAw _ g (i * 2) p1 p2 ((ein u 142 rfl).trans e14) hp1 hp2) rfl trivial rfl
 ·obtain rfl : b = false := hb' (by decide)
  obtain rfl : W = w.drew := hS
  have e0 : u 128 = .pointer (some ⟨bw, 0, none⟩) := hd.1
  have e1 : u 129 = .agg #[x0, .int .i64 A, x2, x3, x4, x5, x6, x7, x8, x9, x10, x11, x12, x13] := hd.2.1
  have e15 : u 143 = .agg #[.pointer p1, .pointer p2] := hd.2.2.1
  have hj := hbank
  rw [← e0, ← ein u 128 rfl, ← e1, ← ein u 129 rfl, ← e15, ← ein u 143 rfl] at hj
  refine aN _ rfl (fZ _ _ _ _ _ (ef u _) yW) _ hj ?_
  rintro e w' ⟨rfl, hp⟩
  exact ⟨_, rfl, rfl, trivial, hp⟩
 ·have e16 : u 144 = .bool true := hd.1
  exact aB _ rfl (aX _) ((ein u 144 rfl).trans e16) trivial hS
theorem iN (a : Act) (w : World) (id : Nat) (bw ob g cp n i : Nat) (A : Int) (p1 p2 : Option Addr) (x0 x2 x3 x4 x5 x6 x7 x8 x9 x10 x11 x12 x13 : Value) (hsz : 145 ≤ a.tmps.size) (h0 : a.eval (.tmp 0) = .pointer (some ⟨bw, 0, none⟩)) (h3 : a.eval (.tmp 3) = .pointer (some ⟨ob, 0, none⟩)) (hb : w.cell? ⟨bw, 2, none⟩ = some (.slice (some ⟨g, 0, none⟩) n cp)) (hi : i < n)
  (c0 : w.cell? ⟨ob, 0, none⟩ = some x0) (c1 : w.cell? ⟨ob, 1, none⟩ = some (.int .i64 A)) (c2 : w.cell? ⟨ob, 2, none⟩ = some x2) (c3 : w.cell? ⟨ob, 3, none⟩ = some x3) (c4 : w.cell? ⟨ob, 4, none⟩ = some x4) (c5 : w.cell? ⟨ob, 5, none⟩ = some x5) (c6 : w.cell? ⟨ob, 6, none⟩ = some x6) (c7 : w.cell? ⟨ob, 7, none⟩ = some x7) (c8 : w.cell? ⟨ob, 8, none⟩ = some x8) (c9 : w.cell? ⟨ob, 9, none⟩ = some x9) (c10 : w.cell? ⟨ob, 10, none⟩ = some x10) (c11 : w.cell? ⟨ob, 11, none⟩ = some x11) (c12 : w.cell? ⟨ob, 12, none⟩ = some x12) (c13 : w.cell? ⟨ob, 13, none⟩ = some x13) (hp1 : w.cell? ⟨g, i * 2, none⟩ = some (.pointer p1)) (hp2 : w.cell? ⟨g, i * 2 + 1, none⟩ = some (.pointer p2))
  (hpick : ∀ W, Calls Tryz.prog 59 #[.int .i64 A, .int .i64 (n : Int)] W fun e w' => e = .returned (.int .i64 (i : Int)) ∧ w' = W) (Post : World → Prop)
  (hbank : Calls Tryz.prog 58 #[.pointer (some ⟨bw, 0, none⟩), .agg #[x0, .int .i64 A, x2, x3, x4, x5, x6, x7, x8, x9, x10, x11, x12, x13], .agg #[.pointer p1, .pointer p2]] w.drew fun e w' => e = .returned (.bool true) ∧ Post w')
  (hd : a.defers = []) (R : Ending → World → Prop) (K K1 : Act → World → Prop) (hK : ∀ a w, Code.ret.wp Tryz.prog (Exit.inBlock 0 (Exit.then K1 (bodyPost Tryz.prog Tryz.f39 R))) a w → K a w) (hR : ∀ W, Post W → R (.returned (.bool true)) W) :
  (Code.region id xP.toArray true).wp Tryz.prog (Exit.then K (Exit.inBlock 0 (Exit.then K1 (bodyPost Tryz.prog Tryz.f39 R)))) a w := by
 refine aCd a _ w id bw ob g cp n i A p1 p2 x0 x2 x3 x4 x5 x6 x7 x8 x9 x10 x11 x12 x13 hsz h0 h3 hb hi c0 c1 c2 c3 c4 c5 c6 c7 c8 c9 c10 c11 c12 c13 hp1 hp2 hpick Post hbank (fun u W hp hu => ?_)
 refine hK _ _ (wp_ret ?_)
 show bodyPost Tryz.prog Tryz.f39 R .ret (over a iH u) W
 refine bodyPost_ret (results_tmp Tryz.results39 _ _ _) ((bP u iH a).trans hd) ?_
 have e : (over a iH u).tmps.getD 4 undef = .bool true := by
  have hs : 4 < a.tmps.size := by omega
  have hm : some 4 ∈ iH := by decide
  generalize iH = ds at hm
  rw [Array.getD_eq_getD_getElem?, fI u 4 ds a hs, if_pos hm]
  exact hu
 rw [e]
 exact hR W hp
end Go.Proofs.YtfekelmldebplaaGreatDoor
