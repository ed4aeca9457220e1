import Derived.Test.YtfekelmldebplaaGreatDoorPx
set_option maxRecDepth 100000
set_option maxHeartbeats 8000000
namespace Go.Proofs.YtfekelmldebplaaGreatDoor
open Go.RowKit
section
variable {ev : Operand → Value} {w : World} {dst : Option Tmp} {T : TypeId} {p : String} {af : Array Edge} {g : Option (Nat × Bool)}
theorem fG (x : Operand) (b k : Nat) (hk : k < 4) (hx : ev x = .pointer (some ⟨b, 0, none⟩)) : (execOp ev { dst := dst, op := .fieldAddr 257 x k, type := T, pos := p, after := af, guard := g }).run Tryz.prog w = .ok (.value (.pointer (some ⟨b, k, none⟩))) w := by
 have h : k = 0 ∨ k = 1 ∨ k = 2 ∨ k = 3 := by omega
 rcases h with rfl | rfl | rfl | rfl <;> simp [go_sem, hx]
theorem jK (x : Operand) (b k : Nat) (hk : k < 4) (hx : ev x = .pointer (some ⟨b, 0, none⟩)) : (execOp ev { dst := dst, op := .fieldAddr 252 x k, type := T, pos := p, after := af, guard := g }).run Tryz.prog w = .ok (.value (.pointer (some ⟨b, k, none⟩))) w := by
 have h : k = 0 ∨ k = 1 ∨ k = 2 ∨ k = 3 := by omega
 rcases h with rfl | rfl | rfl | rfl <;> simp [go_sem, hx]
theorem tN (args : Array Value) (w : World) : (callFunc 147 args).run Tryz.prog w = .ok (.enter 147 args) w := by
 simp [go_sem]
end
def xU : List Oper := [
 ⟨some 74, .move (.tmp 10), 24, "relay.go:321", #[], none⟩,
 ⟨some 75, .move (.tmp 0), 120, "relay.go:321", #[], none⟩,
 ⟨some 76, .fieldAddr 257 (.tmp 12) 0, 0, "relay.go:321", #[], none⟩,
 ⟨some 77, .load 3 (.tmp 76), 3, "relay.go:321", #[⟨2, .data⟩], none⟩,
 ⟨some 78, .nilCheck (.tmp 75), 0, "relay.go:321", #[⟨1, .data⟩], none⟩,
 ⟨some 79, .fieldAddr 248 (.tmp 78) 1, 0, "relay.go:321", #[⟨4, .data⟩], none⟩,
 ⟨some 80, .indexAddr 72 (.tmp 79) (.tmp 77), 0, "relay.go:321", #[⟨5, .data⟩, ⟨3, .data⟩], none⟩,
 ⟨some 81, .load 24 (.tmp 80), 24, "relay.go:321", #[⟨6, .data⟩], none⟩,
 ⟨some 82, .fieldAddr 257 (.tmp 12) 1, 0, "relay.go:321", #[], none⟩,
 ⟨some 83, .load 3 (.tmp 82), 3, "relay.go:321", #[⟨8, .data⟩], none⟩,
 ⟨some 84, .fieldAddr 257 (.tmp 12) 1, 0, "relay.go:321", #[], none⟩,
 ⟨some 85, .load 3 (.tmp 84), 3, "relay.go:321", #[⟨10, .data⟩], none⟩,
 ⟨some 86, .fieldAddr 257 (.tmp 12) 2, 0, "relay.go:321", #[], none⟩,
 ⟨some 87, .load 3 (.tmp 86), 3, "relay.go:321", #[⟨12, .data⟩], none⟩,
 ⟨some 88, .binOp .add 3 (.tmp 85) (.tmp 87) 3, 3, "relay.go:321", #[⟨11, .data⟩, ⟨13, .data⟩], none⟩,
 ⟨some 89, .slice 24 (.tmp 81) (some (.tmp 83)) (some (.tmp 88)) none, 24, "relay.go:321", #[⟨7, .data⟩, ⟨9, .data⟩, ⟨14, .data⟩], none⟩,
 ⟨some 90, .call { callee := .builtin .append, args := #[.tmp 74, .tmp 89], argTypes := #[24, 24] }, 24, "relay.go:321", #[⟨0, .data⟩, ⟨15, .data⟩], none⟩,
 ⟨some 10, .assign (.tmp 90), 24, "relay.go:321", #[⟨16, .data⟩, ⟨16, .chain⟩, ⟨0, .phase⟩, ⟨1, .phase⟩, ⟨2, .phase⟩, ⟨3, .phase⟩, ⟨4, .phase⟩, ⟨5, .phase⟩, ⟨6, .phase⟩, ⟨7, .phase⟩, ⟨8, .phase⟩, ⟨9, .phase⟩, ⟨10, .phase⟩, ⟨11, .phase⟩, ⟨12, .phase⟩, ⟨13, .phase⟩, ⟨14, .phase⟩, ⟨15, .phase⟩, ⟨16, .phase⟩], none⟩]
def iW : List (Option Nat) := [some 74, some 75, some 76, some 77, some 78, some 79, some 80, some 81, some 82, some 83, some 84, some 85, some 86, some 87, some 88, some 89, some 90, some 10]
theorem aDe (a : Act) (Q : Exit → Act → World → Prop) (w : World) (id : Nat) (yb tb gb N A m i : Nat) (xs : List Int) (hsz : 157 ≤ a.tmps.size)
  (hyb : yb < w.heap.size) (htb : tb < w.heap.size) (hgb : gb < w.heap.size) (hi : i < 4) (hN : N ≤ 200) (c1 : w.cell? ⟨yb, 6 + i, none⟩ = some (.slice (some ⟨gb, 0, none⟩) N N)) (t0 : w.cell? ⟨tb, 0, none⟩ = some (.int .i64 (i : Int))) (t1 : w.cell? ⟨tb, 1, none⟩ = some (.int .i64 (A : Int))) (t2 : w.cell? ⟨tb, 2, none⟩ = some (.int .i64 (m : Int))) (hAN : A + m ≤ N) (hm1 : 0 < m) (hll : xs.length = m) (hcn : ∀ q, q < m → w.cell? ⟨gb, A + q, none⟩ = some (.int .i64 (xs.getD q 0))) (h0 : a.eval (.tmp 0) = .pointer (some ⟨yb, 0, none⟩)) (h12 : a.eval (.tmp 12) = .pointer (some ⟨tb, 0, none⟩)) (h10 : a.eval (.tmp 10) = .slice none 0 0)
  (hend : ∀ u W, Below w.heap.size w W → aS W w.heap.size (u 10) xs → Q .normal (over a iW u) W) : (Code.region id xU.toArray true).wp Tryz.prog Q a w := by
 have ein : ∀ u k, inS iW 157 k = true → (over a iW u).eval (.tmp k) = u k := cQ a iW 157 hsz
 have eout : ∀ u k, outS iW 157 k = true → (over a iW u).eval (.tmp k) = a.eval (.tmp k) := cF a iW 157 hsz
 have ef : ∀ u f, (over a iW u).eval (.func f) = .func (.func f) #[] #[] := fun u f => by simp [Act.eval]
 obtain ⟨i0, hi0_, hz0_, hz1_, hz2_⟩ := info_parts kS
 refine lQ 10 17 (.slice none 0 0) _ iW (fun W => Below w.heap.size w W) (fun W W' => Below W.heap.size W W') (RL [fun v _ => v = .slice none 0 0, fun v _ => v = (.pointer (some ⟨yb, 0, none⟩)), fun v _ => v = (.pointer (some ⟨tb, 0, none⟩)), fun v _ => v = (.int .i64 (i : Int)), fun v _ => v = (.pointer (some ⟨yb, 0, none⟩)), fun v _ => v = (.pointer (some ⟨yb, 6, none⟩)), fun v _ => v = (.pointer (some ⟨yb, 6 + i, none⟩)), fun v _ => v = (.slice (some ⟨gb, 0, none⟩) N N), fun v _ => v = (.pointer (some ⟨tb, 1, none⟩)), fun v _ => v = (.int .i64 (A : Int)), fun v _ => v = (.pointer (some ⟨tb, 1, none⟩)), fun v _ => v = (.int .i64 (A : Int)), fun v _ => v = (.pointer (some ⟨tb, 2, none⟩)), fun v _ => v = (.int .i64 (m : Int)), fun v _ => v = (.int .i64 ((A : Int) + (m : Int))), fun v _ => v = (.slice (some ⟨gb, A, none⟩) (A + m - A) (N - A)), fun v W => aS W w.heap.size v xs, fun v W => aS W w.heap.size v xs]) (by kernel_rfl) (by decide) rfl rfl rfl (by decide) (by decide) (fun _ => Below.refl _ _) (fun i v W W' h l => by
    match i, h with
    | 0, h => exact h
    | 1, h => exact h
    | 2, h => exact h
    | 3, h => exact h
    | 4, h => exact h
    | 5, h => exact h
    | 6, h => exact h
    | 7, h => exact h
    | 8, h => exact h
    | 9, h => exact h
    | 10, h => exact h
    | 11, h => exact h
    | 12, h => exact h
    | 13, h => exact h
    | 14, h => exact h
    | 15, h => exact h
    | 16, h => exact aJ h fun k _ h2 _ => l.block k h2
    | 17, h => exact aJ h fun k _ h2 _ => l.block k h2
    | k + 18, h => trivial) h10 ((Below.refl _ _).drew) [true, true, true, true, true, true, true, true, true, true, true, true, true, true, true, true, true, true] ?_ (fun u W hS hR => hend u W hS (hR 17 (by decide)))
 unfold xU
 repeat' first | exact trivial | refine eU.cons rfl (fun u W hS hz0 hd => ?_) ?_
 ·refine DoesG.plain rfl ?_
  exact aB _ rfl (aC _) ((ein u 10 rfl).trans hz0) (Below.refl _ _) hS
 ·refine DoesG.plain rfl ?_
  exact aB _ rfl (aC _) ((eout u 0 rfl).trans h0) (Below.refl _ _) hS
 ·refine DoesG.plain rfl ?_
  exact aB _ rfl (fG _ tb 0 (by decide) ((eout u 12 rfl).trans h12)) rfl (Below.refl _ _) hS
 ·refine DoesG.plain rfl ?_
  have e2 : u 76 = (.pointer (some ⟨tb, 0, none⟩)) := hd.1
  exact aB _ rfl (cY _ tb 0 (i : Int) ((ein u 76 rfl).trans e2) ((hS.cell (by exact htb)).trans t0)) rfl (Below.refl _ _) hS
 ·refine DoesG.plain rfl ?_
  have e1 : u 75 = (.pointer (some ⟨yb, 0, none⟩)) := hd.1
  exact aB _ rfl (kG _ ⟨yb, 0, none⟩ ((ein u 75 rfl).trans e1)) rfl (Below.refl _ _) hS
 ·refine DoesG.plain rfl ?_
  have e4 : u 78 = (.pointer (some ⟨yb, 0, none⟩)) := hd.1
  exact aB _ rfl (jA _ yb ((ein u 78 rfl).trans e4)) rfl (Below.refl _ _) hS
 ·refine DoesG.plain rfl ?_
  have e5 : u 79 = (.pointer (some ⟨yb, 6, none⟩)) := hd.1
  have e3 : u 77 = (.int .i64 (i : Int)) := hd.2.1
  exact aB _ rfl (lF _ _ yb i ((ein u 79 rfl).trans e5) ((ein u 77 rfl).trans e3) hi) rfl (Below.refl _ _) hS
 ·refine DoesG.plain rfl ?_
  have e6 : u 80 = (.pointer (some ⟨yb, 6 + i, none⟩)) := hd.1
  exact aB _ rfl (iR _ ⟨yb, 6 + i, none⟩ _ _ _ ((ein u 80 rfl).trans e6) ((hS.cell (by exact hyb)).trans c1)) rfl (Below.refl _ _) hS
 ·refine DoesG.plain rfl ?_
  exact aB _ rfl (fG _ tb 1 (by decide) ((eout u 12 rfl).trans h12)) rfl (Below.refl _ _) hS
 ·refine DoesG.plain rfl ?_
  have e8 : u 82 = (.pointer (some ⟨tb, 1, none⟩)) := hd.1
  exact aB _ rfl (cY _ tb 1 (A : Int) ((ein u 82 rfl).trans e8) ((hS.cell (by exact htb)).trans t1)) rfl (Below.refl _ _) hS
 ·refine DoesG.plain rfl ?_
  exact aB _ rfl (fG _ tb 1 (by decide) ((eout u 12 rfl).trans h12)) rfl (Below.refl _ _) hS
 ·refine DoesG.plain rfl ?_
  have e10 : u 84 = (.pointer (some ⟨tb, 1, none⟩)) := hd.1
  exact aB _ rfl (cY _ tb 1 (A : Int) ((ein u 84 rfl).trans e10) ((hS.cell (by exact htb)).trans t1)) rfl (Below.refl _ _) hS
 ·refine DoesG.plain rfl ?_
  exact aB _ rfl (fG _ tb 2 (by decide) ((eout u 12 rfl).trans h12)) rfl (Below.refl _ _) hS
 ·refine DoesG.plain rfl ?_
  have e12 : u 86 = (.pointer (some ⟨tb, 2, none⟩)) := hd.1
  exact aB _ rfl (cY _ tb 2 (m : Int) ((ein u 86 rfl).trans e12) ((hS.cell (by exact htb)).trans t2)) rfl (Below.refl _ _) hS
 ·refine DoesG.plain rfl ?_
  have e11 : u 85 = (.int .i64 (A : Int)) := hd.1
  have e13 : u 87 = (.int .i64 (m : Int)) := hd.2.1
  exact aB _ rfl (iB _ _ (A : Int) (m : Int) ((ein u 85 rfl).trans e11) ((ein u 87 rfl).trans e13) (by omega) (by omega) (by omega) (by omega)) rfl (Below.refl _ _) hS
 ·refine DoesG.plain rfl ?_
  have e7 : u 81 = (.slice (some ⟨gb, 0, none⟩) N N) := hd.1
  have e9 : u 83 = (.int .i64 (A : Int)) := hd.2.1
  have e14 : u 88 = (.int .i64 ((A : Int) + (m : Int))) := hd.2.2.1
  exact aB _ rfl (qK _ _ _ gb N N A (A + m) ((ein u 81 rfl).trans e7) ((ein u 83 rfl).trans e9) ((ein u 88 rfl).trans e14) (by omega) (by omega) (by omega)) rfl (Below.refl _ _) hS
 ·refine DoesG.plain rfl ?_
  have e0 : u 74 = .slice none 0 0 := hd.1
  have e15 : u 89 = (.slice (some ⟨gb, A, none⟩) (A + m - A) (N - A)) := hd.2.1
  refine uK _ rfl rfl (.tmp 74) (.tmp 89) 24 rfl W.heap.size 3 i0 (.int .i64 0) 1 8 Tryz.underlying24 hi0_ hz0_ hz1_ hz2_ rfl (by decide) (.slice none 0 0) 0 [] ((ein u 74 rfl).trans e0) (World.ownsRow_nil _ _ _ _) ⟨gb, A, none⟩ (A + m - A) (N - A) (xs.map (Value.int .i64)) ((ein u 89 rfl).trans e15) (by rw [List.length_map, hll, Nat.mul_one]; omega) (oI (fun q hq => (hS.cell (by exact hgb)).trans (hcn q (by omega)))) (qQ xs) (by omega) (by unfold maxLen; omega) (by omega) (Nat.le_refl _) (fun v' w' r k => ?_)
  have hb2 : Below W.heap.size W w' := by
   refine bT (Below.refl _ _) ?_ k
   intro j e
   cases e
  refine ⟨?_, hb2, aD hS hb2⟩
  show aS w' w.heap.size v' xs
  refine aS.weakB (B := W.heap.size) ?_ hS.size
  unfold aS
  rw [hll]
  have e : 0 + (A + m - A) = m := by omega
  rw [e] at r
  exact r
 ·refine DoesG.plain rfl ?_
  have e16 : (fun v W => aS W w.heap.size v xs) (u 90) W := hd.1
  exact aB _ rfl (aX _) (show (fun v W => aS W w.heap.size v xs) _ W by rw [ein u 90 rfl]; exact e16) (Below.refl _ _) hS
def xS : List Oper := [
 ⟨some 101, .move (.tmp 0), 120, "relay.go:327", #[], none⟩,
 ⟨some 102, .fieldAddr 257 (.tmp 12) 0, 0, "relay.go:327", #[], none⟩,
 ⟨some 103, .load 3 (.tmp 102), 3, "relay.go:327", #[⟨1, .data⟩], none⟩,
 ⟨some 104, .nilCheck (.tmp 101), 0, "relay.go:327", #[⟨0, .data⟩], none⟩,
 ⟨some 105, .fieldAddr 248 (.tmp 104) 1, 0, "relay.go:327", #[⟨3, .data⟩], none⟩,
 ⟨some 106, .indexAddr 72 (.tmp 105) (.tmp 103), 0, "relay.go:327", #[⟨4, .data⟩, ⟨2, .data⟩], none⟩,
 ⟨some 107, .load 24 (.tmp 106), 24, "relay.go:327", #[⟨5, .data⟩], none⟩,
 ⟨some 108, .fieldAddr 257 (.tmp 12) 1, 0, "relay.go:327", #[], none⟩,
 ⟨some 109, .load 3 (.tmp 108), 3, "relay.go:327", #[⟨7, .data⟩], none⟩,
 ⟨some 110, .indexAddr 24 (.tmp 107) (.tmp 109), 0, "relay.go:327", #[⟨6, .data⟩, ⟨8, .data⟩], none⟩,
 ⟨some 111, .load 3 (.tmp 110), 3, "relay.go:327", #[⟨9, .data⟩], none⟩,
 ⟨some 112, .fieldAddr 252 (.tmp 8) 2, 0, "relay.go:327", #[], none⟩,
 ⟨some 113, .load 3 (.tmp 112), 3, "relay.go:327", #[⟨11, .data⟩], none⟩,
 ⟨some 114, .fieldAddr 252 (.tmp 8) 3, 0, "relay.go:327", #[], none⟩,
 ⟨some 115, .load 3 (.tmp 114), 3, "relay.go:327", #[⟨13, .data⟩], none⟩,
 ⟨some 116, .call { callee := .value (.func 147), args := #[.tmp 111, .tmp 113, .tmp 115], argTypes := #[3, 3, 3] }, 3, "relay.go:327", #[⟨10, .data⟩, ⟨12, .data⟩, ⟨14, .data⟩], none⟩,
 ⟨some 14, .assign (.tmp 116), 3, "relay.go:327", #[⟨15, .data⟩, ⟨15, .chain⟩, ⟨0, .phase⟩, ⟨1, .phase⟩, ⟨2, .phase⟩, ⟨3, .phase⟩, ⟨4, .phase⟩, ⟨5, .phase⟩, ⟨6, .phase⟩, ⟨7, .phase⟩, ⟨8, .phase⟩, ⟨9, .phase⟩, ⟨10, .phase⟩, ⟨11, .phase⟩, ⟨12, .phase⟩, ⟨13, .phase⟩, ⟨14, .phase⟩, ⟨15, .phase⟩], none⟩]
def iJ : List (Option Nat) := [some 101, some 102, some 103, some 104, some 105, some 106, some 107, some 108, some 109, some 110, some 111, some 112, some 113, some 114, some 115, some 116, some 14]
theorem aDd (a : Act) (Q : Exit → Act → World → Prop) (w : World) (id : Nat) (yb tb gb ab N A i n0 qx qy : Nat) (hsz : 157 ≤ a.tmps.size)
  (hyb : yb < w.heap.size) (htb : tb < w.heap.size) (hgb : gb < w.heap.size) (hi : i < 4) (c1 : w.cell? ⟨yb, 6 + i, none⟩ = some (.slice (some ⟨gb, 0, none⟩) N N)) (t0 : w.cell? ⟨tb, 0, none⟩ = some (.int .i64 (i : Int))) (t1 : w.cell? ⟨tb, 1, none⟩ = some (.int .i64 (A : Int))) (hab : ab < w.heap.size) (hA : A < N) (hn0 : n0 < 65536) (hqx : qx < 65536) (hqy : qy < 65536) (g0 : w.cell? ⟨gb, A, none⟩ = some (.int .i64 (n0 : Int))) (a2 : w.cell? ⟨ab, 2, none⟩ = some (.int .i64 (qx : Int))) (a3 : w.cell? ⟨ab, 3, none⟩ = some (.int .i64 (qy : Int))) (h0 : a.eval (.tmp 0) = .pointer (some ⟨yb, 0, none⟩)) (h12 : a.eval (.tmp 12) = .pointer (some ⟨tb, 0, none⟩)) (h8 : a.eval (.tmp 8) = .pointer (some ⟨ab, 0, none⟩))
  (hend : ∀ u W, Below w.heap.size w W → u 14 = .int .i64 (eG qx n0 qy : Nat) → Q .normal (over a iJ u) W) : (Code.region id xS.toArray true).wp Tryz.prog Q a w := by
 have ein : ∀ u k, inS iJ 157 k = true → (over a iJ u).eval (.tmp k) = u k := cQ a iJ 157 hsz
 have eout : ∀ u k, outS iJ 157 k = true → (over a iJ u).eval (.tmp k) = a.eval (.tmp k) := cF a iJ 157 hsz
 have ef : ∀ u f, (over a iJ u).eval (.func f) = .func (.func f) #[] #[] := fun u f => by simp [Act.eval]
 refine eX iJ (fun W => Below w.heap.size w W) (fun _ _ => True) (RV [some ((.pointer (some ⟨yb, 0, none⟩))), some ((.pointer (some ⟨tb, 0, none⟩))), some ((.int .i64 (i : Int))), some ((.pointer (some ⟨yb, 0, none⟩))), some ((.pointer (some ⟨yb, 6, none⟩))), some ((.pointer (some ⟨yb, 6 + i, none⟩))), some ((.slice (some ⟨gb, 0, none⟩) N N)), some ((.pointer (some ⟨tb, 1, none⟩))), some ((.int .i64 (A : Int))), some ((.pointer (some ⟨gb, 0 + A, none⟩))), some ((.int .i64 (n0 : Int))), some ((.pointer (some ⟨ab, 2, none⟩))), some ((.int .i64 (qx : Int))), some ((.pointer (some ⟨ab, 3, none⟩))), some ((.int .i64 (qy : Int))), some ((.int .i64 (eG qx n0 qy : Nat))), some ((.int .i64 (eG qx n0 qy : Nat)))]) (by kernel_rfl) (by decide) rfl (by decide) (fun _ => trivial) (fun _ _ _ _ h _ => h) ((Below.refl _ _).drew) [true, true, true, true, true, true, true, true, true, true, true, true, true, true, true, true, true] ?_ (fun u W hS hR => hend u W hS (hR 16 (by decide)))
 unfold xS
 repeat' first | exact trivial | refine dR.cons rfl (fun u W hS hd => ?_) ?_
 ·refine DoesG.plain rfl ?_
  exact aB _ rfl (aC _) ((eout u 0 rfl).trans h0) trivial hS
 ·refine DoesG.plain rfl ?_
  exact aB _ rfl (fG _ tb 0 (by decide) ((eout u 12 rfl).trans h12)) rfl trivial hS
 ·refine DoesG.plain rfl ?_
  have e1 : u 102 = (.pointer (some ⟨tb, 0, none⟩)) := hd.1
  exact aB _ rfl (cY _ tb 0 (i : Int) ((ein u 102 rfl).trans e1) ((hS.cell (by exact htb)).trans t0)) rfl trivial hS
 ·refine DoesG.plain rfl ?_
  have e0 : u 101 = (.pointer (some ⟨yb, 0, none⟩)) := hd.1
  exact aB _ rfl (kG _ ⟨yb, 0, none⟩ ((ein u 101 rfl).trans e0)) rfl trivial hS
 ·refine DoesG.plain rfl ?_
  have e3 : u 104 = (.pointer (some ⟨yb, 0, none⟩)) := hd.1
  exact aB _ rfl (jA _ yb ((ein u 104 rfl).trans e3)) rfl trivial hS
 ·refine DoesG.plain rfl ?_
  have e4 : u 105 = (.pointer (some ⟨yb, 6, none⟩)) := hd.1
  have e2 : u 103 = (.int .i64 (i : Int)) := hd.2.1
  exact aB _ rfl (lF _ _ yb i ((ein u 105 rfl).trans e4) ((ein u 103 rfl).trans e2) hi) rfl trivial hS
 ·refine DoesG.plain rfl ?_
  have e5 : u 106 = (.pointer (some ⟨yb, 6 + i, none⟩)) := hd.1
  exact aB _ rfl (iR _ ⟨yb, 6 + i, none⟩ _ _ _ ((ein u 106 rfl).trans e5) ((hS.cell (by exact hyb)).trans c1)) rfl trivial hS
 ·refine DoesG.plain rfl ?_
  exact aB _ rfl (fG _ tb 1 (by decide) ((eout u 12 rfl).trans h12)) rfl trivial hS
 ·refine DoesG.plain rfl ?_
  have e7 : u 108 = (.pointer (some ⟨tb, 1, none⟩)) := hd.1
  exact aB _ rfl (cY _ tb 1 (A : Int) ((ein u 108 rfl).trans e7) ((hS.cell (by exact htb)).trans t1)) rfl trivial hS
 ·refine DoesG.plain rfl ?_
  have e6 : u 107 = (.slice (some ⟨gb, 0, none⟩) N N) := hd.1
  have e8 : u 109 = (.int .i64 (A : Int)) := hd.2.1
  exact aB _ rfl (oG _ _ gb 0 N N A ((ein u 107 rfl).trans e6) ((ein u 109 rfl).trans e8) hA) rfl trivial hS
 ·refine DoesG.plain rfl ?_
  have e9 : u 110 = (.pointer (some ⟨gb, 0 + A, none⟩)) := hd.1
  exact aB _ rfl (cY _ gb (0 + A) (n0 : Int) ((ein u 110 rfl).trans e9) ((hS.cell (by exact hgb)).trans (by rw [Nat.zero_add]; exact g0))) rfl trivial hS
 ·refine DoesG.plain rfl ?_
  exact aB _ rfl (jK _ ab 2 (by decide) ((eout u 8 rfl).trans h8)) rfl trivial hS
 ·refine DoesG.plain rfl ?_
  have e11 : u 112 = (.pointer (some ⟨ab, 2, none⟩)) := hd.1
  exact aB _ rfl (cY _ ab 2 (qx : Int) ((ein u 112 rfl).trans e11) ((hS.cell (by exact hab)).trans a2)) rfl trivial hS
 ·refine DoesG.plain rfl ?_
  exact aB _ rfl (jK _ ab 3 (by decide) ((eout u 8 rfl).trans h8)) rfl trivial hS
 ·refine DoesG.plain rfl ?_
  have e13 : u 114 = (.pointer (some ⟨ab, 3, none⟩)) := hd.1
  exact aB _ rfl (cY _ ab 3 (qy : Int) ((ein u 114 rfl).trans e13) ((hS.cell (by exact hab)).trans a3)) rfl trivial hS
 ·refine DoesG.plain rfl ?_
  have e10 : u 111 = (.int .i64 (n0 : Int)) := hd.1
  have e12 : u 113 = (.int .i64 (qx : Int)) := hd.2.1
  have e14 : u 115 = (.int .i64 (qy : Int)) := hd.2.2.1
  have hj := yH n0 qx qy W hn0 hqx hqy
  rw [← e10, ← e12, ← e14, ← ein u 111 rfl, ← ein u 113 rfl, ← ein u 115 rfl] at hj
  refine aN _ rfl (fZ _ _ _ _ _ (ef u _) tN) _ hj ?_
  rintro e w' ⟨rfl, rfl⟩
  exact ⟨_, rfl, rfl, trivial, hS⟩
 ·refine DoesG.plain rfl ?_
  have e15 : u 116 = (.int .i64 (eG qx n0 qy : Nat)) := hd.1
  exact aB _ rfl (aX _) ((ein u 116 rfl).trans e15) trivial hS
theorem aAp {P : Program} {o : Oper} {A : Act} {w w' : World} {Q : Exit → Act → World → Prop} {R : Value → World → Prop} {Le : World → World → Prop} {S : World → Prop} (hd : o.dst = none) (hr : (execOp A.eval o).run P w = .ok .skip w') (hR : R undef w') (hL : Le w w') (hS : S w') :
  Does P o A w R Le S Q := ⟨by
 unfold Oper.wp
 rw [hr]
 exact ⟨undef, by rw [hd], by rw [hd]; exact hR, hL, hS⟩⟩
theorem wW {ev : Operand → Value} {w : World} {dst : Option Tmp} {T : TypeId} {p : String} {af : Array Edge} {g : Option (Nat × Bool)} (x y : Operand) (b k : Nat) (n old : Int) (hx : ev x = .pointer (some ⟨b, k, none⟩)) (hy : ev y = .int .i64 n) (hc : w.cell? ⟨b, k, none⟩ = some (.int .i64 old)) (hf : w.frozen? ⟨b, k, none⟩ = false) : (execOp ev { dst := dst, op := .store 3 x y, type := T, pos := p, after := af, guard := g }).run Tryz.prog w = .ok .skip (w.setCell ⟨b, k, none⟩ (.int .i64 n)) := by
 simp [go_sem, hx, hy, hc, hf]
def TabS (w : World) (gb : Nat) (L : List Int) : Bool → World → Prop
 | false, W => Below w.heap.size w W
 | true, W => Chg w W (fun k => k = gb) ∧ W.heap[gb]? = some (.cells (L.map (Value.int .i64)).toArray 3 (0, 0))
theorem TabS.cell {w : World} {gb : Nat} {L : List Int} {b : Bool} {W : World} (h : TabS w gb L b W) (k i : Nat) (hk : k < w.heap.size) (hn : k ≠ gb) : W.cell? ⟨k, i, none⟩ = w.cell? ⟨k, i, none⟩ := by
 cases b with
 | false => exact Below.cell h hk
 | true => exact World.cell?_of_block (h.1.block k hk hn)
def xR : List Oper := [
 ⟨some 122, .move (.tmp 0), 120, "relay.go:331", #[], none⟩,
 ⟨some 123, .fieldAddr 257 (.tmp 12) 0, 0, "relay.go:331", #[], none⟩,
 ⟨some 124, .load 3 (.tmp 123), 3, "relay.go:331", #[⟨1, .data⟩], none⟩,
 ⟨some 125, .nilCheck (.tmp 122), 0, "relay.go:331", #[⟨0, .data⟩], none⟩,
 ⟨some 126, .fieldAddr 248 (.tmp 125) 1, 0, "relay.go:331", #[⟨3, .data⟩], none⟩,
 ⟨some 127, .indexAddr 72 (.tmp 126) (.tmp 124), 0, "relay.go:331", #[⟨4, .data⟩, ⟨2, .data⟩], none⟩,
 ⟨some 128, .load 24 (.tmp 127), 24, "relay.go:331", #[⟨5, .data⟩], none⟩,
 ⟨some 129, .fieldAddr 257 (.tmp 12) 1, 0, "relay.go:331", #[], none⟩,
 ⟨some 130, .load 3 (.tmp 129), 3, "relay.go:331", #[⟨7, .data⟩], none⟩,
 ⟨some 131, .move (.tmp 13), 3, "relay.go:331", #[], none⟩,
 ⟨some 132, .binOp .add 3 (.tmp 130) (.tmp 131) 3, 3, "relay.go:331", #[⟨8, .data⟩, ⟨9, .data⟩], none⟩,
 ⟨some 133, .move (.tmp 14), 3, "relay.go:331", #[], none⟩,
 ⟨some 134, .indexAddr 24 (.tmp 128) (.tmp 132), 0, "relay.go:331", #[⟨6, .data⟩, ⟨10, .data⟩, ⟨0, .phase⟩, ⟨1, .phase⟩, ⟨2, .phase⟩, ⟨3, .phase⟩, ⟨4, .phase⟩, ⟨5, .phase⟩, ⟨6, .phase⟩, ⟨7, .phase⟩, ⟨8, .phase⟩, ⟨9, .phase⟩, ⟨10, .phase⟩, ⟨11, .phase⟩], none⟩,
 ⟨none, .store 3 (.tmp 134) (.tmp 133), 0, "relay.go:331", #[⟨12, .data⟩, ⟨11, .data⟩, ⟨0, .phase⟩, ⟨1, .phase⟩, ⟨2, .phase⟩, ⟨3, .phase⟩, ⟨4, .phase⟩, ⟨5, .phase⟩, ⟨6, .phase⟩, ⟨7, .phase⟩, ⟨8, .phase⟩, ⟨9, .phase⟩, ⟨10, .phase⟩, ⟨11, .phase⟩], none⟩]
def gH : List (Option Nat) := [some 122, some 123, some 124, some 125, some 126, some 127, some 128, some 129, some 130, some 131, some 132, some 133, some 134, none]
theorem vD (a : Act) (Q : Exit → Act → World → Prop) (w : World) (id : Nat) (yb tb gb N A k i : Nat) (x : Int) (L : List Int) (hsz : 157 ≤ a.tmps.size)
  (hyb : yb < w.heap.size) (htb : tb < w.heap.size) (hny : yb ≠ gb) (hnt : tb ≠ gb) (hi : i < 4) (hN : N ≤ 200) (c1 : w.cell? ⟨yb, 6 + i, none⟩ = some (.slice (some ⟨gb, 0, none⟩) N N)) (t0 : w.cell? ⟨tb, 0, none⟩ = some (.int .i64 (i : Int))) (t1 : w.cell? ⟨tb, 1, none⟩ = some (.int .i64 (A : Int))) (hAk : A + k < N) (hL : L.length = N) (hrow : w.heap[gb]? = some (.cells (L.map (Value.int .i64)).toArray 3 (0, 0))) (h0 : a.eval (.tmp 0) = .pointer (some ⟨yb, 0, none⟩)) (h12 : a.eval (.tmp 12) = .pointer (some ⟨tb, 0, none⟩)) (h13 : a.eval (.tmp 13) = .int .i64 (k : Int)) (h14 : a.eval (.tmp 14) = .int .i64 x)
  (hend : ∀ u W, TabS w gb (L.set (A + k) x) true W → Q .normal (over a gH u) W) : (Code.region id xR.toArray true).wp Tryz.prog Q a w := by
 have ein : ∀ u k, inS gH 157 k = true → (over a gH u).eval (.tmp k) = u k := cQ a gH 157 hsz
 have eout : ∀ u k, outS gH 157 k = true → (over a gH u).eval (.tmp k) = a.eval (.tmp k) := cF a gH 157 hsz
 have ef : ∀ u f, (over a gH u).eval (.func f) = .func (.func f) #[] #[] := fun u f => by simp [Act.eval]
 refine dT gH 13 (TabS w gb (L.set (A + k) x)) (fun _ _ => True) (RL [fun v _ => v = (.pointer (some ⟨yb, 0, none⟩)), fun v _ => v = (.pointer (some ⟨tb, 0, none⟩)), fun v _ => v = (.int .i64 (i : Int)), fun v _ => v = (.pointer (some ⟨yb, 0, none⟩)), fun v _ => v = (.pointer (some ⟨yb, 6, none⟩)), fun v _ => v = (.pointer (some ⟨yb, 6 + i, none⟩)), fun v _ => v = (.slice (some ⟨gb, 0, none⟩) N N), fun v _ => v = (.pointer (some ⟨tb, 1, none⟩)), fun v _ => v = (.int .i64 (A : Int)), fun v _ => v = (.int .i64 (k : Int)), fun v _ => v = (.int .i64 ((A : Int) + (k : Int))), fun v _ => v = (.int .i64 x), fun v _ => v = (.pointer (some ⟨gb, 0 + (A + k), none⟩)), fun _ _ => True]) (by kernel_rfl) (by decide) rfl (by decide) (fun i v W W' h l => by
    match i, h with
    | 0, h => exact h
    | 1, h => exact h
    | 2, h => exact h
    | 3, h => exact h
    | 4, h => exact h
    | 5, h => exact h
    | 6, h => exact h
    | 7, h => exact h
    | 8, h => exact h
    | 9, h => exact h
    | 10, h => exact h
    | 11, h => exact h
    | 12, h => exact h
    | 13, h => exact h
    | k + 14, h => trivial) (by decide) ((Below.refl _ _).drew) ?_ (fun u W hS hR => hend u W hS )
 unfold xR
 repeat' first | exact trivial | refine dL.cons rfl rfl (fun fl u W hb0 hS hd => ?_) ?_
 ·exact aB _ rfl (aC _) ((eout u 0 rfl).trans h0) trivial hS
 ·exact aB _ rfl (fG _ tb 0 (by decide) ((eout u 12 rfl).trans h12)) rfl trivial hS
 ·have e1 : u 123 = (.pointer (some ⟨tb, 0, none⟩)) := hd.1
  exact aB _ rfl (cY _ tb 0 (i : Int) ((ein u 123 rfl).trans e1) ((hS.cell tb _ htb hnt).trans t0)) rfl trivial hS
 ·have e0 : u 122 = (.pointer (some ⟨yb, 0, none⟩)) := hd.1
  exact aB _ rfl (kG _ ⟨yb, 0, none⟩ ((ein u 122 rfl).trans e0)) rfl trivial hS
 ·have e3 : u 125 = (.pointer (some ⟨yb, 0, none⟩)) := hd.1
  exact aB _ rfl (jA _ yb ((ein u 125 rfl).trans e3)) rfl trivial hS
 ·have e4 : u 126 = (.pointer (some ⟨yb, 6, none⟩)) := hd.1
  have e2 : u 124 = (.int .i64 (i : Int)) := hd.2.1
  exact aB _ rfl (lF _ _ yb i ((ein u 126 rfl).trans e4) ((ein u 124 rfl).trans e2) hi) rfl trivial hS
 ·have e5 : u 127 = (.pointer (some ⟨yb, 6 + i, none⟩)) := hd.1
  exact aB _ rfl (iR _ ⟨yb, 6 + i, none⟩ _ _ _ ((ein u 127 rfl).trans e5) ((hS.cell yb _ hyb hny).trans c1)) rfl trivial hS
 ·exact aB _ rfl (fG _ tb 1 (by decide) ((eout u 12 rfl).trans h12)) rfl trivial hS
 ·have e7 : u 129 = (.pointer (some ⟨tb, 1, none⟩)) := hd.1
  exact aB _ rfl (cY _ tb 1 (A : Int) ((ein u 129 rfl).trans e7) ((hS.cell tb _ htb hnt).trans t1)) rfl trivial hS
 ·exact aB _ rfl (aC _) ((eout u 13 rfl).trans h13) trivial hS
 ·have e8 : u 130 = (.int .i64 (A : Int)) := hd.1
  have e9 : u 131 = (.int .i64 (k : Int)) := hd.2.1
  exact aB _ rfl (iB _ _ (A : Int) (k : Int) ((ein u 130 rfl).trans e8) ((ein u 131 rfl).trans e9) (by omega) (by omega) (by omega) (by omega)) rfl trivial hS
 ·exact aB _ rfl (aC _) ((eout u 14 rfl).trans h14) trivial hS
 ·have e6 : u 128 = (.slice (some ⟨gb, 0, none⟩) N N) := hd.1
  have e10 : u 132 = (.int .i64 ((A : Int) + (k : Int))) := hd.2.1
  exact aB _ rfl (oG _ _ gb 0 N N (A + k) ((ein u 128 rfl).trans e6) ((ein u 132 rfl).trans e10) hAk) rfl trivial hS
 ·have e12 : u 134 = (.pointer (some ⟨gb, 0 + (A + k), none⟩)) := hd.1
  have e11 : u 133 = (.int .i64 x) := hd.2.1
  obtain rfl : fl = false := hb0 rfl
  have hbl : Below w.heap.size w W := hS
  have hr := (hbl.block _ (Array.getElem?_eq_some_iff.1 hrow).1).trans hrow
  have hc0 : W.cell? ⟨gb, 0 + (A + k), none⟩ = some (.int .i64 (L.getD (A + k) 0)) := by rw [Nat.zero_add]; exact dP hr (A + k) (by omega)
  refine aAp rfl (wW _ _ gb (0 + (A + k)) x _ ((ein u 134 rfl).trans e12) ((ein u 133 rfl).trans e11) hc0 (frozen_of_row _ _ _ _ _ hr)) trivial trivial ?_
  rw [Nat.zero_add (A + k)]
  exact ⟨Chg.trans (Chg.of_below hbl (fun k => k = gb)) (Chg.set _ _ _ _) (fun _ e _ => e), jN hr⟩
def lpC : Code → Code
 | .loop c => c
 | c => c
theorem nO {P : Program} {Q : Exit → Act → World → Prop} {a : Act} {w : World} {id : Nat} {T R : Code} {c : Operand} (N s : Nat) (Inv : Nat → Act → World → Prop) (hs : ∀ k a w, Inv k a w → a.eval (.tmp s) = .int .i64 (k : Int)) (h0 : Inv 0 a w)
  (hT : ∀ k a w, k ≤ N → Inv k a w → ∀ Z : Exit → Act → World → Prop, (∀ a' w', a'.eval c = .bool (decide (k < N)) → Inv k a' w' → Z .normal a' w') → T.wp P Z a w)
  (hR : ∀ k a w, k < N → Inv k a w → ∀ Z : Exit → Act → World → Prop, (∀ a' w', Inv (k + 1) a' w' → Z .normal a' w') → R.wp P Z a w)
  (hE : ∀ a w, Inv N a w → Q .normal a w) : (Code.block id (Code.loop (Code.seq (Code.seq T (Code.cond c Code.skip (Code.exit id))) R))).wp P Q a w := by
 refine wp_block (wp_loop (fun a w => ∃ k, k ≤ N ∧ Inv k a w) (fun a _ => N - (intOf (a.eval (.tmp s))).toNat) ⟨0, Nat.zero_le _, h0⟩ ?_)
 rintro a w ⟨k, hk, hI⟩
 refine wp_seq (wp_seq (hT k a w hk hI _ (fun a' w' hc hI' => ?_)))
 by_cases hlt : k < N
 ·rw [decide_eq_true hlt] at hc
  refine wp_cond_true hc (wp_skip ?_)
  refine hR k a' w' hlt hI' _ (fun a2 w2 hI2 => ?_)
  refine ⟨⟨k + 1, hlt, hI2⟩, ?_⟩
  rw [hs _ _ _ hI2, hs _ _ _ hI]
  simp [intOf]
  omega
 ·rw [decide_eq_false hlt] at hc
  obtain rfl : k = N := by omega
  refine wp_cond_false hc (wp_exit ?_)
  show Exit.inBlock id Q (.exit id) a' w'
  simp only [Exit.inBlock, if_true]
  exact hE _ _ hI'
structure AF (a : Act) (yb ab : Nat) (qv v10 : Value) (i : Int) : Prop where
 sz : a.tmps.size = 157
 df : a.defers = []
 h0 : a.eval (.tmp 0) = .pointer (some ⟨yb, 0, none⟩)
 h2 : a.eval (.tmp 2) = qv
 h8 : a.eval (.tmp 8) = .pointer (some ⟨ab, 0, none⟩)
 h10 : a.eval (.tmp 10) = v10
 h11 : a.eval (.tmp 11) = .int .i64 i
theorem AF.put {a : Act} {yb ab : Nat} {qv v10 : Value} {i : Int} (h : AF a yb ab qv v10 i) (d : Nat) (v : Value) (hd : d < 157) (hn : [0, 2, 8, 10, 11].all (fun k => k != d) = true) : AF (a.put (some d) v) yb ab qv v10 i := by
 have key : ∀ k, k != d → (a.put (some d) v).eval (.tmp k) = a.eval (.tmp k) := fun k hk => by
  rw [aI _ _ _ _ (by rw [h.sz]; exact hd), if_neg (by simpa using hk)]
 simp only [List.all_cons, List.all_nil, Bool.and_true, Bool.and_eq_true] at hn
 exact ⟨(aE _ _ _).trans h.sz, (aK _ _ _).trans h.df, (key _ hn.1).trans h.h0, (key _ hn.2.1).trans h.h2, (key _ hn.2.2.1).trans h.h8, (key _ hn.2.2.2.1).trans h.h10, (key _ hn.2.2.2.2).trans h.h11⟩
theorem AF.over {a : Act} {yb ab : Nat} {qv v10 : Value} {i : Int} (h : AF a yb ab qv v10 i) (ds : List (Option Nat)) (u : Nat → Value) (hn : [0, 2, 8, 10, 11].all (fun k => !ds.contains (some k)) = true) : AF (over a ds u) yb ab qv v10 i := by
 have key : ∀ k, k < 157 → (!ds.contains (some k)) = true → (Go.Proofs.YtfekelmldebplaaGreatDoor.over a ds u).eval (.tmp k) = a.eval (.tmp k) := fun k hl hk => aQ a ds u k (by simpa using hk) (by rw [h.sz]; exact hl)
 simp only [List.all_cons, List.all_nil, Bool.and_true, Bool.and_eq_true] at hn
 exact ⟨(dG _ _ _).trans h.sz, (bP _ _ _).trans h.df, (key _ (by decide) hn.1).trans h.h0, (key _ (by decide) hn.2.1).trans h.h2, (key _ (by decide) hn.2.2.1).trans h.h8, (key _ (by decide) hn.2.2.2.1).trans h.h10, (key _ (by decide) hn.2.2.2.2).trans h.h11⟩
theorem aFy : (sndC (fstC (sndC (cJ 6 (cD Tryz.f94))))) = (Code.block 0 (Code.loop (Code.seq (Code.seq (Code.region 12 ([⟨some 59, .move (.tmp 11), 3, "relay.go:317", #[], none⟩,
 ⟨some 60, .fieldAddr 252 (.tmp 8) 0, 0, "relay.go:317", #[], none⟩,
 ⟨some 61, .load 250 (.tmp 60), 250, "relay.go:317", #[⟨1, .data⟩], none⟩,
 ⟨some 62, .call { callee := .builtin .len, args := #[.tmp 61], argTypes := #[250] }, 3, "relay.go:317", #[⟨2, .data⟩], none⟩,
 ⟨some 63, .binOp .lss 3 (.tmp 59) (.tmp 62) 3, 4, "relay.go:317", #[⟨0, .data⟩, ⟨3, .data⟩], none⟩] : List Oper).toArray false) (Code.cond (.tmp 63) Code.skip (Code.exit 0))) (Code.seq (Code.block 1 (inC (fstC (sndC (lpC (inC (sndC (fstC (sndC (cJ 6 (cD Tryz.f94))))))))))) (Code.region 13 ([⟨some 64, .move (.tmp 11), 3, "relay.go:317", #[], none⟩,
 ⟨some 65, .binOp .add 3 (.tmp 64) (.const (.int .i64 1)) 3, 3, "relay.go:317", #[⟨0, .data⟩], none⟩,
 ⟨some 11, .assign (.tmp 65), 3, "relay.go:317", #[⟨1, .data⟩, ⟨0, .phase⟩, ⟨1, .phase⟩], none⟩] : List Oper).toArray false))))) := by kernel_rfl
theorem tO : (inC (fstC (sndC (lpC (inC (sndC (fstC (sndC (cJ 6 (cD Tryz.f94)))))))))) = (Code.seq (Code.region 14 ([⟨some 66, .fieldAddr 252 (.tmp 8) 0, 0, "relay.go:318", #[], none⟩,
 ⟨some 67, .load 250 (.tmp 66), 250, "relay.go:318", #[⟨0, .data⟩], none⟩,
 ⟨some 68, .move (.tmp 11), 3, "relay.go:318", #[], none⟩,
 ⟨some 69, .indexAddr 250 (.tmp 67) (.tmp 68), 0, "relay.go:318", #[⟨1, .data⟩, ⟨2, .data⟩], none⟩,
 ⟨some 70, .load 257 (.tmp 69), 257, "relay.go:318", #[⟨3, .data⟩], none⟩,
 ⟨some 12, .alloc 257, 0, "relay.go:318", #[], none⟩,
 ⟨none, .store 257 (.tmp 12) (.tmp 70), 0, "relay.go:318", #[⟨5, .data⟩, ⟨4, .data⟩, ⟨0, .phase⟩, ⟨1, .phase⟩, ⟨2, .phase⟩, ⟨3, .phase⟩, ⟨4, .phase⟩, ⟨5, .phase⟩], none⟩] : List Oper).toArray false) (Code.seq (Code.seq (Code.region 15 ([⟨some 71, .fieldAddr 257 (.tmp 12) 3, 0, "relay.go:319", #[], none⟩,
 ⟨some 72, .load 4 (.tmp 71), 4, "relay.go:319", #[⟨0, .data⟩], none⟩,
 ⟨some 73, .unOp .not 4 (.tmp 72), 4, "relay.go:319", #[⟨1, .data⟩], none⟩] : List Oper).toArray false) (Code.cond (.tmp 73) (Code.seq (Code.region 16 ([⟨some 10, .assign (.const (.slice none 0 0)), 24, "relay.go:320", #[], none⟩] : List Oper).toArray false) (Code.seq (Code.region 17 xU.toArray true) (Code.exit 1))) Code.skip)) (Code.seq (Code.region 18 ([⟨some 13, .assign (.const (.int .i64 0)), 3, "relay.go:324", #[], none⟩] : List Oper).toArray false) (sndC (sndC (sndC (inC (fstC (sndC (lpC (inC (sndC (fstC (sndC (cJ 6 (cD Tryz.f94)))))))))))))))) := by kernel_rfl
theorem aGr : (sndC (sndC (sndC (inC (fstC (sndC (lpC (inC (sndC (fstC (sndC (cJ 6 (cD Tryz.f94))))))))))))) = (Code.block 2 (Code.loop (Code.seq (Code.seq (Code.region 19 ([⟨some 91, .move (.tmp 13), 3, "relay.go:324", #[], none⟩,
 ⟨some 92, .fieldAddr 257 (.tmp 12) 2, 0, "relay.go:324", #[], none⟩,
 ⟨some 93, .load 3 (.tmp 92), 3, "relay.go:324", #[⟨1, .data⟩], none⟩,
 ⟨some 94, .binOp .lss 3 (.tmp 91) (.tmp 93) 3, 4, "relay.go:324", #[⟨0, .data⟩, ⟨2, .data⟩], none⟩] : List Oper).toArray false) (Code.cond (.tmp 94) Code.skip (Code.exit 2))) (Code.seq (Code.block 3 (Code.seq (Code.region 21 ([⟨some 14, .assign (.const (.int .i64 0)), 3, "relay.go:325", #[], none⟩] : List Oper).toArray false) (Code.seq (Code.seq (Code.region 22 ([⟨some 97, .move (.tmp 2), 37, "relay.go:326", #[], none⟩,
 ⟨some 98, .indexAddr 37 (.tmp 97) (.const (.int .i64 0)), 0, "relay.go:326", #[⟨0, .data⟩], none⟩,
 ⟨some 99, .load 5 (.tmp 98), 5, "relay.go:326", #[⟨1, .data⟩], none⟩,
 ⟨some 100, .binOp .eql 5 (.tmp 99) (.const (.int .u8 22)) 5, 4, "relay.go:326", #[⟨2, .data⟩], none⟩] : List Oper).toArray false) (Code.cond (.tmp 100) (Code.region 23 xS.toArray true) (Code.region 24 ([⟨some 117, .fieldAddr 252 (.tmp 8) 1, 0, "relay.go:329", #[], none⟩,
 ⟨some 118, .load 24 (.tmp 117), 24, "relay.go:329", #[⟨0, .data⟩], none⟩,
 ⟨some 119, .move (.tmp 13), 3, "relay.go:329", #[], none⟩,
 ⟨some 120, .indexAddr 24 (.tmp 118) (.tmp 119), 0, "relay.go:329", #[⟨1, .data⟩, ⟨2, .data⟩], none⟩,
 ⟨some 121, .load 3 (.tmp 120), 3, "relay.go:329", #[⟨3, .data⟩], none⟩,
 ⟨some 14, .assign (.tmp 121), 3, "relay.go:329", #[⟨4, .data⟩, ⟨0, .phase⟩, ⟨1, .phase⟩, ⟨2, .phase⟩, ⟨3, .phase⟩, ⟨4, .phase⟩], none⟩] : List Oper).toArray false))) (Code.region 25 xR.toArray true)))) (Code.region 20 ([⟨some 95, .move (.tmp 13), 3, "relay.go:324", #[], none⟩,
 ⟨some 96, .binOp .add 3 (.tmp 95) (.const (.int .i64 1)) 3, 3, "relay.go:324", #[⟨0, .data⟩], none⟩,
 ⟨some 13, .assign (.tmp 96), 3, "relay.go:324", #[⟨1, .data⟩, ⟨0, .phase⟩, ⟨1, .phase⟩], none⟩] : List Oper).toArray false))))) := by kernel_rfl
theorem aHw : (fstC (sndC (sndC (cJ 6 (cD Tryz.f94))))) = (Code.seq (Code.region 26 ([⟨some 135, .move (.tmp 2), 37, "relay.go:334", #[], none⟩,
 ⟨some 136, .indexAddr 37 (.tmp 135) (.const (.int .i64 0)), 0, "relay.go:334", #[⟨0, .data⟩], none⟩,
 ⟨some 137, .load 5 (.tmp 136), 5, "relay.go:334", #[⟨1, .data⟩], none⟩] : List Oper).toArray false) (Code.block 4 (Code.seq (Code.seq (Code.region 27 ([⟨some 139, .binOp .eql 5 (.tmp 137) (.const (.int .u8 15)) 5, 4, "relay.go:335", #[], none⟩,
 ⟨some 138, .assign (.tmp 139), 4, "relay.go:335", #[⟨0, .data⟩], none⟩] : List Oper).toArray false) (Code.cond (.tmp 138) Code.skip (Code.region 28 ([⟨some 140, .binOp .eql 5 (.tmp 137) (.const (.int .u8 16)) 5, 4, "relay.go:335", #[], none⟩,
 ⟨some 138, .assign (.tmp 140), 4, "relay.go:335", #[⟨0, .data⟩], none⟩] : List Oper).toArray false))) (Code.cond (.tmp 138) (Code.seq (Code.region 29 ([⟨some 15, .assign (.const (.slice none 0 0)), 37, "relay.go:336", #[], none⟩] : List Oper).toArray false) (Code.seq (Code.region 30 ([⟨some 141, .move (.tmp 15), 37, "relay.go:337", #[], none⟩,
 ⟨some 142, .move (.tmp 2), 37, "relay.go:337", #[], none⟩,
 ⟨some 143, .slice 37 (.tmp 142) none (some (.const (.int .i64 5))) none, 37, "relay.go:337", #[⟨1, .data⟩], none⟩,
 ⟨some 144, .call { callee := .builtin .append, args := #[.tmp 141, .tmp 143], argTypes := #[37, 37] }, 37, "relay.go:337", #[⟨0, .data⟩, ⟨2, .data⟩], none⟩,
 ⟨some 6, .assign (.tmp 144), 37, "relay.go:337", #[⟨3, .data⟩, ⟨3, .chain⟩, ⟨0, .phase⟩, ⟨1, .phase⟩, ⟨2, .phase⟩, ⟨3, .phase⟩], none⟩,
 ⟨some 7, .assign (.const (.int .i64 0)), 32, "relay.go:337", #[⟨4, .chain⟩, ⟨0, .phase⟩, ⟨1, .phase⟩, ⟨2, .phase⟩, ⟨3, .phase⟩, ⟨4, .phase⟩], none⟩] : List Oper).toArray false) Code.ret)) (Code.seq (Code.seq (Code.region 31 ([⟨some 146, .binOp .eql 5 (.tmp 137) (.const (.int .u8 5)) 5, 4, "relay.go:338", #[], none⟩,
 ⟨some 145, .assign (.tmp 146), 4, "relay.go:338", #[⟨0, .data⟩], none⟩] : List Oper).toArray false) (Code.cond (.tmp 145) Code.skip (Code.seq (Code.region 32 ([⟨some 147, .binOp .eql 5 (.tmp 137) (.const (.int .u8 6)) 5, 4, "relay.go:338", #[], none⟩,
 ⟨some 145, .assign (.tmp 147), 4, "relay.go:338", #[⟨0, .data⟩], none⟩] : List Oper).toArray false) (Code.cond (.tmp 145) Code.skip (Code.region 33 ([⟨some 148, .binOp .eql 5 (.tmp 137) (.const (.int .u8 22)) 5, 4, "relay.go:338", #[], none⟩,
 ⟨some 145, .assign (.tmp 148), 4, "relay.go:338", #[⟨0, .data⟩], none⟩] : List Oper).toArray false))))) (Code.cond (.tmp 145) (Code.seq (Code.region 34 ([⟨some 16, .assign (.const (.slice none 0 0)), 37, "relay.go:339", #[], none⟩] : List Oper).toArray false) (Code.seq (Code.region 35 ([⟨some 149, .move (.tmp 16), 37, "relay.go:340", #[], none⟩,
 ⟨some 150, .move (.tmp 2), 37, "relay.go:340", #[], none⟩,
 ⟨some 151, .call { callee := .builtin .append, args := #[.tmp 149, .tmp 150], argTypes := #[37, 37] }, 37, "relay.go:340", #[⟨0, .data⟩, ⟨1, .data⟩], none⟩,
 ⟨some 6, .assign (.tmp 151), 37, "relay.go:340", #[⟨2, .data⟩, ⟨2, .chain⟩, ⟨0, .phase⟩, ⟨1, .phase⟩, ⟨2, .phase⟩], none⟩,
 ⟨some 7, .assign (.const (.int .i64 0)), 32, "relay.go:340", #[⟨3, .chain⟩, ⟨0, .phase⟩, ⟨1, .phase⟩, ⟨2, .phase⟩, ⟨3, .phase⟩], none⟩] : List Oper).toArray false) Code.ret)) Code.skip)))))) := by kernel_rfl
theorem sP (a : Act) (Q : Exit → Act → World → Prop) (w : World) (id s d1 d2 : Nat) (n : Nat) (T1 T2 T3 : TypeId) (p1 p2 p3 : String) (af1 af2 af3 : Array Edge) (h1 : d1 < a.tmps.size) (h2 : d2 < a.tmps.size) (hn : n ≤ 100000) (hv : a.eval (.tmp s) = .int .i64 (n : Int)) (h : Q .normal (((a.put (some d1) (.int .i64 (n : Int))).put (some d2) (.int .i64 ((n + 1 : Nat) : Int))).put (some s) (.int .i64 ((n + 1 : Nat) : Int))) w) :
  (Code.region id ([{ dst := some d1, op := .move (.tmp s), type := T1, pos := p1, after := af1, guard := none }, { dst := some d2, op := .binOp .add 3 (.tmp d1) (.const (.int .i64 1)) 3, type := T2, pos := p2, after := af2, guard := none }, { dst := some s, op := .assign (.tmp d2), type := T3, pos := p3, after := af3, guard := none }] : List Oper).toArray false).wp Tryz.prog Q a w := by
 refine wp_region_lit (aG rfl (aC _) ?_)
 rw [hv]
 have e1 : (a.put (some d1) (.int .i64 (n : Int))).eval (.tmp d1) = .int .i64 (n : Int) := by rw [aI _ _ _ _ h1, if_pos rfl]
 refine aG rfl (iB _ _ (n : Int) 1 e1 rfl (by omega) (by omega) (by omega) (by omega)) (aG rfl (aX _) (wpList_nil ?_))
 have e2 : ((a.put (some d1) (.int .i64 (n : Int))).put (some d2) (.int .i64 ((n : Int) + 1))).eval (.tmp d2) = .int .i64 ((n : Int) + 1) := by rw [aI _ _ _ _ (by rw [aE]; exact h2), if_pos rfl]
 show Q .normal (Act.put _ (some s) (Act.eval ((a.put (some d1) (.int .i64 (n : Int))).put (some d2) (.int .i64 ((n : Int) + 1))) (.tmp d2))) w
 rw [e2]
 exact h
def aDy : List Oper := [
 ⟨some 91, .move (.tmp 13), 3, "relay.go:324", #[], none⟩,
 ⟨some 92, .fieldAddr 257 (.tmp 12) 2, 0, "relay.go:324", #[], none⟩,
 ⟨some 93, .load 3 (.tmp 92), 3, "relay.go:324", #[⟨1, .data⟩], none⟩,
 ⟨some 94, .binOp .lss 3 (.tmp 91) (.tmp 93) 3, 4, "relay.go:324", #[⟨0, .data⟩, ⟨2, .data⟩], none⟩]
def gI : List (Option Nat) := [some 91, some 92, some 93, some 94]
theorem vF (a : Act) (Q : Exit → Act → World → Prop) (w : World) (id : Nat) (tb k n : Nat) (hsz : 157 ≤ a.tmps.size)
  (t2 : w.cell? ⟨tb, 2, none⟩ = some (.int .i64 (n : Int))) (h12 : a.eval (.tmp 12) = .pointer (some ⟨tb, 0, none⟩)) (h13 : a.eval (.tmp 13) = .int .i64 (k : Int))
  (hend : ∀ u, u 94 = .bool (decide (k < n)) → Q .normal (over a gI u) w) : (Code.region id aDy.toArray false).wp Tryz.prog Q a w := by
 have ein : ∀ u k, inS gI 157 k = true → (over a gI u).eval (.tmp k) = u k := cQ a gI 157 hsz
 have eout : ∀ u k, outS gI 157 k = true → (over a gI u).eval (.tmp k) = a.eval (.tmp k) := cF a gI 157 hsz
 have ef : ∀ u f, (over a gI u).eval (.func f) = .func (.func f) #[] #[] := fun u f => by simp [Act.eval]
 refine cN gI (fun _ W => W = w) (RV [some ((.int .i64 (k : Int))), some ((.pointer (some ⟨tb, 2, none⟩))), some ((.int .i64 (n : Int))), some ((.bool (decide (k < n))))]) (by decide) rfl rfl [true, true, true, true] ?_ (fun u W hS hR => by
  subst hS
  exact hend u (hR 3 (by decide)))
 unfold aDy
 repeat' first | exact trivial | refine cX.cons rfl (fun u W hS hd => ?_) ?_
 ·refine DoesG.plain rfl ?_
  exact aB _ rfl (aC _) ((eout u 13 rfl).trans h13) aR.refl hS
 ·refine DoesG.plain rfl ?_
  exact aB _ rfl (fG _ tb 2 (by decide) ((eout u 12 rfl).trans h12)) rfl aR.refl hS
 ·refine DoesG.plain rfl ?_
  have e1 : u 92 = (.pointer (some ⟨tb, 2, none⟩)) := hd 1 (by decide)
  exact aB _ rfl (cY _ tb 2 (n : Int) ((ein u 92 rfl).trans e1) (by rw [hS]; exact t2)) rfl aR.refl hS
 ·refine DoesG.plain rfl ?_
  have e0 : u 91 = (.int .i64 (k : Int)) := hd 0 (by decide)
  have e2 : u 93 = (.int .i64 (n : Int)) := hd 2 (by decide)
  exact aB _ rfl (zN _ _ (k : Int) (n : Int) (decide (k < n)) ((ein u 91 rfl).trans e0) ((ein u 93 rfl).trans e2) (by simp)) rfl aR.refl hS
def aDx : List Oper := [
 ⟨some 97, .move (.tmp 2), 37, "relay.go:326", #[], none⟩,
 ⟨some 98, .indexAddr 37 (.tmp 97) (.const (.int .i64 0)), 0, "relay.go:326", #[⟨0, .data⟩], none⟩,
 ⟨some 99, .load 5 (.tmp 98), 5, "relay.go:326", #[⟨1, .data⟩], none⟩,
 ⟨some 100, .binOp .eql 5 (.tmp 99) (.const (.int .u8 22)) 5, 4, "relay.go:326", #[⟨2, .data⟩], none⟩]
def fS : List (Option Nat) := [some 97, some 98, some 99, some 100]
theorem vE (a : Act) (Q : Exit → Act → World → Prop) (w : World) (id : Nat) (b o m c1 : Nat) (f : Int) (hsz : 157 ≤ a.tmps.size)
  (hm : 0 < m) (c0 : w.cell? ⟨b, o + 0, none⟩ = some (.int .u8 f)) (h2 : a.eval (.tmp 2) = .slice (some ⟨b, o, none⟩) m c1)
  (hend : ∀ u, u 100 = .bool (f == 22) → Q .normal (over a fS u) w) : (Code.region id aDx.toArray false).wp Tryz.prog Q a w := by
 have ein : ∀ u k, inS fS 157 k = true → (over a fS u).eval (.tmp k) = u k := cQ a fS 157 hsz
 have eout : ∀ u k, outS fS 157 k = true → (over a fS u).eval (.tmp k) = a.eval (.tmp k) := cF a fS 157 hsz
 have ef : ∀ u f, (over a fS u).eval (.func f) = .func (.func f) #[] #[] := fun u f => by simp [Act.eval]
 refine cN fS (fun _ W => W = w) (RV [some ((.slice (some ⟨b, o, none⟩) m c1)), some ((.pointer (some ⟨b, o + 0, none⟩))), some ((.int .u8 f)), some ((.bool (f == 22)))]) (by decide) rfl rfl [true, true, true, true] ?_ (fun u W hS hR => by
  subst hS
  exact hend u (hR 3 (by decide)))
 unfold aDx
 repeat' first | exact trivial | refine cX.cons rfl (fun u W hS hd => ?_) ?_
 ·refine DoesG.plain rfl ?_
  exact aB _ rfl (aC _) ((eout u 2 rfl).trans h2) aR.refl hS
 ·refine DoesG.plain rfl ?_
  have e0 : u 97 = (.slice (some ⟨b, o, none⟩) m c1) := hd 0 (by decide)
  exact aB _ rfl (fF _ _ b o m c1 0 ((ein u 97 rfl).trans e0) rfl hm) rfl aR.refl hS
 ·refine DoesG.plain rfl ?_
  have e1 : u 98 = (.pointer (some ⟨b, o + 0, none⟩)) := hd 1 (by decide)
  exact aB _ rfl (eI _ b (o + 0) f ((ein u 98 rfl).trans e1) (by rw [hS]; exact c0)) rfl aR.refl hS
 ·refine DoesG.plain rfl ?_
  have e2 : u 99 = (.int .u8 f) := hd 2 (by decide)
  exact aB _ rfl (zO _ _ f 22 (f == 22) ((ein u 99 rfl).trans e2) rfl rfl) rfl aR.refl hS
def aDw : List Oper := [
 ⟨some 117, .fieldAddr 252 (.tmp 8) 1, 0, "relay.go:329", #[], none⟩,
 ⟨some 118, .load 24 (.tmp 117), 24, "relay.go:329", #[⟨0, .data⟩], none⟩,
 ⟨some 119, .move (.tmp 13), 3, "relay.go:329", #[], none⟩,
 ⟨some 120, .indexAddr 24 (.tmp 118) (.tmp 119), 0, "relay.go:329", #[⟨1, .data⟩, ⟨2, .data⟩], none⟩,
 ⟨some 121, .load 3 (.tmp 120), 3, "relay.go:329", #[⟨3, .data⟩], none⟩,
 ⟨some 14, .assign (.tmp 121), 3, "relay.go:329", #[⟨4, .data⟩, ⟨0, .phase⟩, ⟨1, .phase⟩, ⟨2, .phase⟩, ⟨3, .phase⟩, ⟨4, .phase⟩], none⟩]
def iI : List (Option Nat) := [some 117, some 118, some 119, some 120, some 121, some 14]
theorem aDc (a : Act) (Q : Exit → Act → World → Prop) (w : World) (id : Nat) (ab vb vo vn vc k : Nat) (x : Int) (hsz : 157 ≤ a.tmps.size)
  (a1 : w.cell? ⟨ab, 1, none⟩ = some (.slice (some ⟨vb, vo, none⟩) vn vc)) (hk : k < vn) (g0 : w.cell? ⟨vb, vo + k, none⟩ = some (.int .i64 x)) (h8 : a.eval (.tmp 8) = .pointer (some ⟨ab, 0, none⟩)) (h13 : a.eval (.tmp 13) = .int .i64 (k : Int))
  (hend : ∀ u, u 14 = .int .i64 x → Q .normal (over a iI u) w) : (Code.region id aDw.toArray false).wp Tryz.prog Q a w := by
 have ein : ∀ u k, inS iI 157 k = true → (over a iI u).eval (.tmp k) = u k := cQ a iI 157 hsz
 have eout : ∀ u k, outS iI 157 k = true → (over a iI u).eval (.tmp k) = a.eval (.tmp k) := cF a iI 157 hsz
 have ef : ∀ u f, (over a iI u).eval (.func f) = .func (.func f) #[] #[] := fun u f => by simp [Act.eval]
 refine cN iI (fun _ W => W = w) (RV [some ((.pointer (some ⟨ab, 1, none⟩))), some ((.slice (some ⟨vb, vo, none⟩) vn vc)), some ((.int .i64 (k : Int))), some ((.pointer (some ⟨vb, vo + k, none⟩))), some ((.int .i64 x)), some ((.int .i64 x))]) (by decide) rfl rfl [true, true, true, true, true, true] ?_ (fun u W hS hR => by
  subst hS
  exact hend u (hR 5 (by decide)))
 unfold aDw
 repeat' first | exact trivial | refine cX.cons rfl (fun u W hS hd => ?_) ?_
 ·refine DoesG.plain rfl ?_
  exact aB _ rfl (jK _ ab 1 (by decide) ((eout u 8 rfl).trans h8)) rfl aR.refl hS
 ·refine DoesG.plain rfl ?_
  have e0 : u 117 = (.pointer (some ⟨ab, 1, none⟩)) := hd 0 (by decide)
  exact aB _ rfl (iR _ ⟨ab, 1, none⟩ _ _ _ ((ein u 117 rfl).trans e0) (by rw [hS]; exact a1)) rfl aR.refl hS
 ·refine DoesG.plain rfl ?_
  exact aB _ rfl (aC _) ((eout u 13 rfl).trans h13) aR.refl hS
 ·refine DoesG.plain rfl ?_
  have e1 : u 118 = (.slice (some ⟨vb, vo, none⟩) vn vc) := hd 1 (by decide)
  have e2 : u 119 = (.int .i64 (k : Int)) := hd 2 (by decide)
  exact aB _ rfl (oG _ _ vb vo vn vc k ((ein u 118 rfl).trans e1) ((ein u 119 rfl).trans e2) hk) rfl aR.refl hS
 ·refine DoesG.plain rfl ?_
  have e3 : u 120 = (.pointer (some ⟨vb, vo + k, none⟩)) := hd 3 (by decide)
  exact aB _ rfl (cY _ vb (vo + k) x ((ein u 120 rfl).trans e3) (by rw [hS]; exact g0)) rfl aR.refl hS
 ·refine DoesG.plain rfl ?_
  have e4 : u 121 = (.int .i64 x) := hd 4 (by decide)
  exact aB _ rfl (aX _) ((ein u 121 rfl).trans e4) aR.refl hS
structure WI (w : World) (yb ab tb gb : Nat) (qv v10 : Value) (i : Int) (L : List Int) (k : Nat) (a : Act) (W : World) : Prop where
 af : AF a yb ab qv v10 i
 h12 : a.eval (.tmp 12) = .pointer (some ⟨tb, 0, none⟩)
 h13 : a.eval (.tmp 13) = .int .i64 (k : Int)
 chg : Chg w W (fun k => k = gb)
 row : W.heap[gb]? = some (.cells (L.map (Value.int .i64)).toArray 3 (0, 0))
theorem WI.cell {w : World} {yb ab tb gb : Nat} {qv v10 : Value} {i : Int} {L : List Int} {k : Nat} {a : Act} {W : World} (h : WI w yb ab tb gb qv v10 i L k a W) (b j : Nat) (hb : b < w.heap.size) (hn : b ≠ gb) : W.cell? ⟨b, j, none⟩ = w.cell? ⟨b, j, none⟩ := World.cell?_of_block (h.chg.block b hb hn)
theorem sN (a : Act) (Q : Exit → Act → World → Prop) (w : World) (yb ab tb gb vb vo vc b o m c1 N A n i : Nat) (v10 : Value) (ii f : Int) (L xs : List Int)
  (hf : (f == 22) = false) (hm : 0 < m) (hi : i < 4) (hN : N ≤ 200) (hL : L.length = N) (hn : xs.length = n) (hAn : A + n ≤ N)
  (hyb : yb < w.heap.size) (htb : tb < w.heap.size) (hab : ab < w.heap.size) (hbb : b < w.heap.size) (hvb : n ≠ 0 → vb < w.heap.size) (ny : yb ≠ gb) (nt : tb ≠ gb) (na : ab ≠ gb) (nb : b ≠ gb) (nv : vb ≠ gb)
  (c1_ : w.cell? ⟨yb, 6 + i, none⟩ = some (.slice (some ⟨gb, 0, none⟩) N N)) (t0 : w.cell? ⟨tb, 0, none⟩ = some (.int .i64 (i : Int))) (t1 : w.cell? ⟨tb, 1, none⟩ = some (.int .i64 (A : Int))) (t2 : w.cell? ⟨tb, 2, none⟩ = some (.int .i64 (n : Int)))
  (c0 : w.cell? ⟨b, o + 0, none⟩ = some (.int .u8 f)) (a1 : w.cell? ⟨ab, 1, none⟩ = some (.slice (some ⟨vb, vo, none⟩) n vc)) (vs : ∀ k, k < n → w.cell? ⟨vb, vo + k, none⟩ = some (.int .i64 (xs.getD k 0)))
  (h0 : WI w yb ab tb gb (.slice (some ⟨b, o, none⟩) m c1) v10 ii L 0 a w)
  (hend : ∀ a' W, WI w yb ab tb gb (.slice (some ⟨b, o, none⟩) m c1) v10 ii (setL L A xs) n a' W → Q .normal a' W) :
  (sndC (sndC (sndC (inC (fstC (sndC (lpC (inC (sndC (fstC (sndC (cJ 6 (cD Tryz.f94))))))))))))).wp Tryz.prog Q a w := by
 rw [aGr]
 refine nO n 13 (fun k a W => WI w yb ab tb gb (.slice (some ⟨b, o, none⟩) m c1) v10 ii (setL L A (xs.take k)) k a W) (fun k a W h => h.h13) (by rw [List.take_zero]; unfold setL; simpa using h0) ?_ ?_ ?_
 ·intro k a' W hk hI Z hZ
  refine vF a' Z W 19 tb k n (by rw [hI.af.sz]; exact Nat.le_refl _) ((hI.cell tb 2 htb nt).trans t2) hI.h12 hI.h13 (fun u e94 => hZ _ _ ?_ ?_)
  ·rw [dB a' gI u 94 (by decide) (by rw [hI.af.sz]; decide)]
   exact e94
  ·exact ⟨hI.af.over gI u (by decide), (aQ a' gI u 12 (by decide) (by rw [hI.af.sz]; decide)).trans hI.h12, (aQ a' gI u 13 (by decide) (by rw [hI.af.sz]; decide)).trans hI.h13, hI.chg, hI.row⟩
 ·intro k a' W hk hI Z hZ
  refine wp_seq (wp_block (wp_seq (fQ a' _ W 21 14 _ _ _ _ (.int .i64 0) rfl ?_)))
  have f1 := hI.af.put 14 (.int .i64 0) (by decide) (by decide)
  have p12 : (a'.put (some 14) (.int .i64 0)).eval (.tmp 12) = .pointer (some ⟨tb, 0, none⟩) := by
   rw [aI _ _ _ _ (by rw [hI.af.sz]; decide), if_neg (by decide)]
   exact hI.h12
  have p13 : (a'.put (some 14) (.int .i64 0)).eval (.tmp 13) = .int .i64 (k : Int) := by
   rw [aI _ _ _ _ (by rw [hI.af.sz]; decide), if_neg (by decide)]
   exact hI.h13
  generalize a'.put (some 14) (.int .i64 0) = a2 at f1 p12 p13
  refine wp_seq (wp_seq (vE a2 _ W 22 b o m c1 f (by rw [f1.sz]; exact Nat.le_refl _) hm ((hI.cell b _ hbb nb).trans c0) f1.h2 (fun u e100 => ?_)))
  have f2 := f1.over fS u (by decide)
  have q12 := (aQ a2 fS u 12 (by decide) (by rw [f1.sz]; decide)).trans p12
  have q13 := (aQ a2 fS u 13 (by decide) (by rw [f1.sz]; decide)).trans p13
  have q100 := (dB a2 fS u 100 (by decide) (by rw [f1.sz]; decide)).trans e100
  rw [hf] at q100
  generalize over a2 fS u = a3 at f2 q12 q13 q100
  refine wp_cond_false q100 ?_
  refine aDc a3 _ W 24 ab vb vo n vc k (xs.getD k 0) (by rw [f2.sz]; exact Nat.le_refl _) ((hI.cell ab _ hab na).trans a1) hk ((hI.cell vb _ (hvb (by omega)) nv).trans (vs k hk)) f2.h8 q13 (fun u e14 => ?_)
  have f3 := f2.over iI u (by decide)
  have r12 := (aQ a3 iI u 12 (by decide) (by rw [f2.sz]; decide)).trans q12
  have r13 := (aQ a3 iI u 13 (by decide) (by rw [f2.sz]; decide)).trans q13
  have r14 := (dB a3 iI u 14 (by decide) (by rw [f2.sz]; decide)).trans e14
  generalize over a3 iI u = a4 at f3 r12 r13 r14
  have hz := hI.chg.size
  have hlen : (setL L A (xs.take k)).length = N := by
   rw [fE _ _ _ (by simp; omega), hL]
  refine vD a4 _ W 25 yb tb gb N A k i (xs.getD k 0) (setL L A (xs.take k)) (by rw [f3.sz]; exact Nat.le_refl _) (by omega) (by omega) ny nt hi hN ((hI.cell yb _ hyb ny).trans c1_) ((hI.cell tb _ htb nt).trans t0) ((hI.cell tb _ htb nt).trans t1) (by omega) hlen hI.row f3.h0 r12 r13 r14 (fun u W2 hS => ?_)
  obtain ⟨hc, hr⟩ := hS
  rw [mC L xs A k (by omega) (by omega)] at hr
  have f4 := f3.over gH u (by decide)
  have s12 := (aQ a4 gH u 12 (by decide) (by rw [f3.sz]; decide)).trans r12
  have s13 := (aQ a4 gH u 13 (by decide) (by rw [f3.sz]; decide)).trans r13
  generalize over a4 gH u = a5 at f4 s12 s13
  refine sP a5 _ W2 20 13 95 96 k _ _ _ _ _ _ _ _ _ (by rw [f4.sz]; decide) (by rw [f4.sz]; decide) (by omega) s13 (hZ _ _ ?_)
  refine ⟨((f4.put 95 _ (by decide) (by decide)).put 96 _ (by decide) (by decide)).put 13 _ (by decide) (by decide), ?_, ?_, hI.chg.trans hc (fun _ e _ => e), hr⟩
  ·rw [aI _ _ _ _ (by simp only [aE, f4.sz]; decide), if_neg (by decide), aI _ _ _ _ (by simp only [aE, f4.sz]; decide), if_neg (by decide), aI _ _ _ _ (by rw [f4.sz]; decide), if_neg (by decide)]
   exact s12
  ·rw [aI _ _ _ _ (by simp only [aE, f4.sz]; decide), if_pos rfl]
 ·intro a' W hI
  rw [← hn, List.take_length] at hI
  rw [← hn] at hend
  exact hend _ _ hI
theorem chg_below {w W W' : World} {D : Nat → Prop} (h : Chg w W D) (hb : Below W.heap.size W W') : Chg w W' D := h.trans (Chg.of_below hb D) (fun _ e _ => e)
theorem sO (a : Act) (Q : Exit → Act → World → Prop) (w : World) (yb ab tb gb b o m c1 N A i n0 qx qy : Nat) (v10 : Value) (ii : Int) (L : List Int)
  (hm : 0 < m) (hi : i < 4) (hN : N ≤ 200) (hL : L.length = N) (hAn : A < N) (hn0 : n0 < 65536) (hqx : qx < 65536) (hqy : qy < 65536) (hg0 : L.getD A 0 = (n0 : Int))
  (hyb : yb < w.heap.size) (htb : tb < w.heap.size) (hab : ab < w.heap.size) (hbb : b < w.heap.size) (ny : yb ≠ gb) (nt : tb ≠ gb) (na : ab ≠ gb) (nb : b ≠ gb)
  (c1_ : w.cell? ⟨yb, 6 + i, none⟩ = some (.slice (some ⟨gb, 0, none⟩) N N)) (t0 : w.cell? ⟨tb, 0, none⟩ = some (.int .i64 (i : Int))) (t1 : w.cell? ⟨tb, 1, none⟩ = some (.int .i64 (A : Int))) (t2 : w.cell? ⟨tb, 2, none⟩ = some (.int .i64 ((1 : Nat) : Int)))
  (c0 : w.cell? ⟨b, o + 0, none⟩ = some (.int .u8 22)) (a2_ : w.cell? ⟨ab, 2, none⟩ = some (.int .i64 (qx : Int))) (a3_ : w.cell? ⟨ab, 3, none⟩ = some (.int .i64 (qy : Int)))
  (h0 : WI w yb ab tb gb (.slice (some ⟨b, o, none⟩) m c1) v10 ii L 0 a w)
  (hend : ∀ a' W, WI w yb ab tb gb (.slice (some ⟨b, o, none⟩) m c1) v10 ii (L.set A (eG qx n0 qy : Nat)) 1 a' W → Q .normal a' W) :
  (sndC (sndC (sndC (inC (fstC (sndC (lpC (inC (sndC (fstC (sndC (cJ 6 (cD Tryz.f94))))))))))))).wp Tryz.prog Q a w := by
 rw [aGr]
 refine nO 1 13 (fun k a W => WI w yb ab tb gb (.slice (some ⟨b, o, none⟩) m c1) v10 ii (if k = 0 then L else L.set A (eG qx n0 qy : Nat)) k a W) (fun k a W h => h.h13) (by rw [if_pos rfl]; exact h0) ?_ ?_ ?_
 ·intro k a' W hk hI Z hZ
  refine vF a' Z W 19 tb k 1 (by rw [hI.af.sz]; exact Nat.le_refl _) ((hI.cell tb 2 htb nt).trans t2) hI.h12 hI.h13 (fun u e94 => hZ _ _ ?_ ?_)
  ·rw [dB a' gI u 94 (by decide) (by rw [hI.af.sz]; decide)]
   exact e94
  ·exact ⟨hI.af.over gI u (by decide), (aQ a' gI u 12 (by decide) (by rw [hI.af.sz]; decide)).trans hI.h12, (aQ a' gI u 13 (by decide) (by rw [hI.af.sz]; decide)).trans hI.h13, hI.chg, hI.row⟩
 ·intro k a' W hk hI Z hZ
  obtain rfl : k = 0 := by omega
  rw [if_pos rfl] at hI
  refine wp_seq (wp_block (wp_seq (fQ a' _ W 21 14 _ _ _ _ (.int .i64 0) rfl ?_)))
  have f1 := hI.af.put 14 (.int .i64 0) (by decide) (by decide)
  have p12 : (a'.put (some 14) (.int .i64 0)).eval (.tmp 12) = .pointer (some ⟨tb, 0, none⟩) := by
   rw [aI _ _ _ _ (by rw [hI.af.sz]; decide), if_neg (by decide)]
   exact hI.h12
  have p13 : (a'.put (some 14) (.int .i64 0)).eval (.tmp 13) = .int .i64 ((0 : Nat) : Int) := by
   rw [aI _ _ _ _ (by rw [hI.af.sz]; decide), if_neg (by decide)]
   exact hI.h13
  generalize a'.put (some 14) (.int .i64 0) = a2 at f1 p12 p13
  refine wp_seq (wp_seq (vE a2 _ W 22 b o m c1 22 (by rw [f1.sz]; exact Nat.le_refl _) hm ((hI.cell b _ hbb nb).trans c0) f1.h2 (fun u e100 => ?_)))
  have f2 := f1.over fS u (by decide)
  have q12 := (aQ a2 fS u 12 (by decide) (by rw [f1.sz]; decide)).trans p12
  have q13 := (aQ a2 fS u 13 (by decide) (by rw [f1.sz]; decide)).trans p13
  have q100 := (dB a2 fS u 100 (by decide) (by rw [f1.sz]; decide)).trans e100
  generalize over a2 fS u = a3 at f2 q12 q13 q100
  refine wp_cond_true q100 ?_
  have hz := hI.chg.size
  have hg : W.cell? ⟨gb, A, none⟩ = some (.int .i64 (n0 : Int)) := by
   rw [← hg0]
   exact dP hI.row A (by omega)
  refine aDd a3 _ W 23 yb tb gb ab N A i n0 qx qy (by rw [f2.sz]; exact Nat.le_refl _) (by omega) (by omega) (Array.getElem?_eq_some_iff.1 hI.row).1 hi ((hI.cell yb _ hyb ny).trans c1_) ((hI.cell tb _ htb nt).trans t0) ((hI.cell tb _ htb nt).trans t1) (by omega) hAn hn0 hqx hqy hg ((hI.cell ab _ hab na).trans a2_) ((hI.cell ab _ hab na).trans a3_) f2.h0 q12 f2.h8 (fun u W1 hW1 e14 => ?_)
  have f3 := f2.over iJ u (by decide)
  have r12 := (aQ a3 iJ u 12 (by decide) (by rw [f2.sz]; decide)).trans q12
  have r13 := (aQ a3 iJ u 13 (by decide) (by rw [f2.sz]; decide)).trans q13
  have r14 := (dB a3 iJ u 14 (by decide) (by rw [f2.sz]; decide)).trans e14
  generalize over a3 iJ u = a4 at f3 r12 r13 r14
  have hc1 := chg_below hI.chg hW1
  have hrow1 := (hW1.block gb (Array.getElem?_eq_some_iff.1 hI.row).1).trans hI.row
  have hz1 := hc1.size
  have cell1 : ∀ b j, b < w.heap.size → b ≠ gb → W1.cell? ⟨b, j, none⟩ = w.cell? ⟨b, j, none⟩ := fun b j hb hn => World.cell?_of_block (hc1.block b hb hn)
  refine vD a4 _ W1 25 yb tb gb N A 0 i (eG qx n0 qy : Nat) L (by rw [f3.sz]; exact Nat.le_refl _) (by omega) (by omega) ny nt hi hN ((cell1 yb _ hyb ny).trans c1_) ((cell1 tb _ htb nt).trans t0) ((cell1 tb _ htb nt).trans t1) (by omega) hL hrow1 f3.h0 r12 r13 r14 (fun u W2 hS => ?_)
  obtain ⟨hc, hr⟩ := hS
  rw [Nat.add_zero] at hr
  have f4 := f3.over gH u (by decide)
  have s12 := (aQ a4 gH u 12 (by decide) (by rw [f3.sz]; decide)).trans r12
  have s13 := (aQ a4 gH u 13 (by decide) (by rw [f3.sz]; decide)).trans r13
  generalize over a4 gH u = a5 at f4 s12 s13
  refine sP a5 _ W2 20 13 95 96 0 _ _ _ _ _ _ _ _ _ (by rw [f4.sz]; decide) (by rw [f4.sz]; decide) (by omega) s13 (hZ _ _ ?_)
  rw [if_neg (by decide)]
  refine ⟨((f4.put 95 _ (by decide) (by decide)).put 96 _ (by decide) (by decide)).put 13 _ (by decide) (by decide), ?_, ?_, hc1.trans hc (fun _ e _ => e), hr⟩
  ·rw [aI _ _ _ _ (by simp only [aE, f4.sz]; decide), if_neg (by decide), aI _ _ _ _ (by simp only [aE, f4.sz]; decide), if_neg (by decide), aI _ _ _ _ (by rw [f4.sz]; decide), if_neg (by decide)]
   exact s12
  ·rw [aI _ _ _ _ (by simp only [aE, f4.sz]; decide), if_pos rfl]
 ·intro a' W hI
  rw [if_neg (by decide)] at hI
  exact hend _ _ hI
end Go.Proofs.YtfekelmldebplaaGreatDoor
