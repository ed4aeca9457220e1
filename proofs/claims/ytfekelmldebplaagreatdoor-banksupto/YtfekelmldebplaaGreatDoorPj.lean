import Derived.Test.YtfekelmldebplaaGreatDoorPi
set_option maxRecDepth 100000
set_option maxHeartbeats 8000000
namespace Go.Proofs.YtfekelmldebplaaGreatDoor
open Go.RowKit
def RV (vs : List (Option Value)) (i : Nat) (v : Value) (_ : World) : Prop := match vs.getD i none with | some x => v = x | none => True
def RL (ps : List (Value → World → Prop)) (i : Nat) (v : Value) (w : World) : Prop := (ps.getD i (fun _ _ => True)) v w
section
variable {ev : Operand → Value} {w : World} {dst : Option Tmp} {T : TypeId} {p : String} {af : Array Edge} {g : Option (Nat × Bool)}
theorem bF (f : FuncId) (x : Operand) (n : Int) (ts : Array TypeId) (hf : ev (.func f) = .func (.func f) #[] #[]) (hn : ev (.const (.int .i64 n)) = .int .i64 n) (hc : ∀ args w, (callFunc f args).run Tryz.prog w = .ok (.enter f args) w) : (execOp ev { dst := dst, op := .call { callee := .value (.func f), args := #[x, .const (.int .i64 n)], argTypes := ts }, type := T, pos := p, after := af, guard := g }).run Tryz.prog w = .ok (.enter f #[ev x, .int .i64 n]) w := by
 simp [go_sem, hf, hc, hn]
theorem mB (f : FuncId) (x y : Operand) (ts : Array TypeId) (hf : ev (.func f) = .func (.func f) #[] #[]) (hc : ∀ args w, (callFunc f args).run Tryz.prog w = .ok (.enter f args) w) : (execOp ev { dst := dst, op := .call { callee := .value (.func f), args := #[x, y], argTypes := ts }, type := T, pos := p, after := af, guard := g }).run Tryz.prog w = .ok (.enter f #[ev x, ev y]) w := by
 simp [go_sem, hf, hc]
theorem fZ (f : FuncId) (x y z : Operand) (ts : Array TypeId) (hf : ev (.func f) = .func (.func f) #[] #[]) (hc : ∀ args w, (callFunc f args).run Tryz.prog w = .ok (.enter f args) w) : (execOp ev { dst := dst, op := .call { callee := .value (.func f), args := #[x, y, z], argTypes := ts }, type := T, pos := p, after := af, guard := g }).run Tryz.prog w = .ok (.enter f #[ev x, ev y, ev z]) w := by
 simp [go_sem, hf, hc]
theorem fK (x y : Operand) (n m : Int) (b : Bool) (hx : ev x = .int .i64 n) (hy : ev y = .int .i64 m) (hb : decide (m ≤ n) = b) : (execOp ev { dst := dst, op := .binOp .geq 3 x y 3, type := T, pos := p, after := af, guard := g }).run Tryz.prog w = .ok (.value (.bool b)) w := by
 simp [go_sem, hx, hy, ← hb]
theorem gT (x : Operand) (n : Int) (hx : ev x = .int .u8 n) (h0 : 0 ≤ n) (h1 : n < 256) : (execOp ev { dst := dst, op := .convert 5 3 x, type := T, pos := p, after := af, guard := g }).run Tryz.prog w = .ok (.value (.int .i64 n)) w := by
 have hw : IntKind.i64.wrap n = n := by
  rw [IntKind.wrap_i64]
  omega
 simp [go_sem, hx, hw]
theorem aCn (x : Operand) (n : Int) (hc : ∀ v, ev (.const v) = v) (hx : ev x = .int .i64 n) (h0 : 0 ≤ n) (h1 : n ≤ 1000000) : (execOp ev { dst := dst, op := .binOp .quo 3 x (.const (.int .i64 8)) 3, type := T, pos := p, after := af, guard := g }).run Tryz.prog w = .ok (.value (.int .i64 (n / 8))) w := by
 have e : n.tdiv 8 = n / 8 := Int.tdiv_eq_ediv_of_nonneg h0
 have hw : IntKind.i64.wrap (n / 8) = n / 8 := by
  rw [IntKind.wrap_i64]
  omega
 simp [go_sem, hc, hx, e, hw]
end
def yB : List Oper := [
 ⟨some 89, .move (.tmp 6), 3, "relay.go:230", #[], none⟩,
 ⟨some 90, .binOp .geq 3 (.tmp 89) (.const (.int .i64 5)) 3, 4, "relay.go:230", #[⟨0, .data⟩], none⟩,
 ⟨some 91, .move (.tmp 90), 4, "relay.go:230", #[⟨1, .data⟩], none⟩,
 ⟨some 92, .move (.tmp 5), 37, "relay.go:230", #[⟨2, .guard⟩], some (2, true)⟩,
 ⟨some 93, .call { callee := .value (.func 176), args := #[.tmp 92, .const (.int .i64 2)], argTypes := #[37, 3] }, 3, "relay.go:230", #[⟨3, .data⟩, ⟨2, .chain⟩, ⟨2, .guard⟩], some (2, true)⟩,
 ⟨some 94, .binOp .geq 3 (.tmp 93) (.const (.int .i64 1)) 3, 4, "relay.go:230", #[⟨4, .data⟩, ⟨2, .guard⟩], some (2, true)⟩,
 ⟨some 95, .pick (.tmp 91) (.tmp 94) (.const (.bool false)), 4, "relay.go:230", #[⟨2, .data⟩, ⟨5, .data⟩], none⟩,
 ⟨some 96, .move (.tmp 95), 4, "relay.go:230", #[⟨6, .data⟩, ⟨4, .chain⟩], none⟩,
 ⟨some 97, .move (.tmp 5), 37, "relay.go:230", #[⟨7, .guard⟩], some (7, true)⟩,
 ⟨some 98, .call { callee := .value (.func 176), args := #[.tmp 97, .const (.int .i64 2)], argTypes := #[37, 3] }, 3, "relay.go:230", #[⟨8, .data⟩, ⟨7, .chain⟩, ⟨7, .guard⟩], some (7, true)⟩,
 ⟨some 99, .binOp .leq 3 (.tmp 98) (.const (.int .i64 1968)) 3, 4, "relay.go:230", #[⟨9, .data⟩, ⟨7, .guard⟩], some (7, true)⟩,
 ⟨some 100, .pick (.tmp 96) (.tmp 99) (.const (.bool false)), 4, "relay.go:230", #[⟨7, .data⟩, ⟨10, .data⟩], none⟩,
 ⟨some 101, .move (.tmp 100), 4, "relay.go:230", #[⟨11, .data⟩, ⟨9, .chain⟩], none⟩,
 ⟨some 102, .move (.tmp 5), 37, "relay.go:230", #[⟨12, .guard⟩], some (12, true)⟩,
 ⟨some 103, .indexAddr 37 (.tmp 102) (.const (.int .i64 4)), 0, "relay.go:230", #[⟨13, .data⟩, ⟨12, .guard⟩], some (12, true)⟩,
 ⟨some 104, .load 5 (.tmp 103), 5, "relay.go:230", #[⟨14, .data⟩, ⟨12, .guard⟩], some (12, true)⟩,
 ⟨some 105, .convert 5 3 (.tmp 104), 3, "relay.go:230", #[⟨15, .data⟩, ⟨12, .guard⟩], some (12, true)⟩,
 ⟨some 106, .move (.tmp 5), 37, "relay.go:230", #[⟨12, .guard⟩], some (12, true)⟩,
 ⟨some 107, .call { callee := .value (.func 176), args := #[.tmp 106, .const (.int .i64 2)], argTypes := #[37, 3] }, 3, "relay.go:230", #[⟨17, .data⟩, ⟨12, .chain⟩, ⟨12, .guard⟩], some (12, true)⟩,
 ⟨some 108, .binOp .add 3 (.tmp 107) (.const (.int .i64 7)) 3, 3, "relay.go:230", #[⟨18, .data⟩, ⟨12, .guard⟩], some (12, true)⟩,
 ⟨some 109, .binOp .quo 3 (.tmp 108) (.const (.int .i64 8)) 3, 3, "relay.go:230", #[⟨19, .data⟩, ⟨12, .guard⟩], some (12, true)⟩,
 ⟨some 110, .binOp .eql 3 (.tmp 105) (.tmp 109) 3, 4, "relay.go:230", #[⟨16, .data⟩, ⟨20, .data⟩, ⟨12, .guard⟩], some (12, true)⟩,
 ⟨some 111, .pick (.tmp 101) (.tmp 110) (.const (.bool false)), 4, "relay.go:230", #[⟨12, .data⟩, ⟨21, .data⟩], none⟩,
 ⟨some 112, .move (.tmp 111), 4, "relay.go:230", #[⟨22, .data⟩, ⟨18, .chain⟩], none⟩,
 ⟨some 113, .move (.tmp 6), 3, "relay.go:230", #[⟨23, .guard⟩], some (23, true)⟩,
 ⟨some 114, .move (.tmp 5), 37, "relay.go:230", #[⟨23, .guard⟩], some (23, true)⟩,
 ⟨some 115, .indexAddr 37 (.tmp 114) (.const (.int .i64 4)), 0, "relay.go:230", #[⟨25, .data⟩, ⟨23, .guard⟩], some (23, true)⟩,
 ⟨some 116, .load 5 (.tmp 115), 5, "relay.go:230", #[⟨26, .data⟩, ⟨23, .guard⟩], some (23, true)⟩,
 ⟨some 117, .convert 5 3 (.tmp 116), 3, "relay.go:230", #[⟨27, .data⟩, ⟨23, .guard⟩], some (23, true)⟩,
 ⟨some 118, .binOp .add 3 (.const (.int .i64 5)) (.tmp 117) 3, 3, "relay.go:230", #[⟨28, .data⟩, ⟨23, .guard⟩], some (23, true)⟩,
 ⟨some 119, .binOp .eql 3 (.tmp 113) (.tmp 118) 3, 4, "relay.go:230", #[⟨24, .data⟩, ⟨29, .data⟩, ⟨23, .guard⟩], some (23, true)⟩,
 ⟨some 120, .pick (.tmp 112) (.tmp 119) (.const (.bool false)), 4, "relay.go:230", #[⟨23, .data⟩, ⟨30, .data⟩], none⟩]
def bN : List (Option Nat) := [some 89, some 90, some 91, some 92, some 93, some 94, some 95, some 96, some 97, some 98, some 99, some 100, some 101, some 102, some 103, some 104, some 105, some 106, some 107, some 108, some 109, some 110, some 111, some 112, some 113, some 114, some 115, some 116, some 117, some 118, some 119, some 120]
theorem aF8 (a : Act) (Q : Exit → Act → World → Prop) (w : World) (id : Nat) (b o c : Nat) (bs : List Int) (d1 d2 d3 d4 d5 : Bool) (hsz : 244 ≤ a.tmps.size)
  (hl : bs.length ≤ 1000) (hx : Bys bs) (hb : b < w.heap.size) (hcc : ∀ i, i < bs.length → w.cell? ⟨b, o + i, none⟩ = some (.int .u8 (bs.getD i 0))) (h5 : a.eval (.tmp 5) = .slice (some ⟨b, o, none⟩) bs.length c) (h6 : a.eval (.tmp 6) = .int .i64 (bs.length : Int)) (q_d1 : decide ((5 : Int) ≤ (bs.length : Int)) = d1) (q_d2 : decide ((1 : Int) ≤ (wAt bs 1 : Int)) = d2) (q_d3 : decide ((wAt bs 1 : Int) ≤ 1968) = d3) (q_d4 : (bs.getD 4 0 == ((wAt bs 1 : Int) + 7) / 8) = d4) (q_d5 : ((bs.length : Int) == 5 + bs.getD 4 0) = d5)
  (hend : ∀ u W, Below w.heap.size w W → u 120 = .bool (d1 && d2 && d3 && d4 && d5) → Q .normal (over a bN u) W) : (Code.region id yB.toArray true).wp Tryz.prog Q a w := by
 have ein : ∀ u k, inS bN 244 k = true → (over a bN u).eval (.tmp k) = u k := cQ a bN 244 hsz
 have eout : ∀ u k, outS bN 244 k = true → (over a bN u).eval (.tmp k) = a.eval (.tmp k) := cF a bN 244 hsz
 have ef : ∀ u f, (over a bN u).eval (.func f) = .func (.func f) #[] #[] := fun u f => by simp [Act.eval]
 have w1 := dU bs hx 1
 have w3 := dU bs hx 3
 refine eX bN (fun W => Below w.heap.size w W) (fun _ _ => True) (RV [some ((.int .i64 (bs.length : Int))), some ((bif d1 then (.bool true) else (.bool false))), some ((bif d1 then (.bool true) else (.bool false))), some ((bif d1 then (.slice (some ⟨b, o, none⟩) bs.length c) else undef)), some ((bif d1 then (.int .i64 (wAt bs 1 : Int)) else undef)), some ((bif d1 then (bif d2 then (.bool true) else (.bool false)) else undef)), some ((bif d1 then (bif d2 then (.bool true) else (.bool false)) else (.bool false))), some ((bif d1 then (bif d2 then (.bool true) else (.bool false)) else (.bool false))), some ((bif d1 then (bif d2 then (.slice (some ⟨b, o, none⟩) bs.length c) else undef) else undef)), some ((bif d1 then (bif d2 then (.int .i64 (wAt bs 1 : Int)) else undef) else undef)), some ((bif d1 then (bif d2 then (bif d3 then (.bool true) else (.bool false)) else undef) else undef)), some ((bif d1 then (bif d2 then (bif d3 then (.bool true) else (.bool false)) else (.bool false)) else (.bool false))), some ((bif d1 then (bif d2 then (bif d3 then (.bool true) else (.bool false)) else (.bool false)) else (.bool false))), some ((bif d1 then (bif d2 then (bif d3 then (.slice (some ⟨b, o, none⟩) bs.length c) else undef) else undef) else undef)), some ((bif d1 then (bif d2 then (bif d3 then (.pointer (some ⟨b, o + 4, none⟩)) else undef) else undef) else undef)), some ((bif d1 then (bif d2 then (bif d3 then (.int .u8 (bs.getD 4 0)) else undef) else undef) else undef)), some ((bif d1 then (bif d2 then (bif d3 then (.int .i64 (bs.getD 4 0)) else undef) else undef) else undef)), some ((bif d1 then (bif d2 then (bif d3 then (.slice (some ⟨b, o, none⟩) bs.length c) else undef) else undef) else undef)), some ((bif d1 then (bif d2 then (bif d3 then (.int .i64 (wAt bs 1 : Int)) else undef) else undef) else undef)), some ((bif d1 then (bif d2 then (bif d3 then (.int .i64 ((wAt bs 1 : Int) + 7)) else undef) else undef) else undef)), some ((bif d1 then (bif d2 then (bif d3 then (.int .i64 (((wAt bs 1 : Int) + 7) / 8)) else undef) else undef) else undef)), some ((bif d1 then (bif d2 then (bif d3 then (bif d4 then (.bool true) else (.bool false)) else undef) else undef) else undef)), some ((bif d1 then (bif d2 then (bif d3 then (bif d4 then (.bool true) else (.bool false)) else (.bool false)) else (.bool false)) else (.bool false))), some ((bif d1 then (bif d2 then (bif d3 then (bif d4 then (.bool true) else (.bool false)) else (.bool false)) else (.bool false)) else (.bool false))), some ((bif d1 then (bif d2 then (bif d3 then (bif d4 then (.int .i64 (bs.length : Int)) else undef) else undef) else undef) else undef)), some ((bif d1 then (bif d2 then (bif d3 then (bif d4 then (.slice (some ⟨b, o, none⟩) bs.length c) else undef) else undef) else undef) else undef)), some ((bif d1 then (bif d2 then (bif d3 then (bif d4 then (.pointer (some ⟨b, o + 4, none⟩)) else undef) else undef) else undef) else undef)), some ((bif d1 then (bif d2 then (bif d3 then (bif d4 then (.int .u8 (bs.getD 4 0)) else undef) else undef) else undef) else undef)), some ((bif d1 then (bif d2 then (bif d3 then (bif d4 then (.int .i64 (bs.getD 4 0)) else undef) else undef) else undef) else undef)), some ((bif d1 then (bif d2 then (bif d3 then (bif d4 then (.int .i64 (5 + bs.getD 4 0)) else undef) else undef) else undef) else undef)), some ((bif d1 then (bif d2 then (bif d3 then (bif d4 then (.bool d5) else undef) else undef) else undef) else undef)), some ((bif d1 then (bif d2 then (bif d3 then (bif d4 then (.bool d5) else (.bool false)) else (.bool false)) else (.bool false)) else (.bool false)))]) (by kernel_rfl) (by decide) rfl (by decide) (fun _ => trivial) (fun _ _ _ _ h _ => h) ((Below.refl _ _).drew) [true, true, true, (bif d1 then true else false), (bif d1 then true else false), (bif d1 then true else false), true, true, (bif d1 then (bif d2 then true else false) else false), (bif d1 then (bif d2 then true else false) else false), (bif d1 then (bif d2 then true else false) else false), true, true, (bif d1 then (bif d2 then (bif d3 then true else false) else false) else false), (bif d1 then (bif d2 then (bif d3 then true else false) else false) else false), (bif d1 then (bif d2 then (bif d3 then true else false) else false) else false), (bif d1 then (bif d2 then (bif d3 then true else false) else false) else false), (bif d1 then (bif d2 then (bif d3 then true else false) else false) else false), (bif d1 then (bif d2 then (bif d3 then true else false) else false) else false), (bif d1 then (bif d2 then (bif d3 then true else false) else false) else false), (bif d1 then (bif d2 then (bif d3 then true else false) else false) else false), (bif d1 then (bif d2 then (bif d3 then true else false) else false) else false), true, true, (bif d1 then (bif d2 then (bif d3 then (bif d4 then true else false) else false) else false) else false), (bif d1 then (bif d2 then (bif d3 then (bif d4 then true else false) else false) else false) else false), (bif d1 then (bif d2 then (bif d3 then (bif d4 then true else false) else false) else false) else false), (bif d1 then (bif d2 then (bif d3 then (bif d4 then true else false) else false) else false) else false), (bif d1 then (bif d2 then (bif d3 then (bif d4 then true else false) else false) else false) else false), (bif d1 then (bif d2 then (bif d3 then (bif d4 then true else false) else false) else false) else false), (bif d1 then (bif d2 then (bif d3 then (bif d4 then true else false) else false) else false) else false), true] ?_ (fun u W hS hR => hend u W hS (by have h := hR 31 (by decide); cases d1 <;> cases d2 <;> cases d3 <;> cases d4 <;> exact h))
 unfold yB
 repeat' first | exact trivial | refine dR.cons rfl (fun u W hS hd => ?_) ?_
 ·refine DoesG.plain rfl ?_
  exact aB _ rfl (aC _) ((eout u 6 rfl).trans h6) trivial hS
 ·cases d1 with
  | true =>
   refine DoesG.plain rfl ?_
   have e0 : u 89 = (.int .i64 (bs.length : Int)) := hd.1
   exact aB _ rfl (fK _ _ (bs.length : Int) 5 true ((ein u 89 rfl).trans e0) rfl q_d1) rfl trivial hS
  | false =>
   refine DoesG.plain rfl ?_
   have e0 : u 89 = (.int .i64 (bs.length : Int)) := hd.1
   exact aB _ rfl (fK _ _ (bs.length : Int) 5 false ((ein u 89 rfl).trans e0) rfl q_d1) rfl trivial hS
 ·cases d1 with
  | true =>
   refine DoesG.plain rfl ?_
   have e1 : u 90 = (.bool true) := hd.1
   exact aB _ rfl (aC _) ((ein u 90 rfl).trans e1) trivial hS
  | false =>
   refine DoesG.plain rfl ?_
   have e1 : u 90 = (.bool false) := hd.1
   exact aB _ rfl (aC _) ((ein u 90 rfl).trans e1) trivial hS
 ·cases d1 <;> first
   | exact DoesG.pass (aH a bN u 2 91 rfl rfl rfl (by decide) (by omega) (show u 91 = (.bool false) from hd.1)) rfl hS
   | (have e2 : u 91 = (.bool true) := hd.1
      refine DoesG.run (aF a bN u 2 91 rfl rfl rfl (by decide) (by omega) e2) ?_
      exact aB _ rfl (aC _) ((eout u 5 rfl).trans h5) trivial hS)
 ·cases d1 <;> first
   | exact DoesG.pass (aH a bN u 2 91 rfl rfl rfl (by decide) (by omega) (show u 91 = (.bool false) from hd.2.1)) rfl hS
   | (have e2 : u 91 = (.bool true) := hd.2.1
      refine DoesG.run (aF a bN u 2 91 rfl rfl rfl (by decide) (by omega) e2) ?_
      have e3 : u 92 = (.slice (some ⟨b, o, none⟩) bs.length c) := hd.1
      have hj := eO b o bs.length c 2 1 bs w W rfl rfl (by have := of_decide_eq_true q_d1; omega) hl hx hb hcc hS
      rw [← e3, ← ein u 92 rfl] at hj
      refine aN _ rfl (bF _ _ _ _ (ef u _) rfl bO) _ hj ?_
      rintro e w' ⟨rfl, nq, rfl⟩
      exact ⟨_, rfl, rfl, trivial, cH hS nq⟩)
 ·cases d1 with
  | true =>
   cases d2 with
   | true =>
    have e2 : u 91 = (.bool true) := hd.2.1
    refine DoesG.run (aF a bN u 2 91 rfl rfl rfl (by decide) (by omega) e2) ?_
    have e4 : u 93 = (.int .i64 (wAt bs 1 : Int)) := hd.1
    exact aB _ rfl (fK _ _ (wAt bs 1 : Int) 1 true ((ein u 93 rfl).trans e4) rfl q_d2) rfl trivial hS
   | false =>
    have e2 : u 91 = (.bool true) := hd.2.1
    refine DoesG.run (aF a bN u 2 91 rfl rfl rfl (by decide) (by omega) e2) ?_
    have e4 : u 93 = (.int .i64 (wAt bs 1 : Int)) := hd.1
    exact aB _ rfl (fK _ _ (wAt bs 1 : Int) 1 false ((ein u 93 rfl).trans e4) rfl q_d2) rfl trivial hS
  | false =>
   have e2 : u 91 = (.bool false) := hd.2.1
   exact DoesG.pass (aH a bN u 2 91 rfl rfl rfl (by decide) (by omega) e2) rfl hS
 ·cases d1 with
  | true =>
   cases d2 with
   | true =>
    refine DoesG.plain rfl ?_
    have e2 : u 91 = (.bool true) := hd.1
    have e5 : u 94 = (.bool true) := hd.2.1
    exact aB _ rfl (aL _ _ true (true) (true) ((ein u 91 rfl).trans e2) (fun _ => ((ein u 94 rfl).trans e5)) rfl (Bool.true_and _)) rfl trivial hS
   | false =>
    refine DoesG.plain rfl ?_
    have e2 : u 91 = (.bool true) := hd.1
    have e5 : u 94 = (.bool false) := hd.2.1
    exact aB _ rfl (aL _ _ true (false) (false) ((ein u 91 rfl).trans e2) (fun _ => ((ein u 94 rfl).trans e5)) rfl (Bool.true_and _)) rfl trivial hS
  | false =>
   refine DoesG.plain rfl ?_
   have e2 : u 91 = (.bool false) := hd.1
   exact aB _ rfl (aL _ _ false false false ((ein u 91 rfl).trans e2) (fun h => by cases h) rfl rfl) rfl trivial hS
 ·cases d1 with
  | true =>
   cases d2 with
   | true =>
    refine DoesG.plain rfl ?_
    have e6 : u 95 = (.bool true) := hd.1
    exact aB _ rfl (aC _) ((ein u 95 rfl).trans e6) trivial hS
   | false =>
    refine DoesG.plain rfl ?_
    have e6 : u 95 = (.bool false) := hd.1
    exact aB _ rfl (aC _) ((ein u 95 rfl).trans e6) trivial hS
  | false =>
   refine DoesG.plain rfl ?_
   have e6 : u 95 = (.bool false) := hd.1
   exact aB _ rfl (aC _) ((ein u 95 rfl).trans e6) trivial hS
 ·cases d1 <;> cases d2 <;> first
   | exact DoesG.pass (aH a bN u 7 96 rfl rfl rfl (by decide) (by omega) (show u 96 = (.bool false) from hd.1)) rfl hS
   | (have e7 : u 96 = (.bool true) := hd.1
      refine DoesG.run (aF a bN u 7 96 rfl rfl rfl (by decide) (by omega) e7) ?_
      exact aB _ rfl (aC _) ((eout u 5 rfl).trans h5) trivial hS)
 ·cases d1 <;> cases d2 <;> first
   | exact DoesG.pass (aH a bN u 7 96 rfl rfl rfl (by decide) (by omega) (show u 96 = (.bool false) from hd.2.1)) rfl hS
   | (have e7 : u 96 = (.bool true) := hd.2.1
      refine DoesG.run (aF a bN u 7 96 rfl rfl rfl (by decide) (by omega) e7) ?_
      have e8 : u 97 = (.slice (some ⟨b, o, none⟩) bs.length c) := hd.1
      have hj := eO b o bs.length c 2 1 bs w W rfl rfl (by have := of_decide_eq_true q_d1; omega) hl hx hb hcc hS
      rw [← e8, ← ein u 97 rfl] at hj
      refine aN _ rfl (bF _ _ _ _ (ef u _) rfl bO) _ hj ?_
      rintro e w' ⟨rfl, nq, rfl⟩
      exact ⟨_, rfl, rfl, trivial, cH hS nq⟩)
 ·cases d1 <;> cases d2 <;> first
   | exact DoesG.pass (aH a bN u 7 96 rfl rfl rfl (by decide) (by omega) (show u 96 = (.bool false) from hd.2.1)) rfl hS
   | skip
  cases d3 with
  | true =>
   have e7 : u 96 = (.bool true) := hd.2.1
   refine DoesG.run (aF a bN u 7 96 rfl rfl rfl (by decide) (by omega) e7) ?_
   have e9 : u 98 = (.int .i64 (wAt bs 1 : Int)) := hd.1
   exact aB _ rfl (lE _ _ (wAt bs 1 : Int) 1968 true ((ein u 98 rfl).trans e9) rfl q_d3) rfl trivial hS
  | false =>
   have e7 : u 96 = (.bool true) := hd.2.1
   refine DoesG.run (aF a bN u 7 96 rfl rfl rfl (by decide) (by omega) e7) ?_
   have e9 : u 98 = (.int .i64 (wAt bs 1 : Int)) := hd.1
   exact aB _ rfl (lE _ _ (wAt bs 1 : Int) 1968 false ((ein u 98 rfl).trans e9) rfl q_d3) rfl trivial hS
 ·cases d1 with
  | true =>
   cases d2 with
   | true =>
    cases d3 with
    | true =>
     refine DoesG.plain rfl ?_
     have e7 : u 96 = (.bool true) := hd.1
     have e10 : u 99 = (.bool true) := hd.2.1
     exact aB _ rfl (aL _ _ true (true) (true) ((ein u 96 rfl).trans e7) (fun _ => ((ein u 99 rfl).trans e10)) rfl (Bool.true_and _)) rfl trivial hS
    | false =>
     refine DoesG.plain rfl ?_
     have e7 : u 96 = (.bool true) := hd.1
     have e10 : u 99 = (.bool false) := hd.2.1
     exact aB _ rfl (aL _ _ true (false) (false) ((ein u 96 rfl).trans e7) (fun _ => ((ein u 99 rfl).trans e10)) rfl (Bool.true_and _)) rfl trivial hS
   | false =>
    refine DoesG.plain rfl ?_
    have e7 : u 96 = (.bool false) := hd.1
    exact aB _ rfl (aL _ _ false false false ((ein u 96 rfl).trans e7) (fun h => by cases h) rfl rfl) rfl trivial hS
  | false =>
   refine DoesG.plain rfl ?_
   have e7 : u 96 = (.bool false) := hd.1
   exact aB _ rfl (aL _ _ false false false ((ein u 96 rfl).trans e7) (fun h => by cases h) rfl rfl) rfl trivial hS
 ·cases d1 with
  | true =>
   cases d2 with
   | true =>
    cases d3 with
    | true =>
     refine DoesG.plain rfl ?_
     have e11 : u 100 = (.bool true) := hd.1
     exact aB _ rfl (aC _) ((ein u 100 rfl).trans e11) trivial hS
    | false =>
     refine DoesG.plain rfl ?_
     have e11 : u 100 = (.bool false) := hd.1
     exact aB _ rfl (aC _) ((ein u 100 rfl).trans e11) trivial hS
   | false =>
    refine DoesG.plain rfl ?_
    have e11 : u 100 = (.bool false) := hd.1
    exact aB _ rfl (aC _) ((ein u 100 rfl).trans e11) trivial hS
  | false =>
   refine DoesG.plain rfl ?_
   have e11 : u 100 = (.bool false) := hd.1
   exact aB _ rfl (aC _) ((ein u 100 rfl).trans e11) trivial hS
 ·cases d1 <;> cases d2 <;> cases d3 <;> first
   | exact DoesG.pass (aH a bN u 12 101 rfl rfl rfl (by decide) (by omega) (show u 101 = (.bool false) from hd.1)) rfl hS
   | (have e12 : u 101 = (.bool true) := hd.1
      refine DoesG.run (aF a bN u 12 101 rfl rfl rfl (by decide) (by omega) e12) ?_
      exact aB _ rfl (aC _) ((eout u 5 rfl).trans h5) trivial hS)
 ·cases d1 <;> cases d2 <;> cases d3 <;> first
   | exact DoesG.pass (aH a bN u 12 101 rfl rfl rfl (by decide) (by omega) (show u 101 = (.bool false) from hd.2.1)) rfl hS
   | (have e12 : u 101 = (.bool true) := hd.2.1
      refine DoesG.run (aF a bN u 12 101 rfl rfl rfl (by decide) (by omega) e12) ?_
      have e13 : u 102 = (.slice (some ⟨b, o, none⟩) bs.length c) := hd.1
      exact aB _ rfl (fF _ _ b o bs.length c 4 ((ein u 102 rfl).trans e13) rfl (by have := of_decide_eq_true q_d1; omega)) rfl trivial hS)
 ·cases d1 <;> cases d2 <;> cases d3 <;> first
   | exact DoesG.pass (aH a bN u 12 101 rfl rfl rfl (by decide) (by omega) (show u 101 = (.bool false) from hd.2.1)) rfl hS
   | (have e12 : u 101 = (.bool true) := hd.2.1
      refine DoesG.run (aF a bN u 12 101 rfl rfl rfl (by decide) (by omega) e12) ?_
      have e14 : u 103 = (.pointer (some ⟨b, o + 4, none⟩)) := hd.1
      exact aB _ rfl (eI _ b (o + 4) (bs.getD 4 0) ((ein u 103 rfl).trans e14) ((hS.cell (by exact hb)).trans (hcc 4 (by have := of_decide_eq_true q_d1; omega)))) rfl trivial hS)
 ·cases d1 <;> cases d2 <;> cases d3 <;> first
   | exact DoesG.pass (aH a bN u 12 101 rfl rfl rfl (by decide) (by omega) (show u 101 = (.bool false) from hd.2.1)) rfl hS
   | (have e12 : u 101 = (.bool true) := hd.2.1
      refine DoesG.run (aF a bN u 12 101 rfl rfl rfl (by decide) (by omega) e12) ?_
      have e15 : u 104 = (.int .u8 (bs.getD 4 0)) := hd.1
      exact aB _ rfl (gT _ (bs.getD 4 0) ((ein u 104 rfl).trans e15) (hx.at 4).1 (hx.at 4).2) rfl trivial hS)
 ·cases d1 <;> cases d2 <;> cases d3 <;> first
   | exact DoesG.pass (aH a bN u 12 101 rfl rfl rfl (by decide) (by omega) (show u 101 = (.bool false) from hd.1)) rfl hS
   | (have e12 : u 101 = (.bool true) := hd.1
      refine DoesG.run (aF a bN u 12 101 rfl rfl rfl (by decide) (by omega) e12) ?_
      exact aB _ rfl (aC _) ((eout u 5 rfl).trans h5) trivial hS)
 ·cases d1 <;> cases d2 <;> cases d3 <;> first
   | exact DoesG.pass (aH a bN u 12 101 rfl rfl rfl (by decide) (by omega) (show u 101 = (.bool false) from hd.2.1)) rfl hS
   | (have e12 : u 101 = (.bool true) := hd.2.1
      refine DoesG.run (aF a bN u 12 101 rfl rfl rfl (by decide) (by omega) e12) ?_
      have e17 : u 106 = (.slice (some ⟨b, o, none⟩) bs.length c) := hd.1
      have hj := eO b o bs.length c 2 1 bs w W rfl rfl (by have := of_decide_eq_true q_d1; omega) hl hx hb hcc hS
      rw [← e17, ← ein u 106 rfl] at hj
      refine aN _ rfl (bF _ _ _ _ (ef u _) rfl bO) _ hj ?_
      rintro e w' ⟨rfl, nq, rfl⟩
      exact ⟨_, rfl, rfl, trivial, cH hS nq⟩)
 ·cases d1 <;> cases d2 <;> cases d3 <;> first
   | exact DoesG.pass (aH a bN u 12 101 rfl rfl rfl (by decide) (by omega) (show u 101 = (.bool false) from hd.2.1)) rfl hS
   | (have e12 : u 101 = (.bool true) := hd.2.1
      refine DoesG.run (aF a bN u 12 101 rfl rfl rfl (by decide) (by omega) e12) ?_
      have e18 : u 107 = (.int .i64 (wAt bs 1 : Int)) := hd.1
      exact aB _ rfl (iB _ _ (wAt bs 1 : Int) 7 ((ein u 107 rfl).trans e18) rfl (by omega) (by omega) (by omega) (by omega)) rfl trivial hS)
 ·cases d1 <;> cases d2 <;> cases d3 <;> first
   | exact DoesG.pass (aH a bN u 12 101 rfl rfl rfl (by decide) (by omega) (show u 101 = (.bool false) from hd.2.1)) rfl hS
   | (have e12 : u 101 = (.bool true) := hd.2.1
      refine DoesG.run (aF a bN u 12 101 rfl rfl rfl (by decide) (by omega) e12) ?_
      have e19 : u 108 = (.int .i64 ((wAt bs 1 : Int) + 7)) := hd.1
      exact aB _ rfl (aCn _ ((wAt bs 1 : Int) + 7) (fun _ => by simp [Act.eval]) ((ein u 108 rfl).trans e19) (by omega) (by omega)) rfl trivial hS)
 ·cases d1 <;> cases d2 <;> cases d3 <;> first
   | exact DoesG.pass (aH a bN u 12 101 rfl rfl rfl (by decide) (by omega) (show u 101 = (.bool false) from hd.2.2.1)) rfl hS
   | skip
  cases d4 with
  | true =>
   have e12 : u 101 = (.bool true) := hd.2.2.1
   refine DoesG.run (aF a bN u 12 101 rfl rfl rfl (by decide) (by omega) e12) ?_
   have e16 : u 105 = (.int .i64 (bs.getD 4 0)) := hd.1
   have e20 : u 109 = (.int .i64 (((wAt bs 1 : Int) + 7) / 8)) := hd.2.1
   exact aB _ rfl (dM _ _ (bs.getD 4 0) (((wAt bs 1 : Int) + 7) / 8) true ((ein u 105 rfl).trans e16) ((ein u 109 rfl).trans e20) q_d4) rfl trivial hS
  | false =>
   have e12 : u 101 = (.bool true) := hd.2.2.1
   refine DoesG.run (aF a bN u 12 101 rfl rfl rfl (by decide) (by omega) e12) ?_
   have e16 : u 105 = (.int .i64 (bs.getD 4 0)) := hd.1
   have e20 : u 109 = (.int .i64 (((wAt bs 1 : Int) + 7) / 8)) := hd.2.1
   exact aB _ rfl (dM _ _ (bs.getD 4 0) (((wAt bs 1 : Int) + 7) / 8) false ((ein u 105 rfl).trans e16) ((ein u 109 rfl).trans e20) q_d4) rfl trivial hS
 ·cases d1 with
  | true =>
   cases d2 with
   | true =>
    cases d3 with
    | true =>
     cases d4 with
     | true =>
      refine DoesG.plain rfl ?_
      have e12 : u 101 = (.bool true) := hd.1
      have e21 : u 110 = (.bool true) := hd.2.1
      exact aB _ rfl (aL _ _ true (true) (true) ((ein u 101 rfl).trans e12) (fun _ => ((ein u 110 rfl).trans e21)) rfl (Bool.true_and _)) rfl trivial hS
     | false =>
      refine DoesG.plain rfl ?_
      have e12 : u 101 = (.bool true) := hd.1
      have e21 : u 110 = (.bool false) := hd.2.1
      exact aB _ rfl (aL _ _ true (false) (false) ((ein u 101 rfl).trans e12) (fun _ => ((ein u 110 rfl).trans e21)) rfl (Bool.true_and _)) rfl trivial hS
    | false =>
     refine DoesG.plain rfl ?_
     have e12 : u 101 = (.bool false) := hd.1
     exact aB _ rfl (aL _ _ false false false ((ein u 101 rfl).trans e12) (fun h => by cases h) rfl rfl) rfl trivial hS
   | false =>
    refine DoesG.plain rfl ?_
    have e12 : u 101 = (.bool false) := hd.1
    exact aB _ rfl (aL _ _ false false false ((ein u 101 rfl).trans e12) (fun h => by cases h) rfl rfl) rfl trivial hS
  | false =>
   refine DoesG.plain rfl ?_
   have e12 : u 101 = (.bool false) := hd.1
   exact aB _ rfl (aL _ _ false false false ((ein u 101 rfl).trans e12) (fun h => by cases h) rfl rfl) rfl trivial hS
 ·cases d1 with
  | true =>
   cases d2 with
   | true =>
    cases d3 with
    | true =>
     cases d4 with
     | true =>
      refine DoesG.plain rfl ?_
      have e22 : u 111 = (.bool true) := hd.1
      exact aB _ rfl (aC _) ((ein u 111 rfl).trans e22) trivial hS
     | false =>
      refine DoesG.plain rfl ?_
      have e22 : u 111 = (.bool false) := hd.1
      exact aB _ rfl (aC _) ((ein u 111 rfl).trans e22) trivial hS
    | false =>
     refine DoesG.plain rfl ?_
     have e22 : u 111 = (.bool false) := hd.1
     exact aB _ rfl (aC _) ((ein u 111 rfl).trans e22) trivial hS
   | false =>
    refine DoesG.plain rfl ?_
    have e22 : u 111 = (.bool false) := hd.1
    exact aB _ rfl (aC _) ((ein u 111 rfl).trans e22) trivial hS
  | false =>
   refine DoesG.plain rfl ?_
   have e22 : u 111 = (.bool false) := hd.1
   exact aB _ rfl (aC _) ((ein u 111 rfl).trans e22) trivial hS
 ·cases d1 <;> cases d2 <;> cases d3 <;> cases d4 <;> first
   | exact DoesG.pass (aH a bN u 23 112 rfl rfl rfl (by decide) (by omega) (show u 112 = (.bool false) from hd.1)) rfl hS
   | (have e23 : u 112 = (.bool true) := hd.1
      refine DoesG.run (aF a bN u 23 112 rfl rfl rfl (by decide) (by omega) e23) ?_
      exact aB _ rfl (aC _) ((eout u 6 rfl).trans h6) trivial hS)
 ·cases d1 <;> cases d2 <;> cases d3 <;> cases d4 <;> first
   | exact DoesG.pass (aH a bN u 23 112 rfl rfl rfl (by decide) (by omega) (show u 112 = (.bool false) from hd.1)) rfl hS
   | (have e23 : u 112 = (.bool true) := hd.1
      refine DoesG.run (aF a bN u 23 112 rfl rfl rfl (by decide) (by omega) e23) ?_
      exact aB _ rfl (aC _) ((eout u 5 rfl).trans h5) trivial hS)
 ·cases d1 <;> cases d2 <;> cases d3 <;> cases d4 <;> first
   | exact DoesG.pass (aH a bN u 23 112 rfl rfl rfl (by decide) (by omega) (show u 112 = (.bool false) from hd.2.1)) rfl hS
   | (have e23 : u 112 = (.bool true) := hd.2.1
      refine DoesG.run (aF a bN u 23 112 rfl rfl rfl (by decide) (by omega) e23) ?_
      have e25 : u 114 = (.slice (some ⟨b, o, none⟩) bs.length c) := hd.1
      exact aB _ rfl (fF _ _ b o bs.length c 4 ((ein u 114 rfl).trans e25) rfl (by have := of_decide_eq_true q_d1; omega)) rfl trivial hS)
 ·cases d1 <;> cases d2 <;> cases d3 <;> cases d4 <;> first
   | exact DoesG.pass (aH a bN u 23 112 rfl rfl rfl (by decide) (by omega) (show u 112 = (.bool false) from hd.2.1)) rfl hS
   | (have e23 : u 112 = (.bool true) := hd.2.1
      refine DoesG.run (aF a bN u 23 112 rfl rfl rfl (by decide) (by omega) e23) ?_
      have e26 : u 115 = (.pointer (some ⟨b, o + 4, none⟩)) := hd.1
      exact aB _ rfl (eI _ b (o + 4) (bs.getD 4 0) ((ein u 115 rfl).trans e26) ((hS.cell (by exact hb)).trans (hcc 4 (by have := of_decide_eq_true q_d1; omega)))) rfl trivial hS)
 ·cases d1 <;> cases d2 <;> cases d3 <;> cases d4 <;> first
   | exact DoesG.pass (aH a bN u 23 112 rfl rfl rfl (by decide) (by omega) (show u 112 = (.bool false) from hd.2.1)) rfl hS
   | (have e23 : u 112 = (.bool true) := hd.2.1
      refine DoesG.run (aF a bN u 23 112 rfl rfl rfl (by decide) (by omega) e23) ?_
      have e27 : u 116 = (.int .u8 (bs.getD 4 0)) := hd.1
      exact aB _ rfl (gT _ (bs.getD 4 0) ((ein u 116 rfl).trans e27) (hx.at 4).1 (hx.at 4).2) rfl trivial hS)
 ·cases d1 <;> cases d2 <;> cases d3 <;> cases d4 <;> first
   | exact DoesG.pass (aH a bN u 23 112 rfl rfl rfl (by decide) (by omega) (show u 112 = (.bool false) from hd.2.1)) rfl hS
   | (have e23 : u 112 = (.bool true) := hd.2.1
      refine DoesG.run (aF a bN u 23 112 rfl rfl rfl (by decide) (by omega) e23) ?_
      have e28 : u 117 = (.int .i64 (bs.getD 4 0)) := hd.1
      exact aB _ rfl (iB _ _ 5 (bs.getD 4 0) rfl ((ein u 117 rfl).trans e28) (by omega) (by omega) (hx.at 4).1 (by have := (hx.at 4).2; omega)) rfl trivial hS)
 ·cases d1 <;> cases d2 <;> cases d3 <;> cases d4 <;> first
   | exact DoesG.pass (aH a bN u 23 112 rfl rfl rfl (by decide) (by omega) (show u 112 = (.bool false) from hd.2.2.1)) rfl hS
   | (have e23 : u 112 = (.bool true) := hd.2.2.1
      refine DoesG.run (aF a bN u 23 112 rfl rfl rfl (by decide) (by omega) e23) ?_
      have e24 : u 113 = (.int .i64 (bs.length : Int)) := hd.1
      have e29 : u 118 = (.int .i64 (5 + bs.getD 4 0)) := hd.2.1
      exact aB _ rfl (dM _ _ (bs.length : Int) (5 + bs.getD 4 0) d5 ((ein u 113 rfl).trans e24) ((ein u 118 rfl).trans e29) q_d5) rfl trivial hS)
 ·cases d1 with
  | true =>
   cases d2 with
   | true =>
    cases d3 with
    | true =>
     cases d4 with
     | true =>
      refine DoesG.plain rfl ?_
      have e23 : u 112 = (.bool true) := hd.1
      have e30 : u 119 = (.bool d5) := hd.2.1
      exact aB _ rfl (aL _ _ true (d5) (d5) ((ein u 112 rfl).trans e23) (fun _ => ((ein u 119 rfl).trans e30)) rfl (Bool.true_and _)) rfl trivial hS
     | false =>
      refine DoesG.plain rfl ?_
      have e23 : u 112 = (.bool false) := hd.1
      exact aB _ rfl (aL _ _ false false false ((ein u 112 rfl).trans e23) (fun h => by cases h) rfl rfl) rfl trivial hS
    | false =>
     refine DoesG.plain rfl ?_
     have e23 : u 112 = (.bool false) := hd.1
     exact aB _ rfl (aL _ _ false false false ((ein u 112 rfl).trans e23) (fun h => by cases h) rfl rfl) rfl trivial hS
   | false =>
    refine DoesG.plain rfl ?_
    have e23 : u 112 = (.bool false) := hd.1
    exact aB _ rfl (aL _ _ false false false ((ein u 112 rfl).trans e23) (fun h => by cases h) rfl rfl) rfl trivial hS
  | false =>
   refine DoesG.plain rfl ?_
   have e23 : u 112 = (.bool false) := hd.1
   exact aB _ rfl (aL _ _ false false false ((ein u 112 rfl).trans e23) (fun h => by cases h) rfl rfl) rfl trivial hS
def xZ : List Oper := [
 ⟨some 136, .move (.tmp 6), 3, "relay.go:234", #[], none⟩,
 ⟨some 137, .binOp .geq 3 (.tmp 136) (.const (.int .i64 5)) 3, 4, "relay.go:234", #[⟨0, .data⟩], none⟩,
 ⟨some 138, .move (.tmp 137), 4, "relay.go:234", #[⟨1, .data⟩], none⟩,
 ⟨some 139, .move (.tmp 5), 37, "relay.go:234", #[⟨2, .guard⟩], some (2, true)⟩,
 ⟨some 140, .call { callee := .value (.func 176), args := #[.tmp 139, .const (.int .i64 2)], argTypes := #[37, 3] }, 3, "relay.go:234", #[⟨3, .data⟩, ⟨2, .chain⟩, ⟨2, .guard⟩], some (2, true)⟩,
 ⟨some 141, .binOp .geq 3 (.tmp 140) (.const (.int .i64 1)) 3, 4, "relay.go:234", #[⟨4, .data⟩, ⟨2, .guard⟩], some (2, true)⟩,
 ⟨some 142, .pick (.tmp 138) (.tmp 141) (.const (.bool false)), 4, "relay.go:234", #[⟨2, .data⟩, ⟨5, .data⟩], none⟩,
 ⟨some 143, .move (.tmp 142), 4, "relay.go:234", #[⟨6, .data⟩, ⟨4, .chain⟩], none⟩,
 ⟨some 144, .move (.tmp 5), 37, "relay.go:234", #[⟨7, .guard⟩], some (7, true)⟩,
 ⟨some 145, .call { callee := .value (.func 176), args := #[.tmp 144, .const (.int .i64 2)], argTypes := #[37, 3] }, 3, "relay.go:234", #[⟨8, .data⟩, ⟨7, .chain⟩, ⟨7, .guard⟩], some (7, true)⟩,
 ⟨some 146, .binOp .leq 3 (.tmp 145) (.const (.int .i64 123)) 3, 4, "relay.go:234", #[⟨9, .data⟩, ⟨7, .guard⟩], some (7, true)⟩,
 ⟨some 147, .pick (.tmp 143) (.tmp 146) (.const (.bool false)), 4, "relay.go:234", #[⟨7, .data⟩, ⟨10, .data⟩], none⟩,
 ⟨some 148, .move (.tmp 147), 4, "relay.go:234", #[⟨11, .data⟩, ⟨9, .chain⟩], none⟩,
 ⟨some 149, .move (.tmp 5), 37, "relay.go:234", #[⟨12, .guard⟩], some (12, true)⟩,
 ⟨some 150, .indexAddr 37 (.tmp 149) (.const (.int .i64 4)), 0, "relay.go:234", #[⟨13, .data⟩, ⟨12, .guard⟩], some (12, true)⟩,
 ⟨some 151, .load 5 (.tmp 150), 5, "relay.go:234", #[⟨14, .data⟩, ⟨12, .guard⟩], some (12, true)⟩,
 ⟨some 152, .convert 5 3 (.tmp 151), 3, "relay.go:234", #[⟨15, .data⟩, ⟨12, .guard⟩], some (12, true)⟩,
 ⟨some 153, .move (.tmp 5), 37, "relay.go:234", #[⟨12, .guard⟩], some (12, true)⟩,
 ⟨some 154, .call { callee := .value (.func 176), args := #[.tmp 153, .const (.int .i64 2)], argTypes := #[37, 3] }, 3, "relay.go:234", #[⟨17, .data⟩, ⟨12, .chain⟩, ⟨12, .guard⟩], some (12, true)⟩,
 ⟨some 155, .binOp .mul 3 (.const (.int .i64 2)) (.tmp 154) 3, 3, "relay.go:234", #[⟨18, .data⟩, ⟨12, .guard⟩], some (12, true)⟩,
 ⟨some 156, .binOp .eql 3 (.tmp 152) (.tmp 155) 3, 4, "relay.go:234", #[⟨16, .data⟩, ⟨19, .data⟩, ⟨12, .guard⟩], some (12, true)⟩,
 ⟨some 157, .pick (.tmp 148) (.tmp 156) (.const (.bool false)), 4, "relay.go:234", #[⟨12, .data⟩, ⟨20, .data⟩], none⟩,
 ⟨some 158, .move (.tmp 157), 4, "relay.go:234", #[⟨21, .data⟩, ⟨18, .chain⟩], none⟩,
 ⟨some 159, .move (.tmp 6), 3, "relay.go:234", #[⟨22, .guard⟩], some (22, true)⟩,
 ⟨some 160, .move (.tmp 5), 37, "relay.go:234", #[⟨22, .guard⟩], some (22, true)⟩,
 ⟨some 161, .indexAddr 37 (.tmp 160) (.const (.int .i64 4)), 0, "relay.go:234", #[⟨24, .data⟩, ⟨22, .guard⟩], some (22, true)⟩,
 ⟨some 162, .load 5 (.tmp 161), 5, "relay.go:234", #[⟨25, .data⟩, ⟨22, .guard⟩], some (22, true)⟩,
 ⟨some 163, .convert 5 3 (.tmp 162), 3, "relay.go:234", #[⟨26, .data⟩, ⟨22, .guard⟩], some (22, true)⟩,
 ⟨some 164, .binOp .add 3 (.const (.int .i64 5)) (.tmp 163) 3, 3, "relay.go:234", #[⟨27, .data⟩, ⟨22, .guard⟩], some (22, true)⟩,
 ⟨some 165, .binOp .eql 3 (.tmp 159) (.tmp 164) 3, 4, "relay.go:234", #[⟨23, .data⟩, ⟨28, .data⟩, ⟨22, .guard⟩], some (22, true)⟩,
 ⟨some 166, .pick (.tmp 158) (.tmp 165) (.const (.bool false)), 4, "relay.go:234", #[⟨22, .data⟩, ⟨29, .data⟩], none⟩]
def bR : List (Option Nat) := [some 136, some 137, some 138, some 139, some 140, some 141, some 142, some 143, some 144, some 145, some 146, some 147, some 148, some 149, some 150, some 151, some 152, some 153, some 154, some 155, some 156, some 157, some 158, some 159, some 160, some 161, some 162, some 163, some 164, some 165, some 166]
theorem aF6 (a : Act) (Q : Exit → Act → World → Prop) (w : World) (id : Nat) (b o c : Nat) (bs : List Int) (d1 d2 d3 d4 d5 : Bool) (hsz : 244 ≤ a.tmps.size)
  (hl : bs.length ≤ 1000) (hx : Bys bs) (hb : b < w.heap.size) (hcc : ∀ i, i < bs.length → w.cell? ⟨b, o + i, none⟩ = some (.int .u8 (bs.getD i 0))) (h5 : a.eval (.tmp 5) = .slice (some ⟨b, o, none⟩) bs.length c) (h6 : a.eval (.tmp 6) = .int .i64 (bs.length : Int)) (q_d1 : decide ((5 : Int) ≤ (bs.length : Int)) = d1) (q_d2 : decide ((1 : Int) ≤ (wAt bs 1 : Int)) = d2) (q_d3 : decide ((wAt bs 1 : Int) ≤ 123) = d3) (q_d4 : (bs.getD 4 0 == 2 * (wAt bs 1 : Int)) = d4) (q_d5 : ((bs.length : Int) == 5 + bs.getD 4 0) = d5)
  (hend : ∀ u W, Below w.heap.size w W → u 166 = .bool (d1 && d2 && d3 && d4 && d5) → Q .normal (over a bR u) W) : (Code.region id xZ.toArray true).wp Tryz.prog Q a w := by
 have ein : ∀ u k, inS bR 244 k = true → (over a bR u).eval (.tmp k) = u k := cQ a bR 244 hsz
 have eout : ∀ u k, outS bR 244 k = true → (over a bR u).eval (.tmp k) = a.eval (.tmp k) := cF a bR 244 hsz
 have ef : ∀ u f, (over a bR u).eval (.func f) = .func (.func f) #[] #[] := fun u f => by simp [Act.eval]
 have w1 := dU bs hx 1
 have w3 := dU bs hx 3
 refine eX bR (fun W => Below w.heap.size w W) (fun _ _ => True) (RV [some ((.int .i64 (bs.length : Int))), some ((bif d1 then (.bool true) else (.bool false))), some ((bif d1 then (.bool true) else (.bool false))), some ((bif d1 then (.slice (some ⟨b, o, none⟩) bs.length c) else undef)), some ((bif d1 then (.int .i64 (wAt bs 1 : Int)) else undef)), some ((bif d1 then (bif d2 then (.bool true) else (.bool false)) else undef)), some ((bif d1 then (bif d2 then (.bool true) else (.bool false)) else (.bool false))), some ((bif d1 then (bif d2 then (.bool true) else (.bool false)) else (.bool false))), some ((bif d1 then (bif d2 then (.slice (some ⟨b, o, none⟩) bs.length c) else undef) else undef)), some ((bif d1 then (bif d2 then (.int .i64 (wAt bs 1 : Int)) else undef) else undef)), some ((bif d1 then (bif d2 then (bif d3 then (.bool true) else (.bool false)) else undef) else undef)), some ((bif d1 then (bif d2 then (bif d3 then (.bool true) else (.bool false)) else (.bool false)) else (.bool false))), some ((bif d1 then (bif d2 then (bif d3 then (.bool true) else (.bool false)) else (.bool false)) else (.bool false))), some ((bif d1 then (bif d2 then (bif d3 then (.slice (some ⟨b, o, none⟩) bs.length c) else undef) else undef) else undef)), some ((bif d1 then (bif d2 then (bif d3 then (.pointer (some ⟨b, o + 4, none⟩)) else undef) else undef) else undef)), some ((bif d1 then (bif d2 then (bif d3 then (.int .u8 (bs.getD 4 0)) else undef) else undef) else undef)), some ((bif d1 then (bif d2 then (bif d3 then (.int .i64 (bs.getD 4 0)) else undef) else undef) else undef)), some ((bif d1 then (bif d2 then (bif d3 then (.slice (some ⟨b, o, none⟩) bs.length c) else undef) else undef) else undef)), some ((bif d1 then (bif d2 then (bif d3 then (.int .i64 (wAt bs 1 : Int)) else undef) else undef) else undef)), some ((bif d1 then (bif d2 then (bif d3 then (.int .i64 (2 * (wAt bs 1 : Int))) else undef) else undef) else undef)), some ((bif d1 then (bif d2 then (bif d3 then (bif d4 then (.bool true) else (.bool false)) else undef) else undef) else undef)), some ((bif d1 then (bif d2 then (bif d3 then (bif d4 then (.bool true) else (.bool false)) else (.bool false)) else (.bool false)) else (.bool false))), some ((bif d1 then (bif d2 then (bif d3 then (bif d4 then (.bool true) else (.bool false)) else (.bool false)) else (.bool false)) else (.bool false))), some ((bif d1 then (bif d2 then (bif d3 then (bif d4 then (.int .i64 (bs.length : Int)) else undef) else undef) else undef) else undef)), some ((bif d1 then (bif d2 then (bif d3 then (bif d4 then (.slice (some ⟨b, o, none⟩) bs.length c) else undef) else undef) else undef) else undef)), some ((bif d1 then (bif d2 then (bif d3 then (bif d4 then (.pointer (some ⟨b, o + 4, none⟩)) else undef) else undef) else undef) else undef)), some ((bif d1 then (bif d2 then (bif d3 then (bif d4 then (.int .u8 (bs.getD 4 0)) else undef) else undef) else undef) else undef)), some ((bif d1 then (bif d2 then (bif d3 then (bif d4 then (.int .i64 (bs.getD 4 0)) else undef) else undef) else undef) else undef)), some ((bif d1 then (bif d2 then (bif d3 then (bif d4 then (.int .i64 (5 + bs.getD 4 0)) else undef) else undef) else undef) else undef)), some ((bif d1 then (bif d2 then (bif d3 then (bif d4 then (.bool d5) else undef) else undef) else undef) else undef)), some ((bif d1 then (bif d2 then (bif d3 then (bif d4 then (.bool d5) else (.bool false)) else (.bool false)) else (.bool false)) else (.bool false)))]) (by kernel_rfl) (by decide) rfl (by decide) (fun _ => trivial) (fun _ _ _ _ h _ => h) ((Below.refl _ _).drew) [true, true, true, (bif d1 then true else false), (bif d1 then true else false), (bif d1 then true else false), true, true, (bif d1 then (bif d2 then true else false) else false), (bif d1 then (bif d2 then true else false) else false), (bif d1 then (bif d2 then true else false) else false), true, true, (bif d1 then (bif d2 then (bif d3 then true else false) else false) else false), (bif d1 then (bif d2 then (bif d3 then true else false) else false) else false), (bif d1 then (bif d2 then (bif d3 then true else false) else false) else false), (bif d1 then (bif d2 then (bif d3 then true else false) else false) else false), (bif d1 then (bif d2 then (bif d3 then true else false) else false) else false), (bif d1 then (bif d2 then (bif d3 then true else false) else false) else false), (bif d1 then (bif d2 then (bif d3 then true else false) else false) else false), (bif d1 then (bif d2 then (bif d3 then true else false) else false) else false), true, true, (bif d1 then (bif d2 then (bif d3 then (bif d4 then true else false) else false) else false) else false), (bif d1 then (bif d2 then (bif d3 then (bif d4 then true else false) else false) else false) else false), (bif d1 then (bif d2 then (bif d3 then (bif d4 then true else false) else false) else false) else false), (bif d1 then (bif d2 then (bif d3 then (bif d4 then true else false) else false) else false) else false), (bif d1 then (bif d2 then (bif d3 then (bif d4 then true else false) else false) else false) else false), (bif d1 then (bif d2 then (bif d3 then (bif d4 then true else false) else false) else false) else false), (bif d1 then (bif d2 then (bif d3 then (bif d4 then true else false) else false) else false) else false), true] ?_ (fun u W hS hR => hend u W hS (by have h := hR 30 (by decide); cases d1 <;> cases d2 <;> cases d3 <;> cases d4 <;> exact h))
 unfold xZ
 repeat' first | exact trivial | refine dR.cons rfl (fun u W hS hd => ?_) ?_
 ·refine DoesG.plain rfl ?_
  exact aB _ rfl (aC _) ((eout u 6 rfl).trans h6) trivial hS
 ·cases d1 with
  | true =>
   refine DoesG.plain rfl ?_
   have e0 : u 136 = (.int .i64 (bs.length : Int)) := hd.1
   exact aB _ rfl (fK _ _ (bs.length : Int) 5 true ((ein u 136 rfl).trans e0) rfl q_d1) rfl trivial hS
  | false =>
   refine DoesG.plain rfl ?_
   have e0 : u 136 = (.int .i64 (bs.length : Int)) := hd.1
   exact aB _ rfl (fK _ _ (bs.length : Int) 5 false ((ein u 136 rfl).trans e0) rfl q_d1) rfl trivial hS
 ·cases d1 with
  | true =>
   refine DoesG.plain rfl ?_
   have e1 : u 137 = (.bool true) := hd.1
   exact aB _ rfl (aC _) ((ein u 137 rfl).trans e1) trivial hS
  | false =>
   refine DoesG.plain rfl ?_
   have e1 : u 137 = (.bool false) := hd.1
   exact aB _ rfl (aC _) ((ein u 137 rfl).trans e1) trivial hS
 ·cases d1 <;> first
   | exact DoesG.pass (aH a bR u 2 138 rfl rfl rfl (by decide) (by omega) (show u 138 = (.bool false) from hd.1)) rfl hS
   | (have e2 : u 138 = (.bool true) := hd.1
      refine DoesG.run (aF a bR u 2 138 rfl rfl rfl (by decide) (by omega) e2) ?_
      exact aB _ rfl (aC _) ((eout u 5 rfl).trans h5) trivial hS)
 ·cases d1 <;> first
   | exact DoesG.pass (aH a bR u 2 138 rfl rfl rfl (by decide) (by omega) (show u 138 = (.bool false) from hd.2.1)) rfl hS
   | (have e2 : u 138 = (.bool true) := hd.2.1
      refine DoesG.run (aF a bR u 2 138 rfl rfl rfl (by decide) (by omega) e2) ?_
      have e3 : u 139 = (.slice (some ⟨b, o, none⟩) bs.length c) := hd.1
      have hj := eO b o bs.length c 2 1 bs w W rfl rfl (by have := of_decide_eq_true q_d1; omega) hl hx hb hcc hS
      rw [← e3, ← ein u 139 rfl] at hj
      refine aN _ rfl (bF _ _ _ _ (ef u _) rfl bO) _ hj ?_
      rintro e w' ⟨rfl, nq, rfl⟩
      exact ⟨_, rfl, rfl, trivial, cH hS nq⟩)
 ·cases d1 with
  | true =>
   cases d2 with
   | true =>
    have e2 : u 138 = (.bool true) := hd.2.1
    refine DoesG.run (aF a bR u 2 138 rfl rfl rfl (by decide) (by omega) e2) ?_
    have e4 : u 140 = (.int .i64 (wAt bs 1 : Int)) := hd.1
    exact aB _ rfl (fK _ _ (wAt bs 1 : Int) 1 true ((ein u 140 rfl).trans e4) rfl q_d2) rfl trivial hS
   | false =>
    have e2 : u 138 = (.bool true) := hd.2.1
    refine DoesG.run (aF a bR u 2 138 rfl rfl rfl (by decide) (by omega) e2) ?_
    have e4 : u 140 = (.int .i64 (wAt bs 1 : Int)) := hd.1
    exact aB _ rfl (fK _ _ (wAt bs 1 : Int) 1 false ((ein u 140 rfl).trans e4) rfl q_d2) rfl trivial hS
  | false =>
   have e2 : u 138 = (.bool false) := hd.2.1
   exact DoesG.pass (aH a bR u 2 138 rfl rfl rfl (by decide) (by omega) e2) rfl hS
 ·cases d1 with
  | true =>
   cases d2 with
   | true =>
    refine DoesG.plain rfl ?_
    have e2 : u 138 = (.bool true) := hd.1
    have e5 : u 141 = (.bool true) := hd.2.1
    exact aB _ rfl (aL _ _ true (true) (true) ((ein u 138 rfl).trans e2) (fun _ => ((ein u 141 rfl).trans e5)) rfl (Bool.true_and _)) rfl trivial hS
   | false =>
    refine DoesG.plain rfl ?_
    have e2 : u 138 = (.bool true) := hd.1
    have e5 : u 141 = (.bool false) := hd.2.1
    exact aB _ rfl (aL _ _ true (false) (false) ((ein u 138 rfl).trans e2) (fun _ => ((ein u 141 rfl).trans e5)) rfl (Bool.true_and _)) rfl trivial hS
  | false =>
   refine DoesG.plain rfl ?_
   have e2 : u 138 = (.bool false) := hd.1
   exact aB _ rfl (aL _ _ false false false ((ein u 138 rfl).trans e2) (fun h => by cases h) rfl rfl) rfl trivial hS
 ·cases d1 with
  | true =>
   cases d2 with
   | true =>
    refine DoesG.plain rfl ?_
    have e6 : u 142 = (.bool true) := hd.1
    exact aB _ rfl (aC _) ((ein u 142 rfl).trans e6) trivial hS
   | false =>
    refine DoesG.plain rfl ?_
    have e6 : u 142 = (.bool false) := hd.1
    exact aB _ rfl (aC _) ((ein u 142 rfl).trans e6) trivial hS
  | false =>
   refine DoesG.plain rfl ?_
   have e6 : u 142 = (.bool false) := hd.1
   exact aB _ rfl (aC _) ((ein u 142 rfl).trans e6) trivial hS
 ·cases d1 <;> cases d2 <;> first
   | exact DoesG.pass (aH a bR u 7 143 rfl rfl rfl (by decide) (by omega) (show u 143 = (.bool false) from hd.1)) rfl hS
   | (have e7 : u 143 = (.bool true) := hd.1
      refine DoesG.run (aF a bR u 7 143 rfl rfl rfl (by decide) (by omega) e7) ?_
      exact aB _ rfl (aC _) ((eout u 5 rfl).trans h5) trivial hS)
 ·cases d1 <;> cases d2 <;> first
   | exact DoesG.pass (aH a bR u 7 143 rfl rfl rfl (by decide) (by omega) (show u 143 = (.bool false) from hd.2.1)) rfl hS
   | (have e7 : u 143 = (.bool true) := hd.2.1
      refine DoesG.run (aF a bR u 7 143 rfl rfl rfl (by decide) (by omega) e7) ?_
      have e8 : u 144 = (.slice (some ⟨b, o, none⟩) bs.length c) := hd.1
      have hj := eO b o bs.length c 2 1 bs w W rfl rfl (by have := of_decide_eq_true q_d1; omega) hl hx hb hcc hS
      rw [← e8, ← ein u 144 rfl] at hj
      refine aN _ rfl (bF _ _ _ _ (ef u _) rfl bO) _ hj ?_
      rintro e w' ⟨rfl, nq, rfl⟩
      exact ⟨_, rfl, rfl, trivial, cH hS nq⟩)
 ·cases d1 <;> cases d2 <;> first
   | exact DoesG.pass (aH a bR u 7 143 rfl rfl rfl (by decide) (by omega) (show u 143 = (.bool false) from hd.2.1)) rfl hS
   | skip
  cases d3 with
  | true =>
   have e7 : u 143 = (.bool true) := hd.2.1
   refine DoesG.run (aF a bR u 7 143 rfl rfl rfl (by decide) (by omega) e7) ?_
   have e9 : u 145 = (.int .i64 (wAt bs 1 : Int)) := hd.1
   exact aB _ rfl (lE _ _ (wAt bs 1 : Int) 123 true ((ein u 145 rfl).trans e9) rfl q_d3) rfl trivial hS
  | false =>
   have e7 : u 143 = (.bool true) := hd.2.1
   refine DoesG.run (aF a bR u 7 143 rfl rfl rfl (by decide) (by omega) e7) ?_
   have e9 : u 145 = (.int .i64 (wAt bs 1 : Int)) := hd.1
   exact aB _ rfl (lE _ _ (wAt bs 1 : Int) 123 false ((ein u 145 rfl).trans e9) rfl q_d3) rfl trivial hS
 ·cases d1 with
  | true =>
   cases d2 with
   | true =>
    cases d3 with
    | true =>
     refine DoesG.plain rfl ?_
     have e7 : u 143 = (.bool true) := hd.1
     have e10 : u 146 = (.bool true) := hd.2.1
     exact aB _ rfl (aL _ _ true (true) (true) ((ein u 143 rfl).trans e7) (fun _ => ((ein u 146 rfl).trans e10)) rfl (Bool.true_and _)) rfl trivial hS
    | false =>
     refine DoesG.plain rfl ?_
     have e7 : u 143 = (.bool true) := hd.1
     have e10 : u 146 = (.bool false) := hd.2.1
     exact aB _ rfl (aL _ _ true (false) (false) ((ein u 143 rfl).trans e7) (fun _ => ((ein u 146 rfl).trans e10)) rfl (Bool.true_and _)) rfl trivial hS
   | false =>
    refine DoesG.plain rfl ?_
    have e7 : u 143 = (.bool false) := hd.1
    exact aB _ rfl (aL _ _ false false false ((ein u 143 rfl).trans e7) (fun h => by cases h) rfl rfl) rfl trivial hS
  | false =>
   refine DoesG.plain rfl ?_
   have e7 : u 143 = (.bool false) := hd.1
   exact aB _ rfl (aL _ _ false false false ((ein u 143 rfl).trans e7) (fun h => by cases h) rfl rfl) rfl trivial hS
 ·cases d1 with
  | true =>
   cases d2 with
   | true =>
    cases d3 with
    | true =>
     refine DoesG.plain rfl ?_
     have e11 : u 147 = (.bool true) := hd.1
     exact aB _ rfl (aC _) ((ein u 147 rfl).trans e11) trivial hS
    | false =>
     refine DoesG.plain rfl ?_
     have e11 : u 147 = (.bool false) := hd.1
     exact aB _ rfl (aC _) ((ein u 147 rfl).trans e11) trivial hS
   | false =>
    refine DoesG.plain rfl ?_
    have e11 : u 147 = (.bool false) := hd.1
    exact aB _ rfl (aC _) ((ein u 147 rfl).trans e11) trivial hS
  | false =>
   refine DoesG.plain rfl ?_
   have e11 : u 147 = (.bool false) := hd.1
   exact aB _ rfl (aC _) ((ein u 147 rfl).trans e11) trivial hS
 ·cases d1 <;> cases d2 <;> cases d3 <;> first
   | exact DoesG.pass (aH a bR u 12 148 rfl rfl rfl (by decide) (by omega) (show u 148 = (.bool false) from hd.1)) rfl hS
   | (have e12 : u 148 = (.bool true) := hd.1
      refine DoesG.run (aF a bR u 12 148 rfl rfl rfl (by decide) (by omega) e12) ?_
      exact aB _ rfl (aC _) ((eout u 5 rfl).trans h5) trivial hS)
 ·cases d1 <;> cases d2 <;> cases d3 <;> first
   | exact DoesG.pass (aH a bR u 12 148 rfl rfl rfl (by decide) (by omega) (show u 148 = (.bool false) from hd.2.1)) rfl hS
   | (have e12 : u 148 = (.bool true) := hd.2.1
      refine DoesG.run (aF a bR u 12 148 rfl rfl rfl (by decide) (by omega) e12) ?_
      have e13 : u 149 = (.slice (some ⟨b, o, none⟩) bs.length c) := hd.1
      exact aB _ rfl (fF _ _ b o bs.length c 4 ((ein u 149 rfl).trans e13) rfl (by have := of_decide_eq_true q_d1; omega)) rfl trivial hS)
 ·cases d1 <;> cases d2 <;> cases d3 <;> first
   | exact DoesG.pass (aH a bR u 12 148 rfl rfl rfl (by decide) (by omega) (show u 148 = (.bool false) from hd.2.1)) rfl hS
   | (have e12 : u 148 = (.bool true) := hd.2.1
      refine DoesG.run (aF a bR u 12 148 rfl rfl rfl (by decide) (by omega) e12) ?_
      have e14 : u 150 = (.pointer (some ⟨b, o + 4, none⟩)) := hd.1
      exact aB _ rfl (eI _ b (o + 4) (bs.getD 4 0) ((ein u 150 rfl).trans e14) ((hS.cell (by exact hb)).trans (hcc 4 (by have := of_decide_eq_true q_d1; omega)))) rfl trivial hS)
 ·cases d1 <;> cases d2 <;> cases d3 <;> first
   | exact DoesG.pass (aH a bR u 12 148 rfl rfl rfl (by decide) (by omega) (show u 148 = (.bool false) from hd.2.1)) rfl hS
   | (have e12 : u 148 = (.bool true) := hd.2.1
      refine DoesG.run (aF a bR u 12 148 rfl rfl rfl (by decide) (by omega) e12) ?_
      have e15 : u 151 = (.int .u8 (bs.getD 4 0)) := hd.1
      exact aB _ rfl (gT _ (bs.getD 4 0) ((ein u 151 rfl).trans e15) (hx.at 4).1 (hx.at 4).2) rfl trivial hS)
 ·cases d1 <;> cases d2 <;> cases d3 <;> first
   | exact DoesG.pass (aH a bR u 12 148 rfl rfl rfl (by decide) (by omega) (show u 148 = (.bool false) from hd.1)) rfl hS
   | (have e12 : u 148 = (.bool true) := hd.1
      refine DoesG.run (aF a bR u 12 148 rfl rfl rfl (by decide) (by omega) e12) ?_
      exact aB _ rfl (aC _) ((eout u 5 rfl).trans h5) trivial hS)
 ·cases d1 <;> cases d2 <;> cases d3 <;> first
   | exact DoesG.pass (aH a bR u 12 148 rfl rfl rfl (by decide) (by omega) (show u 148 = (.bool false) from hd.2.1)) rfl hS
   | (have e12 : u 148 = (.bool true) := hd.2.1
      refine DoesG.run (aF a bR u 12 148 rfl rfl rfl (by decide) (by omega) e12) ?_
      have e17 : u 153 = (.slice (some ⟨b, o, none⟩) bs.length c) := hd.1
      have hj := eO b o bs.length c 2 1 bs w W rfl rfl (by have := of_decide_eq_true q_d1; omega) hl hx hb hcc hS
      rw [← e17, ← ein u 153 rfl] at hj
      refine aN _ rfl (bF _ _ _ _ (ef u _) rfl bO) _ hj ?_
      rintro e w' ⟨rfl, nq, rfl⟩
      exact ⟨_, rfl, rfl, trivial, cH hS nq⟩)
 ·cases d1 <;> cases d2 <;> cases d3 <;> first
   | exact DoesG.pass (aH a bR u 12 148 rfl rfl rfl (by decide) (by omega) (show u 148 = (.bool false) from hd.2.1)) rfl hS
   | (have e12 : u 148 = (.bool true) := hd.2.1
      refine DoesG.run (aF a bR u 12 148 rfl rfl rfl (by decide) (by omega) e12) ?_
      have e18 : u 154 = (.int .i64 (wAt bs 1 : Int)) := hd.1
      exact aB _ rfl (uQ _ (wAt bs 1 : Int) (fun _ => by simp [Act.eval]) ((ein u 154 rfl).trans e18) (by omega) (by omega)) rfl trivial hS)
 ·cases d1 <;> cases d2 <;> cases d3 <;> first
   | exact DoesG.pass (aH a bR u 12 148 rfl rfl rfl (by decide) (by omega) (show u 148 = (.bool false) from hd.2.2.1)) rfl hS
   | skip
  cases d4 with
  | true =>
   have e12 : u 148 = (.bool true) := hd.2.2.1
   refine DoesG.run (aF a bR u 12 148 rfl rfl rfl (by decide) (by omega) e12) ?_
   have e16 : u 152 = (.int .i64 (bs.getD 4 0)) := hd.1
   have e19 : u 155 = (.int .i64 (2 * (wAt bs 1 : Int))) := hd.2.1
   exact aB _ rfl (dM _ _ (bs.getD 4 0) (2 * (wAt bs 1 : Int)) true ((ein u 152 rfl).trans e16) ((ein u 155 rfl).trans e19) q_d4) rfl trivial hS
  | false =>
   have e12 : u 148 = (.bool true) := hd.2.2.1
   refine DoesG.run (aF a bR u 12 148 rfl rfl rfl (by decide) (by omega) e12) ?_
   have e16 : u 152 = (.int .i64 (bs.getD 4 0)) := hd.1
   have e19 : u 155 = (.int .i64 (2 * (wAt bs 1 : Int))) := hd.2.1
   exact aB _ rfl (dM _ _ (bs.getD 4 0) (2 * (wAt bs 1 : Int)) false ((ein u 152 rfl).trans e16) ((ein u 155 rfl).trans e19) q_d4) rfl trivial hS
 ·cases d1 with
  | true =>
   cases d2 with
   | true =>
    cases d3 with
    | true =>
     cases d4 with
     | true =>
      refine DoesG.plain rfl ?_
      have e12 : u 148 = (.bool true) := hd.1
      have e20 : u 156 = (.bool true) := hd.2.1
      exact aB _ rfl (aL _ _ true (true) (true) ((ein u 148 rfl).trans e12) (fun _ => ((ein u 156 rfl).trans e20)) rfl (Bool.true_and _)) rfl trivial hS
     | false =>
      refine DoesG.plain rfl ?_
      have e12 : u 148 = (.bool true) := hd.1
      have e20 : u 156 = (.bool false) := hd.2.1
      exact aB _ rfl (aL _ _ true (false) (false) ((ein u 148 rfl).trans e12) (fun _ => ((ein u 156 rfl).trans e20)) rfl (Bool.true_and _)) rfl trivial hS
    | false =>
     refine DoesG.plain rfl ?_
     have e12 : u 148 = (.bool false) := hd.1
     exact aB _ rfl (aL _ _ false false false ((ein u 148 rfl).trans e12) (fun h => by cases h) rfl rfl) rfl trivial hS
   | false =>
    refine DoesG.plain rfl ?_
    have e12 : u 148 = (.bool false) := hd.1
    exact aB _ rfl (aL _ _ false false false ((ein u 148 rfl).trans e12) (fun h => by cases h) rfl rfl) rfl trivial hS
  | false =>
   refine DoesG.plain rfl ?_
   have e12 : u 148 = (.bool false) := hd.1
   exact aB _ rfl (aL _ _ false false false ((ein u 148 rfl).trans e12) (fun h => by cases h) rfl rfl) rfl trivial hS
 ·cases d1 with
  | true =>
   cases d2 with
   | true =>
    cases d3 with
    | true =>
     cases d4 with
     | true =>
      refine DoesG.plain rfl ?_
      have e21 : u 157 = (.bool true) := hd.1
      exact aB _ rfl (aC _) ((ein u 157 rfl).trans e21) trivial hS
     | false =>
      refine DoesG.plain rfl ?_
      have e21 : u 157 = (.bool false) := hd.1
      exact aB _ rfl (aC _) ((ein u 157 rfl).trans e21) trivial hS
    | false =>
     refine DoesG.plain rfl ?_
     have e21 : u 157 = (.bool false) := hd.1
     exact aB _ rfl (aC _) ((ein u 157 rfl).trans e21) trivial hS
   | false =>
    refine DoesG.plain rfl ?_
    have e21 : u 157 = (.bool false) := hd.1
    exact aB _ rfl (aC _) ((ein u 157 rfl).trans e21) trivial hS
  | false =>
   refine DoesG.plain rfl ?_
   have e21 : u 157 = (.bool false) := hd.1
   exact aB _ rfl (aC _) ((ein u 157 rfl).trans e21) trivial hS
 ·cases d1 <;> cases d2 <;> cases d3 <;> cases d4 <;> first
   | exact DoesG.pass (aH a bR u 22 158 rfl rfl rfl (by decide) (by omega) (show u 158 = (.bool false) from hd.1)) rfl hS
   | (have e22 : u 158 = (.bool true) := hd.1
      refine DoesG.run (aF a bR u 22 158 rfl rfl rfl (by decide) (by omega) e22) ?_
      exact aB _ rfl (aC _) ((eout u 6 rfl).trans h6) trivial hS)
 ·cases d1 <;> cases d2 <;> cases d3 <;> cases d4 <;> first
   | exact DoesG.pass (aH a bR u 22 158 rfl rfl rfl (by decide) (by omega) (show u 158 = (.bool false) from hd.1)) rfl hS
   | (have e22 : u 158 = (.bool true) := hd.1
      refine DoesG.run (aF a bR u 22 158 rfl rfl rfl (by decide) (by omega) e22) ?_
      exact aB _ rfl (aC _) ((eout u 5 rfl).trans h5) trivial hS)
 ·cases d1 <;> cases d2 <;> cases d3 <;> cases d4 <;> first
   | exact DoesG.pass (aH a bR u 22 158 rfl rfl rfl (by decide) (by omega) (show u 158 = (.bool false) from hd.2.1)) rfl hS
   | (have e22 : u 158 = (.bool true) := hd.2.1
      refine DoesG.run (aF a bR u 22 158 rfl rfl rfl (by decide) (by omega) e22) ?_
      have e24 : u 160 = (.slice (some ⟨b, o, none⟩) bs.length c) := hd.1
      exact aB _ rfl (fF _ _ b o bs.length c 4 ((ein u 160 rfl).trans e24) rfl (by have := of_decide_eq_true q_d1; omega)) rfl trivial hS)
 ·cases d1 <;> cases d2 <;> cases d3 <;> cases d4 <;> first
   | exact DoesG.pass (aH a bR u 22 158 rfl rfl rfl (by decide) (by omega) (show u 158 = (.bool false) from hd.2.1)) rfl hS
   | (have e22 : u 158 = (.bool true) := hd.2.1
      refine DoesG.run (aF a bR u 22 158 rfl rfl rfl (by decide) (by omega) e22) ?_
      have e25 : u 161 = (.pointer (some ⟨b, o + 4, none⟩)) := hd.1
      exact aB _ rfl (eI _ b (o + 4) (bs.getD 4 0) ((ein u 161 rfl).trans e25) ((hS.cell (by exact hb)).trans (hcc 4 (by have := of_decide_eq_true q_d1; omega)))) rfl trivial hS)
 ·cases d1 <;> cases d2 <;> cases d3 <;> cases d4 <;> first
   | exact DoesG.pass (aH a bR u 22 158 rfl rfl rfl (by decide) (by omega) (show u 158 = (.bool false) from hd.2.1)) rfl hS
   | (have e22 : u 158 = (.bool true) := hd.2.1
      refine DoesG.run (aF a bR u 22 158 rfl rfl rfl (by decide) (by omega) e22) ?_
      have e26 : u 162 = (.int .u8 (bs.getD 4 0)) := hd.1
      exact aB _ rfl (gT _ (bs.getD 4 0) ((ein u 162 rfl).trans e26) (hx.at 4).1 (hx.at 4).2) rfl trivial hS)
 ·cases d1 <;> cases d2 <;> cases d3 <;> cases d4 <;> first
   | exact DoesG.pass (aH a bR u 22 158 rfl rfl rfl (by decide) (by omega) (show u 158 = (.bool false) from hd.2.1)) rfl hS
   | (have e22 : u 158 = (.bool true) := hd.2.1
      refine DoesG.run (aF a bR u 22 158 rfl rfl rfl (by decide) (by omega) e22) ?_
      have e27 : u 163 = (.int .i64 (bs.getD 4 0)) := hd.1
      exact aB _ rfl (iB _ _ 5 (bs.getD 4 0) rfl ((ein u 163 rfl).trans e27) (by omega) (by omega) (hx.at 4).1 (by have := (hx.at 4).2; omega)) rfl trivial hS)
 ·cases d1 <;> cases d2 <;> cases d3 <;> cases d4 <;> first
   | exact DoesG.pass (aH a bR u 22 158 rfl rfl rfl (by decide) (by omega) (show u 158 = (.bool false) from hd.2.2.1)) rfl hS
   | (have e22 : u 158 = (.bool true) := hd.2.2.1
      refine DoesG.run (aF a bR u 22 158 rfl rfl rfl (by decide) (by omega) e22) ?_
      have e23 : u 159 = (.int .i64 (bs.length : Int)) := hd.1
      have e28 : u 164 = (.int .i64 (5 + bs.getD 4 0)) := hd.2.1
      exact aB _ rfl (dM _ _ (bs.length : Int) (5 + bs.getD 4 0) d5 ((ein u 159 rfl).trans e23) ((ein u 164 rfl).trans e28) q_d5) rfl trivial hS)
 ·cases d1 with
  | true =>
   cases d2 with
   | true =>
    cases d3 with
    | true =>
     cases d4 with
     | true =>
      refine DoesG.plain rfl ?_
      have e22 : u 158 = (.bool true) := hd.1
      have e29 : u 165 = (.bool d5) := hd.2.1
      exact aB _ rfl (aL _ _ true (d5) (d5) ((ein u 158 rfl).trans e22) (fun _ => ((ein u 165 rfl).trans e29)) rfl (Bool.true_and _)) rfl trivial hS
     | false =>
      refine DoesG.plain rfl ?_
      have e22 : u 158 = (.bool false) := hd.1
      exact aB _ rfl (aL _ _ false false false ((ein u 158 rfl).trans e22) (fun h => by cases h) rfl rfl) rfl trivial hS
    | false =>
     refine DoesG.plain rfl ?_
     have e22 : u 158 = (.bool false) := hd.1
     exact aB _ rfl (aL _ _ false false false ((ein u 158 rfl).trans e22) (fun h => by cases h) rfl rfl) rfl trivial hS
   | false =>
    refine DoesG.plain rfl ?_
    have e22 : u 158 = (.bool false) := hd.1
    exact aB _ rfl (aL _ _ false false false ((ein u 158 rfl).trans e22) (fun h => by cases h) rfl rfl) rfl trivial hS
  | false =>
   refine DoesG.plain rfl ?_
   have e22 : u 158 = (.bool false) := hd.1
   exact aB _ rfl (aL _ _ false false false ((ein u 158 rfl).trans e22) (fun h => by cases h) rfl rfl) rfl trivial hS
def xW : List Oper := [
 ⟨some 197, .move (.tmp 6), 3, "relay.go:243", #[], none⟩,
 ⟨some 198, .binOp .geq 3 (.tmp 197) (.const (.int .i64 9)) 3, 4, "relay.go:243", #[⟨0, .data⟩], none⟩,
 ⟨some 199, .move (.tmp 198), 4, "relay.go:243", #[⟨1, .data⟩], none⟩,
 ⟨some 200, .move (.tmp 5), 37, "relay.go:243", #[⟨2, .guard⟩], some (2, true)⟩,
 ⟨some 201, .call { callee := .value (.func 176), args := #[.tmp 200, .const (.int .i64 2)], argTypes := #[37, 3] }, 3, "relay.go:243", #[⟨3, .data⟩, ⟨2, .chain⟩, ⟨2, .guard⟩], some (2, true)⟩,
 ⟨some 202, .call { callee := .value (.func 177), args := #[.tmp 201, .const (.int .i64 1), .const (.int .i64 125)], argTypes := #[3, 3, 3] }, 4, "relay.go:243", #[⟨4, .data⟩, ⟨4, .chain⟩, ⟨2, .guard⟩], some (2, true)⟩,
 ⟨some 203, .pick (.tmp 199) (.tmp 202) (.const (.bool false)), 4, "relay.go:243", #[⟨2, .data⟩, ⟨5, .data⟩], none⟩,
 ⟨some 204, .move (.tmp 203), 4, "relay.go:243", #[⟨6, .data⟩, ⟨5, .chain⟩], none⟩,
 ⟨some 205, .move (.tmp 5), 37, "relay.go:243", #[⟨7, .guard⟩], some (7, true)⟩,
 ⟨some 206, .call { callee := .value (.func 176), args := #[.tmp 205, .const (.int .i64 6)], argTypes := #[37, 3] }, 3, "relay.go:243", #[⟨8, .data⟩, ⟨7, .chain⟩, ⟨7, .guard⟩], some (7, true)⟩,
 ⟨some 207, .call { callee := .value (.func 177), args := #[.tmp 206, .const (.int .i64 1), .const (.int .i64 121)], argTypes := #[3, 3, 3] }, 4, "relay.go:243", #[⟨9, .data⟩, ⟨9, .chain⟩, ⟨7, .guard⟩], some (7, true)⟩,
 ⟨some 208, .pick (.tmp 204) (.tmp 207) (.const (.bool false)), 4, "relay.go:243", #[⟨7, .data⟩, ⟨10, .data⟩], none⟩,
 ⟨some 209, .move (.tmp 208), 4, "relay.go:243", #[⟨11, .data⟩, ⟨10, .chain⟩], none⟩,
 ⟨some 210, .move (.tmp 5), 37, "relay.go:243", #[⟨12, .guard⟩], some (12, true)⟩,
 ⟨some 211, .indexAddr 37 (.tmp 210) (.const (.int .i64 8)), 0, "relay.go:243", #[⟨13, .data⟩, ⟨12, .guard⟩], some (12, true)⟩,
 ⟨some 212, .load 5 (.tmp 211), 5, "relay.go:243", #[⟨14, .data⟩, ⟨12, .guard⟩], some (12, true)⟩,
 ⟨some 213, .convert 5 3 (.tmp 212), 3, "relay.go:243", #[⟨15, .data⟩, ⟨12, .guard⟩], some (12, true)⟩,
 ⟨some 214, .move (.tmp 5), 37, "relay.go:243", #[⟨12, .guard⟩], some (12, true)⟩,
 ⟨some 215, .call { callee := .value (.func 176), args := #[.tmp 214, .const (.int .i64 6)], argTypes := #[37, 3] }, 3, "relay.go:243", #[⟨17, .data⟩, ⟨12, .chain⟩, ⟨12, .guard⟩], some (12, true)⟩,
 ⟨some 216, .binOp .mul 3 (.const (.int .i64 2)) (.tmp 215) 3, 3, "relay.go:243", #[⟨18, .data⟩, ⟨12, .guard⟩], some (12, true)⟩,
 ⟨some 217, .binOp .eql 3 (.tmp 213) (.tmp 216) 3, 4, "relay.go:243", #[⟨16, .data⟩, ⟨19, .data⟩, ⟨12, .guard⟩], some (12, true)⟩,
 ⟨some 218, .pick (.tmp 209) (.tmp 217) (.const (.bool false)), 4, "relay.go:243", #[⟨12, .data⟩, ⟨20, .data⟩], none⟩,
 ⟨some 219, .move (.tmp 218), 4, "relay.go:243", #[⟨21, .data⟩, ⟨18, .chain⟩], none⟩,
 ⟨some 220, .move (.tmp 6), 3, "relay.go:243", #[⟨22, .guard⟩], some (22, true)⟩,
 ⟨some 221, .move (.tmp 5), 37, "relay.go:243", #[⟨22, .guard⟩], some (22, true)⟩,
 ⟨some 222, .indexAddr 37 (.tmp 221) (.const (.int .i64 8)), 0, "relay.go:243", #[⟨24, .data⟩, ⟨22, .guard⟩], some (22, true)⟩,
 ⟨some 223, .load 5 (.tmp 222), 5, "relay.go:243", #[⟨25, .data⟩, ⟨22, .guard⟩], some (22, true)⟩,
 ⟨some 224, .convert 5 3 (.tmp 223), 3, "relay.go:243", #[⟨26, .data⟩, ⟨22, .guard⟩], some (22, true)⟩,
 ⟨some 225, .binOp .add 3 (.const (.int .i64 9)) (.tmp 224) 3, 3, "relay.go:243", #[⟨27, .data⟩, ⟨22, .guard⟩], some (22, true)⟩,
 ⟨some 226, .binOp .eql 3 (.tmp 220) (.tmp 225) 3, 4, "relay.go:243", #[⟨23, .data⟩, ⟨28, .data⟩, ⟨22, .guard⟩], some (22, true)⟩,
 ⟨some 227, .pick (.tmp 219) (.tmp 226) (.const (.bool false)), 4, "relay.go:243", #[⟨22, .data⟩, ⟨29, .data⟩], none⟩]
def bQ : List (Option Nat) := [some 197, some 198, some 199, some 200, some 201, some 202, some 203, some 204, some 205, some 206, some 207, some 208, some 209, some 210, some 211, some 212, some 213, some 214, some 215, some 216, some 217, some 218, some 219, some 220, some 221, some 222, some 223, some 224, some 225, some 226, some 227]
theorem aF3 (a : Act) (Q : Exit → Act → World → Prop) (w : World) (id : Nat) (b o c : Nat) (bs : List Int) (d1 d2 d3 d4 d5 : Bool) (hsz : 244 ≤ a.tmps.size)
  (hl : bs.length ≤ 1000) (hx : Bys bs) (hb : b < w.heap.size) (hcc : ∀ i, i < bs.length → w.cell? ⟨b, o + i, none⟩ = some (.int .u8 (bs.getD i 0))) (h5 : a.eval (.tmp 5) = .slice (some ⟨b, o, none⟩) bs.length c) (h6 : a.eval (.tmp 6) = .int .i64 (bs.length : Int)) (q_d1 : decide ((9 : Int) ≤ (bs.length : Int)) = d1) (q_d2 : inB 1 (wAt bs 1 : Int) 125 = d2) (q_d3 : inB 1 (wAt bs 3 : Int) 121 = d3) (q_d4 : (bs.getD 8 0 == 2 * (wAt bs 3 : Int)) = d4) (q_d5 : ((bs.length : Int) == 9 + bs.getD 8 0) = d5)
  (hend : ∀ u W, Below w.heap.size w W → u 227 = .bool (d1 && d2 && d3 && d4 && d5) → Q .normal (over a bQ u) W) : (Code.region id xW.toArray true).wp Tryz.prog Q a w := by
 have ein : ∀ u k, inS bQ 244 k = true → (over a bQ u).eval (.tmp k) = u k := cQ a bQ 244 hsz
 have eout : ∀ u k, outS bQ 244 k = true → (over a bQ u).eval (.tmp k) = a.eval (.tmp k) := cF a bQ 244 hsz
 have ef : ∀ u f, (over a bQ u).eval (.func f) = .func (.func f) #[] #[] := fun u f => by simp [Act.eval]
 have w1 := dU bs hx 1
 have w3 := dU bs hx 3
 refine eX bQ (fun W => Below w.heap.size w W) (fun _ _ => True) (RV [some ((.int .i64 (bs.length : Int))), some ((bif d1 then (.bool true) else (.bool false))), some ((bif d1 then (.bool true) else (.bool false))), some ((bif d1 then (.slice (some ⟨b, o, none⟩) bs.length c) else undef)), some ((bif d1 then (.int .i64 (wAt bs 1 : Int)) else undef)), some ((bif d1 then (bif d2 then (.bool true) else (.bool false)) else undef)), some ((bif d1 then (bif d2 then (.bool true) else (.bool false)) else (.bool false))), some ((bif d1 then (bif d2 then (.bool true) else (.bool false)) else (.bool false))), some ((bif d1 then (bif d2 then (.slice (some ⟨b, o, none⟩) bs.length c) else undef) else undef)), some ((bif d1 then (bif d2 then (.int .i64 (wAt bs 3 : Int)) else undef) else undef)), some ((bif d1 then (bif d2 then (bif d3 then (.bool true) else (.bool false)) else undef) else undef)), some ((bif d1 then (bif d2 then (bif d3 then (.bool true) else (.bool false)) else (.bool false)) else (.bool false))), some ((bif d1 then (bif d2 then (bif d3 then (.bool true) else (.bool false)) else (.bool false)) else (.bool false))), some ((bif d1 then (bif d2 then (bif d3 then (.slice (some ⟨b, o, none⟩) bs.length c) else undef) else undef) else undef)), some ((bif d1 then (bif d2 then (bif d3 then (.pointer (some ⟨b, o + 8, none⟩)) else undef) else undef) else undef)), some ((bif d1 then (bif d2 then (bif d3 then (.int .u8 (bs.getD 8 0)) else undef) else undef) else undef)), some ((bif d1 then (bif d2 then (bif d3 then (.int .i64 (bs.getD 8 0)) else undef) else undef) else undef)), some ((bif d1 then (bif d2 then (bif d3 then (.slice (some ⟨b, o, none⟩) bs.length c) else undef) else undef) else undef)), some ((bif d1 then (bif d2 then (bif d3 then (.int .i64 (wAt bs 3 : Int)) else undef) else undef) else undef)), some ((bif d1 then (bif d2 then (bif d3 then (.int .i64 (2 * (wAt bs 3 : Int))) else undef) else undef) else undef)), some ((bif d1 then (bif d2 then (bif d3 then (bif d4 then (.bool true) else (.bool false)) else undef) else undef) else undef)), some ((bif d1 then (bif d2 then (bif d3 then (bif d4 then (.bool true) else (.bool false)) else (.bool false)) else (.bool false)) else (.bool false))), some ((bif d1 then (bif d2 then (bif d3 then (bif d4 then (.bool true) else (.bool false)) else (.bool false)) else (.bool false)) else (.bool false))), some ((bif d1 then (bif d2 then (bif d3 then (bif d4 then (.int .i64 (bs.length : Int)) else undef) else undef) else undef) else undef)), some ((bif d1 then (bif d2 then (bif d3 then (bif d4 then (.slice (some ⟨b, o, none⟩) bs.length c) else undef) else undef) else undef) else undef)), some ((bif d1 then (bif d2 then (bif d3 then (bif d4 then (.pointer (some ⟨b, o + 8, none⟩)) else undef) else undef) else undef) else undef)), some ((bif d1 then (bif d2 then (bif d3 then (bif d4 then (.int .u8 (bs.getD 8 0)) else undef) else undef) else undef) else undef)), some ((bif d1 then (bif d2 then (bif d3 then (bif d4 then (.int .i64 (bs.getD 8 0)) else undef) else undef) else undef) else undef)), some ((bif d1 then (bif d2 then (bif d3 then (bif d4 then (.int .i64 (9 + bs.getD 8 0)) else undef) else undef) else undef) else undef)), some ((bif d1 then (bif d2 then (bif d3 then (bif d4 then (.bool d5) else undef) else undef) else undef) else undef)), some ((bif d1 then (bif d2 then (bif d3 then (bif d4 then (.bool d5) else (.bool false)) else (.bool false)) else (.bool false)) else (.bool false)))]) (by kernel_rfl) (by decide) rfl (by decide) (fun _ => trivial) (fun _ _ _ _ h _ => h) ((Below.refl _ _).drew) [true, true, true, (bif d1 then true else false), (bif d1 then true else false), (bif d1 then true else false), true, true, (bif d1 then (bif d2 then true else false) else false), (bif d1 then (bif d2 then true else false) else false), (bif d1 then (bif d2 then true else false) else false), true, true, (bif d1 then (bif d2 then (bif d3 then true else false) else false) else false), (bif d1 then (bif d2 then (bif d3 then true else false) else false) else false), (bif d1 then (bif d2 then (bif d3 then true else false) else false) else false), (bif d1 then (bif d2 then (bif d3 then true else false) else false) else false), (bif d1 then (bif d2 then (bif d3 then true else false) else false) else false), (bif d1 then (bif d2 then (bif d3 then true else false) else false) else false), (bif d1 then (bif d2 then (bif d3 then true else false) else false) else false), (bif d1 then (bif d2 then (bif d3 then true else false) else false) else false), true, true, (bif d1 then (bif d2 then (bif d3 then (bif d4 then true else false) else false) else false) else false), (bif d1 then (bif d2 then (bif d3 then (bif d4 then true else false) else false) else false) else false), (bif d1 then (bif d2 then (bif d3 then (bif d4 then true else false) else false) else false) else false), (bif d1 then (bif d2 then (bif d3 then (bif d4 then true else false) else false) else false) else false), (bif d1 then (bif d2 then (bif d3 then (bif d4 then true else false) else false) else false) else false), (bif d1 then (bif d2 then (bif d3 then (bif d4 then true else false) else false) else false) else false), (bif d1 then (bif d2 then (bif d3 then (bif d4 then true else false) else false) else false) else false), true] ?_ (fun u W hS hR => hend u W hS (by have h := hR 30 (by decide); cases d1 <;> cases d2 <;> cases d3 <;> cases d4 <;> exact h))
 unfold xW
 repeat' first | exact trivial | refine dR.cons rfl (fun u W hS hd => ?_) ?_
 ·refine DoesG.plain rfl ?_
  exact aB _ rfl (aC _) ((eout u 6 rfl).trans h6) trivial hS
 ·cases d1 with
  | true =>
   refine DoesG.plain rfl ?_
   have e0 : u 197 = (.int .i64 (bs.length : Int)) := hd.1
   exact aB _ rfl (fK _ _ (bs.length : Int) 9 true ((ein u 197 rfl).trans e0) rfl q_d1) rfl trivial hS
  | false =>
   refine DoesG.plain rfl ?_
   have e0 : u 197 = (.int .i64 (bs.length : Int)) := hd.1
   exact aB _ rfl (fK _ _ (bs.length : Int) 9 false ((ein u 197 rfl).trans e0) rfl q_d1) rfl trivial hS
 ·cases d1 with
  | true =>
   refine DoesG.plain rfl ?_
   have e1 : u 198 = (.bool true) := hd.1
   exact aB _ rfl (aC _) ((ein u 198 rfl).trans e1) trivial hS
  | false =>
   refine DoesG.plain rfl ?_
   have e1 : u 198 = (.bool false) := hd.1
   exact aB _ rfl (aC _) ((ein u 198 rfl).trans e1) trivial hS
 ·cases d1 <;> first
   | exact DoesG.pass (aH a bQ u 2 199 rfl rfl rfl (by decide) (by omega) (show u 199 = (.bool false) from hd.1)) rfl hS
   | (have e2 : u 199 = (.bool true) := hd.1
      refine DoesG.run (aF a bQ u 2 199 rfl rfl rfl (by decide) (by omega) e2) ?_
      exact aB _ rfl (aC _) ((eout u 5 rfl).trans h5) trivial hS)
 ·cases d1 <;> first
   | exact DoesG.pass (aH a bQ u 2 199 rfl rfl rfl (by decide) (by omega) (show u 199 = (.bool false) from hd.2.1)) rfl hS
   | (have e2 : u 199 = (.bool true) := hd.2.1
      refine DoesG.run (aF a bQ u 2 199 rfl rfl rfl (by decide) (by omega) e2) ?_
      have e3 : u 200 = (.slice (some ⟨b, o, none⟩) bs.length c) := hd.1
      have hj := eO b o bs.length c 2 1 bs w W rfl rfl (by have := of_decide_eq_true q_d1; omega) hl hx hb hcc hS
      rw [← e3, ← ein u 200 rfl] at hj
      refine aN _ rfl (bF _ _ _ _ (ef u _) rfl bO) _ hj ?_
      rintro e w' ⟨rfl, nq, rfl⟩
      exact ⟨_, rfl, rfl, trivial, cH hS nq⟩)
 ·cases d1 with
  | true =>
   cases d2 with
   | true =>
    have e2 : u 199 = (.bool true) := hd.2.2.1
    refine DoesG.run (aF a bQ u 2 199 rfl rfl rfl (by decide) (by omega) e2) ?_
    have e4 : u 201 = (.int .i64 (wAt bs 1 : Int)) := hd.1
    have hj := lH (wAt bs 1 : Int) 1 125 W
    rw [← e4, ← ein u 201 rfl] at hj
    refine aN _ rfl (fZ _ _ _ _ _ (ef u _) kC) _ hj ?_
    rintro e w' ⟨rfl, rfl⟩
    exact ⟨_, rfl, congrArg Value.bool q_d2, trivial, hS⟩
   | false =>
    have e2 : u 199 = (.bool true) := hd.2.2.1
    refine DoesG.run (aF a bQ u 2 199 rfl rfl rfl (by decide) (by omega) e2) ?_
    have e4 : u 201 = (.int .i64 (wAt bs 1 : Int)) := hd.1
    have hj := lH (wAt bs 1 : Int) 1 125 W
    rw [← e4, ← ein u 201 rfl] at hj
    refine aN _ rfl (fZ _ _ _ _ _ (ef u _) kC) _ hj ?_
    rintro e w' ⟨rfl, rfl⟩
    exact ⟨_, rfl, congrArg Value.bool q_d2, trivial, hS⟩
  | false =>
   have e2 : u 199 = (.bool false) := hd.2.2.1
   exact DoesG.pass (aH a bQ u 2 199 rfl rfl rfl (by decide) (by omega) e2) rfl hS
 ·cases d1 with
  | true =>
   cases d2 with
   | true =>
    refine DoesG.plain rfl ?_
    have e2 : u 199 = (.bool true) := hd.1
    have e5 : u 202 = (.bool true) := hd.2.1
    exact aB _ rfl (aL _ _ true (true) (true) ((ein u 199 rfl).trans e2) (fun _ => ((ein u 202 rfl).trans e5)) rfl (Bool.true_and _)) rfl trivial hS
   | false =>
    refine DoesG.plain rfl ?_
    have e2 : u 199 = (.bool true) := hd.1
    have e5 : u 202 = (.bool false) := hd.2.1
    exact aB _ rfl (aL _ _ true (false) (false) ((ein u 199 rfl).trans e2) (fun _ => ((ein u 202 rfl).trans e5)) rfl (Bool.true_and _)) rfl trivial hS
  | false =>
   refine DoesG.plain rfl ?_
   have e2 : u 199 = (.bool false) := hd.1
   exact aB _ rfl (aL _ _ false false false ((ein u 199 rfl).trans e2) (fun h => by cases h) rfl rfl) rfl trivial hS
 ·cases d1 with
  | true =>
   cases d2 with
   | true =>
    refine DoesG.plain rfl ?_
    have e6 : u 203 = (.bool true) := hd.1
    exact aB _ rfl (aC _) ((ein u 203 rfl).trans e6) trivial hS
   | false =>
    refine DoesG.plain rfl ?_
    have e6 : u 203 = (.bool false) := hd.1
    exact aB _ rfl (aC _) ((ein u 203 rfl).trans e6) trivial hS
  | false =>
   refine DoesG.plain rfl ?_
   have e6 : u 203 = (.bool false) := hd.1
   exact aB _ rfl (aC _) ((ein u 203 rfl).trans e6) trivial hS
 ·cases d1 <;> cases d2 <;> first
   | exact DoesG.pass (aH a bQ u 7 204 rfl rfl rfl (by decide) (by omega) (show u 204 = (.bool false) from hd.1)) rfl hS
   | (have e7 : u 204 = (.bool true) := hd.1
      refine DoesG.run (aF a bQ u 7 204 rfl rfl rfl (by decide) (by omega) e7) ?_
      exact aB _ rfl (aC _) ((eout u 5 rfl).trans h5) trivial hS)
 ·cases d1 <;> cases d2 <;> first
   | exact DoesG.pass (aH a bQ u 7 204 rfl rfl rfl (by decide) (by omega) (show u 204 = (.bool false) from hd.2.1)) rfl hS
   | (have e7 : u 204 = (.bool true) := hd.2.1
      refine DoesG.run (aF a bQ u 7 204 rfl rfl rfl (by decide) (by omega) e7) ?_
      have e8 : u 205 = (.slice (some ⟨b, o, none⟩) bs.length c) := hd.1
      have hj := eO b o bs.length c 6 3 bs w W rfl rfl (by have := of_decide_eq_true q_d1; omega) hl hx hb hcc hS
      rw [← e8, ← ein u 205 rfl] at hj
      refine aN _ rfl (bF _ _ _ _ (ef u _) rfl bO) _ hj ?_
      rintro e w' ⟨rfl, nq, rfl⟩
      exact ⟨_, rfl, rfl, trivial, cH hS nq⟩)
 ·cases d1 <;> cases d2 <;> first
   | exact DoesG.pass (aH a bQ u 7 204 rfl rfl rfl (by decide) (by omega) (show u 204 = (.bool false) from hd.2.2.1)) rfl hS
   | skip
  cases d3 with
  | true =>
   have e7 : u 204 = (.bool true) := hd.2.2.1
   refine DoesG.run (aF a bQ u 7 204 rfl rfl rfl (by decide) (by omega) e7) ?_
   have e9 : u 206 = (.int .i64 (wAt bs 3 : Int)) := hd.1
   have hj := lH (wAt bs 3 : Int) 1 121 W
   rw [← e9, ← ein u 206 rfl] at hj
   refine aN _ rfl (fZ _ _ _ _ _ (ef u _) kC) _ hj ?_
   rintro e w' ⟨rfl, rfl⟩
   exact ⟨_, rfl, congrArg Value.bool q_d3, trivial, hS⟩
  | false =>
   have e7 : u 204 = (.bool true) := hd.2.2.1
   refine DoesG.run (aF a bQ u 7 204 rfl rfl rfl (by decide) (by omega) e7) ?_
   have e9 : u 206 = (.int .i64 (wAt bs 3 : Int)) := hd.1
   have hj := lH (wAt bs 3 : Int) 1 121 W
   rw [← e9, ← ein u 206 rfl] at hj
   refine aN _ rfl (fZ _ _ _ _ _ (ef u _) kC) _ hj ?_
   rintro e w' ⟨rfl, rfl⟩
   exact ⟨_, rfl, congrArg Value.bool q_d3, trivial, hS⟩
 ·cases d1 with
  | true =>
   cases d2 with
   | true =>
    cases d3 with
    | true =>
     refine DoesG.plain rfl ?_
     have e7 : u 204 = (.bool true) := hd.1
     have e10 : u 207 = (.bool true) := hd.2.1
     exact aB _ rfl (aL _ _ true (true) (true) ((ein u 204 rfl).trans e7) (fun _ => ((ein u 207 rfl).trans e10)) rfl (Bool.true_and _)) rfl trivial hS
    | false =>
     refine DoesG.plain rfl ?_
     have e7 : u 204 = (.bool true) := hd.1
     have e10 : u 207 = (.bool false) := hd.2.1
     exact aB _ rfl (aL _ _ true (false) (false) ((ein u 204 rfl).trans e7) (fun _ => ((ein u 207 rfl).trans e10)) rfl (Bool.true_and _)) rfl trivial hS
   | false =>
    refine DoesG.plain rfl ?_
    have e7 : u 204 = (.bool false) := hd.1
    exact aB _ rfl (aL _ _ false false false ((ein u 204 rfl).trans e7) (fun h => by cases h) rfl rfl) rfl trivial hS
  | false =>
   refine DoesG.plain rfl ?_
   have e7 : u 204 = (.bool false) := hd.1
   exact aB _ rfl (aL _ _ false false false ((ein u 204 rfl).trans e7) (fun h => by cases h) rfl rfl) rfl trivial hS
 ·cases d1 with
  | true =>
   cases d2 with
   | true =>
    cases d3 with
    | true =>
     refine DoesG.plain rfl ?_
     have e11 : u 208 = (.bool true) := hd.1
     exact aB _ rfl (aC _) ((ein u 208 rfl).trans e11) trivial hS
    | false =>
     refine DoesG.plain rfl ?_
     have e11 : u 208 = (.bool false) := hd.1
     exact aB _ rfl (aC _) ((ein u 208 rfl).trans e11) trivial hS
   | false =>
    refine DoesG.plain rfl ?_
    have e11 : u 208 = (.bool false) := hd.1
    exact aB _ rfl (aC _) ((ein u 208 rfl).trans e11) trivial hS
  | false =>
   refine DoesG.plain rfl ?_
   have e11 : u 208 = (.bool false) := hd.1
   exact aB _ rfl (aC _) ((ein u 208 rfl).trans e11) trivial hS
 ·cases d1 <;> cases d2 <;> cases d3 <;> first
   | exact DoesG.pass (aH a bQ u 12 209 rfl rfl rfl (by decide) (by omega) (show u 209 = (.bool false) from hd.1)) rfl hS
   | (have e12 : u 209 = (.bool true) := hd.1
      refine DoesG.run (aF a bQ u 12 209 rfl rfl rfl (by decide) (by omega) e12) ?_
      exact aB _ rfl (aC _) ((eout u 5 rfl).trans h5) trivial hS)
 ·cases d1 <;> cases d2 <;> cases d3 <;> first
   | exact DoesG.pass (aH a bQ u 12 209 rfl rfl rfl (by decide) (by omega) (show u 209 = (.bool false) from hd.2.1)) rfl hS
   | (have e12 : u 209 = (.bool true) := hd.2.1
      refine DoesG.run (aF a bQ u 12 209 rfl rfl rfl (by decide) (by omega) e12) ?_
      have e13 : u 210 = (.slice (some ⟨b, o, none⟩) bs.length c) := hd.1
      exact aB _ rfl (fF _ _ b o bs.length c 8 ((ein u 210 rfl).trans e13) rfl (by have := of_decide_eq_true q_d1; omega)) rfl trivial hS)
 ·cases d1 <;> cases d2 <;> cases d3 <;> first
   | exact DoesG.pass (aH a bQ u 12 209 rfl rfl rfl (by decide) (by omega) (show u 209 = (.bool false) from hd.2.1)) rfl hS
   | (have e12 : u 209 = (.bool true) := hd.2.1
      refine DoesG.run (aF a bQ u 12 209 rfl rfl rfl (by decide) (by omega) e12) ?_
      have e14 : u 211 = (.pointer (some ⟨b, o + 8, none⟩)) := hd.1
      exact aB _ rfl (eI _ b (o + 8) (bs.getD 8 0) ((ein u 211 rfl).trans e14) ((hS.cell (by exact hb)).trans (hcc 8 (by have := of_decide_eq_true q_d1; omega)))) rfl trivial hS)
 ·cases d1 <;> cases d2 <;> cases d3 <;> first
   | exact DoesG.pass (aH a bQ u 12 209 rfl rfl rfl (by decide) (by omega) (show u 209 = (.bool false) from hd.2.1)) rfl hS
   | (have e12 : u 209 = (.bool true) := hd.2.1
      refine DoesG.run (aF a bQ u 12 209 rfl rfl rfl (by decide) (by omega) e12) ?_
      have e15 : u 212 = (.int .u8 (bs.getD 8 0)) := hd.1
      exact aB _ rfl (gT _ (bs.getD 8 0) ((ein u 212 rfl).trans e15) (hx.at 8).1 (hx.at 8).2) rfl trivial hS)
 ·cases d1 <;> cases d2 <;> cases d3 <;> first
   | exact DoesG.pass (aH a bQ u 12 209 rfl rfl rfl (by decide) (by omega) (show u 209 = (.bool false) from hd.1)) rfl hS
   | (have e12 : u 209 = (.bool true) := hd.1
      refine DoesG.run (aF a bQ u 12 209 rfl rfl rfl (by decide) (by omega) e12) ?_
      exact aB _ rfl (aC _) ((eout u 5 rfl).trans h5) trivial hS)
 ·cases d1 <;> cases d2 <;> cases d3 <;> first
   | exact DoesG.pass (aH a bQ u 12 209 rfl rfl rfl (by decide) (by omega) (show u 209 = (.bool false) from hd.2.1)) rfl hS
   | (have e12 : u 209 = (.bool true) := hd.2.1
      refine DoesG.run (aF a bQ u 12 209 rfl rfl rfl (by decide) (by omega) e12) ?_
      have e17 : u 214 = (.slice (some ⟨b, o, none⟩) bs.length c) := hd.1
      have hj := eO b o bs.length c 6 3 bs w W rfl rfl (by have := of_decide_eq_true q_d1; omega) hl hx hb hcc hS
      rw [← e17, ← ein u 214 rfl] at hj
      refine aN _ rfl (bF _ _ _ _ (ef u _) rfl bO) _ hj ?_
      rintro e w' ⟨rfl, nq, rfl⟩
      exact ⟨_, rfl, rfl, trivial, cH hS nq⟩)
 ·cases d1 <;> cases d2 <;> cases d3 <;> first
   | exact DoesG.pass (aH a bQ u 12 209 rfl rfl rfl (by decide) (by omega) (show u 209 = (.bool false) from hd.2.1)) rfl hS
   | (have e12 : u 209 = (.bool true) := hd.2.1
      refine DoesG.run (aF a bQ u 12 209 rfl rfl rfl (by decide) (by omega) e12) ?_
      have e18 : u 215 = (.int .i64 (wAt bs 3 : Int)) := hd.1
      exact aB _ rfl (uQ _ (wAt bs 3 : Int) (fun _ => by simp [Act.eval]) ((ein u 215 rfl).trans e18) (by omega) (by omega)) rfl trivial hS)
 ·cases d1 <;> cases d2 <;> cases d3 <;> first
   | exact DoesG.pass (aH a bQ u 12 209 rfl rfl rfl (by decide) (by omega) (show u 209 = (.bool false) from hd.2.2.1)) rfl hS
   | skip
  cases d4 with
  | true =>
   have e12 : u 209 = (.bool true) := hd.2.2.1
   refine DoesG.run (aF a bQ u 12 209 rfl rfl rfl (by decide) (by omega) e12) ?_
   have e16 : u 213 = (.int .i64 (bs.getD 8 0)) := hd.1
   have e19 : u 216 = (.int .i64 (2 * (wAt bs 3 : Int))) := hd.2.1
   exact aB _ rfl (dM _ _ (bs.getD 8 0) (2 * (wAt bs 3 : Int)) true ((ein u 213 rfl).trans e16) ((ein u 216 rfl).trans e19) q_d4) rfl trivial hS
  | false =>
   have e12 : u 209 = (.bool true) := hd.2.2.1
   refine DoesG.run (aF a bQ u 12 209 rfl rfl rfl (by decide) (by omega) e12) ?_
   have e16 : u 213 = (.int .i64 (bs.getD 8 0)) := hd.1
   have e19 : u 216 = (.int .i64 (2 * (wAt bs 3 : Int))) := hd.2.1
   exact aB _ rfl (dM _ _ (bs.getD 8 0) (2 * (wAt bs 3 : Int)) false ((ein u 213 rfl).trans e16) ((ein u 216 rfl).trans e19) q_d4) rfl trivial hS
 ·cases d1 with
  | true =>
   cases d2 with
   | true =>
    cases d3 with
    | true =>
     cases d4 with
     | true =>
      refine DoesG.plain rfl ?_
      have e12 : u 209 = (.bool true) := hd.1
      have e20 : u 217 = (.bool true) := hd.2.1
      exact aB _ rfl (aL _ _ true (true) (true) ((ein u 209 rfl).trans e12) (fun _ => ((ein u 217 rfl).trans e20)) rfl (Bool.true_and _)) rfl trivial hS
     | false =>
      refine DoesG.plain rfl ?_
      have e12 : u 209 = (.bool true) := hd.1
      have e20 : u 217 = (.bool false) := hd.2.1
      exact aB _ rfl (aL _ _ true (false) (false) ((ein u 209 rfl).trans e12) (fun _ => ((ein u 217 rfl).trans e20)) rfl (Bool.true_and _)) rfl trivial hS
    | false =>
     refine DoesG.plain rfl ?_
     have e12 : u 209 = (.bool false) := hd.1
     exact aB _ rfl (aL _ _ false false false ((ein u 209 rfl).trans e12) (fun h => by cases h) rfl rfl) rfl trivial hS
   | false =>
    refine DoesG.plain rfl ?_
    have e12 : u 209 = (.bool false) := hd.1
    exact aB _ rfl (aL _ _ false false false ((ein u 209 rfl).trans e12) (fun h => by cases h) rfl rfl) rfl trivial hS
  | false =>
   refine DoesG.plain rfl ?_
   have e12 : u 209 = (.bool false) := hd.1
   exact aB _ rfl (aL _ _ false false false ((ein u 209 rfl).trans e12) (fun h => by cases h) rfl rfl) rfl trivial hS
 ·cases d1 with
  | true =>
   cases d2 with
   | true =>
    cases d3 with
    | true =>
     cases d4 with
     | true =>
      refine DoesG.plain rfl ?_
      have e21 : u 218 = (.bool true) := hd.1
      exact aB _ rfl (aC _) ((ein u 218 rfl).trans e21) trivial hS
     | false =>
      refine DoesG.plain rfl ?_
      have e21 : u 218 = (.bool false) := hd.1
      exact aB _ rfl (aC _) ((ein u 218 rfl).trans e21) trivial hS
    | false =>
     refine DoesG.plain rfl ?_
     have e21 : u 218 = (.bool false) := hd.1
     exact aB _ rfl (aC _) ((ein u 218 rfl).trans e21) trivial hS
   | false =>
    refine DoesG.plain rfl ?_
    have e21 : u 218 = (.bool false) := hd.1
    exact aB _ rfl (aC _) ((ein u 218 rfl).trans e21) trivial hS
  | false =>
   refine DoesG.plain rfl ?_
   have e21 : u 218 = (.bool false) := hd.1
   exact aB _ rfl (aC _) ((ein u 218 rfl).trans e21) trivial hS
 ·cases d1 <;> cases d2 <;> cases d3 <;> cases d4 <;> first
   | exact DoesG.pass (aH a bQ u 22 219 rfl rfl rfl (by decide) (by omega) (show u 219 = (.bool false) from hd.1)) rfl hS
   | (have e22 : u 219 = (.bool true) := hd.1
      refine DoesG.run (aF a bQ u 22 219 rfl rfl rfl (by decide) (by omega) e22) ?_
      exact aB _ rfl (aC _) ((eout u 6 rfl).trans h6) trivial hS)
 ·cases d1 <;> cases d2 <;> cases d3 <;> cases d4 <;> first
   | exact DoesG.pass (aH a bQ u 22 219 rfl rfl rfl (by decide) (by omega) (show u 219 = (.bool false) from hd.1)) rfl hS
   | (have e22 : u 219 = (.bool true) := hd.1
      refine DoesG.run (aF a bQ u 22 219 rfl rfl rfl (by decide) (by omega) e22) ?_
      exact aB _ rfl (aC _) ((eout u 5 rfl).trans h5) trivial hS)
 ·cases d1 <;> cases d2 <;> cases d3 <;> cases d4 <;> first
   | exact DoesG.pass (aH a bQ u 22 219 rfl rfl rfl (by decide) (by omega) (show u 219 = (.bool false) from hd.2.1)) rfl hS
   | (have e22 : u 219 = (.bool true) := hd.2.1
      refine DoesG.run (aF a bQ u 22 219 rfl rfl rfl (by decide) (by omega) e22) ?_
      have e24 : u 221 = (.slice (some ⟨b, o, none⟩) bs.length c) := hd.1
      exact aB _ rfl (fF _ _ b o bs.length c 8 ((ein u 221 rfl).trans e24) rfl (by have := of_decide_eq_true q_d1; omega)) rfl trivial hS)
 ·cases d1 <;> cases d2 <;> cases d3 <;> cases d4 <;> first
   | exact DoesG.pass (aH a bQ u 22 219 rfl rfl rfl (by decide) (by omega) (show u 219 = (.bool false) from hd.2.1)) rfl hS
   | (have e22 : u 219 = (.bool true) := hd.2.1
      refine DoesG.run (aF a bQ u 22 219 rfl rfl rfl (by decide) (by omega) e22) ?_
      have e25 : u 222 = (.pointer (some ⟨b, o + 8, none⟩)) := hd.1
      exact aB _ rfl (eI _ b (o + 8) (bs.getD 8 0) ((ein u 222 rfl).trans e25) ((hS.cell (by exact hb)).trans (hcc 8 (by have := of_decide_eq_true q_d1; omega)))) rfl trivial hS)
 ·cases d1 <;> cases d2 <;> cases d3 <;> cases d4 <;> first
   | exact DoesG.pass (aH a bQ u 22 219 rfl rfl rfl (by decide) (by omega) (show u 219 = (.bool false) from hd.2.1)) rfl hS
   | (have e22 : u 219 = (.bool true) := hd.2.1
      refine DoesG.run (aF a bQ u 22 219 rfl rfl rfl (by decide) (by omega) e22) ?_
      have e26 : u 223 = (.int .u8 (bs.getD 8 0)) := hd.1
      exact aB _ rfl (gT _ (bs.getD 8 0) ((ein u 223 rfl).trans e26) (hx.at 8).1 (hx.at 8).2) rfl trivial hS)
 ·cases d1 <;> cases d2 <;> cases d3 <;> cases d4 <;> first
   | exact DoesG.pass (aH a bQ u 22 219 rfl rfl rfl (by decide) (by omega) (show u 219 = (.bool false) from hd.2.1)) rfl hS
   | (have e22 : u 219 = (.bool true) := hd.2.1
      refine DoesG.run (aF a bQ u 22 219 rfl rfl rfl (by decide) (by omega) e22) ?_
      have e27 : u 224 = (.int .i64 (bs.getD 8 0)) := hd.1
      exact aB _ rfl (iB _ _ 9 (bs.getD 8 0) rfl ((ein u 224 rfl).trans e27) (by omega) (by omega) (hx.at 8).1 (by have := (hx.at 8).2; omega)) rfl trivial hS)
 ·cases d1 <;> cases d2 <;> cases d3 <;> cases d4 <;> first
   | exact DoesG.pass (aH a bQ u 22 219 rfl rfl rfl (by decide) (by omega) (show u 219 = (.bool false) from hd.2.2.1)) rfl hS
   | (have e22 : u 219 = (.bool true) := hd.2.2.1
      refine DoesG.run (aF a bQ u 22 219 rfl rfl rfl (by decide) (by omega) e22) ?_
      have e23 : u 220 = (.int .i64 (bs.length : Int)) := hd.1
      have e28 : u 225 = (.int .i64 (9 + bs.getD 8 0)) := hd.2.1
      exact aB _ rfl (dM _ _ (bs.length : Int) (9 + bs.getD 8 0) d5 ((ein u 220 rfl).trans e23) ((ein u 225 rfl).trans e28) q_d5) rfl trivial hS)
 ·cases d1 with
  | true =>
   cases d2 with
   | true =>
    cases d3 with
    | true =>
     cases d4 with
     | true =>
      refine DoesG.plain rfl ?_
      have e22 : u 219 = (.bool true) := hd.1
      have e29 : u 226 = (.bool d5) := hd.2.1
      exact aB _ rfl (aL _ _ true (d5) (d5) ((ein u 219 rfl).trans e22) (fun _ => ((ein u 226 rfl).trans e29)) rfl (Bool.true_and _)) rfl trivial hS
     | false =>
      refine DoesG.plain rfl ?_
      have e22 : u 219 = (.bool false) := hd.1
      exact aB _ rfl (aL _ _ false false false ((ein u 219 rfl).trans e22) (fun h => by cases h) rfl rfl) rfl trivial hS
    | false =>
     refine DoesG.plain rfl ?_
     have e22 : u 219 = (.bool false) := hd.1
     exact aB _ rfl (aL _ _ false false false ((ein u 219 rfl).trans e22) (fun h => by cases h) rfl rfl) rfl trivial hS
   | false =>
    refine DoesG.plain rfl ?_
    have e22 : u 219 = (.bool false) := hd.1
    exact aB _ rfl (aL _ _ false false false ((ein u 219 rfl).trans e22) (fun h => by cases h) rfl rfl) rfl trivial hS
  | false =>
   refine DoesG.plain rfl ?_
   have e22 : u 219 = (.bool false) := hd.1
   exact aB _ rfl (aL _ _ false false false ((ein u 219 rfl).trans e22) (fun h => by cases h) rfl rfl) rfl trivial hS
end Go.Proofs.YtfekelmldebplaaGreatDoor
