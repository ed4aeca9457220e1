import Derived.Test.YtfekelmldebplaaGreatDoorPm
set_option maxRecDepth 100000
set_option maxHeartbeats 8000000
namespace Go.Proofs.YtfekelmldebplaaGreatDoor
open Go.RowKit
theorem nP {l : List Oper} {o oj : Oper} {want : Bool} (a : Act) (ds : List (Option Nat)) (u : Nat → Value) (j d : Nat) (hg : o.guard = some (j, want)) (hj : l[j]? = some oj) (hjd : oj.dst = some d) (hm : some d ∈ ds) (hs : d < a.tmps.size) (hu : u d = undef) : Region.wanted o (yielded l.toArray (over a ds u).tmps) = false := by
 unfold Region.wanted yielded
 rw [hg]
 have hj' : l.toArray[j]? = some oj := by simpa using hj
 simp only [hj', Option.bind_some, hjd, fI u d ds a hs, hm, if_true, hu]
 rfl
def sV : List Oper := [
 ⟨some 25, .move (.tmp 6), 3, "relay.go:218", #[], none⟩,
 ⟨some 26, .binOp .eql 3 (.tmp 25) (.const (.int .i64 4)) 3, 4, "relay.go:218", #[⟨0, .data⟩], none⟩,
 ⟨some 27, .move (.tmp 26), 4, "relay.go:218", #[⟨1, .data⟩], none⟩,
 ⟨some 28, .move (.tmp 5), 37, "relay.go:218", #[⟨2, .guard⟩], some (2, true)⟩,
 ⟨some 29, .call { callee := .value (.func 176), args := #[.tmp 28, .const (.int .i64 2)], argTypes := #[37, 3] }, 3, "relay.go:218", #[⟨3, .data⟩, ⟨2, .chain⟩, ⟨2, .guard⟩], some (2, true)⟩,
 ⟨some 30, .binOp .geq 3 (.tmp 29) (.const (.int .i64 1)) 3, 4, "relay.go:218", #[⟨4, .data⟩, ⟨2, .guard⟩], some (2, true)⟩,
 ⟨some 31, .pick (.tmp 27) (.tmp 30) (.const (.bool false)), 4, "relay.go:218", #[⟨2, .data⟩, ⟨5, .data⟩], none⟩,
 ⟨some 32, .move (.tmp 31), 4, "relay.go:218", #[⟨6, .data⟩, ⟨4, .chain⟩], none⟩,
 ⟨some 33, .move (.tmp 5), 37, "relay.go:218", #[⟨7, .guard⟩], some (7, true)⟩,
 ⟨some 34, .call { callee := .value (.func 176), args := #[.tmp 33, .const (.int .i64 2)], argTypes := #[37, 3] }, 3, "relay.go:218", #[⟨8, .data⟩, ⟨7, .chain⟩, ⟨7, .guard⟩], some (7, true)⟩,
 ⟨some 35, .move (.tmp 8), 3, "relay.go:218", #[⟨7, .guard⟩], some (7, true)⟩,
 ⟨some 36, .binOp .leq 3 (.tmp 34) (.tmp 35) 3, 4, "relay.go:218", #[⟨9, .data⟩, ⟨10, .data⟩, ⟨7, .guard⟩], some (7, true)⟩,
 ⟨some 37, .pick (.tmp 32) (.tmp 36) (.const (.bool false)), 4, "relay.go:218", #[⟨7, .data⟩, ⟨11, .data⟩], none⟩]
def dA : List (Option Nat) := [some 25, some 26, some 27, some 28, some 29, some 30, some 31, some 32, some 33, some 34, some 35, some 36, some 37]
theorem aGd (a : Act) (Q : Exit → Act → World → Prop) (w : World) (id : Nat) (b o c : Nat) (bs : List Int) (most : Int) (d1 d2 d3 : Bool) (hsz : 244 ≤ a.tmps.size)
  (hl : bs.length ≤ 1000) (hx : Bys bs) (hb : b < w.heap.size) (hcc : ∀ i, i < bs.length → w.cell? ⟨b, o + i, none⟩ = some (.int .u8 (bs.getD i 0))) (h5 : a.eval (.tmp 5) = .slice (some ⟨b, o, none⟩) bs.length c) (h6 : a.eval (.tmp 6) = .int .i64 (bs.length : Int)) (h8 : a.eval (.tmp 8) = .int .i64 most) (q_d1 : ((bs.length : Int) == 4) = d1) (q_d2 : decide ((1 : Int) ≤ (wAt bs 1 : Int)) = d2) (q_d3 : decide ((wAt bs 1 : Int) ≤ most) = d3)
  (hend : ∀ u W, Below w.heap.size w W → u 37 = .bool (d1 && d2 && d3) → Q .normal (over a dA u) W) : (Code.region id sV.toArray false).wp Tryz.prog Q a w := by
 have ein : ∀ u k, inS dA 244 k = true → (over a dA u).eval (.tmp k) = u k := cQ a dA 244 hsz
 have eout : ∀ u k, outS dA 244 k = true → (over a dA u).eval (.tmp k) = a.eval (.tmp k) := cF a dA 244 hsz
 have ef : ∀ u f, (over a dA u).eval (.func f) = .func (.func f) #[] #[] := fun u f => by simp [Act.eval]
 refine cN dA (fun _ W => Below w.heap.size w W) (RV [some ((.int .i64 (bs.length : Int))), some ((bif d1 then (.bool true) else (.bool false))), some ((bif d1 then (.bool true) else (.bool false))), some ((bif d1 then (.slice (some ⟨b, o, none⟩) bs.length c) else undef)), some ((bif d1 then (.int .i64 (wAt bs 1 : Int)) else undef)), some ((bif d1 then (bif d2 then (.bool true) else (.bool false)) else undef)), some ((bif d1 then (bif d2 then (.bool true) else (.bool false)) else (.bool false))), some ((bif d1 then (bif d2 then (.bool true) else (.bool false)) else (.bool false))), some ((bif d1 then (bif d2 then (.slice (some ⟨b, o, none⟩) bs.length c) else undef) else undef)), some ((bif d1 then (bif d2 then (.int .i64 (wAt bs 1 : Int)) else undef) else undef)), some ((bif d1 then (bif d2 then (.int .i64 most) else undef) else undef)), some ((bif d1 then (bif d2 then (.bool d3) else undef) else undef)), some ((bif d1 then (bif d2 then (.bool d3) else (.bool false)) else (.bool false)))]) (by decide) rfl (Below.refl _ _) [true, true, true, (bif d1 then true else false), (bif d1 then true else false), (bif d1 then true else false), true, true, (bif d1 then (bif d2 then true else false) else false), (bif d1 then (bif d2 then true else false) else false), (bif d1 then (bif d2 then true else false) else false), (bif d1 then (bif d2 then true else false) else false), true] ?_ (fun u W hS hR => hend u W hS (by have h := hR 12 (by decide); cases d1 <;> cases d2 <;> exact h))
 unfold sV
 repeat' first | exact trivial | refine cX.cons rfl (fun u W hS hd => ?_) ?_
 ·refine DoesG.plain rfl ?_
  exact aB _ rfl (aC _) ((eout u 6 rfl).trans h6) aR.refl hS
 ·cases d1 with
  | true =>
   refine DoesG.plain rfl ?_
   have e0 : u 25 = (.int .i64 (bs.length : Int)) := hd 0 (by decide)
   exact aB _ rfl (dM _ _ (bs.length : Int) 4 true ((ein u 25 rfl).trans e0) rfl q_d1) rfl aR.refl hS
  | false =>
   refine DoesG.plain rfl ?_
   have e0 : u 25 = (.int .i64 (bs.length : Int)) := hd 0 (by decide)
   exact aB _ rfl (dM _ _ (bs.length : Int) 4 false ((ein u 25 rfl).trans e0) rfl q_d1) rfl aR.refl hS
 ·cases d1 with
  | true =>
   refine DoesG.plain rfl ?_
   have e1 : u 26 = (.bool true) := hd 1 (by decide)
   exact aB _ rfl (aC _) ((ein u 26 rfl).trans e1) aR.refl hS
  | false =>
   refine DoesG.plain rfl ?_
   have e1 : u 26 = (.bool false) := hd 1 (by decide)
   exact aB _ rfl (aC _) ((ein u 26 rfl).trans e1) aR.refl hS
 ·cases d1 with
  | true =>
   have e2 : u 27 = (.bool true) := hd 2 (by decide)
   refine DoesG.run (aF a dA u 2 27 rfl rfl rfl (by decide) (by omega) e2) ?_
   exact aB _ rfl (aC _) ((eout u 5 rfl).trans h5) aR.refl hS
  | false =>
   have e2 : u 27 = (.bool false) := hd 2 (by decide)
   exact DoesG.pass (aH a dA u 2 27 rfl rfl rfl (by decide) (by omega) e2) rfl hS
 ·cases d1 with
  | true =>
   have e2 : u 27 = (.bool true) := hd 2 (by decide)
   refine DoesG.run (aF a dA u 2 27 rfl rfl rfl (by decide) (by omega) e2) ?_
   have e3 : u 28 = (.slice (some ⟨b, o, none⟩) bs.length c) := hd 3 (by decide)
   have hj := eO b o bs.length c 2 1 bs w W rfl rfl (by have := eq_of_beq q_d1; omega) hl hx hb hcc hS
   rw [← e3, ← ein u 28 rfl] at hj
   refine aN _ rfl (bF _ _ _ _ (ef u _) rfl bO) _ hj ?_
   rintro e w' ⟨rfl, nq, rfl⟩
   exact ⟨_, rfl, rfl, (fun _ _ q => q), cH hS nq⟩
  | false =>
   have e2 : u 27 = (.bool false) := hd 2 (by decide)
   exact DoesG.pass (aH a dA u 2 27 rfl rfl rfl (by decide) (by omega) e2) rfl hS
 ·cases d1 with
  | true =>
   cases d2 with
   | true =>
    have e2 : u 27 = (.bool true) := hd 2 (by decide)
    refine DoesG.run (aF a dA u 2 27 rfl rfl rfl (by decide) (by omega) e2) ?_
    have e4 : u 29 = (.int .i64 (wAt bs 1 : Int)) := hd 4 (by decide)
    exact aB _ rfl (fK _ _ (wAt bs 1 : Int) 1 true ((ein u 29 rfl).trans e4) rfl q_d2) rfl aR.refl hS
   | false =>
    have e2 : u 27 = (.bool true) := hd 2 (by decide)
    refine DoesG.run (aF a dA u 2 27 rfl rfl rfl (by decide) (by omega) e2) ?_
    have e4 : u 29 = (.int .i64 (wAt bs 1 : Int)) := hd 4 (by decide)
    exact aB _ rfl (fK _ _ (wAt bs 1 : Int) 1 false ((ein u 29 rfl).trans e4) rfl q_d2) rfl aR.refl hS
  | false =>
   have e2 : u 27 = (.bool false) := hd 2 (by decide)
   exact DoesG.pass (aH a dA u 2 27 rfl rfl rfl (by decide) (by omega) e2) rfl hS
 ·cases d1 with
  | true =>
   cases d2 with
   | true =>
    refine DoesG.plain rfl ?_
    have e2 : u 27 = (.bool true) := hd 2 (by decide)
    have e5 : u 30 = (.bool true) := hd 5 (by decide)
    exact aB _ rfl (aL _ _ true (true) (true) ((ein u 27 rfl).trans e2) (fun _ => ((ein u 30 rfl).trans e5)) rfl (Bool.true_and _)) rfl aR.refl hS
   | false =>
    refine DoesG.plain rfl ?_
    have e2 : u 27 = (.bool true) := hd 2 (by decide)
    have e5 : u 30 = (.bool false) := hd 5 (by decide)
    exact aB _ rfl (aL _ _ true (false) (false) ((ein u 27 rfl).trans e2) (fun _ => ((ein u 30 rfl).trans e5)) rfl (Bool.true_and _)) rfl aR.refl hS
  | false =>
   refine DoesG.plain rfl ?_
   have e2 : u 27 = (.bool false) := hd 2 (by decide)
   exact aB _ rfl (aL _ _ false false false ((ein u 27 rfl).trans e2) (fun h => by cases h) rfl rfl) rfl aR.refl hS
 ·cases d1 with
  | true =>
   cases d2 with
   | true =>
    refine DoesG.plain rfl ?_
    have e6 : u 31 = (.bool true) := hd 6 (by decide)
    exact aB _ rfl (aC _) ((ein u 31 rfl).trans e6) aR.refl hS
   | false =>
    refine DoesG.plain rfl ?_
    have e6 : u 31 = (.bool false) := hd 6 (by decide)
    exact aB _ rfl (aC _) ((ein u 31 rfl).trans e6) aR.refl hS
  | false =>
   refine DoesG.plain rfl ?_
   have e6 : u 31 = (.bool false) := hd 6 (by decide)
   exact aB _ rfl (aC _) ((ein u 31 rfl).trans e6) aR.refl hS
 ·cases d1 with
  | true =>
   cases d2 with
   | true =>
    have e7 : u 32 = (.bool true) := hd 7 (by decide)
    refine DoesG.run (aF a dA u 7 32 rfl rfl rfl (by decide) (by omega) e7) ?_
    exact aB _ rfl (aC _) ((eout u 5 rfl).trans h5) aR.refl hS
   | false =>
    have e7 : u 32 = (.bool false) := hd 7 (by decide)
    exact DoesG.pass (aH a dA u 7 32 rfl rfl rfl (by decide) (by omega) e7) rfl hS
  | false =>
   have e7 : u 32 = (.bool false) := hd 7 (by decide)
   exact DoesG.pass (aH a dA u 7 32 rfl rfl rfl (by decide) (by omega) e7) rfl hS
 ·cases d1 with
  | true =>
   cases d2 with
   | true =>
    have e7 : u 32 = (.bool true) := hd 7 (by decide)
    refine DoesG.run (aF a dA u 7 32 rfl rfl rfl (by decide) (by omega) e7) ?_
    have e8 : u 33 = (.slice (some ⟨b, o, none⟩) bs.length c) := hd 8 (by decide)
    have hj := eO b o bs.length c 2 1 bs w W rfl rfl (by have := eq_of_beq q_d1; omega) hl hx hb hcc hS
    rw [← e8, ← ein u 33 rfl] at hj
    refine aN _ rfl (bF _ _ _ _ (ef u _) rfl bO) _ hj ?_
    rintro e w' ⟨rfl, nq, rfl⟩
    exact ⟨_, rfl, rfl, (fun _ _ q => q), cH hS nq⟩
   | false =>
    have e7 : u 32 = (.bool false) := hd 7 (by decide)
    exact DoesG.pass (aH a dA u 7 32 rfl rfl rfl (by decide) (by omega) e7) rfl hS
  | false =>
   have e7 : u 32 = (.bool false) := hd 7 (by decide)
   exact DoesG.pass (aH a dA u 7 32 rfl rfl rfl (by decide) (by omega) e7) rfl hS
 ·cases d1 with
  | true =>
   cases d2 with
   | true =>
    have e7 : u 32 = (.bool true) := hd 7 (by decide)
    refine DoesG.run (aF a dA u 7 32 rfl rfl rfl (by decide) (by omega) e7) ?_
    exact aB _ rfl (aC _) ((eout u 8 rfl).trans h8) aR.refl hS
   | false =>
    have e7 : u 32 = (.bool false) := hd 7 (by decide)
    exact DoesG.pass (aH a dA u 7 32 rfl rfl rfl (by decide) (by omega) e7) rfl hS
  | false =>
   have e7 : u 32 = (.bool false) := hd 7 (by decide)
   exact DoesG.pass (aH a dA u 7 32 rfl rfl rfl (by decide) (by omega) e7) rfl hS
 ·cases d1 with
  | true =>
   cases d2 with
   | true =>
    have e7 : u 32 = (.bool true) := hd 7 (by decide)
    refine DoesG.run (aF a dA u 7 32 rfl rfl rfl (by decide) (by omega) e7) ?_
    have e9 : u 34 = (.int .i64 (wAt bs 1 : Int)) := hd 9 (by decide)
    have e10 : u 35 = (.int .i64 most) := hd 10 (by decide)
    exact aB _ rfl (lE _ _ (wAt bs 1 : Int) most d3 ((ein u 34 rfl).trans e9) ((ein u 35 rfl).trans e10) q_d3) rfl aR.refl hS
   | false =>
    have e7 : u 32 = (.bool false) := hd 7 (by decide)
    exact DoesG.pass (aH a dA u 7 32 rfl rfl rfl (by decide) (by omega) e7) rfl hS
  | false =>
   have e7 : u 32 = (.bool false) := hd 7 (by decide)
   exact DoesG.pass (aH a dA u 7 32 rfl rfl rfl (by decide) (by omega) e7) rfl hS
 ·cases d1 with
  | true =>
   cases d2 with
   | true =>
    refine DoesG.plain rfl ?_
    have e7 : u 32 = (.bool true) := hd 7 (by decide)
    have e11 : u 36 = (.bool d3) := hd 11 (by decide)
    exact aB _ rfl (aL _ _ true (d3) (d3) ((ein u 32 rfl).trans e7) (fun _ => ((ein u 36 rfl).trans e11)) rfl (Bool.true_and _)) rfl aR.refl hS
   | false =>
    refine DoesG.plain rfl ?_
    have e7 : u 32 = (.bool false) := hd 7 (by decide)
    exact aB _ rfl (aL _ _ false false false ((ein u 32 rfl).trans e7) (fun h => by cases h) rfl rfl) rfl aR.refl hS
  | false =>
   refine DoesG.plain rfl ?_
   have e7 : u 32 = (.bool false) := hd 7 (by decide)
   exact aB _ rfl (aL _ _ false false false ((ein u 32 rfl).trans e7) (fun h => by cases h) rfl rfl) rfl aR.refl hS
def yE : List Oper := [
 ⟨some 52, .move (.tmp 6), 3, "relay.go:222", #[], none⟩,
 ⟨some 53, .binOp .eql 3 (.tmp 52) (.const (.int .i64 4)) 3, 4, "relay.go:222", #[⟨0, .data⟩], none⟩,
 ⟨some 54, .move (.tmp 53), 4, "relay.go:222", #[⟨1, .data⟩], none⟩,
 ⟨some 55, .move (.tmp 5), 37, "relay.go:222", #[⟨2, .guard⟩], some (2, true)⟩,
 ⟨some 56, .call { callee := .value (.func 176), args := #[.tmp 55, .const (.int .i64 2)], argTypes := #[37, 3] }, 3, "relay.go:222", #[⟨3, .data⟩, ⟨2, .chain⟩, ⟨2, .guard⟩], some (2, true)⟩,
 ⟨some 57, .binOp .eql 3 (.tmp 56) (.const (.int .i64 65280)) 3, 4, "relay.go:222", #[⟨4, .data⟩, ⟨2, .guard⟩], some (2, true)⟩,
 ⟨some 58, .move (.tmp 57), 4, "relay.go:222", #[⟨5, .data⟩, ⟨4, .chain⟩, ⟨2, .guard⟩], some (2, true)⟩,
 ⟨some 59, .move (.tmp 5), 37, "relay.go:222", #[⟨6, .guard⟩], some (6, false)⟩,
 ⟨some 60, .call { callee := .value (.func 176), args := #[.tmp 59, .const (.int .i64 2)], argTypes := #[37, 3] }, 3, "relay.go:222", #[⟨7, .data⟩, ⟨6, .chain⟩, ⟨6, .guard⟩], some (6, false)⟩,
 ⟨some 61, .binOp .eql 3 (.tmp 60) (.const (.int .i64 0)) 3, 4, "relay.go:222", #[⟨8, .data⟩, ⟨6, .guard⟩], some (6, false)⟩,
 ⟨some 62, .pick (.tmp 58) (.const (.bool true)) (.tmp 61), 4, "relay.go:222", #[⟨6, .data⟩, ⟨9, .data⟩, ⟨2, .guard⟩], some (2, true)⟩,
 ⟨some 63, .pick (.tmp 54) (.tmp 62) (.const (.bool false)), 4, "relay.go:222", #[⟨2, .data⟩, ⟨10, .data⟩], none⟩]
def cR : List (Option Nat) := [some 52, some 53, some 54, some 55, some 56, some 57, some 58, some 59, some 60, some 61, some 62, some 63]
theorem aGb (a : Act) (Q : Exit → Act → World → Prop) (w : World) (id : Nat) (b o c : Nat) (bs : List Int) (d1 d2 d3 : Bool) (hsz : 244 ≤ a.tmps.size)
  (hl : bs.length ≤ 1000) (hx : Bys bs) (hb : b < w.heap.size) (hcc : ∀ i, i < bs.length → w.cell? ⟨b, o + i, none⟩ = some (.int .u8 (bs.getD i 0))) (h5 : a.eval (.tmp 5) = .slice (some ⟨b, o, none⟩) bs.length c) (h6 : a.eval (.tmp 6) = .int .i64 (bs.length : Int)) (q_d1 : ((bs.length : Int) == 4) = d1) (q_d2 : ((wAt bs 1 : Int) == 65280) = d2) (q_d3 : ((wAt bs 1 : Int) == 0) = d3)
  (hend : ∀ u W, Below w.heap.size w W → u 63 = .bool (d1 && (d2 || d3)) → Q .normal (over a cR u) W) : (Code.region id yE.toArray false).wp Tryz.prog Q a w := by
 have ein : ∀ u k, inS cR 244 k = true → (over a cR u).eval (.tmp k) = u k := cQ a cR 244 hsz
 have eout : ∀ u k, outS cR 244 k = true → (over a cR u).eval (.tmp k) = a.eval (.tmp k) := cF a cR 244 hsz
 have ef : ∀ u f, (over a cR u).eval (.func f) = .func (.func f) #[] #[] := fun u f => by simp [Act.eval]
 refine cN cR (fun _ W => Below w.heap.size w W) (RV [some ((.int .i64 (bs.length : Int))), some ((bif d1 then (.bool true) else (.bool false))), some ((bif d1 then (.bool true) else (.bool false))), some ((bif d1 then (.slice (some ⟨b, o, none⟩) bs.length c) else undef)), some ((bif d1 then (.int .i64 (wAt bs 1 : Int)) else undef)), some ((bif d1 then (bif d2 then (.bool true) else (.bool false)) else undef)), some ((bif d1 then (bif d2 then (.bool true) else (.bool false)) else undef)), some ((bif d1 then (bif d2 then undef else (.slice (some ⟨b, o, none⟩) bs.length c)) else undef)), some ((bif d1 then (bif d2 then undef else (.int .i64 (wAt bs 1 : Int))) else undef)), some ((bif d1 then (bif d2 then undef else (.bool d3)) else undef)), some ((bif d1 then (bif d2 then (.bool true) else (.bool d3)) else undef)), some ((bif d1 then (bif d2 then (.bool true) else (.bool d3)) else (.bool false)))]) (by decide) rfl (Below.refl _ _) [true, true, true, (bif d1 then true else false), (bif d1 then true else false), (bif d1 then true else false), (bif d1 then true else false), (bif d1 then (bif d2 then false else true) else false), (bif d1 then (bif d2 then false else true) else false), (bif d1 then (bif d2 then false else true) else false), (bif d1 then true else false), true] ?_ (fun u W hS hR => hend u W hS (by have h := hR 11 (by decide); cases d1 <;> cases d2 <;> exact h))
 unfold yE
 repeat' first | exact trivial | refine cX.cons rfl (fun u W hS hd => ?_) ?_
 ·refine DoesG.plain rfl ?_
  exact aB _ rfl (aC _) ((eout u 6 rfl).trans h6) aR.refl hS
 ·cases d1 with
  | true =>
   refine DoesG.plain rfl ?_
   have e0 : u 52 = (.int .i64 (bs.length : Int)) := hd 0 (by decide)
   exact aB _ rfl (dM _ _ (bs.length : Int) 4 true ((ein u 52 rfl).trans e0) rfl q_d1) rfl aR.refl hS
  | false =>
   refine DoesG.plain rfl ?_
   have e0 : u 52 = (.int .i64 (bs.length : Int)) := hd 0 (by decide)
   exact aB _ rfl (dM _ _ (bs.length : Int) 4 false ((ein u 52 rfl).trans e0) rfl q_d1) rfl aR.refl hS
 ·cases d1 with
  | true =>
   refine DoesG.plain rfl ?_
   have e1 : u 53 = (.bool true) := hd 1 (by decide)
   exact aB _ rfl (aC _) ((ein u 53 rfl).trans e1) aR.refl hS
  | false =>
   refine DoesG.plain rfl ?_
   have e1 : u 53 = (.bool false) := hd 1 (by decide)
   exact aB _ rfl (aC _) ((ein u 53 rfl).trans e1) aR.refl hS
 ·cases d1 with
  | true =>
   have e2 : u 54 = (.bool true) := hd 2 (by decide)
   refine DoesG.run (aF a cR u 2 54 rfl rfl rfl (by decide) (by omega) e2) ?_
   exact aB _ rfl (aC _) ((eout u 5 rfl).trans h5) aR.refl hS
  | false =>
   have e2 : u 54 = (.bool false) := hd 2 (by decide)
   exact DoesG.pass (aH a cR u 2 54 rfl rfl rfl (by decide) (by omega) e2) rfl hS
 ·cases d1 with
  | true =>
   have e2 : u 54 = (.bool true) := hd 2 (by decide)
   refine DoesG.run (aF a cR u 2 54 rfl rfl rfl (by decide) (by omega) e2) ?_
   have e3 : u 55 = (.slice (some ⟨b, o, none⟩) bs.length c) := hd 3 (by decide)
   have hj := eO b o bs.length c 2 1 bs w W rfl rfl (by have := eq_of_beq q_d1; omega) hl hx hb hcc hS
   rw [← e3, ← ein u 55 rfl] at hj
   refine aN _ rfl (bF _ _ _ _ (ef u _) rfl bO) _ hj ?_
   rintro e w' ⟨rfl, nq, rfl⟩
   exact ⟨_, rfl, rfl, (fun _ _ q => q), cH hS nq⟩
  | false =>
   have e2 : u 54 = (.bool false) := hd 2 (by decide)
   exact DoesG.pass (aH a cR u 2 54 rfl rfl rfl (by decide) (by omega) e2) rfl hS
 ·cases d1 with
  | true =>
   cases d2 with
   | true =>
    have e2 : u 54 = (.bool true) := hd 2 (by decide)
    refine DoesG.run (aF a cR u 2 54 rfl rfl rfl (by decide) (by omega) e2) ?_
    have e4 : u 56 = (.int .i64 (wAt bs 1 : Int)) := hd 4 (by decide)
    exact aB _ rfl (dM _ _ (wAt bs 1 : Int) 65280 true ((ein u 56 rfl).trans e4) rfl q_d2) rfl aR.refl hS
   | false =>
    have e2 : u 54 = (.bool true) := hd 2 (by decide)
    refine DoesG.run (aF a cR u 2 54 rfl rfl rfl (by decide) (by omega) e2) ?_
    have e4 : u 56 = (.int .i64 (wAt bs 1 : Int)) := hd 4 (by decide)
    exact aB _ rfl (dM _ _ (wAt bs 1 : Int) 65280 false ((ein u 56 rfl).trans e4) rfl q_d2) rfl aR.refl hS
  | false =>
   have e2 : u 54 = (.bool false) := hd 2 (by decide)
   exact DoesG.pass (aH a cR u 2 54 rfl rfl rfl (by decide) (by omega) e2) rfl hS
 ·cases d1 with
  | true =>
   cases d2 with
   | true =>
    have e2 : u 54 = (.bool true) := hd 2 (by decide)
    refine DoesG.run (aF a cR u 2 54 rfl rfl rfl (by decide) (by omega) e2) ?_
    have e5 : u 57 = (.bool true) := hd 5 (by decide)
    exact aB _ rfl (aC _) ((ein u 57 rfl).trans e5) aR.refl hS
   | false =>
    have e2 : u 54 = (.bool true) := hd 2 (by decide)
    refine DoesG.run (aF a cR u 2 54 rfl rfl rfl (by decide) (by omega) e2) ?_
    have e5 : u 57 = (.bool false) := hd 5 (by decide)
    exact aB _ rfl (aC _) ((ein u 57 rfl).trans e5) aR.refl hS
  | false =>
   have e2 : u 54 = (.bool false) := hd 2 (by decide)
   exact DoesG.pass (aH a cR u 2 54 rfl rfl rfl (by decide) (by omega) e2) rfl hS
 ·cases d1 with
  | true =>
   cases d2 with
   | true =>
    have e6 : u 58 = (.bool true) := hd 6 (by decide)
    exact DoesG.pass (lT a cR u 6 58 rfl rfl rfl (by decide) (by omega) e6) rfl hS
   | false =>
    have e6 : u 58 = (.bool false) := hd 6 (by decide)
    refine DoesG.run (lU a cR u 6 58 rfl rfl rfl (by decide) (by omega) e6) ?_
    exact aB _ rfl (aC _) ((eout u 5 rfl).trans h5) aR.refl hS
  | false =>
   have e6 : u 58 = undef := hd 6 (by decide)
   exact DoesG.pass (nP a cR u 6 58 rfl rfl rfl (by decide) (by omega) e6) rfl hS
 ·cases d1 with
  | true =>
   cases d2 with
   | true =>
    have e6 : u 58 = (.bool true) := hd 6 (by decide)
    exact DoesG.pass (lT a cR u 6 58 rfl rfl rfl (by decide) (by omega) e6) rfl hS
   | false =>
    have e6 : u 58 = (.bool false) := hd 6 (by decide)
    refine DoesG.run (lU a cR u 6 58 rfl rfl rfl (by decide) (by omega) e6) ?_
    have e7 : u 59 = (.slice (some ⟨b, o, none⟩) bs.length c) := hd 7 (by decide)
    have hj := eO b o bs.length c 2 1 bs w W rfl rfl (by have := eq_of_beq q_d1; omega) hl hx hb hcc hS
    rw [← e7, ← ein u 59 rfl] at hj
    refine aN _ rfl (bF _ _ _ _ (ef u _) rfl bO) _ hj ?_
    rintro e w' ⟨rfl, nq, rfl⟩
    exact ⟨_, rfl, rfl, (fun _ _ q => q), cH hS nq⟩
  | false =>
   have e6 : u 58 = undef := hd 6 (by decide)
   exact DoesG.pass (nP a cR u 6 58 rfl rfl rfl (by decide) (by omega) e6) rfl hS
 ·cases d1 with
  | true =>
   cases d2 with
   | true =>
    have e6 : u 58 = (.bool true) := hd 6 (by decide)
    exact DoesG.pass (lT a cR u 6 58 rfl rfl rfl (by decide) (by omega) e6) rfl hS
   | false =>
    have e6 : u 58 = (.bool false) := hd 6 (by decide)
    refine DoesG.run (lU a cR u 6 58 rfl rfl rfl (by decide) (by omega) e6) ?_
    have e8 : u 60 = (.int .i64 (wAt bs 1 : Int)) := hd 8 (by decide)
    exact aB _ rfl (dM _ _ (wAt bs 1 : Int) 0 d3 ((ein u 60 rfl).trans e8) rfl q_d3) rfl aR.refl hS
  | false =>
   have e6 : u 58 = undef := hd 6 (by decide)
   exact DoesG.pass (nP a cR u 6 58 rfl rfl rfl (by decide) (by omega) e6) rfl hS
 ·cases d1 with
  | true =>
   cases d2 with
   | true =>
    have e2 : u 54 = (.bool true) := hd 2 (by decide)
    refine DoesG.run (aF a cR u 2 54 rfl rfl rfl (by decide) (by omega) e2) ?_
    have e6 : u 58 = (.bool true) := hd 6 (by decide)
    exact aB _ rfl (qL _ _ true false true ((ein u 58 rfl).trans e6) (fun h => by cases h) rfl rfl) rfl aR.refl hS
   | false =>
    have e2 : u 54 = (.bool true) := hd 2 (by decide)
    refine DoesG.run (aF a cR u 2 54 rfl rfl rfl (by decide) (by omega) e2) ?_
    have e6 : u 58 = (.bool false) := hd 6 (by decide)
    have e9 : u 61 = (.bool d3) := hd 9 (by decide)
    exact aB _ rfl (qL _ _ false (d3) (d3) ((ein u 58 rfl).trans e6) (fun _ => ((ein u 61 rfl).trans e9)) rfl (Bool.false_or _)) rfl aR.refl hS
  | false =>
   have e2 : u 54 = (.bool false) := hd 2 (by decide)
   exact DoesG.pass (aH a cR u 2 54 rfl rfl rfl (by decide) (by omega) e2) rfl hS
 ·cases d1 with
  | true =>
   cases d2 with
   | true =>
    refine DoesG.plain rfl ?_
    have e2 : u 54 = (.bool true) := hd 2 (by decide)
    have e10 : u 62 = (.bool true) := hd 10 (by decide)
    exact aB _ rfl (aL _ _ true (true) (true) ((ein u 54 rfl).trans e2) (fun _ => ((ein u 62 rfl).trans e10)) rfl (Bool.true_and _)) rfl aR.refl hS
   | false =>
    refine DoesG.plain rfl ?_
    have e2 : u 54 = (.bool true) := hd 2 (by decide)
    have e10 : u 62 = (.bool d3) := hd 10 (by decide)
    exact aB _ rfl (aL _ _ true (d3) (d3) ((ein u 54 rfl).trans e2) (fun _ => ((ein u 62 rfl).trans e10)) rfl (Bool.true_and _)) rfl aR.refl hS
  | false =>
   refine DoesG.plain rfl ?_
   have e2 : u 54 = (.bool false) := hd 2 (by decide)
   exact aB _ rfl (aL _ _ false false false ((ein u 54 rfl).trans e2) (fun h => by cases h) rfl rfl) rfl aR.refl hS
def yD : List Oper := [
 ⟨some 64, .move (.tmp 5), 37, "relay.go:223", #[], none⟩,
 ⟨some 65, .call { callee := .value (.func 176), args := #[.tmp 64, .const (.int .i64 0)], argTypes := #[37, 3] }, 3, "relay.go:223", #[⟨0, .data⟩], none⟩,
 ⟨some 66, .build 257 #[(0, .const (.int .i64 0)), (1, .tmp 65), (2, .const (.int .i64 1)), (3, .const (.bool true))], 257, "relay.go:223", #[⟨1, .data⟩], none⟩,
 ⟨some 67, .buildSlice 250 1 #[(0, .tmp 66)], 250, "relay.go:223", #[⟨2, .data⟩], none⟩,
 ⟨some 68, .move (.tmp 5), 37, "relay.go:223", #[], none⟩,
 ⟨some 69, .call { callee := .value (.func 176), args := #[.tmp 68, .const (.int .i64 2)], argTypes := #[37, 3] }, 3, "relay.go:223", #[⟨4, .data⟩, ⟨1, .chain⟩], none⟩,
 ⟨some 70, .binOp .quo 3 (.tmp 69) (.const (.int .i64 65280)) 3, 3, "relay.go:223", #[⟨5, .data⟩], none⟩,
 ⟨some 71, .buildSlice 24 1 #[(0, .tmp 70)], 24, "relay.go:223", #[⟨6, .data⟩], none⟩,
 ⟨some 72, .build 252 #[(0, .tmp 67), (1, .tmp 71)], 252, "relay.go:223", #[⟨3, .data⟩, ⟨7, .data⟩], none⟩,
 ⟨none, .store 252 (.tmp 2) (.tmp 72), 0, "relay.go:223", #[⟨8, .data⟩, ⟨5, .chain⟩, ⟨0, .phase⟩, ⟨1, .phase⟩, ⟨2, .phase⟩, ⟨3, .phase⟩, ⟨4, .phase⟩, ⟨5, .phase⟩, ⟨6, .phase⟩, ⟨7, .phase⟩, ⟨8, .phase⟩], none⟩,
 ⟨some 3, .assign (.const (.int .i64 0)), 3, "relay.go:223", #[⟨9, .chain⟩, ⟨0, .phase⟩, ⟨1, .phase⟩, ⟨2, .phase⟩, ⟨3, .phase⟩, ⟨4, .phase⟩, ⟨5, .phase⟩, ⟨6, .phase⟩, ⟨7, .phase⟩, ⟨8, .phase⟩, ⟨9, .phase⟩], none⟩]
def jZ : List (Option Nat) := [some 64, some 65, some 66, some 67, some 68, some 69, some 70, some 71, some 72, none, some 3]
theorem aGa (a : Act) (Q : Exit → Act → World → Prop) (w : World) (id : Nat) (b o c b2 : Nat) (bs : List Int) (hsz : 244 ≤ a.tmps.size)
  (hl : bs.length ≤ 1000) (hx : Bys bs) (hb : b < w.heap.size) (hnb : b ≠ b2) (hcc : ∀ i, i < bs.length → w.cell? ⟨b, o + i, none⟩ = some (.int .u8 (bs.getD i 0))) (h5 : a.eval (.tmp 5) = .slice (some ⟨b, o, none⟩) bs.length c) (h2 : a.eval (.tmp 2) = .pointer (some ⟨b2, 0, none⟩)) (hrow : w.heap[b2]? = some (.cells #[.slice none 0 0, .slice none 0 0, .int .i64 0, .int .i64 0] 252 (0, 0))) (hn : bs.length = 4)
  (hend : ∀ u W, AskS w b2 [⟨0, (wAt bs 0 : Int), 1, true⟩] ([(wAt bs 1 : Int) / 65280]) (0) (0) true W → u 3 = .int .i64 0 → Q .normal (over a jZ u) W) : (Code.region id yD.toArray false).wp Tryz.prog Q a w := by
 have ein : ∀ u k, inS jZ 244 k = true → (over a jZ u).eval (.tmp k) = u k := cQ a jZ 244 hsz
 have eout : ∀ u k, outS jZ 244 k = true → (over a jZ u).eval (.tmp k) = a.eval (.tmp k) := cF a jZ 244 hsz
 have ef : ∀ u f, (over a jZ u).eval (.func f) = .func (.func f) #[] #[] := fun u f => by simp [Act.eval]
 have hst : ∀ i v W W', RL [fun v _ => v = (.slice (some ⟨b, o, none⟩) bs.length c), fun v _ => v = (.int .i64 (wAt bs 0 : Int)), fun v _ => v = (.agg #[.int .i64 0, .int .i64 (wAt bs 0 : Int), .int .i64 1, .bool true]), fun v W => aU w.heap.size W v [⟨0, (wAt bs 0 : Int), 1, true⟩], fun v _ => v = (.slice (some ⟨b, o, none⟩) bs.length c), fun v _ => v = (.int .i64 (wAt bs 1 : Int)), fun v _ => v = (.int .i64 ((wAt bs 1 : Int) / 65280)), fun v W => (∃ a n c, v = .slice a n c) ∧ aS W w.heap.size v ([(wAt bs 1 : Int) / 65280]), fun v W => ∃ ta tn tc va vn vc, v = .agg #[.slice ta tn tc, .slice va vn vc, .int .i64 (0), .int .i64 (0)] ∧ aU w.heap.size W (.slice ta tn tc) [⟨0, (wAt bs 0 : Int), 1, true⟩] ∧ aS W w.heap.size (.slice va vn vc) ([(wAt bs 1 : Int) / 65280]), fun _ _ => True, fun v _ => v = (Value.int IntKind.i64 0)] i v W → LeT W W' → RL [fun v _ => v = (.slice (some ⟨b, o, none⟩) bs.length c), fun v _ => v = (.int .i64 (wAt bs 0 : Int)), fun v _ => v = (.agg #[.int .i64 0, .int .i64 (wAt bs 0 : Int), .int .i64 1, .bool true]), fun v W => aU w.heap.size W v [⟨0, (wAt bs 0 : Int), 1, true⟩], fun v _ => v = (.slice (some ⟨b, o, none⟩) bs.length c), fun v _ => v = (.int .i64 (wAt bs 1 : Int)), fun v _ => v = (.int .i64 ((wAt bs 1 : Int) / 65280)), fun v W => (∃ a n c, v = .slice a n c) ∧ aS W w.heap.size v ([(wAt bs 1 : Int) / 65280]), fun v W => ∃ ta tn tc va vn vc, v = .agg #[.slice ta tn tc, .slice va vn vc, .int .i64 (0), .int .i64 (0)] ∧ aU w.heap.size W (.slice ta tn tc) [⟨0, (wAt bs 0 : Int), 1, true⟩] ∧ aS W w.heap.size (.slice va vn vc) ([(wAt bs 1 : Int) / 65280]), fun _ _ => True, fun v _ => v = (Value.int IntKind.i64 0)] i v W' := fun i v W W' h l => by
   match i, h with
   | 0, h => exact h
   | 1, h => exact h
   | 2, h => exact h
   | 3, h => exact aU.le h l
   | 4, h => exact h
   | 5, h => exact h
   | 6, h => exact h
   | 7, h => exact ⟨h.1, h.2.le l⟩
   | 8, h => exact (by obtain ⟨ta, tn, tc, va, vn, vc, q, ht, hv⟩ := h; exact ⟨ta, tn, tc, va, vn, vc, q, ht.le l, hv.le l⟩)
   | 9, h => exact h
   | 10, h => exact h
   | k + 11, h => trivial
 refine cN jZ (fun i => AskS w b2 [⟨0, (wAt bs 0 : Int), 1, true⟩] ([(wAt bs 1 : Int) / 65280]) (0) (0) (Nat.blt 9 i)) (RL [fun v _ => v = (.slice (some ⟨b, o, none⟩) bs.length c), fun v _ => v = (.int .i64 (wAt bs 0 : Int)), fun v _ => v = (.agg #[.int .i64 0, .int .i64 (wAt bs 0 : Int), .int .i64 1, .bool true]), fun v W => aU w.heap.size W v [⟨0, (wAt bs 0 : Int), 1, true⟩], fun v _ => v = (.slice (some ⟨b, o, none⟩) bs.length c), fun v _ => v = (.int .i64 (wAt bs 1 : Int)), fun v _ => v = (.int .i64 ((wAt bs 1 : Int) / 65280)), fun v W => (∃ a n c, v = .slice a n c) ∧ aS W w.heap.size v ([(wAt bs 1 : Int) / 65280]), fun v W => ∃ ta tn tc va vn vc, v = .agg #[.slice ta tn tc, .slice va vn vc, .int .i64 (0), .int .i64 (0)] ∧ aU w.heap.size W (.slice ta tn tc) [⟨0, (wAt bs 0 : Int), 1, true⟩] ∧ aS W w.heap.size (.slice va vn vc) ([(wAt bs 1 : Int) / 65280]), fun _ _ => True, fun v _ => v = (Value.int IntKind.i64 0)]) (by decide) rfl (Below.refl _ _) [true, true, true, true, true, true, true, true, true, true, true] ?_ (fun u W hS hR => hend u W hS (hR 10 (by decide)))
 unfold yD
 repeat' first | exact trivial | refine cX.cons rfl (fun u W hS hd => ?_) ?_
 ·have hS : AskS w b2 [⟨0, (wAt bs 0 : Int), 1, true⟩] ([(wAt bs 1 : Int) / 65280]) (0) (0) false W := hS
  refine DoesG.plain rfl ?_
  exact aB _ rfl (aC _) ((eout u 5 rfl).trans h5) aR.refl hS
 ·have hS : AskS w b2 [⟨0, (wAt bs 0 : Int), 1, true⟩] ([(wAt bs 1 : Int) / 65280]) (0) (0) false W := hS
  refine DoesG.plain rfl ?_
  have e0 : u 64 = (.slice (some ⟨b, o, none⟩) bs.length c) := hd 0 (by decide)
  have hj := rat2 b o bs.length c 0 0 bs W rfl rfl (by omega) hl hx (fun i hi => (hS.cell b _ hb hnb).trans (hcc i hi))
  rw [← e0, ← ein u 64 rfl] at hj
  refine aN _ rfl (bF _ _ _ _ (ef u _) rfl bO) _ hj ?_
  rintro e w' ⟨rfl, nq, rfl⟩
  exact ⟨_, rfl, rfl, (fun j _ q => hst j _ _ _ q (LeT.drawn _ _)), hS.keep (aY _ _)⟩
 ·have hS : AskS w b2 [⟨0, (wAt bs 0 : Int), 1, true⟩] ([(wAt bs 1 : Int) / 65280]) (0) (0) false W := hS
  refine DoesG.plain rfl ?_
  have e1 : u 65 = (.int .i64 (wAt bs 0 : Int)) := hd 1 (by decide)
  exact aB _ rfl (eY _ _ _ _ 0 (wAt bs 0 : Int) 1 true rfl ((ein u 65 rfl).trans e1) rfl rfl) rfl aR.refl hS
 ·have hS : AskS w b2 [⟨0, (wAt bs 0 : Int), 1, true⟩] ([(wAt bs 1 : Int) / 65280]) (0) (0) false W := hS
  refine DoesG.plain rfl ?_
  have e2 : u 66 = (.agg #[.int .i64 0, .int .i64 (wAt bs 0 : Int), .int .i64 1, .bool true]) := hd 2 (by decide)
  exact aB _ rfl (gS _ 0 (wAt bs 0 : Int) 1 true ((ein u 66 rfl).trans e2)) (fU W w.heap.size [⟨0, (wAt bs 0 : Int), 1, true⟩] hS.size) (fun j _ q => hst j _ _ _ q (LeT.new _ _)) (hS.keep (aZ _ _))
 ·have hS : AskS w b2 [⟨0, (wAt bs 0 : Int), 1, true⟩] ([(wAt bs 1 : Int) / 65280]) (0) (0) false W := hS
  refine DoesG.plain rfl ?_
  exact aB _ rfl (aC _) ((eout u 5 rfl).trans h5) aR.refl hS
 ·have hS : AskS w b2 [⟨0, (wAt bs 0 : Int), 1, true⟩] ([(wAt bs 1 : Int) / 65280]) (0) (0) false W := hS
  refine DoesG.plain rfl ?_
  have e4 : u 68 = (.slice (some ⟨b, o, none⟩) bs.length c) := hd 4 (by decide)
  have hj := rat2 b o bs.length c 2 1 bs W rfl rfl (by omega) hl hx (fun i hi => (hS.cell b _ hb hnb).trans (hcc i hi))
  rw [← e4, ← ein u 68 rfl] at hj
  refine aN _ rfl (bF _ _ _ _ (ef u _) rfl bO) _ hj ?_
  rintro e w' ⟨rfl, nq, rfl⟩
  exact ⟨_, rfl, rfl, (fun j _ q => hst j _ _ _ q (LeT.drawn _ _)), hS.keep (aY _ _)⟩
 ·have hS : AskS w b2 [⟨0, (wAt bs 0 : Int), 1, true⟩] ([(wAt bs 1 : Int) / 65280]) (0) (0) false W := hS
  refine DoesG.plain rfl ?_
  have e5 : u 69 = (.int .i64 (wAt bs 1 : Int)) := hd 5 (by decide)
  exact aB _ rfl (aCm _ (wAt bs 1 : Int) (fun _ => by simp [Act.eval]) ((ein u 69 rfl).trans e5) (by omega) (by have := dU bs hx 1; omega)) rfl aR.refl hS
 ·have hS : AskS w b2 [⟨0, (wAt bs 0 : Int), 1, true⟩] ([(wAt bs 1 : Int) / 65280]) (0) (0) false W := hS
  refine DoesG.plain rfl ?_
  have e6 : u 70 = (.int .i64 ((wAt bs 1 : Int) / 65280)) := hd 6 (by decide)
  exact aB _ rfl (qM _ ((wAt bs 1 : Int) / 65280) ((ein u 70 rfl).trans e6)) ⟨⟨_, _, _, rfl⟩, aGo W w.heap.size ((wAt bs 1 : Int) / 65280) hS.size⟩ (fun j _ q => hst j _ _ _ q (LeT.new _ _)) (hS.keep (aZ _ _))
 ·have hS : AskS w b2 [⟨0, (wAt bs 0 : Int), 1, true⟩] ([(wAt bs 1 : Int) / 65280]) (0) (0) false W := hS
  refine DoesG.plain rfl ?_
  have e3 : (fun v W => aU w.heap.size W v [⟨0, (wAt bs 0 : Int), 1, true⟩]) (u 67) W := hd 3 (by decide)
  have e7 : (fun v W => (∃ a n c, v = .slice a n c) ∧ aS W w.heap.size v ([(wAt bs 1 : Int) / 65280])) (u 71) W := hd 7 (by decide)
  obtain ⟨g, q, hg, hr⟩ := e3
  obtain ⟨⟨va, vn, vc, q2⟩, hv⟩ := e7
  rw [q2] at hv
  exact aB _ rfl (jL _ _ _ _ _ _ _ _ ((ein u 67 rfl).trans q) ((ein u 71 rfl).trans q2)) ⟨_, _, _, va, vn, vc, rfl, ⟨g, rfl, hg, hr⟩, hv⟩ aR.refl hS
 ·have hS : AskS w b2 [⟨0, (wAt bs 0 : Int), 1, true⟩] ([(wAt bs 1 : Int) / 65280]) (0) (0) false W := hS
  refine DoesG.plain rfl ?_
  have e8 : (fun v W => ∃ ta tn tc va vn vc, v = .agg #[.slice ta tn tc, .slice va vn vc, .int .i64 (0), .int .i64 (0)] ∧ aU w.heap.size W (.slice ta tn tc) [⟨0, (wAt bs 0 : Int), 1, true⟩] ∧ aS W w.heap.size (.slice va vn vc) ([(wAt bs 1 : Int) / 65280])) (u 72) W := hd 8 (by decide)
  obtain ⟨ta, tn, tc, va, vn, vc, q, ht, hv⟩ := e8
  have hbl : Below w.heap.size w W := hS
  have hr := (hbl.block _ (Array.getElem?_eq_some_iff.1 hrow).1).trans hrow
  exact eS _ _ b2 ta va tn tc vn vc (0) (0) _ rfl ((eout u 2 rfl).trans h2) ((ein u 72 rfl).trans q) hr (fun w' hc hr' => ⟨trivial, (fun j _ q => hst j _ _ _ q (LeT.chg hc hr)), Chg.trans (Chg.of_below hbl (fun k => k = b2)) hc (fun _ e _ => e), ta, tn, tc, va, vn, vc, hr', ht.le (LeT.chg hc hr), hv.le (LeT.chg hc hr)⟩)
 ·have hS : AskS w b2 [⟨0, (wAt bs 0 : Int), 1, true⟩] ([(wAt bs 1 : Int) / 65280]) (0) (0) true W := hS
  refine DoesG.plain rfl ?_
  exact aB _ rfl (aX _) rfl aR.refl hS
def yC : List Oper := [
 ⟨some 78, .move (.tmp 5), 37, "relay.go:227", #[], none⟩,
 ⟨some 79, .call { callee := .value (.func 176), args := #[.tmp 78, .const (.int .i64 0)], argTypes := #[37, 3] }, 3, "relay.go:227", #[⟨0, .data⟩], none⟩,
 ⟨some 80, .build 257 #[(0, .const (.int .i64 3)), (1, .tmp 79), (2, .const (.int .i64 1)), (3, .const (.bool true))], 257, "relay.go:227", #[⟨1, .data⟩], none⟩,
 ⟨some 81, .buildSlice 250 1 #[(0, .tmp 80)], 250, "relay.go:227", #[⟨2, .data⟩], none⟩,
 ⟨some 82, .move (.tmp 5), 37, "relay.go:227", #[], none⟩,
 ⟨some 83, .call { callee := .value (.func 176), args := #[.tmp 82, .const (.int .i64 2)], argTypes := #[37, 3] }, 3, "relay.go:227", #[⟨4, .data⟩, ⟨1, .chain⟩], none⟩,
 ⟨some 84, .buildSlice 24 1 #[(0, .tmp 83)], 24, "relay.go:227", #[⟨5, .data⟩], none⟩,
 ⟨some 85, .build 252 #[(0, .tmp 81), (1, .tmp 84)], 252, "relay.go:227", #[⟨3, .data⟩, ⟨6, .data⟩], none⟩,
 ⟨none, .store 252 (.tmp 2) (.tmp 85), 0, "relay.go:227", #[⟨7, .data⟩, ⟨5, .chain⟩, ⟨0, .phase⟩, ⟨1, .phase⟩, ⟨2, .phase⟩, ⟨3, .phase⟩, ⟨4, .phase⟩, ⟨5, .phase⟩, ⟨6, .phase⟩, ⟨7, .phase⟩], none⟩,
 ⟨some 3, .assign (.const (.int .i64 0)), 3, "relay.go:227", #[⟨8, .chain⟩, ⟨0, .phase⟩, ⟨1, .phase⟩, ⟨2, .phase⟩, ⟨3, .phase⟩, ⟨4, .phase⟩, ⟨5, .phase⟩, ⟨6, .phase⟩, ⟨7, .phase⟩, ⟨8, .phase⟩], none⟩]
def jY : List (Option Nat) := [some 78, some 79, some 80, some 81, some 82, some 83, some 84, some 85, none, some 3]
theorem aF9 (a : Act) (Q : Exit → Act → World → Prop) (w : World) (id : Nat) (b o c b2 : Nat) (bs : List Int) (hsz : 244 ≤ a.tmps.size)
  (hl : bs.length ≤ 1000) (hx : Bys bs) (hb : b < w.heap.size) (hnb : b ≠ b2) (hcc : ∀ i, i < bs.length → w.cell? ⟨b, o + i, none⟩ = some (.int .u8 (bs.getD i 0))) (h5 : a.eval (.tmp 5) = .slice (some ⟨b, o, none⟩) bs.length c) (h2 : a.eval (.tmp 2) = .pointer (some ⟨b2, 0, none⟩)) (hrow : w.heap[b2]? = some (.cells #[.slice none 0 0, .slice none 0 0, .int .i64 0, .int .i64 0] 252 (0, 0))) (hn : bs.length = 4)
  (hend : ∀ u W, AskS w b2 [⟨3, (wAt bs 0 : Int), 1, true⟩] ([(wAt bs 1 : Int)]) (0) (0) true W → u 3 = .int .i64 0 → Q .normal (over a jY u) W) : (Code.region id yC.toArray false).wp Tryz.prog Q a w := by
 have ein : ∀ u k, inS jY 244 k = true → (over a jY u).eval (.tmp k) = u k := cQ a jY 244 hsz
 have eout : ∀ u k, outS jY 244 k = true → (over a jY u).eval (.tmp k) = a.eval (.tmp k) := cF a jY 244 hsz
 have ef : ∀ u f, (over a jY u).eval (.func f) = .func (.func f) #[] #[] := fun u f => by simp [Act.eval]
 have hst : ∀ i v W W', RL [fun v _ => v = (.slice (some ⟨b, o, none⟩) bs.length c), fun v _ => v = (.int .i64 (wAt bs 0 : Int)), fun v _ => v = (.agg #[.int .i64 3, .int .i64 (wAt bs 0 : Int), .int .i64 1, .bool true]), fun v W => aU w.heap.size W v [⟨3, (wAt bs 0 : Int), 1, true⟩], fun v _ => v = (.slice (some ⟨b, o, none⟩) bs.length c), fun v _ => v = (.int .i64 (wAt bs 1 : Int)), fun v W => (∃ a n c, v = .slice a n c) ∧ aS W w.heap.size v ([(wAt bs 1 : Int)]), fun v W => ∃ ta tn tc va vn vc, v = .agg #[.slice ta tn tc, .slice va vn vc, .int .i64 (0), .int .i64 (0)] ∧ aU w.heap.size W (.slice ta tn tc) [⟨3, (wAt bs 0 : Int), 1, true⟩] ∧ aS W w.heap.size (.slice va vn vc) ([(wAt bs 1 : Int)]), fun _ _ => True, fun v _ => v = (Value.int IntKind.i64 0)] i v W → LeT W W' → RL [fun v _ => v = (.slice (some ⟨b, o, none⟩) bs.length c), fun v _ => v = (.int .i64 (wAt bs 0 : Int)), fun v _ => v = (.agg #[.int .i64 3, .int .i64 (wAt bs 0 : Int), .int .i64 1, .bool true]), fun v W => aU w.heap.size W v [⟨3, (wAt bs 0 : Int), 1, true⟩], fun v _ => v = (.slice (some ⟨b, o, none⟩) bs.length c), fun v _ => v = (.int .i64 (wAt bs 1 : Int)), fun v W => (∃ a n c, v = .slice a n c) ∧ aS W w.heap.size v ([(wAt bs 1 : Int)]), fun v W => ∃ ta tn tc va vn vc, v = .agg #[.slice ta tn tc, .slice va vn vc, .int .i64 (0), .int .i64 (0)] ∧ aU w.heap.size W (.slice ta tn tc) [⟨3, (wAt bs 0 : Int), 1, true⟩] ∧ aS W w.heap.size (.slice va vn vc) ([(wAt bs 1 : Int)]), fun _ _ => True, fun v _ => v = (Value.int IntKind.i64 0)] i v W' := fun i v W W' h l => by
   match i, h with
   | 0, h => exact h
   | 1, h => exact h
   | 2, h => exact h
   | 3, h => exact aU.le h l
   | 4, h => exact h
   | 5, h => exact h
   | 6, h => exact ⟨h.1, h.2.le l⟩
   | 7, h => exact (by obtain ⟨ta, tn, tc, va, vn, vc, q, ht, hv⟩ := h; exact ⟨ta, tn, tc, va, vn, vc, q, ht.le l, hv.le l⟩)
   | 8, h => exact h
   | 9, h => exact h
   | k + 10, h => trivial
 refine cN jY (fun i => AskS w b2 [⟨3, (wAt bs 0 : Int), 1, true⟩] ([(wAt bs 1 : Int)]) (0) (0) (Nat.blt 8 i)) (RL [fun v _ => v = (.slice (some ⟨b, o, none⟩) bs.length c), fun v _ => v = (.int .i64 (wAt bs 0 : Int)), fun v _ => v = (.agg #[.int .i64 3, .int .i64 (wAt bs 0 : Int), .int .i64 1, .bool true]), fun v W => aU w.heap.size W v [⟨3, (wAt bs 0 : Int), 1, true⟩], fun v _ => v = (.slice (some ⟨b, o, none⟩) bs.length c), fun v _ => v = (.int .i64 (wAt bs 1 : Int)), fun v W => (∃ a n c, v = .slice a n c) ∧ aS W w.heap.size v ([(wAt bs 1 : Int)]), fun v W => ∃ ta tn tc va vn vc, v = .agg #[.slice ta tn tc, .slice va vn vc, .int .i64 (0), .int .i64 (0)] ∧ aU w.heap.size W (.slice ta tn tc) [⟨3, (wAt bs 0 : Int), 1, true⟩] ∧ aS W w.heap.size (.slice va vn vc) ([(wAt bs 1 : Int)]), fun _ _ => True, fun v _ => v = (Value.int IntKind.i64 0)]) (by decide) rfl (Below.refl _ _) [true, true, true, true, true, true, true, true, true, true] ?_ (fun u W hS hR => hend u W hS (hR 9 (by decide)))
 unfold yC
 repeat' first | exact trivial | refine cX.cons rfl (fun u W hS hd => ?_) ?_
 ·have hS : AskS w b2 [⟨3, (wAt bs 0 : Int), 1, true⟩] ([(wAt bs 1 : Int)]) (0) (0) false W := hS
  refine DoesG.plain rfl ?_
  exact aB _ rfl (aC _) ((eout u 5 rfl).trans h5) aR.refl hS
 ·have hS : AskS w b2 [⟨3, (wAt bs 0 : Int), 1, true⟩] ([(wAt bs 1 : Int)]) (0) (0) false W := hS
  refine DoesG.plain rfl ?_
  have e0 : u 78 = (.slice (some ⟨b, o, none⟩) bs.length c) := hd 0 (by decide)
  have hj := rat2 b o bs.length c 0 0 bs W rfl rfl (by omega) hl hx (fun i hi => (hS.cell b _ hb hnb).trans (hcc i hi))
  rw [← e0, ← ein u 78 rfl] at hj
  refine aN _ rfl (bF _ _ _ _ (ef u _) rfl bO) _ hj ?_
  rintro e w' ⟨rfl, nq, rfl⟩
  exact ⟨_, rfl, rfl, (fun j _ q => hst j _ _ _ q (LeT.drawn _ _)), hS.keep (aY _ _)⟩
 ·have hS : AskS w b2 [⟨3, (wAt bs 0 : Int), 1, true⟩] ([(wAt bs 1 : Int)]) (0) (0) false W := hS
  refine DoesG.plain rfl ?_
  have e1 : u 79 = (.int .i64 (wAt bs 0 : Int)) := hd 1 (by decide)
  exact aB _ rfl (eY _ _ _ _ 3 (wAt bs 0 : Int) 1 true rfl ((ein u 79 rfl).trans e1) rfl rfl) rfl aR.refl hS
 ·have hS : AskS w b2 [⟨3, (wAt bs 0 : Int), 1, true⟩] ([(wAt bs 1 : Int)]) (0) (0) false W := hS
  refine DoesG.plain rfl ?_
  have e2 : u 80 = (.agg #[.int .i64 3, .int .i64 (wAt bs 0 : Int), .int .i64 1, .bool true]) := hd 2 (by decide)
  exact aB _ rfl (gS _ 3 (wAt bs 0 : Int) 1 true ((ein u 80 rfl).trans e2)) (fU W w.heap.size [⟨3, (wAt bs 0 : Int), 1, true⟩] hS.size) (fun j _ q => hst j _ _ _ q (LeT.new _ _)) (hS.keep (aZ _ _))
 ·have hS : AskS w b2 [⟨3, (wAt bs 0 : Int), 1, true⟩] ([(wAt bs 1 : Int)]) (0) (0) false W := hS
  refine DoesG.plain rfl ?_
  exact aB _ rfl (aC _) ((eout u 5 rfl).trans h5) aR.refl hS
 ·have hS : AskS w b2 [⟨3, (wAt bs 0 : Int), 1, true⟩] ([(wAt bs 1 : Int)]) (0) (0) false W := hS
  refine DoesG.plain rfl ?_
  have e4 : u 82 = (.slice (some ⟨b, o, none⟩) bs.length c) := hd 4 (by decide)
  have hj := rat2 b o bs.length c 2 1 bs W rfl rfl (by omega) hl hx (fun i hi => (hS.cell b _ hb hnb).trans (hcc i hi))
  rw [← e4, ← ein u 82 rfl] at hj
  refine aN _ rfl (bF _ _ _ _ (ef u _) rfl bO) _ hj ?_
  rintro e w' ⟨rfl, nq, rfl⟩
  exact ⟨_, rfl, rfl, (fun j _ q => hst j _ _ _ q (LeT.drawn _ _)), hS.keep (aY _ _)⟩
 ·have hS : AskS w b2 [⟨3, (wAt bs 0 : Int), 1, true⟩] ([(wAt bs 1 : Int)]) (0) (0) false W := hS
  refine DoesG.plain rfl ?_
  have e5 : u 83 = (.int .i64 (wAt bs 1 : Int)) := hd 5 (by decide)
  exact aB _ rfl (qM _ ((wAt bs 1 : Int)) ((ein u 83 rfl).trans e5)) ⟨⟨_, _, _, rfl⟩, aGo W w.heap.size ((wAt bs 1 : Int)) hS.size⟩ (fun j _ q => hst j _ _ _ q (LeT.new _ _)) (hS.keep (aZ _ _))
 ·have hS : AskS w b2 [⟨3, (wAt bs 0 : Int), 1, true⟩] ([(wAt bs 1 : Int)]) (0) (0) false W := hS
  refine DoesG.plain rfl ?_
  have e3 : (fun v W => aU w.heap.size W v [⟨3, (wAt bs 0 : Int), 1, true⟩]) (u 81) W := hd 3 (by decide)
  have e6 : (fun v W => (∃ a n c, v = .slice a n c) ∧ aS W w.heap.size v ([(wAt bs 1 : Int)])) (u 84) W := hd 6 (by decide)
  obtain ⟨g, q, hg, hr⟩ := e3
  obtain ⟨⟨va, vn, vc, q2⟩, hv⟩ := e6
  rw [q2] at hv
  exact aB _ rfl (jL _ _ _ _ _ _ _ _ ((ein u 81 rfl).trans q) ((ein u 84 rfl).trans q2)) ⟨_, _, _, va, vn, vc, rfl, ⟨g, rfl, hg, hr⟩, hv⟩ aR.refl hS
 ·have hS : AskS w b2 [⟨3, (wAt bs 0 : Int), 1, true⟩] ([(wAt bs 1 : Int)]) (0) (0) false W := hS
  refine DoesG.plain rfl ?_
  have e7 : (fun v W => ∃ ta tn tc va vn vc, v = .agg #[.slice ta tn tc, .slice va vn vc, .int .i64 (0), .int .i64 (0)] ∧ aU w.heap.size W (.slice ta tn tc) [⟨3, (wAt bs 0 : Int), 1, true⟩] ∧ aS W w.heap.size (.slice va vn vc) ([(wAt bs 1 : Int)])) (u 85) W := hd 7 (by decide)
  obtain ⟨ta, tn, tc, va, vn, vc, q, ht, hv⟩ := e7
  have hbl : Below w.heap.size w W := hS
  have hr := (hbl.block _ (Array.getElem?_eq_some_iff.1 hrow).1).trans hrow
  exact eS _ _ b2 ta va tn tc vn vc (0) (0) _ rfl ((eout u 2 rfl).trans h2) ((ein u 85 rfl).trans q) hr (fun w' hc hr' => ⟨trivial, (fun j _ q => hst j _ _ _ q (LeT.chg hc hr)), Chg.trans (Chg.of_below hbl (fun k => k = b2)) hc (fun _ e _ => e), ta, tn, tc, va, vn, vc, hr', ht.le (LeT.chg hc hr), hv.le (LeT.chg hc hr)⟩)
 ·have hS : AskS w b2 [⟨3, (wAt bs 0 : Int), 1, true⟩] ([(wAt bs 1 : Int)]) (0) (0) true W := hS
  refine DoesG.plain rfl ?_
  exact aB _ rfl (aX _) rfl aR.refl hS
def xX : List Oper := [
 ⟨some 184, .move (.tmp 9), 3, "relay.go:240", #[], none⟩,
 ⟨some 185, .build 257 #[(0, .const (.int .i64 3)), (1, .tmp 184), (2, .const (.int .i64 1)), (3, .const (.bool false))], 257, "relay.go:240", #[⟨0, .data⟩], none⟩,
 ⟨some 186, .move (.tmp 9), 3, "relay.go:240", #[], none⟩,
 ⟨some 187, .build 257 #[(0, .const (.int .i64 3)), (1, .tmp 186), (2, .const (.int .i64 1)), (3, .const (.bool true))], 257, "relay.go:240", #[⟨2, .data⟩], none⟩,
 ⟨some 188, .buildSlice 250 2 #[(0, .tmp 185), (1, .tmp 187)], 250, "relay.go:240", #[⟨1, .data⟩, ⟨3, .data⟩], none⟩,
 ⟨some 189, .move (.tmp 5), 37, "relay.go:240", #[], none⟩,
 ⟨some 190, .call { callee := .value (.func 176), args := #[.tmp 189, .const (.int .i64 2)], argTypes := #[37, 3] }, 3, "relay.go:240", #[⟨5, .data⟩], none⟩,
 ⟨some 191, .move (.tmp 5), 37, "relay.go:240", #[], none⟩,
 ⟨some 192, .call { callee := .value (.func 176), args := #[.tmp 191, .const (.int .i64 4)], argTypes := #[37, 3] }, 3, "relay.go:240", #[⟨7, .data⟩, ⟨6, .chain⟩], none⟩,
 ⟨some 193, .build 252 #[(0, .tmp 188), (2, .tmp 190), (3, .tmp 192)], 252, "relay.go:240", #[⟨4, .data⟩, ⟨6, .data⟩, ⟨8, .data⟩], none⟩,
 ⟨none, .store 252 (.tmp 2) (.tmp 193), 0, "relay.go:240", #[⟨9, .data⟩, ⟨8, .chain⟩, ⟨0, .phase⟩, ⟨1, .phase⟩, ⟨2, .phase⟩, ⟨3, .phase⟩, ⟨4, .phase⟩, ⟨5, .phase⟩, ⟨6, .phase⟩, ⟨7, .phase⟩, ⟨8, .phase⟩, ⟨9, .phase⟩], none⟩,
 ⟨some 3, .assign (.const (.int .i64 0)), 3, "relay.go:240", #[⟨10, .chain⟩, ⟨0, .phase⟩, ⟨1, .phase⟩, ⟨2, .phase⟩, ⟨3, .phase⟩, ⟨4, .phase⟩, ⟨5, .phase⟩, ⟨6, .phase⟩, ⟨7, .phase⟩, ⟨8, .phase⟩, ⟨9, .phase⟩, ⟨10, .phase⟩], none⟩]
def jV : List (Option Nat) := [some 184, some 185, some 186, some 187, some 188, some 189, some 190, some 191, some 192, some 193, none, some 3]
theorem aF4 (a : Act) (Q : Exit → Act → World → Prop) (w : World) (id : Nat) (b o c b2 : Nat) (bs : List Int) (hsz : 244 ≤ a.tmps.size)
  (hl : bs.length ≤ 1000) (hx : Bys bs) (hb : b < w.heap.size) (hnb : b ≠ b2) (hcc : ∀ i, i < bs.length → w.cell? ⟨b, o + i, none⟩ = some (.int .u8 (bs.getD i 0))) (h5 : a.eval (.tmp 5) = .slice (some ⟨b, o, none⟩) bs.length c) (h2 : a.eval (.tmp 2) = .pointer (some ⟨b2, 0, none⟩)) (hrow : w.heap[b2]? = some (.cells #[.slice none 0 0, .slice none 0 0, .int .i64 0, .int .i64 0] 252 (0, 0))) (hn : bs.length = 6) (h9 : a.eval (.tmp 9) = .int .i64 (wAt bs 0 : Int))
  (hend : ∀ u W, AskS w b2 [⟨3, (wAt bs 0 : Int), 1, false⟩, ⟨3, (wAt bs 0 : Int), 1, true⟩] ([]) ((wAt bs 1 : Int)) ((wAt bs 2 : Int)) true W → u 3 = .int .i64 0 → Q .normal (over a jV u) W) : (Code.region id xX.toArray false).wp Tryz.prog Q a w := by
 have ein : ∀ u k, inS jV 244 k = true → (over a jV u).eval (.tmp k) = u k := cQ a jV 244 hsz
 have eout : ∀ u k, outS jV 244 k = true → (over a jV u).eval (.tmp k) = a.eval (.tmp k) := cF a jV 244 hsz
 have ef : ∀ u f, (over a jV u).eval (.func f) = .func (.func f) #[] #[] := fun u f => by simp [Act.eval]
 have hst : ∀ i v W W', RL [fun v _ => v = (.int .i64 (wAt bs 0 : Int)), fun v _ => v = (.agg #[.int .i64 3, .int .i64 (wAt bs 0 : Int), .int .i64 1, .bool false]), fun v _ => v = (.int .i64 (wAt bs 0 : Int)), fun v _ => v = (.agg #[.int .i64 3, .int .i64 (wAt bs 0 : Int), .int .i64 1, .bool true]), fun v W => aU w.heap.size W v [⟨3, (wAt bs 0 : Int), 1, false⟩, ⟨3, (wAt bs 0 : Int), 1, true⟩], fun v _ => v = (.slice (some ⟨b, o, none⟩) bs.length c), fun v _ => v = (.int .i64 (wAt bs 1 : Int)), fun v _ => v = (.slice (some ⟨b, o, none⟩) bs.length c), fun v _ => v = (.int .i64 (wAt bs 2 : Int)), fun v W => ∃ ta tn tc va vn vc, v = .agg #[.slice ta tn tc, .slice va vn vc, .int .i64 ((wAt bs 1 : Int)), .int .i64 ((wAt bs 2 : Int))] ∧ aU w.heap.size W (.slice ta tn tc) [⟨3, (wAt bs 0 : Int), 1, false⟩, ⟨3, (wAt bs 0 : Int), 1, true⟩] ∧ aS W w.heap.size (.slice va vn vc) ([]), fun _ _ => True, fun v _ => v = (Value.int IntKind.i64 0)] i v W → LeT W W' → RL [fun v _ => v = (.int .i64 (wAt bs 0 : Int)), fun v _ => v = (.agg #[.int .i64 3, .int .i64 (wAt bs 0 : Int), .int .i64 1, .bool false]), fun v _ => v = (.int .i64 (wAt bs 0 : Int)), fun v _ => v = (.agg #[.int .i64 3, .int .i64 (wAt bs 0 : Int), .int .i64 1, .bool true]), fun v W => aU w.heap.size W v [⟨3, (wAt bs 0 : Int), 1, false⟩, ⟨3, (wAt bs 0 : Int), 1, true⟩], fun v _ => v = (.slice (some ⟨b, o, none⟩) bs.length c), fun v _ => v = (.int .i64 (wAt bs 1 : Int)), fun v _ => v = (.slice (some ⟨b, o, none⟩) bs.length c), fun v _ => v = (.int .i64 (wAt bs 2 : Int)), fun v W => ∃ ta tn tc va vn vc, v = .agg #[.slice ta tn tc, .slice va vn vc, .int .i64 ((wAt bs 1 : Int)), .int .i64 ((wAt bs 2 : Int))] ∧ aU w.heap.size W (.slice ta tn tc) [⟨3, (wAt bs 0 : Int), 1, false⟩, ⟨3, (wAt bs 0 : Int), 1, true⟩] ∧ aS W w.heap.size (.slice va vn vc) ([]), fun _ _ => True, fun v _ => v = (Value.int IntKind.i64 0)] i v W' := fun i v W W' h l => by
   match i, h with
   | 0, h => exact h
   | 1, h => exact h
   | 2, h => exact h
   | 3, h => exact h
   | 4, h => exact aU.le h l
   | 5, h => exact h
   | 6, h => exact h
   | 7, h => exact h
   | 8, h => exact h
   | 9, h => exact (by obtain ⟨ta, tn, tc, va, vn, vc, q, ht, hv⟩ := h; exact ⟨ta, tn, tc, va, vn, vc, q, ht.le l, hv.le l⟩)
   | 10, h => exact h
   | 11, h => exact h
   | k + 12, h => trivial
 refine cN jV (fun i => AskS w b2 [⟨3, (wAt bs 0 : Int), 1, false⟩, ⟨3, (wAt bs 0 : Int), 1, true⟩] ([]) ((wAt bs 1 : Int)) ((wAt bs 2 : Int)) (Nat.blt 10 i)) (RL [fun v _ => v = (.int .i64 (wAt bs 0 : Int)), fun v _ => v = (.agg #[.int .i64 3, .int .i64 (wAt bs 0 : Int), .int .i64 1, .bool false]), fun v _ => v = (.int .i64 (wAt bs 0 : Int)), fun v _ => v = (.agg #[.int .i64 3, .int .i64 (wAt bs 0 : Int), .int .i64 1, .bool true]), fun v W => aU w.heap.size W v [⟨3, (wAt bs 0 : Int), 1, false⟩, ⟨3, (wAt bs 0 : Int), 1, true⟩], fun v _ => v = (.slice (some ⟨b, o, none⟩) bs.length c), fun v _ => v = (.int .i64 (wAt bs 1 : Int)), fun v _ => v = (.slice (some ⟨b, o, none⟩) bs.length c), fun v _ => v = (.int .i64 (wAt bs 2 : Int)), fun v W => ∃ ta tn tc va vn vc, v = .agg #[.slice ta tn tc, .slice va vn vc, .int .i64 ((wAt bs 1 : Int)), .int .i64 ((wAt bs 2 : Int))] ∧ aU w.heap.size W (.slice ta tn tc) [⟨3, (wAt bs 0 : Int), 1, false⟩, ⟨3, (wAt bs 0 : Int), 1, true⟩] ∧ aS W w.heap.size (.slice va vn vc) ([]), fun _ _ => True, fun v _ => v = (Value.int IntKind.i64 0)]) (by decide) rfl (Below.refl _ _) [true, true, true, true, true, true, true, true, true, true, true, true] ?_ (fun u W hS hR => hend u W hS (hR 11 (by decide)))
 unfold xX
 repeat' first | exact trivial | refine cX.cons rfl (fun u W hS hd => ?_) ?_
 ·have hS : AskS w b2 [⟨3, (wAt bs 0 : Int), 1, false⟩, ⟨3, (wAt bs 0 : Int), 1, true⟩] ([]) ((wAt bs 1 : Int)) ((wAt bs 2 : Int)) false W := hS
  refine DoesG.plain rfl ?_
  exact aB _ rfl (aC _) ((eout u 9 rfl).trans h9) aR.refl hS
 ·have hS : AskS w b2 [⟨3, (wAt bs 0 : Int), 1, false⟩, ⟨3, (wAt bs 0 : Int), 1, true⟩] ([]) ((wAt bs 1 : Int)) ((wAt bs 2 : Int)) false W := hS
  refine DoesG.plain rfl ?_
  have e0 : u 184 = (.int .i64 (wAt bs 0 : Int)) := hd 0 (by decide)
  exact aB _ rfl (eY _ _ _ _ 3 (wAt bs 0 : Int) 1 false rfl ((ein u 184 rfl).trans e0) rfl rfl) rfl aR.refl hS
 ·have hS : AskS w b2 [⟨3, (wAt bs 0 : Int), 1, false⟩, ⟨3, (wAt bs 0 : Int), 1, true⟩] ([]) ((wAt bs 1 : Int)) ((wAt bs 2 : Int)) false W := hS
  refine DoesG.plain rfl ?_
  exact aB _ rfl (aC _) ((eout u 9 rfl).trans h9) aR.refl hS
 ·have hS : AskS w b2 [⟨3, (wAt bs 0 : Int), 1, false⟩, ⟨3, (wAt bs 0 : Int), 1, true⟩] ([]) ((wAt bs 1 : Int)) ((wAt bs 2 : Int)) false W := hS
  refine DoesG.plain rfl ?_
  have e2 : u 186 = (.int .i64 (wAt bs 0 : Int)) := hd 2 (by decide)
  exact aB _ rfl (eY _ _ _ _ 3 (wAt bs 0 : Int) 1 true rfl ((ein u 186 rfl).trans e2) rfl rfl) rfl aR.refl hS
 ·have hS : AskS w b2 [⟨3, (wAt bs 0 : Int), 1, false⟩, ⟨3, (wAt bs 0 : Int), 1, true⟩] ([]) ((wAt bs 1 : Int)) ((wAt bs 2 : Int)) false W := hS
  refine DoesG.plain rfl ?_
  have e1 : u 185 = (.agg #[.int .i64 3, .int .i64 (wAt bs 0 : Int), .int .i64 1, .bool false]) := hd 1 (by decide)
  have e3 : u 187 = (.agg #[.int .i64 3, .int .i64 (wAt bs 0 : Int), .int .i64 1, .bool true]) := hd 3 (by decide)
  exact aB _ rfl (oC _ _ 3 (wAt bs 0 : Int) 1 3 (wAt bs 0 : Int) 1 false true ((ein u 185 rfl).trans e1) ((ein u 187 rfl).trans e3)) (fU W w.heap.size [⟨3, (wAt bs 0 : Int), 1, false⟩, ⟨3, (wAt bs 0 : Int), 1, true⟩] hS.size) (fun j _ q => hst j _ _ _ q (LeT.new _ _)) (hS.keep (aZ _ _))
 ·have hS : AskS w b2 [⟨3, (wAt bs 0 : Int), 1, false⟩, ⟨3, (wAt bs 0 : Int), 1, true⟩] ([]) ((wAt bs 1 : Int)) ((wAt bs 2 : Int)) false W := hS
  refine DoesG.plain rfl ?_
  exact aB _ rfl (aC _) ((eout u 5 rfl).trans h5) aR.refl hS
 ·have hS : AskS w b2 [⟨3, (wAt bs 0 : Int), 1, false⟩, ⟨3, (wAt bs 0 : Int), 1, true⟩] ([]) ((wAt bs 1 : Int)) ((wAt bs 2 : Int)) false W := hS
  refine DoesG.plain rfl ?_
  have e5 : u 189 = (.slice (some ⟨b, o, none⟩) bs.length c) := hd 5 (by decide)
  have hj := rat2 b o bs.length c 2 1 bs W rfl rfl (by omega) hl hx (fun i hi => (hS.cell b _ hb hnb).trans (hcc i hi))
  rw [← e5, ← ein u 189 rfl] at hj
  refine aN _ rfl (bF _ _ _ _ (ef u _) rfl bO) _ hj ?_
  rintro e w' ⟨rfl, nq, rfl⟩
  exact ⟨_, rfl, rfl, (fun j _ q => hst j _ _ _ q (LeT.drawn _ _)), hS.keep (aY _ _)⟩
 ·have hS : AskS w b2 [⟨3, (wAt bs 0 : Int), 1, false⟩, ⟨3, (wAt bs 0 : Int), 1, true⟩] ([]) ((wAt bs 1 : Int)) ((wAt bs 2 : Int)) false W := hS
  refine DoesG.plain rfl ?_
  exact aB _ rfl (aC _) ((eout u 5 rfl).trans h5) aR.refl hS
 ·have hS : AskS w b2 [⟨3, (wAt bs 0 : Int), 1, false⟩, ⟨3, (wAt bs 0 : Int), 1, true⟩] ([]) ((wAt bs 1 : Int)) ((wAt bs 2 : Int)) false W := hS
  refine DoesG.plain rfl ?_
  have e7 : u 191 = (.slice (some ⟨b, o, none⟩) bs.length c) := hd 7 (by decide)
  have hj := rat2 b o bs.length c 4 2 bs W rfl rfl (by omega) hl hx (fun i hi => (hS.cell b _ hb hnb).trans (hcc i hi))
  rw [← e7, ← ein u 191 rfl] at hj
  refine aN _ rfl (bF _ _ _ _ (ef u _) rfl bO) _ hj ?_
  rintro e w' ⟨rfl, nq, rfl⟩
  exact ⟨_, rfl, rfl, (fun j _ q => hst j _ _ _ q (LeT.drawn _ _)), hS.keep (aY _ _)⟩
 ·have hS : AskS w b2 [⟨3, (wAt bs 0 : Int), 1, false⟩, ⟨3, (wAt bs 0 : Int), 1, true⟩] ([]) ((wAt bs 1 : Int)) ((wAt bs 2 : Int)) false W := hS
  refine DoesG.plain rfl ?_
  have e4 : (fun v W => aU w.heap.size W v [⟨3, (wAt bs 0 : Int), 1, false⟩, ⟨3, (wAt bs 0 : Int), 1, true⟩]) (u 188) W := hd 4 (by decide)
  have e6 : u 190 = (.int .i64 (wAt bs 1 : Int)) := hd 6 (by decide)
  have e8 : u 192 = (.int .i64 (wAt bs 2 : Int)) := hd 8 (by decide)
  obtain ⟨g, q, hg, hr⟩ := e4
  exact aB _ rfl (aCs _ _ _ _ _ _ (wAt bs 1 : Int) (wAt bs 2 : Int) ((ein u 188 rfl).trans q) ((ein u 190 rfl).trans e6) ((ein u 192 rfl).trans e8)) ⟨_, _, _, none, 0, 0, rfl, ⟨g, rfl, hg, hr⟩, World.ownsRow_nil _ _ _ _⟩ aR.refl hS
 ·have hS : AskS w b2 [⟨3, (wAt bs 0 : Int), 1, false⟩, ⟨3, (wAt bs 0 : Int), 1, true⟩] ([]) ((wAt bs 1 : Int)) ((wAt bs 2 : Int)) false W := hS
  refine DoesG.plain rfl ?_
  have e9 : (fun v W => ∃ ta tn tc va vn vc, v = .agg #[.slice ta tn tc, .slice va vn vc, .int .i64 ((wAt bs 1 : Int)), .int .i64 ((wAt bs 2 : Int))] ∧ aU w.heap.size W (.slice ta tn tc) [⟨3, (wAt bs 0 : Int), 1, false⟩, ⟨3, (wAt bs 0 : Int), 1, true⟩] ∧ aS W w.heap.size (.slice va vn vc) ([])) (u 193) W := hd 9 (by decide)
  obtain ⟨ta, tn, tc, va, vn, vc, q, ht, hv⟩ := e9
  have hbl : Below w.heap.size w W := hS
  have hr := (hbl.block _ (Array.getElem?_eq_some_iff.1 hrow).1).trans hrow
  exact eS _ _ b2 ta va tn tc vn vc ((wAt bs 1 : Int)) ((wAt bs 2 : Int)) _ rfl ((eout u 2 rfl).trans h2) ((ein u 193 rfl).trans q) hr (fun w' hc hr' => ⟨trivial, (fun j _ q => hst j _ _ _ q (LeT.chg hc hr)), Chg.trans (Chg.of_below hbl (fun k => k = b2)) hc (fun _ e _ => e), ta, tn, tc, va, vn, vc, hr', ht.le (LeT.chg hc hr), hv.le (LeT.chg hc hr)⟩)
 ·have hS : AskS w b2 [⟨3, (wAt bs 0 : Int), 1, false⟩, ⟨3, (wAt bs 0 : Int), 1, true⟩] ([]) ((wAt bs 1 : Int)) ((wAt bs 2 : Int)) true W := hS
  refine DoesG.plain rfl ?_
  exact aB _ rfl (aX _) rfl aR.refl hS
end Go.Proofs.YtfekelmldebplaaGreatDoor
