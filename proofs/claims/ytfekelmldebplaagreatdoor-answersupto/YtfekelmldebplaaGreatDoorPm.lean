import Derived.Laws.ResultCell
import Derived.Deep.DeepCutAuto
import Derived.Test.YtfekelmldebplaaGreatDoorPj
import Derived.Test.YtfekelmldebplaaGreatDoorBb
set_option maxRecDepth 100000
set_option maxHeartbeats 8000000
namespace Go.Proofs.YtfekelmldebplaaGreatDoor
open Go.RowKit
theorem aS.weakB {w : World} {B B' : Nat} {v : Value} {xs : List Int} (h : aS w B v xs) (hb : B' ≤ B) : aS w B' v xs := by
 obtain ⟨h1, h2⟩ := h
 refine ⟨h1, h2.imp id ?_⟩
 rintro ⟨g, cap, cur, hv, hg, r⟩
 exact ⟨g, cap, cur, hv, by omega, r⟩
def pT (B : Nat) (W : World) (b2 : Nat) (ts : List Tch) (vals : List Int) (x y : Int) : Prop := ∃ ta tn tc va vn vc, W.heap[b2]? = some (.cells #[.slice ta tn tc, .slice va vn vc, .int .i64 x, .int .i64 y] 252 (0, 0)) ∧ aU B W (.slice ta tn tc) ts ∧ aS W B (.slice va vn vc) vals
def AskS (w : World) (b2 : Nat) (ts : List Tch) (vals : List Int) (x y : Int) : Bool → World → Prop
 | false, W => Below w.heap.size w W
 | true, W => Chg w W (fun k => k = b2) ∧ pT w.heap.size W b2 ts vals x y
theorem pT.below {B : Nat} {W W' : World} {b2 : Nat} {ts : List Tch} {vals : List Int} {x y : Int} (h : pT B W b2 ts vals x y) (hb : Below W.heap.size W W') : pT B W' b2 ts vals x y := by
 obtain ⟨ta, tn, tc, va, vn, vc, hr, ht, hv⟩ := h
 exact ⟨ta, tn, tc, va, vn, vc, (hb.block _ (Array.getElem?_eq_some_iff.1 hr).1).trans hr, ht.le (LeT.of_below hb), hv.le (LeT.of_below hb)⟩
theorem AskS.keep {w : World} {b2 : Nat} {ts : List Tch} {vals : List Int} {x y : Int} {b : Bool} {W W' : World} (h : AskS w b2 ts vals x y b W) (hb : Below W.heap.size W W') : AskS w b2 ts vals x y b W' := by
 cases b with
 | false => exact aD h hb
 | true => exact ⟨h.1.trans (Chg.of_below hb (fun k => k = b2)) (fun _ e _ => e), h.2.below hb⟩
theorem AskS.cell {w : World} {b2 : Nat} {ts : List Tch} {vals : List Int} {x y : Int} {b : Bool} {W : World} (h : AskS w b2 ts vals x y b W) (k i : Nat) (hk : k < w.heap.size) (hn : k ≠ b2) : W.cell? ⟨k, i, none⟩ = w.cell? ⟨k, i, none⟩ := by
 cases b with
 | false => exact Below.cell h hk
 | true => exact World.cell?_of_block (h.1.block k hk hn)
theorem AskS.size {w : World} {b2 : Nat} {ts : List Tch} {vals : List Int} {x y : Int} {b : Bool} {W : World} (h : AskS w b2 ts vals x y b W) : w.heap.size ≤ W.heap.size := by
 cases b with
 | false => exact Below.size h
 | true => exact h.1.size
theorem LeT.chg {W W' : World} {b2 : Nat} {cs : Array Value} (h : Chg W W' (fun k => k = b2)) (hr : W.heap[b2]? = some (.cells cs 252 (0, 0))) : LeT W W' := fun k cs' T fr hT q =>
 (h.block k (Array.getElem?_eq_some_iff.1 q).1 (fun e => by
   subst e
   rw [hr] at q
   cases q
   exact hT rfl)).trans q
theorem rat2 (b o n c i k : Nat) (bs : List Int) (W : World) (hi : i = 2 * k) (hn : n = bs.length) (hk : 2 * k + 1 < bs.length) (hl : bs.length ≤ 1000) (hx : Bys bs) (hcc : ∀ i, i < bs.length → W.cell? ⟨b, o + i, none⟩ = some (.int .u8 (bs.getD i 0))) :
  Calls Tryz.prog 176 #[.slice (some ⟨b, o, none⟩) n c, .int .i64 (i : Int)] W fun e w' => e = .returned (.int .i64 (wAt bs k : Int)) ∧ ∃ nq, w' = W.drewN nq := by
 subst hi
 subst hn
 rw [rU bs hx k]
 exact yZ b o bs.length c (2 * k) _ _ W hk (by omega) (hcc _ (by omega)) (hcc _ (by omega)) (hx.at _) (hx.at _)
theorem aY (W : World) (n : Nat) : Below W.heap.size W (W.drewN n) := ⟨rfl, rfl, rfl, Nat.le_refl _, fun _ _ => rfl⟩
theorem fU (W : World) (B : Nat) (ts : List Tch) (hB : B ≤ W.heap.size) : aU B (W.alloc (.cells (ts.flatMap fun x => x.cells.toList).toArray 257)) (.slice (some ⟨W.heap.size, 0, none⟩) ts.length ts.length) ts := ⟨W.heap.size, rfl, hB, heap_alloc_new W _⟩
theorem kZ (bs : List Int) (hx : Bys bs) (n : Nat) : ((List.range n).map fun i => 256 * bs.getD (2 * i) 0 + bs.getD (2 * i + 1) 0) = bY bs n := by
 unfold bY
 apply List.map_congr_left
 intro i _
 exact (rU bs hx i).symm
theorem kV {W : World} {b o k : Nat} {bs : List Int} (h : ∀ i, i < bs.length → W.cell? ⟨b, o + i, none⟩ = some (.int .u8 (bs.getD i 0))) : ∀ i, i < (bs.drop k).length → W.cell? ⟨b, o + k + i, none⟩ = some (.int .u8 ((bs.drop k).getD i 0)) := fun i hi => by
 rw [List.length_drop] at hi
 rw [Nat.add_assoc, h (k + i) (by omega)]
 simp [List.getD, List.getElem?_drop]
def sU : List Oper := [
 ⟨some 38, .move (.tmp 7), 24, "relay.go:219", #[], none⟩,
 ⟨some 39, .move (.tmp 4), 3, "relay.go:219", #[], none⟩,
 ⟨some 40, .indexAddr 24 (.tmp 38) (.tmp 39), 0, "relay.go:219", #[⟨0, .data⟩, ⟨1, .data⟩], none⟩,
 ⟨some 41, .load 3 (.tmp 40), 3, "relay.go:219", #[⟨2, .data⟩], none⟩,
 ⟨some 42, .move (.tmp 5), 37, "relay.go:219", #[], none⟩,
 ⟨some 43, .call { callee := .value (.func 176), args := #[.tmp 42, .const (.int .i64 0)], argTypes := #[37, 3] }, 3, "relay.go:219", #[⟨4, .data⟩], none⟩,
 ⟨some 44, .move (.tmp 5), 37, "relay.go:219", #[], none⟩,
 ⟨some 45, .call { callee := .value (.func 176), args := #[.tmp 44, .const (.int .i64 2)], argTypes := #[37, 3] }, 3, "relay.go:219", #[⟨6, .data⟩, ⟨5, .chain⟩], none⟩,
 ⟨some 46, .build 257 #[(0, .tmp 41), (1, .tmp 43), (2, .tmp 45), (3, .const (.bool false))], 257, "relay.go:219", #[⟨3, .data⟩, ⟨5, .data⟩, ⟨7, .data⟩], none⟩,
 ⟨some 47, .buildSlice 250 1 #[(0, .tmp 46)], 250, "relay.go:219", #[⟨8, .data⟩], none⟩,
 ⟨some 48, .build 252 #[(0, .tmp 47)], 252, "relay.go:219", #[⟨9, .data⟩], none⟩,
 ⟨none, .store 252 (.tmp 2) (.tmp 48), 0, "relay.go:219", #[⟨10, .data⟩, ⟨7, .chain⟩, ⟨0, .phase⟩, ⟨1, .phase⟩, ⟨2, .phase⟩, ⟨3, .phase⟩, ⟨4, .phase⟩, ⟨5, .phase⟩, ⟨6, .phase⟩, ⟨7, .phase⟩, ⟨8, .phase⟩, ⟨9, .phase⟩, ⟨10, .phase⟩], none⟩,
 ⟨some 3, .assign (.const (.int .i64 0)), 3, "relay.go:219", #[⟨11, .chain⟩, ⟨0, .phase⟩, ⟨1, .phase⟩, ⟨2, .phase⟩, ⟨3, .phase⟩, ⟨4, .phase⟩, ⟨5, .phase⟩, ⟨6, .phase⟩, ⟨7, .phase⟩, ⟨8, .phase⟩, ⟨9, .phase⟩, ⟨10, .phase⟩, ⟨11, .phase⟩], none⟩]
def kA : List (Option Nat) := [some 38, some 39, some 40, some 41, some 42, some 43, some 44, some 45, some 46, some 47, some 48, none, some 3]
theorem aGc (a : Act) (Q : Exit → Act → World → Prop) (w : World) (id : Nat) (b o c b2 : Nat) (bs : List Int) (tb f : Nat) (t : Int) (hsz : 244 ≤ a.tmps.size)
  (hl : bs.length ≤ 1000) (hx : Bys bs) (hb : b < w.heap.size) (hnb : b ≠ b2) (hcc : ∀ i, i < bs.length → w.cell? ⟨b, o + i, none⟩ = some (.int .u8 (bs.getD i 0))) (h5 : a.eval (.tmp 5) = .slice (some ⟨b, o, none⟩) bs.length c) (h2 : a.eval (.tmp 2) = .pointer (some ⟨b2, 0, none⟩)) (hrow : w.heap[b2]? = some (.cells #[.slice none 0 0, .slice none 0 0, .int .i64 0, .int .i64 0] 252 (0, 0))) (hn : bs.length = 4) (hf : f < 5) (htl : tb < w.heap.size) (htb : tb ≠ b2) (ht : w.cell? ⟨tb, f, none⟩ = some (.int .i64 t)) (h7 : a.eval (.tmp 7) = .slice (some ⟨tb, 0, none⟩) 5 5) (h4 : a.eval (.tmp 4) = .int .i64 (f : Int))
  (hend : ∀ u W, AskS w b2 [⟨t, (wAt bs 0 : Int), (wAt bs 1 : Int), false⟩] ([]) 0 0 true W → u 3 = .int .i64 0 → Q .normal (over a kA u) W) : (Code.region id sU.toArray true).wp Tryz.prog Q a w := by
 have ein : ∀ u k, inS kA 244 k = true → (over a kA u).eval (.tmp k) = u k := cQ a kA 244 hsz
 have eout : ∀ u k, outS kA 244 k = true → (over a kA u).eval (.tmp k) = a.eval (.tmp k) := cF a kA 244 hsz
 have ef : ∀ u f, (over a kA u).eval (.func f) = .func (.func f) #[] #[] := fun u f => by simp [Act.eval]
 refine dT kA 11 (AskS w b2 [⟨t, (wAt bs 0 : Int), (wAt bs 1 : Int), false⟩] ([]) 0 0) LeT (RL [fun v _ => v = (.slice (some ⟨tb, 0, none⟩) 5 5), fun v _ => v = (.int .i64 (f : Int)), fun v _ => v = (.pointer (some ⟨tb, f, none⟩)), fun v _ => v = (.int .i64 t), fun v _ => v = (.slice (some ⟨b, o, none⟩) bs.length c), fun v _ => v = (.int .i64 (wAt bs 0 : Int)), fun v _ => v = (.slice (some ⟨b, o, none⟩) bs.length c), fun v _ => v = (.int .i64 (wAt bs 1 : Int)), fun v _ => v = (.agg #[.int .i64 t, .int .i64 (wAt bs 0 : Int), .int .i64 (wAt bs 1 : Int), .bool false]), fun v W => aU w.heap.size W v [⟨t, (wAt bs 0 : Int), (wAt bs 1 : Int), false⟩], fun v W => ∃ ta tn tc va vn vc, v = .agg #[.slice ta tn tc, .slice va vn vc, .int .i64 0, .int .i64 0] ∧ aU w.heap.size W (.slice ta tn tc) [⟨t, (wAt bs 0 : Int), (wAt bs 1 : Int), false⟩] ∧ aS W w.heap.size (.slice va vn vc) ([]), fun _ _ => True, fun v _ => v = (Value.int IntKind.i64 0)]) (by kernel_rfl) (by decide) rfl (by decide) (fun i v W W' h l => by
    match i, h with
    | 0, h => exact h
    | 1, h => exact h
    | 2, h => exact h
    | 3, h => exact h
    | 4, h => exact h
    | 5, h => exact h
    | 6, h => exact h
    | 7, h => exact h
    | 8, h => exact h
    | 9, h => exact aU.le h l
    | 10, h => exact (by obtain ⟨ta, tn, tc, va, vn, vc, q, ht, hv⟩ := h; exact ⟨ta, tn, tc, va, vn, vc, q, ht.le l, hv.le l⟩)
    | 11, h => exact h
    | 12, h => exact h
    | k + 13, h => trivial) (by decide) ((Below.refl _ _).drew) ?_ (fun u W hS hR => hend u W hS (hR 12 (by decide)))
 unfold sU
 repeat' first | exact trivial | refine dL.cons rfl rfl (fun fl u W hb0 hS hd => ?_) ?_
 ·exact aB _ rfl (aC _) ((eout u 7 rfl).trans h7) (LeT.refl _) hS
 ·exact aB _ rfl (aC _) ((eout u 4 rfl).trans h4) (LeT.refl _) hS
 ·have e0 : u 38 = (.slice (some ⟨tb, 0, none⟩) 5 5) := hd.1
  have e1 : u 39 = (.int .i64 (f : Int)) := hd.2.1
  exact aB _ rfl (aAz _ _ tb 5 5 f ((ein u 38 rfl).trans e0) ((ein u 39 rfl).trans e1) hf) rfl (LeT.refl _) hS
 ·have e2 : u 40 = (.pointer (some ⟨tb, f, none⟩)) := hd.1
  exact aB _ rfl (cY _ tb f t ((ein u 40 rfl).trans e2) ((hS.cell tb _ htl htb).trans ht)) rfl (LeT.refl _) hS
 ·exact aB _ rfl (aC _) ((eout u 5 rfl).trans h5) (LeT.refl _) hS
 ·have e4 : u 42 = (.slice (some ⟨b, o, none⟩) bs.length c) := hd.1
  have hj := rat2 b o bs.length c 0 0 bs W rfl rfl (by omega) hl hx (fun i hi => (hS.cell b _ hb hnb).trans (hcc i hi))
  rw [← e4, ← ein u 42 rfl] at hj
  refine aN _ rfl (bF _ _ _ _ (ef u _) rfl bO) _ hj ?_
  rintro e w' ⟨rfl, nq, rfl⟩
  exact ⟨_, rfl, rfl, LeT.drawn _ _, hS.keep (aY _ _)⟩
 ·exact aB _ rfl (aC _) ((eout u 5 rfl).trans h5) (LeT.refl _) hS
 ·have e6 : u 44 = (.slice (some ⟨b, o, none⟩) bs.length c) := hd.1
  have hj := rat2 b o bs.length c 2 1 bs W rfl rfl (by omega) hl hx (fun i hi => (hS.cell b _ hb hnb).trans (hcc i hi))
  rw [← e6, ← ein u 44 rfl] at hj
  refine aN _ rfl (bF _ _ _ _ (ef u _) rfl bO) _ hj ?_
  rintro e w' ⟨rfl, nq, rfl⟩
  exact ⟨_, rfl, rfl, LeT.drawn _ _, hS.keep (aY _ _)⟩
 ·have e3 : u 41 = (.int .i64 t) := hd.1
  have e5 : u 43 = (.int .i64 (wAt bs 0 : Int)) := hd.2.1
  have e7 : u 45 = (.int .i64 (wAt bs 1 : Int)) := hd.2.2.1
  exact aB _ rfl (eY _ _ _ _ t (wAt bs 0 : Int) (wAt bs 1 : Int) false ((ein u 41 rfl).trans e3) ((ein u 43 rfl).trans e5) ((ein u 45 rfl).trans e7) rfl) rfl (LeT.refl _) hS
 ·have e8 : u 46 = (.agg #[.int .i64 t, .int .i64 (wAt bs 0 : Int), .int .i64 (wAt bs 1 : Int), .bool false]) := hd.1
  exact aB _ rfl (gS _ t (wAt bs 0 : Int) (wAt bs 1 : Int) false ((ein u 46 rfl).trans e8)) (fU W w.heap.size [⟨t, (wAt bs 0 : Int), (wAt bs 1 : Int), false⟩] hS.size) (LeT.new _ _) (hS.keep (aZ _ _))
 ·have e9 : (fun v W => aU w.heap.size W v [⟨t, (wAt bs 0 : Int), (wAt bs 1 : Int), false⟩]) (u 47) W := hd.1
  obtain ⟨g, q, hg, hr⟩ := e9
  exact aB _ rfl (aCt _ _ _ _ ((ein u 47 rfl).trans q)) ⟨_, _, _, none, 0, 0, rfl, ⟨g, rfl, hg, hr⟩, World.ownsRow_nil _ _ _ _⟩ (LeT.refl _) hS
 ·have e10 : (fun v W => ∃ ta tn tc va vn vc, v = .agg #[.slice ta tn tc, .slice va vn vc, .int .i64 0, .int .i64 0] ∧ aU w.heap.size W (.slice ta tn tc) [⟨t, (wAt bs 0 : Int), (wAt bs 1 : Int), false⟩] ∧ aS W w.heap.size (.slice va vn vc) ([])) (u 48) W := hd.1
  obtain rfl : fl = false := hb0 rfl
  obtain ⟨ta, tn, tc, va, vn, vc, q, ht, hv⟩ := e10
  have hbl : Below w.heap.size w W := hS
  have hr := (hbl.block _ (Array.getElem?_eq_some_iff.1 hrow).1).trans hrow
  exact eS _ _ b2 ta va tn tc vn vc 0 0 _ rfl ((eout u 2 rfl).trans h2) ((ein u 48 rfl).trans q) hr (fun w' hc hr' => ⟨trivial, LeT.chg hc hr, Chg.trans (Chg.of_below hbl (fun k => k = b2)) hc (fun _ e _ => e), ta, tn, tc, va, vn, vc, hr', ht.le (LeT.chg hc hr), hv.le (LeT.chg hc hr)⟩)
 ·exact aB _ rfl (aX _) rfl (LeT.refl _) hS
def yA : List Oper := [
 ⟨some 121, .move (.tmp 5), 37, "relay.go:231", #[], none⟩,
 ⟨some 122, .call { callee := .value (.func 176), args := #[.tmp 121, .const (.int .i64 0)], argTypes := #[37, 3] }, 3, "relay.go:231", #[⟨0, .data⟩], none⟩,
 ⟨some 123, .move (.tmp 5), 37, "relay.go:231", #[], none⟩,
 ⟨some 124, .call { callee := .value (.func 176), args := #[.tmp 123, .const (.int .i64 2)], argTypes := #[37, 3] }, 3, "relay.go:231", #[⟨2, .data⟩, ⟨1, .chain⟩], none⟩,
 ⟨some 125, .build 257 #[(0, .const (.int .i64 0)), (1, .tmp 122), (2, .tmp 124), (3, .const (.bool true))], 257, "relay.go:231", #[⟨1, .data⟩, ⟨3, .data⟩], none⟩,
 ⟨some 126, .buildSlice 250 1 #[(0, .tmp 125)], 250, "relay.go:231", #[⟨4, .data⟩], none⟩,
 ⟨some 127, .move (.tmp 5), 37, "relay.go:231", #[], none⟩,
 ⟨some 128, .slice 37 (.tmp 127) (some (.const (.int .i64 5))) none none, 37, "relay.go:231", #[⟨6, .data⟩], none⟩,
 ⟨some 129, .move (.tmp 5), 37, "relay.go:231", #[], none⟩,
 ⟨some 130, .call { callee := .value (.func 176), args := #[.tmp 129, .const (.int .i64 2)], argTypes := #[37, 3] }, 3, "relay.go:231", #[⟨8, .data⟩, ⟨3, .chain⟩], none⟩,
 ⟨some 131, .call { callee := .value (.func 178), args := #[.tmp 128, .tmp 130], argTypes := #[37, 3] }, 24, "relay.go:231", #[⟨7, .data⟩, ⟨9, .data⟩, ⟨9, .chain⟩], none⟩,
 ⟨some 132, .build 252 #[(0, .tmp 126), (1, .tmp 131)], 252, "relay.go:231", #[⟨5, .data⟩, ⟨10, .data⟩], none⟩,
 ⟨none, .store 252 (.tmp 2) (.tmp 132), 0, "relay.go:231", #[⟨11, .data⟩, ⟨10, .chain⟩, ⟨0, .phase⟩, ⟨1, .phase⟩, ⟨2, .phase⟩, ⟨3, .phase⟩, ⟨4, .phase⟩, ⟨5, .phase⟩, ⟨6, .phase⟩, ⟨7, .phase⟩, ⟨8, .phase⟩, ⟨9, .phase⟩, ⟨10, .phase⟩, ⟨11, .phase⟩], none⟩,
 ⟨some 3, .assign (.const (.int .i64 0)), 3, "relay.go:231", #[⟨12, .chain⟩, ⟨0, .phase⟩, ⟨1, .phase⟩, ⟨2, .phase⟩, ⟨3, .phase⟩, ⟨4, .phase⟩, ⟨5, .phase⟩, ⟨6, .phase⟩, ⟨7, .phase⟩, ⟨8, .phase⟩, ⟨9, .phase⟩, ⟨10, .phase⟩, ⟨11, .phase⟩, ⟨12, .phase⟩], none⟩]
def jX : List (Option Nat) := [some 121, some 122, some 123, some 124, some 125, some 126, some 127, some 128, some 129, some 130, some 131, some 132, none, some 3]
theorem aF7 (a : Act) (Q : Exit → Act → World → Prop) (w : World) (id : Nat) (b o c b2 : Nat) (bs : List Int) (hsz : 244 ≤ a.tmps.size)
  (hl : bs.length ≤ 1000) (hx : Bys bs) (hb : b < w.heap.size) (hnb : b ≠ b2) (hcc : ∀ i, i < bs.length → w.cell? ⟨b, o + i, none⟩ = some (.int .u8 (bs.getD i 0))) (h5 : a.eval (.tmp 5) = .slice (some ⟨b, o, none⟩) bs.length c) (h2 : a.eval (.tmp 2) = .pointer (some ⟨b2, 0, none⟩)) (hrow : w.heap[b2]? = some (.cells #[.slice none 0 0, .slice none 0 0, .int .i64 0, .int .i64 0] 252 (0, 0))) (hc : bs.length ≤ c) (hn : bs.length = 5 + (wAt bs 1 + 7) / 8) (hw1 : 1 ≤ wAt bs 1) (hw2 : wAt bs 1 ≤ 1968)
  (hend : ∀ u W, AskS w b2 [⟨0, (wAt bs 0 : Int), (wAt bs 1 : Int), true⟩] (eN (bs.drop 5) (wAt bs 1)) 0 0 true W → u 3 = .int .i64 0 → Q .normal (over a jX u) W) : (Code.region id yA.toArray true).wp Tryz.prog Q a w := by
 have ein : ∀ u k, inS jX 244 k = true → (over a jX u).eval (.tmp k) = u k := cQ a jX 244 hsz
 have eout : ∀ u k, outS jX 244 k = true → (over a jX u).eval (.tmp k) = a.eval (.tmp k) := cF a jX 244 hsz
 have ef : ∀ u f, (over a jX u).eval (.func f) = .func (.func f) #[] #[] := fun u f => by simp [Act.eval]
 refine dT jX 12 (AskS w b2 [⟨0, (wAt bs 0 : Int), (wAt bs 1 : Int), true⟩] (eN (bs.drop 5) (wAt bs 1)) 0 0) LeT (RL [fun v _ => v = (.slice (some ⟨b, o, none⟩) bs.length c), fun v _ => v = (.int .i64 (wAt bs 0 : Int)), fun v _ => v = (.slice (some ⟨b, o, none⟩) bs.length c), fun v _ => v = (.int .i64 (wAt bs 1 : Int)), fun v _ => v = (.agg #[.int .i64 0, .int .i64 (wAt bs 0 : Int), .int .i64 (wAt bs 1 : Int), .bool true]), fun v W => aU w.heap.size W v [⟨0, (wAt bs 0 : Int), (wAt bs 1 : Int), true⟩], fun v _ => v = (.slice (some ⟨b, o, none⟩) bs.length c), fun v _ => v = (.slice (some ⟨b, o + 5, none⟩) (bs.length - 5) (c - 5)), fun v _ => v = (.slice (some ⟨b, o, none⟩) bs.length c), fun v _ => v = (.int .i64 (wAt bs 1 : Int)), fun v W => (∃ a n c, v = .slice a n c) ∧ aS W w.heap.size v (eN (bs.drop 5) (wAt bs 1)), fun v W => ∃ ta tn tc va vn vc, v = .agg #[.slice ta tn tc, .slice va vn vc, .int .i64 0, .int .i64 0] ∧ aU w.heap.size W (.slice ta tn tc) [⟨0, (wAt bs 0 : Int), (wAt bs 1 : Int), true⟩] ∧ aS W w.heap.size (.slice va vn vc) (eN (bs.drop 5) (wAt bs 1)), fun _ _ => True, fun v _ => v = (Value.int IntKind.i64 0)]) (by kernel_rfl) (by decide) rfl (by decide) (fun i v W W' h l => by
    match i, h with
    | 0, h => exact h
    | 1, h => exact h
    | 2, h => exact h
    | 3, h => exact h
    | 4, h => exact h
    | 5, h => exact aU.le h l
    | 6, h => exact h
    | 7, h => exact h
    | 8, h => exact h
    | 9, h => exact h
    | 10, h => exact ⟨h.1, h.2.le l⟩
    | 11, h => exact (by obtain ⟨ta, tn, tc, va, vn, vc, q, ht, hv⟩ := h; exact ⟨ta, tn, tc, va, vn, vc, q, ht.le l, hv.le l⟩)
    | 12, h => exact h
    | 13, h => exact h
    | k + 14, h => trivial) (by decide) ((Below.refl _ _).drew) ?_ (fun u W hS hR => hend u W hS (hR 13 (by decide)))
 unfold yA
 repeat' first | exact trivial | refine dL.cons rfl rfl (fun fl u W hb0 hS hd => ?_) ?_
 ·exact aB _ rfl (aC _) ((eout u 5 rfl).trans h5) (LeT.refl _) hS
 ·have e0 : u 121 = (.slice (some ⟨b, o, none⟩) bs.length c) := hd.1
  have hj := rat2 b o bs.length c 0 0 bs W rfl rfl (by omega) hl hx (fun i hi => (hS.cell b _ hb hnb).trans (hcc i hi))
  rw [← e0, ← ein u 121 rfl] at hj
  refine aN _ rfl (bF _ _ _ _ (ef u _) rfl bO) _ hj ?_
  rintro e w' ⟨rfl, nq, rfl⟩
  exact ⟨_, rfl, rfl, LeT.drawn _ _, hS.keep (aY _ _)⟩
 ·exact aB _ rfl (aC _) ((eout u 5 rfl).trans h5) (LeT.refl _) hS
 ·have e2 : u 123 = (.slice (some ⟨b, o, none⟩) bs.length c) := hd.1
  have hj := rat2 b o bs.length c 2 1 bs W rfl rfl (by omega) hl hx (fun i hi => (hS.cell b _ hb hnb).trans (hcc i hi))
  rw [← e2, ← ein u 123 rfl] at hj
  refine aN _ rfl (bF _ _ _ _ (ef u _) rfl bO) _ hj ?_
  rintro e w' ⟨rfl, nq, rfl⟩
  exact ⟨_, rfl, rfl, LeT.drawn _ _, hS.keep (aY _ _)⟩
 ·have e1 : u 122 = (.int .i64 (wAt bs 0 : Int)) := hd.1
  have e3 : u 124 = (.int .i64 (wAt bs 1 : Int)) := hd.2.1
  exact aB _ rfl (eY _ _ _ _ 0 (wAt bs 0 : Int) (wAt bs 1 : Int) true rfl ((ein u 122 rfl).trans e1) ((ein u 124 rfl).trans e3) rfl) rfl (LeT.refl _) hS
 ·have e4 : u 125 = (.agg #[.int .i64 0, .int .i64 (wAt bs 0 : Int), .int .i64 (wAt bs 1 : Int), .bool true]) := hd.1
  exact aB _ rfl (gS _ 0 (wAt bs 0 : Int) (wAt bs 1 : Int) true ((ein u 125 rfl).trans e4)) (fU W w.heap.size [⟨0, (wAt bs 0 : Int), (wAt bs 1 : Int), true⟩] hS.size) (LeT.new _ _) (hS.keep (aZ _ _))
 ·exact aB _ rfl (aC _) ((eout u 5 rfl).trans h5) (LeT.refl _) hS
 ·have e6 : u 127 = (.slice (some ⟨b, o, none⟩) bs.length c) := hd.1
  exact aB _ rfl (oH _ b o bs.length c 5 (by omega) hc (fun _ => by simp [Act.eval]) ((ein u 127 rfl).trans e6)) rfl (LeT.refl _) hS
 ·exact aB _ rfl (aC _) ((eout u 5 rfl).trans h5) (LeT.refl _) hS
 ·have e8 : u 129 = (.slice (some ⟨b, o, none⟩) bs.length c) := hd.1
  have hj := rat2 b o bs.length c 2 1 bs W rfl rfl (by omega) hl hx (fun i hi => (hS.cell b _ hb hnb).trans (hcc i hi))
  rw [← e8, ← ein u 129 rfl] at hj
  refine aN _ rfl (bF _ _ _ _ (ef u _) rfl bO) _ hj ?_
  rintro e w' ⟨rfl, nq, rfl⟩
  exact ⟨_, rfl, rfl, LeT.drawn _ _, hS.keep (aY _ _)⟩
 ·have e7 : u 128 = (.slice (some ⟨b, o + 5, none⟩) (bs.length - 5) (c - 5)) := hd.1
  have e9 : u 130 = (.int .i64 (wAt bs 1 : Int)) := hd.2.1
  have hj := aBd b (o + 5) (c - 5) (bs.length - 5) (bs.drop 5) (wAt bs 1) W (Nat.lt_of_lt_of_le hb hS.size) (kV (fun i hi => (hS.cell b _ hb hnb).trans (hcc i hi))) (hx.drop 5) (by simp) (by simp; omega) (by omega)
  rw [← e7, ← e9, ← ein u 128 rfl, ← ein u 130 rfl] at hj
  refine aN _ rfl (mB _ _ _ _ (ef u _) yV) _ hj ?_
  rintro e w' ⟨v, rfl, ho, hbl⟩
  obtain ⟨va, vn, vc, rfl⟩ := aP ho
  exact ⟨_, rfl, ⟨⟨_, _, _, rfl⟩, aS.weakB ho hS.size⟩, LeT.of_below hbl, hS.keep hbl⟩
 ·have e5 : (fun v W => aU w.heap.size W v [⟨0, (wAt bs 0 : Int), (wAt bs 1 : Int), true⟩]) (u 126) W := hd.1
  have e10 : (fun v W => (∃ a n c, v = .slice a n c) ∧ aS W w.heap.size v (eN (bs.drop 5) (wAt bs 1))) (u 131) W := hd.2.1
  obtain ⟨g, q, hg, hr⟩ := e5
  obtain ⟨⟨va, vn, vc, q2⟩, hv⟩ := e10
  rw [q2] at hv
  exact aB _ rfl (jL _ _ _ _ _ _ _ _ ((ein u 126 rfl).trans q) ((ein u 131 rfl).trans q2)) ⟨_, _, _, va, vn, vc, rfl, ⟨g, rfl, hg, hr⟩, hv⟩ (LeT.refl _) hS
 ·have e11 : (fun v W => ∃ ta tn tc va vn vc, v = .agg #[.slice ta tn tc, .slice va vn vc, .int .i64 0, .int .i64 0] ∧ aU w.heap.size W (.slice ta tn tc) [⟨0, (wAt bs 0 : Int), (wAt bs 1 : Int), true⟩] ∧ aS W w.heap.size (.slice va vn vc) (eN (bs.drop 5) (wAt bs 1))) (u 132) W := hd.1
  obtain rfl : fl = false := hb0 rfl
  obtain ⟨ta, tn, tc, va, vn, vc, q, ht, hv⟩ := e11
  have hbl : Below w.heap.size w W := hS
  have hr := (hbl.block _ (Array.getElem?_eq_some_iff.1 hrow).1).trans hrow
  exact eS _ _ b2 ta va tn tc vn vc 0 0 _ rfl ((eout u 2 rfl).trans h2) ((ein u 132 rfl).trans q) hr (fun w' hc hr' => ⟨trivial, LeT.chg hc hr, Chg.trans (Chg.of_below hbl (fun k => k = b2)) hc (fun _ e _ => e), ta, tn, tc, va, vn, vc, hr', ht.le (LeT.chg hc hr), hv.le (LeT.chg hc hr)⟩)
 ·exact aB _ rfl (aX _) rfl (LeT.refl _) hS
def xY : List Oper := [
 ⟨some 167, .move (.tmp 5), 37, "relay.go:235", #[], none⟩,
 ⟨some 168, .call { callee := .value (.func 176), args := #[.tmp 167, .const (.int .i64 0)], argTypes := #[37, 3] }, 3, "relay.go:235", #[⟨0, .data⟩], none⟩,
 ⟨some 169, .move (.tmp 5), 37, "relay.go:235", #[], none⟩,
 ⟨some 170, .call { callee := .value (.func 176), args := #[.tmp 169, .const (.int .i64 2)], argTypes := #[37, 3] }, 3, "relay.go:235", #[⟨2, .data⟩, ⟨1, .chain⟩], none⟩,
 ⟨some 171, .build 257 #[(0, .const (.int .i64 3)), (1, .tmp 168), (2, .tmp 170), (3, .const (.bool true))], 257, "relay.go:235", #[⟨1, .data⟩, ⟨3, .data⟩], none⟩,
 ⟨some 172, .buildSlice 250 1 #[(0, .tmp 171)], 250, "relay.go:235", #[⟨4, .data⟩], none⟩,
 ⟨some 173, .move (.tmp 5), 37, "relay.go:235", #[], none⟩,
 ⟨some 174, .slice 37 (.tmp 173) (some (.const (.int .i64 5))) none none, 37, "relay.go:235", #[⟨6, .data⟩], none⟩,
 ⟨some 175, .call { callee := .value (.func 179), args := #[.tmp 174], argTypes := #[37] }, 24, "relay.go:235", #[⟨7, .data⟩, ⟨3, .chain⟩], none⟩,
 ⟨some 176, .build 252 #[(0, .tmp 172), (1, .tmp 175)], 252, "relay.go:235", #[⟨5, .data⟩, ⟨8, .data⟩], none⟩,
 ⟨none, .store 252 (.tmp 2) (.tmp 176), 0, "relay.go:235", #[⟨9, .data⟩, ⟨8, .chain⟩, ⟨0, .phase⟩, ⟨1, .phase⟩, ⟨2, .phase⟩, ⟨3, .phase⟩, ⟨4, .phase⟩, ⟨5, .phase⟩, ⟨6, .phase⟩, ⟨7, .phase⟩, ⟨8, .phase⟩, ⟨9, .phase⟩], none⟩,
 ⟨some 3, .assign (.const (.int .i64 0)), 3, "relay.go:235", #[⟨10, .chain⟩, ⟨0, .phase⟩, ⟨1, .phase⟩, ⟨2, .phase⟩, ⟨3, .phase⟩, ⟨4, .phase⟩, ⟨5, .phase⟩, ⟨6, .phase⟩, ⟨7, .phase⟩, ⟨8, .phase⟩, ⟨9, .phase⟩, ⟨10, .phase⟩], none⟩]
def jW : List (Option Nat) := [some 167, some 168, some 169, some 170, some 171, some 172, some 173, some 174, some 175, some 176, none, some 3]
theorem aF5 (a : Act) (Q : Exit → Act → World → Prop) (w : World) (id : Nat) (b o c b2 : Nat) (bs : List Int) (hsz : 244 ≤ a.tmps.size)
  (hl : bs.length ≤ 1000) (hx : Bys bs) (hb : b < w.heap.size) (hnb : b ≠ b2) (hcc : ∀ i, i < bs.length → w.cell? ⟨b, o + i, none⟩ = some (.int .u8 (bs.getD i 0))) (h5 : a.eval (.tmp 5) = .slice (some ⟨b, o, none⟩) bs.length c) (h2 : a.eval (.tmp 2) = .pointer (some ⟨b2, 0, none⟩)) (hrow : w.heap[b2]? = some (.cells #[.slice none 0 0, .slice none 0 0, .int .i64 0, .int .i64 0] 252 (0, 0))) (hc : bs.length ≤ c) (hn : bs.length = 5 + 2 * wAt bs 1) (hw1 : 1 ≤ wAt bs 1) (hw2 : wAt bs 1 ≤ 123)
  (hend : ∀ u W, AskS w b2 [⟨3, (wAt bs 0 : Int), (wAt bs 1 : Int), true⟩] (bY (bs.drop 5) (wAt bs 1)) 0 0 true W → u 3 = .int .i64 0 → Q .normal (over a jW u) W) : (Code.region id xY.toArray true).wp Tryz.prog Q a w := by
 have ein : ∀ u k, inS jW 244 k = true → (over a jW u).eval (.tmp k) = u k := cQ a jW 244 hsz
 have eout : ∀ u k, outS jW 244 k = true → (over a jW u).eval (.tmp k) = a.eval (.tmp k) := cF a jW 244 hsz
 have ef : ∀ u f, (over a jW u).eval (.func f) = .func (.func f) #[] #[] := fun u f => by simp [Act.eval]
 refine dT jW 10 (AskS w b2 [⟨3, (wAt bs 0 : Int), (wAt bs 1 : Int), true⟩] (bY (bs.drop 5) (wAt bs 1)) 0 0) LeT (RL [fun v _ => v = (.slice (some ⟨b, o, none⟩) bs.length c), fun v _ => v = (.int .i64 (wAt bs 0 : Int)), fun v _ => v = (.slice (some ⟨b, o, none⟩) bs.length c), fun v _ => v = (.int .i64 (wAt bs 1 : Int)), fun v _ => v = (.agg #[.int .i64 3, .int .i64 (wAt bs 0 : Int), .int .i64 (wAt bs 1 : Int), .bool true]), fun v W => aU w.heap.size W v [⟨3, (wAt bs 0 : Int), (wAt bs 1 : Int), true⟩], fun v _ => v = (.slice (some ⟨b, o, none⟩) bs.length c), fun v _ => v = (.slice (some ⟨b, o + 5, none⟩) (bs.length - 5) (c - 5)), fun v W => (∃ a n c, v = .slice a n c) ∧ aS W w.heap.size v (bY (bs.drop 5) (wAt bs 1)), fun v W => ∃ ta tn tc va vn vc, v = .agg #[.slice ta tn tc, .slice va vn vc, .int .i64 0, .int .i64 0] ∧ aU w.heap.size W (.slice ta tn tc) [⟨3, (wAt bs 0 : Int), (wAt bs 1 : Int), true⟩] ∧ aS W w.heap.size (.slice va vn vc) (bY (bs.drop 5) (wAt bs 1)), fun _ _ => True, fun v _ => v = (Value.int IntKind.i64 0)]) (by kernel_rfl) (by decide) rfl (by decide) (fun i v W W' h l => by
    match i, h with
    | 0, h => exact h
    | 1, h => exact h
    | 2, h => exact h
    | 3, h => exact h
    | 4, h => exact h
    | 5, h => exact aU.le h l
    | 6, h => exact h
    | 7, h => exact h
    | 8, h => exact ⟨h.1, h.2.le l⟩
    | 9, h => exact (by obtain ⟨ta, tn, tc, va, vn, vc, q, ht, hv⟩ := h; exact ⟨ta, tn, tc, va, vn, vc, q, ht.le l, hv.le l⟩)
    | 10, h => exact h
    | 11, h => exact h
    | k + 12, h => trivial) (by decide) ((Below.refl _ _).drew) ?_ (fun u W hS hR => hend u W hS (hR 11 (by decide)))
 unfold xY
 repeat' first | exact trivial | refine dL.cons rfl rfl (fun fl u W hb0 hS hd => ?_) ?_
 ·exact aB _ rfl (aC _) ((eout u 5 rfl).trans h5) (LeT.refl _) hS
 ·have e0 : u 167 = (.slice (some ⟨b, o, none⟩) bs.length c) := hd.1
  have hj := rat2 b o bs.length c 0 0 bs W rfl rfl (by omega) hl hx (fun i hi => (hS.cell b _ hb hnb).trans (hcc i hi))
  rw [← e0, ← ein u 167 rfl] at hj
  refine aN _ rfl (bF _ _ _ _ (ef u _) rfl bO) _ hj ?_
  rintro e w' ⟨rfl, nq, rfl⟩
  exact ⟨_, rfl, rfl, LeT.drawn _ _, hS.keep (aY _ _)⟩
 ·exact aB _ rfl (aC _) ((eout u 5 rfl).trans h5) (LeT.refl _) hS
 ·have e2 : u 169 = (.slice (some ⟨b, o, none⟩) bs.length c) := hd.1
  have hj := rat2 b o bs.length c 2 1 bs W rfl rfl (by omega) hl hx (fun i hi => (hS.cell b _ hb hnb).trans (hcc i hi))
  rw [← e2, ← ein u 169 rfl] at hj
  refine aN _ rfl (bF _ _ _ _ (ef u _) rfl bO) _ hj ?_
  rintro e w' ⟨rfl, nq, rfl⟩
  exact ⟨_, rfl, rfl, LeT.drawn _ _, hS.keep (aY _ _)⟩
 ·have e1 : u 168 = (.int .i64 (wAt bs 0 : Int)) := hd.1
  have e3 : u 170 = (.int .i64 (wAt bs 1 : Int)) := hd.2.1
  exact aB _ rfl (eY _ _ _ _ 3 (wAt bs 0 : Int) (wAt bs 1 : Int) true rfl ((ein u 168 rfl).trans e1) ((ein u 170 rfl).trans e3) rfl) rfl (LeT.refl _) hS
 ·have e4 : u 171 = (.agg #[.int .i64 3, .int .i64 (wAt bs 0 : Int), .int .i64 (wAt bs 1 : Int), .bool true]) := hd.1
  exact aB _ rfl (gS _ 3 (wAt bs 0 : Int) (wAt bs 1 : Int) true ((ein u 171 rfl).trans e4)) (fU W w.heap.size [⟨3, (wAt bs 0 : Int), (wAt bs 1 : Int), true⟩] hS.size) (LeT.new _ _) (hS.keep (aZ _ _))
 ·exact aB _ rfl (aC _) ((eout u 5 rfl).trans h5) (LeT.refl _) hS
 ·have e6 : u 173 = (.slice (some ⟨b, o, none⟩) bs.length c) := hd.1
  exact aB _ rfl (oH _ b o bs.length c 5 (by omega) hc (fun _ => by simp [Act.eval]) ((ein u 173 rfl).trans e6)) rfl (LeT.refl _) hS
 ·have e7 : u 174 = (.slice (some ⟨b, o + 5, none⟩) (bs.length - 5) (c - 5)) := hd.1
  have hj := oA b (o + 5) (c - 5) (bs.length - 5) (bs.drop 5) (wAt bs 1) W (Nat.lt_of_lt_of_le hb hS.size) (kV (fun i hi => (hS.cell b _ hb hnb).trans (hcc i hi))) (hx.drop 5) (by simp) (by simp; omega) (by omega)
  rw [← e7, ← ein u 174 rfl] at hj
  refine aN _ rfl (qN _ _ _ (ef u _) nA) _ hj ?_
  rintro e w' ⟨v, rfl, ho, hbl⟩
  obtain ⟨va, vn, vc, rfl⟩ := aP ho
  rw [kZ _ (hx.drop 5)] at ho
  exact ⟨_, rfl, ⟨⟨_, _, _, rfl⟩, aS.weakB ho hS.size⟩, LeT.of_below hbl, hS.keep hbl⟩
 ·have e5 : (fun v W => aU w.heap.size W v [⟨3, (wAt bs 0 : Int), (wAt bs 1 : Int), true⟩]) (u 172) W := hd.1
  have e8 : (fun v W => (∃ a n c, v = .slice a n c) ∧ aS W w.heap.size v (bY (bs.drop 5) (wAt bs 1))) (u 175) W := hd.2.1
  obtain ⟨g, q, hg, hr⟩ := e5
  obtain ⟨⟨va, vn, vc, q2⟩, hv⟩ := e8
  rw [q2] at hv
  exact aB _ rfl (jL _ _ _ _ _ _ _ _ ((ein u 172 rfl).trans q) ((ein u 175 rfl).trans q2)) ⟨_, _, _, va, vn, vc, rfl, ⟨g, rfl, hg, hr⟩, hv⟩ (LeT.refl _) hS
 ·have e9 : (fun v W => ∃ ta tn tc va vn vc, v = .agg #[.slice ta tn tc, .slice va vn vc, .int .i64 0, .int .i64 0] ∧ aU w.heap.size W (.slice ta tn tc) [⟨3, (wAt bs 0 : Int), (wAt bs 1 : Int), true⟩] ∧ aS W w.heap.size (.slice va vn vc) (bY (bs.drop 5) (wAt bs 1))) (u 176) W := hd.1
  obtain rfl : fl = false := hb0 rfl
  obtain ⟨ta, tn, tc, va, vn, vc, q, ht, hv⟩ := e9
  have hbl : Below w.heap.size w W := hS
  have hr := (hbl.block _ (Array.getElem?_eq_some_iff.1 hrow).1).trans hrow
  exact eS _ _ b2 ta va tn tc vn vc 0 0 _ rfl ((eout u 2 rfl).trans h2) ((ein u 176 rfl).trans q) hr (fun w' hc hr' => ⟨trivial, LeT.chg hc hr, Chg.trans (Chg.of_below hbl (fun k => k = b2)) hc (fun _ e _ => e), ta, tn, tc, va, vn, vc, hr', ht.le (LeT.chg hc hr), hv.le (LeT.chg hc hr)⟩)
 ·exact aB _ rfl (aX _) rfl (LeT.refl _) hS
def xV : List Oper := [
 ⟨some 228, .move (.tmp 5), 37, "relay.go:244", #[], none⟩,
 ⟨some 229, .call { callee := .value (.func 176), args := #[.tmp 228, .const (.int .i64 4)], argTypes := #[37, 3] }, 3, "relay.go:244", #[⟨0, .data⟩], none⟩,
 ⟨some 230, .move (.tmp 5), 37, "relay.go:244", #[], none⟩,
 ⟨some 231, .call { callee := .value (.func 176), args := #[.tmp 230, .const (.int .i64 6)], argTypes := #[37, 3] }, 3, "relay.go:244", #[⟨2, .data⟩, ⟨1, .chain⟩], none⟩,
 ⟨some 232, .build 257 #[(0, .const (.int .i64 3)), (1, .tmp 229), (2, .tmp 231), (3, .const (.bool true))], 257, "relay.go:244", #[⟨1, .data⟩, ⟨3, .data⟩], none⟩,
 ⟨some 233, .move (.tmp 5), 37, "relay.go:244", #[], none⟩,
 ⟨some 234, .call { callee := .value (.func 176), args := #[.tmp 233, .const (.int .i64 0)], argTypes := #[37, 3] }, 3, "relay.go:244", #[⟨5, .data⟩, ⟨3, .chain⟩], none⟩,
 ⟨some 235, .move (.tmp 5), 37, "relay.go:244", #[], none⟩,
 ⟨some 236, .call { callee := .value (.func 176), args := #[.tmp 235, .const (.int .i64 2)], argTypes := #[37, 3] }, 3, "relay.go:244", #[⟨7, .data⟩, ⟨6, .chain⟩], none⟩,
 ⟨some 237, .build 257 #[(0, .const (.int .i64 3)), (1, .tmp 234), (2, .tmp 236), (3, .const (.bool false))], 257, "relay.go:244", #[⟨6, .data⟩, ⟨8, .data⟩], none⟩,
 ⟨some 238, .buildSlice 250 2 #[(0, .tmp 232), (1, .tmp 237)], 250, "relay.go:244", #[⟨4, .data⟩, ⟨9, .data⟩], none⟩,
 ⟨some 239, .move (.tmp 5), 37, "relay.go:244", #[], none⟩,
 ⟨some 240, .slice 37 (.tmp 239) (some (.const (.int .i64 9))) none none, 37, "relay.go:244", #[⟨11, .data⟩], none⟩,
 ⟨some 241, .call { callee := .value (.func 179), args := #[.tmp 240], argTypes := #[37] }, 24, "relay.go:244", #[⟨12, .data⟩, ⟨8, .chain⟩], none⟩,
 ⟨some 242, .build 252 #[(0, .tmp 238), (1, .tmp 241)], 252, "relay.go:244", #[⟨10, .data⟩, ⟨13, .data⟩], none⟩,
 ⟨none, .store 252 (.tmp 2) (.tmp 242), 0, "relay.go:244", #[⟨14, .data⟩, ⟨13, .chain⟩, ⟨0, .phase⟩, ⟨1, .phase⟩, ⟨2, .phase⟩, ⟨3, .phase⟩, ⟨4, .phase⟩, ⟨5, .phase⟩, ⟨6, .phase⟩, ⟨7, .phase⟩, ⟨8, .phase⟩, ⟨9, .phase⟩, ⟨10, .phase⟩, ⟨11, .phase⟩, ⟨12, .phase⟩, ⟨13, .phase⟩, ⟨14, .phase⟩], none⟩,
 ⟨some 3, .assign (.const (.int .i64 0)), 3, "relay.go:244", #[⟨15, .chain⟩, ⟨0, .phase⟩, ⟨1, .phase⟩, ⟨2, .phase⟩, ⟨3, .phase⟩, ⟨4, .phase⟩, ⟨5, .phase⟩, ⟨6, .phase⟩, ⟨7, .phase⟩, ⟨8, .phase⟩, ⟨9, .phase⟩, ⟨10, .phase⟩, ⟨11, .phase⟩, ⟨12, .phase⟩, ⟨13, .phase⟩, ⟨14, .phase⟩, ⟨15, .phase⟩], none⟩]
def jU : List (Option Nat) := [some 228, some 229, some 230, some 231, some 232, some 233, some 234, some 235, some 236, some 237, some 238, some 239, some 240, some 241, some 242, none, some 3]
theorem aF2 (a : Act) (Q : Exit → Act → World → Prop) (w : World) (id : Nat) (b o c b2 : Nat) (bs : List Int) (hsz : 244 ≤ a.tmps.size)
  (hl : bs.length ≤ 1000) (hx : Bys bs) (hb : b < w.heap.size) (hnb : b ≠ b2) (hcc : ∀ i, i < bs.length → w.cell? ⟨b, o + i, none⟩ = some (.int .u8 (bs.getD i 0))) (h5 : a.eval (.tmp 5) = .slice (some ⟨b, o, none⟩) bs.length c) (h2 : a.eval (.tmp 2) = .pointer (some ⟨b2, 0, none⟩)) (hrow : w.heap[b2]? = some (.cells #[.slice none 0 0, .slice none 0 0, .int .i64 0, .int .i64 0] 252 (0, 0))) (hc : bs.length ≤ c) (hn : bs.length = 9 + 2 * wAt bs 3) (hw1 : 1 ≤ wAt bs 3) (hw2 : wAt bs 3 ≤ 121)
  (hend : ∀ u W, AskS w b2 [⟨3, (wAt bs 2 : Int), (wAt bs 3 : Int), true⟩, ⟨3, (wAt bs 0 : Int), (wAt bs 1 : Int), false⟩] (bY (bs.drop 9) (wAt bs 3)) 0 0 true W → u 3 = .int .i64 0 → Q .normal (over a jU u) W) : (Code.region id xV.toArray true).wp Tryz.prog Q a w := by
 have ein : ∀ u k, inS jU 244 k = true → (over a jU u).eval (.tmp k) = u k := cQ a jU 244 hsz
 have eout : ∀ u k, outS jU 244 k = true → (over a jU u).eval (.tmp k) = a.eval (.tmp k) := cF a jU 244 hsz
 have ef : ∀ u f, (over a jU u).eval (.func f) = .func (.func f) #[] #[] := fun u f => by simp [Act.eval]
 refine dT jU 15 (AskS w b2 [⟨3, (wAt bs 2 : Int), (wAt bs 3 : Int), true⟩, ⟨3, (wAt bs 0 : Int), (wAt bs 1 : Int), false⟩] (bY (bs.drop 9) (wAt bs 3)) 0 0) LeT (RL [fun v _ => v = (.slice (some ⟨b, o, none⟩) bs.length c), fun v _ => v = (.int .i64 (wAt bs 2 : Int)), fun v _ => v = (.slice (some ⟨b, o, none⟩) bs.length c), fun v _ => v = (.int .i64 (wAt bs 3 : Int)), fun v _ => v = (.agg #[.int .i64 3, .int .i64 (wAt bs 2 : Int), .int .i64 (wAt bs 3 : Int), .bool true]), fun v _ => v = (.slice (some ⟨b, o, none⟩) bs.length c), fun v _ => v = (.int .i64 (wAt bs 0 : Int)), fun v _ => v = (.slice (some ⟨b, o, none⟩) bs.length c), fun v _ => v = (.int .i64 (wAt bs 1 : Int)), fun v _ => v = (.agg #[.int .i64 3, .int .i64 (wAt bs 0 : Int), .int .i64 (wAt bs 1 : Int), .bool false]), fun v W => aU w.heap.size W v [⟨3, (wAt bs 2 : Int), (wAt bs 3 : Int), true⟩, ⟨3, (wAt bs 0 : Int), (wAt bs 1 : Int), false⟩], fun v _ => v = (.slice (some ⟨b, o, none⟩) bs.length c), fun v _ => v = (.slice (some ⟨b, o + 9, none⟩) (bs.length - 9) (c - 9)), fun v W => (∃ a n c, v = .slice a n c) ∧ aS W w.heap.size v (bY (bs.drop 9) (wAt bs 3)), fun v W => ∃ ta tn tc va vn vc, v = .agg #[.slice ta tn tc, .slice va vn vc, .int .i64 0, .int .i64 0] ∧ aU w.heap.size W (.slice ta tn tc) [⟨3, (wAt bs 2 : Int), (wAt bs 3 : Int), true⟩, ⟨3, (wAt bs 0 : Int), (wAt bs 1 : Int), false⟩] ∧ aS W w.heap.size (.slice va vn vc) (bY (bs.drop 9) (wAt bs 3)), fun _ _ => True, fun v _ => v = (Value.int IntKind.i64 0)]) (by kernel_rfl) (by decide) rfl (by decide) (fun i v W W' h l => by
    match i, h with
    | 0, h => exact h
    | 1, h => exact h
    | 2, h => exact h
    | 3, h => exact h
    | 4, h => exact h
    | 5, h => exact h
    | 6, h => exact h
    | 7, h => exact h
    | 8, h => exact h
    | 9, h => exact h
    | 10, h => exact aU.le h l
    | 11, h => exact h
    | 12, h => exact h
    | 13, h => exact ⟨h.1, h.2.le l⟩
    | 14, h => exact (by obtain ⟨ta, tn, tc, va, vn, vc, q, ht, hv⟩ := h; exact ⟨ta, tn, tc, va, vn, vc, q, ht.le l, hv.le l⟩)
    | 15, h => exact h
    | 16, h => exact h
    | k + 17, h => trivial) (by decide) ((Below.refl _ _).drew) ?_ (fun u W hS hR => hend u W hS (hR 16 (by decide)))
 unfold xV
 repeat' first | exact trivial | refine dL.cons rfl rfl (fun fl u W hb0 hS hd => ?_) ?_
 ·exact aB _ rfl (aC _) ((eout u 5 rfl).trans h5) (LeT.refl _) hS
 ·have e0 : u 228 = (.slice (some ⟨b, o, none⟩) bs.length c) := hd.1
  have hj := rat2 b o bs.length c 4 2 bs W rfl rfl (by omega) hl hx (fun i hi => (hS.cell b _ hb hnb).trans (hcc i hi))
  rw [← e0, ← ein u 228 rfl] at hj
  refine aN _ rfl (bF _ _ _ _ (ef u _) rfl bO) _ hj ?_
  rintro e w' ⟨rfl, nq, rfl⟩
  exact ⟨_, rfl, rfl, LeT.drawn _ _, hS.keep (aY _ _)⟩
 ·exact aB _ rfl (aC _) ((eout u 5 rfl).trans h5) (LeT.refl _) hS
 ·have e2 : u 230 = (.slice (some ⟨b, o, none⟩) bs.length c) := hd.1
  have hj := rat2 b o bs.length c 6 3 bs W rfl rfl (by omega) hl hx (fun i hi => (hS.cell b _ hb hnb).trans (hcc i hi))
  rw [← e2, ← ein u 230 rfl] at hj
  refine aN _ rfl (bF _ _ _ _ (ef u _) rfl bO) _ hj ?_
  rintro e w' ⟨rfl, nq, rfl⟩
  exact ⟨_, rfl, rfl, LeT.drawn _ _, hS.keep (aY _ _)⟩
 ·have e1 : u 229 = (.int .i64 (wAt bs 2 : Int)) := hd.1
  have e3 : u 231 = (.int .i64 (wAt bs 3 : Int)) := hd.2.1
  exact aB _ rfl (eY _ _ _ _ 3 (wAt bs 2 : Int) (wAt bs 3 : Int) true rfl ((ein u 229 rfl).trans e1) ((ein u 231 rfl).trans e3) rfl) rfl (LeT.refl _) hS
 ·exact aB _ rfl (aC _) ((eout u 5 rfl).trans h5) (LeT.refl _) hS
 ·have e5 : u 233 = (.slice (some ⟨b, o, none⟩) bs.length c) := hd.1
  have hj := rat2 b o bs.length c 0 0 bs W rfl rfl (by omega) hl hx (fun i hi => (hS.cell b _ hb hnb).trans (hcc i hi))
  rw [← e5, ← ein u 233 rfl] at hj
  refine aN _ rfl (bF _ _ _ _ (ef u _) rfl bO) _ hj ?_
  rintro e w' ⟨rfl, nq, rfl⟩
  exact ⟨_, rfl, rfl, LeT.drawn _ _, hS.keep (aY _ _)⟩
 ·exact aB _ rfl (aC _) ((eout u 5 rfl).trans h5) (LeT.refl _) hS
 ·have e7 : u 235 = (.slice (some ⟨b, o, none⟩) bs.length c) := hd.1
  have hj := rat2 b o bs.length c 2 1 bs W rfl rfl (by omega) hl hx (fun i hi => (hS.cell b _ hb hnb).trans (hcc i hi))
  rw [← e7, ← ein u 235 rfl] at hj
  refine aN _ rfl (bF _ _ _ _ (ef u _) rfl bO) _ hj ?_
  rintro e w' ⟨rfl, nq, rfl⟩
  exact ⟨_, rfl, rfl, LeT.drawn _ _, hS.keep (aY _ _)⟩
 ·have e6 : u 234 = (.int .i64 (wAt bs 0 : Int)) := hd.1
  have e8 : u 236 = (.int .i64 (wAt bs 1 : Int)) := hd.2.1
  exact aB _ rfl (eY _ _ _ _ 3 (wAt bs 0 : Int) (wAt bs 1 : Int) false rfl ((ein u 234 rfl).trans e6) ((ein u 236 rfl).trans e8) rfl) rfl (LeT.refl _) hS
 ·have e4 : u 232 = (.agg #[.int .i64 3, .int .i64 (wAt bs 2 : Int), .int .i64 (wAt bs 3 : Int), .bool true]) := hd.1
  have e9 : u 237 = (.agg #[.int .i64 3, .int .i64 (wAt bs 0 : Int), .int .i64 (wAt bs 1 : Int), .bool false]) := hd.2.1
  exact aB _ rfl (oC _ _ 3 (wAt bs 2 : Int) (wAt bs 3 : Int) 3 (wAt bs 0 : Int) (wAt bs 1 : Int) true false ((ein u 232 rfl).trans e4) ((ein u 237 rfl).trans e9)) (fU W w.heap.size [⟨3, (wAt bs 2 : Int), (wAt bs 3 : Int), true⟩, ⟨3, (wAt bs 0 : Int), (wAt bs 1 : Int), false⟩] hS.size) (LeT.new _ _) (hS.keep (aZ _ _))
 ·exact aB _ rfl (aC _) ((eout u 5 rfl).trans h5) (LeT.refl _) hS
 ·have e11 : u 239 = (.slice (some ⟨b, o, none⟩) bs.length c) := hd.1
  exact aB _ rfl (oH _ b o bs.length c 9 (by omega) hc (fun _ => by simp [Act.eval]) ((ein u 239 rfl).trans e11)) rfl (LeT.refl _) hS
 ·have e12 : u 240 = (.slice (some ⟨b, o + 9, none⟩) (bs.length - 9) (c - 9)) := hd.1
  have hj := oA b (o + 9) (c - 9) (bs.length - 9) (bs.drop 9) (wAt bs 3) W (Nat.lt_of_lt_of_le hb hS.size) (kV (fun i hi => (hS.cell b _ hb hnb).trans (hcc i hi))) (hx.drop 9) (by simp) (by simp; omega) (by omega)
  rw [← e12, ← ein u 240 rfl] at hj
  refine aN _ rfl (qN _ _ _ (ef u _) nA) _ hj ?_
  rintro e w' ⟨v, rfl, ho, hbl⟩
  obtain ⟨va, vn, vc, rfl⟩ := aP ho
  rw [kZ _ (hx.drop 9)] at ho
  exact ⟨_, rfl, ⟨⟨_, _, _, rfl⟩, aS.weakB ho hS.size⟩, LeT.of_below hbl, hS.keep hbl⟩
 ·have e10 : (fun v W => aU w.heap.size W v [⟨3, (wAt bs 2 : Int), (wAt bs 3 : Int), true⟩, ⟨3, (wAt bs 0 : Int), (wAt bs 1 : Int), false⟩]) (u 238) W := hd.1
  have e13 : (fun v W => (∃ a n c, v = .slice a n c) ∧ aS W w.heap.size v (bY (bs.drop 9) (wAt bs 3))) (u 241) W := hd.2.1
  obtain ⟨g, q, hg, hr⟩ := e10
  obtain ⟨⟨va, vn, vc, q2⟩, hv⟩ := e13
  rw [q2] at hv
  exact aB _ rfl (jL _ _ _ _ _ _ _ _ ((ein u 238 rfl).trans q) ((ein u 241 rfl).trans q2)) ⟨_, _, _, va, vn, vc, rfl, ⟨g, rfl, hg, hr⟩, hv⟩ (LeT.refl _) hS
 ·have e14 : (fun v W => ∃ ta tn tc va vn vc, v = .agg #[.slice ta tn tc, .slice va vn vc, .int .i64 0, .int .i64 0] ∧ aU w.heap.size W (.slice ta tn tc) [⟨3, (wAt bs 2 : Int), (wAt bs 3 : Int), true⟩, ⟨3, (wAt bs 0 : Int), (wAt bs 1 : Int), false⟩] ∧ aS W w.heap.size (.slice va vn vc) (bY (bs.drop 9) (wAt bs 3))) (u 242) W := hd.1
  obtain rfl : fl = false := hb0 rfl
  obtain ⟨ta, tn, tc, va, vn, vc, q, ht, hv⟩ := e14
  have hbl : Below w.heap.size w W := hS
  have hr := (hbl.block _ (Array.getElem?_eq_some_iff.1 hrow).1).trans hrow
  exact eS _ _ b2 ta va tn tc vn vc 0 0 _ rfl ((eout u 2 rfl).trans h2) ((ein u 242 rfl).trans q) hr (fun w' hc hr' => ⟨trivial, LeT.chg hc hr, Chg.trans (Chg.of_below hbl (fun k => k = b2)) hc (fun _ e _ => e), ta, tn, tc, va, vn, vc, hr', ht.le (LeT.chg hc hr), hv.le (LeT.chg hc hr)⟩)
 ·exact aB _ rfl (aX _) rfl (LeT.refl _) hS
def aM (q : Req) : List Tch :=
 if q.f = 23 then [⟨(q.t : Int), (q.wa : Int), (q.wc : Int), true⟩, ⟨(q.t : Int), (q.ra : Int), (q.rc : Int), false⟩] else
 if q.f = 22 then [⟨(q.t : Int), (q.ra : Int), (q.rc : Int), false⟩, ⟨(q.t : Int), (q.wa : Int), (q.wc : Int), true⟩] else
 if q.wc = 0 then [⟨(q.t : Int), (q.ra : Int), (q.rc : Int), false⟩] else [⟨(q.t : Int), (q.wa : Int), (q.wc : Int), true⟩]
def lC (q : Req) : List Int := if q.f = 22 then [] else q.vals
def xQ (q : Req) : Int := if q.f = 22 then (q.keep : Int) else 0
def yQ (q : Req) : Int := if q.f = 22 then q.vals.getD 0 0 else 0
def lN (w : World) : Int ⊕ Req → Ending → World → Prop
 | .inl x, e, w' => e = .returned (.tuple #[.agg #[.slice none 0 0, .slice none 0 0, .int .i64 0, .int .i64 0], .int .i64 x]) ∧ Below w.heap.size w w'
 | .inr q, e, w' => ∃ ta tn tc va vn vc, e = .returned (.tuple #[.agg #[.slice ta tn tc, .slice va vn vc, .int .i64 (xQ q), .int .i64 (yQ q)], .int .i64 0]) ∧ aU w.heap.size w' (.slice ta tn tc) (aM q) ∧ aS w' w.heap.size (.slice va vn vc) (lC q) ∧ Below w.heap.size w w'
def eM : Obj := .cells #[.slice none 0 0, .slice none 0 0, .int .i64 0, .int .i64 0] 252
def lD : Obj := .cells #[.int .i64 (-1), .int .i64 0, .int .i64 1, .int .i64 3, .int .i64 2] 3
theorem aHi (w W2 W : World) (b2 : Nat) (a : Act) (q : Req) (hb : Below w.heap.size w W2) (hb2 : w.heap.size ≤ b2) (hS : Chg W2 W (fun k => k = b2)) (hA : pT W2.heap.size W b2 (aM q) (lC q) (xQ q) (yQ q)) (hd : a.defers = []) (h2 : a.eval (.tmp 2) = .pointer (some ⟨b2, 0, none⟩)) (h3 : a.eval (.tmp 3) = .int .i64 0) :
  bodyPost Tryz.prog Tryz.f145 (fun e w' => lN w (.inr q) e w') .ret a W := by
 obtain ⟨ta, tn, tc, va, vn, vc, hr, ⟨g, e, hg, ht⟩, hv⟩ := hA
 have hz := hb.size
 have hl : (loadVar 252 ⟨b2, 0, none⟩).run Tryz.prog W = .ok (.agg #[.slice ta tn tc, .slice va vn vc, .int .i64 (xQ q), .int .i64 (yQ q)]) W := run_loadVar_row _ _ 252 252 _ (0, 0) _ hr Tryz.underlying252 rfl gW
 refine bodyPost_ret (v := .tuple #[.agg #[.slice ta tn tc, .slice va vn vc, .int .i64 (xQ q), .int .i64 (yQ q)], .int .i64 0]) ?_ hd ⟨ta, tn, tc, va, vn, vc, rfl, ⟨g, e, by omega, ht⟩, hv.weakB hz, gL hb hb2 hS⟩
 have e := fM Tryz.results145 a.tmps W b2 _ h2 hl
 have e3 : a.tmps.getD 3 undef = .int .i64 0 := h3
 rw [e3] at e
 exact e
theorem aAb (w W : World) (b2 : Nat) (a : Act) (x : Int) (hb : Below w.heap.size w W) (hr : W.heap[b2]? = some (.cells #[.slice none 0 0, .slice none 0 0, .int .i64 0, .int .i64 0] 252 (0, 0))) (hd : a.defers = []) (h2 : a.eval (.tmp 2) = .pointer (some ⟨b2, 0, none⟩)) (h3 : a.eval (.tmp 3) = .int .i64 x) :
  bodyPost Tryz.prog Tryz.f145 (fun e w' => lN w (.inl x) e w') .ret a W := by
 have hl : (loadVar 252 ⟨b2, 0, none⟩).run Tryz.prog W = .ok (.agg #[.slice none 0 0, .slice none 0 0, .int .i64 0, .int .i64 0]) W := run_loadVar_row _ _ 252 252 _ (0, 0) _ hr Tryz.underlying252 rfl gW
 refine bodyPost_ret (v := .tuple #[.agg #[.slice none 0 0, .slice none 0 0, .int .i64 0, .int .i64 0], .int .i64 x]) ?_ hd ⟨rfl, hb⟩
 have e := fM Tryz.results145 a.tmps W b2 _ h2 hl
 have e3 : a.tmps.getD 3 undef = .int .i64 x := h3
 rw [e3] at e
 exact e
theorem gZ {W0 W W' : World} {b2 : Nat} {ts ts' : List Tch} {vs vs' : List Int} {x y x' y' : Int} (hW : Below W0.heap.size W0 W) (hS : AskS W b2 ts vs x y true W') (e1 : ts = ts') (e2 : vs = vs') (e3 : x = x') (e4 : y = y') : Chg W0 W' (fun k => k = b2) ∧ pT W0.heap.size W' b2 ts' vs' x' y' := by
 subst e1 e2 e3 e4
 obtain ⟨hc, ta, tn, tc, va, vn, vc, hr, ⟨g, e, hg, ht⟩, hv⟩ := hS
 have hz := hW.size
 exact ⟨Chg.trans (Chg.of_below hW (fun k => k = b2)) hc (fun _ e _ => e), ta, tn, tc, va, vn, vc, hr, ⟨g, e, by omega, ht⟩, hv.weakB hz⟩
def aR (ds : List (Option Nat)) (R : Nat → Value → World → Prop) (u : Nat → Value) (i : Nat) (w w' : World) : Prop := ∀ j, j < i → R j (bX u (ds.getD j none)) w → R j (bX u (ds.getD j none)) w'
theorem aR.refl {ds : List (Option Nat)} {R : Nat → Value → World → Prop} {u : Nat → Value} {i : Nat} {w : World} : aR ds R u i w w := fun _ _ h => h
def cX (P : Program) (Q : Exit → Act → World → Prop) (a : Act) (ds : List (Option Nat)) (S : Nat → World → Prop) (R : Nat → Value → World → Prop) (ops : List Oper) (runs : List Bool) : Nat → List Oper → Prop
 | _, [] => True
 | i, o :: l => (o.dst = ds.getD i none ∧ (∀ u w, S i w → (∀ j, j < i → R j (bX u (ds.getD j none)) w) → DoesG P ops.toArray o (over a ds u) w (runs.getD i true) (R i) (aR ds R u i) (S (i + 1)) Q)) ∧ cX P Q a ds S R ops runs (i + 1) l
theorem cX.cons {P : Program} {Q : Exit → Act → World → Prop} {a : Act} {ds : List (Option Nat)} {S : Nat → World → Prop} {R : Nat → Value → World → Prop} {ops : List Oper} {runs : List Bool} {i : Nat} {o : Oper} {l : List Oper} (h2 : o.dst = ds.getD i none)
  (h3 : ∀ u w, S i w → (∀ j, j < i → R j (bX u (ds.getD j none)) w) → DoesG P ops.toArray o (over a ds u) w (runs.getD i true) (R i) (aR ds R u i) (S (i + 1)) Q) (h : cX P Q a ds S R ops runs (i + 1) l) : cX P Q a ds S R ops runs i (o :: l) := ⟨⟨h2, h3⟩, h⟩
theorem cX.at {P : Program} {Q : Exit → Act → World → Prop} {a : Act} {ds : List (Option Nat)} {S : Nat → World → Prop} {R : Nat → Value → World → Prop} {ops : List Oper} {runs : List Bool} : ∀ (l : List Oper) (k i : Nat) (o : Oper), cX P Q a ds S R ops runs k l → l[i]? = some o → (o.dst = ds.getD (k + i) none ∧ (∀ u w, S (k + i) w → (∀ j, j < k + i → R j (bX u (ds.getD j none)) w) → DoesG P ops.toArray o (over a ds u) w (runs.getD (k + i) true) (R (k + i)) (aR ds R u (k + i)) (S (k + i + 1)) Q))
 | [], _, _, _, _, e => by simp at e
 | x :: l, k, 0, o, h, e => by
  simp at e
  subst e
  exact h.1
 | x :: l, k, i + 1, o, h, e => by
  have := cX.at l (k + 1) i o h.2 (by simpa using e)
  rw [show k + 1 + i = k + (i + 1) by omega] at this
  exact this
theorem pU {P : Program} {Q : Exit → Act → World → Prop} {a : Act} {ds : List (Option Nat)} {S : Nat → World → Prop} {R : Nat → Value → World → Prop} {ops : List Oper}
  (nd : ∀ (i j k : Nat), ds[i]? = some (some k) → ds[j]? = some (some k) → i = j) (hlen : ds.length = ops.length)
  (runs : List Bool) (hstep : cX P Q a ds S R ops runs 0 ops)
  (hend : ∀ u w, S ops.length w → (∀ i, i < ops.length → R i (bX u (ds.getD i none)) w) → Q .normal (over a ds u) w) :
  ∀ (l : List Oper) (i : Nat) (u : Nat → Value) (w : World), ops.drop i = l → i ≤ ops.length → S i w → (∀ j, j < i → R j (bX u (ds.getD j none)) w) → wpList P ops.toArray Q l (over a ds u) w := by
 intro l
 induction l with
 | nil =>
  intro i u w hd hil hS hf
  have hi : i = ops.length := by
   have := congrArg List.length hd
   simp at this
   omega
  subst hi
  exact wpList_nil (hend u w hS hf)
 | cons o l ih =>
  intro i u w hd hil hS hf
  have hi : i < ops.length := by
   have := congrArg List.length hd
   simp at this
   omega
  have hol : ops[i]? = some o := by
   have := congrArg (·[0]?) hd
   simpa using this
  have hdl : ops.drop (i + 1) = l := by
   have := congrArg List.tail hd
   simpa using this
  obtain ⟨s2, s3⟩ := cX.at ops 0 i o hstep hol
  rw [Nat.zero_add] at s2 s3
  have hdi : ds[i]? = some (ds.getD i none) := by
   have : i < ds.length := by omega
   simp [List.getD, List.getElem?_eq_getElem this]
  have hdm : o.dst = none ∨ o.dst ∈ ds := by
   rw [s2]
   exact .inr (List.mem_of_getElem? hdi)
  have hnext : ∀ v w', R i (gF o.dst v) w' → aR ds R u i w w' → ∀ j, j < i + 1 → R j (bX (upd u o.dst v) (ds.getD j none)) w' := by
   intro v w' hR hLe j hj
   by_cases e : j = i
   ·subst e
    rw [← s2]
    have hv : bX (upd u o.dst v) o.dst = gF o.dst v := by
     cases o.dst with
     | none => rfl
     | some k => simp [bX, upd, gF]
    rw [hv]
    exact hR
   ·have h1 := hLe j (by omega) (hf j (by omega))
    have hv : bX (upd u o.dst v) (ds.getD j none) = bX u (ds.getD j none) := by
     cases hdj : ds.getD j none with
     | none => rfl
     | some k =>
      cases hdi2 : o.dst with
      | none => rfl
      | some k2 =>
       have hne : k ≠ k2 := by
        intro hk
        subst hk
        refine e (nd j i k ?_ ?_)
        ·have hjl : j < ds.length := by omega
         simp [List.getD, List.getElem?_eq_getElem hjl] at hdj
         rw [List.getElem?_eq_getElem hjl, hdj]
        ·rw [hdi, ← s2, hdi2]
       simp [bX, upd, hne]
    rw [hv]
    exact h1
  refine wpList_step fun K hK => ?_
  have hdo := s3 u w hS hf
  cases hrun : runs.getD i true with
  | true =>
   rw [hrun] at hdo
   rw [if_pos hdo.want]
   refine Oper.wp_mono ?_ (hdo.does rfl).go
   rintro a' w' ⟨v, rfl, hR, hLe, hS'⟩
   rw [gG a ds u _ v hdm]
   exact hK _ _ (ih (i + 1) _ _ hdl (by omega) hS' (hnext v w' hR hLe))
  | false =>
   rw [hrun] at hdo
   rw [if_neg (by rw [hdo.want]; decide)]
   rw [gG a ds u _ undef hdm]
   refine hK _ _ (ih (i + 1) _ _ hdl (by omega) (hdo.skip rfl).2 (hnext undef w ?_ aR.refl))
   have e : gF o.dst undef = undef := by cases o.dst <;> rfl
   rw [e]
   exact (hdo.skip rfl).1
theorem cN {P : Program} {Q : Exit → Act → World → Prop} {a : Act} {w : World} {id : Nat} {ops : List Oper} (ds : List (Option Nat)) (S : Nat → World → Prop) (R : Nat → Value → World → Prop)
  (nd : ndB ds = true) (hlen : ds.length = ops.length) (hS : S 0 w) (runs : List Bool) (hstep : cX P Q a ds S R ops runs 0 ops)
  (hend : ∀ u w, S ops.length w → (∀ i, i < ops.length → R i (bX u (ds.getD i none)) w) → Q .normal (over a ds u) w) : (Code.region id ops.toArray false).wp P Q a w := by
 have := pU (ndB.spec ds nd) hlen runs hstep hend ops 0 (fun k => a.tmps.getD k undef) w rfl (by omega) hS (fun j hj => by omega)
 rw [iT] at this
 exact wp_region_lit this
theorem aCr {ev : Operand → Value} {w : World} {dst : Option Tmp} {T : TypeId} {p : String} {af : Array Edge} {g : Option (Nat × Bool)} : (execOp ev { dst := dst, op := .build 252 #[], type := T, pos := p, after := af, guard := g }).run Tryz.prog w = .ok (.value (.agg #[.slice none 0 0, .slice none 0 0, .int .i64 0, .int .i64 0])) w := by
 simp [go_sem]
theorem aCs {ev : Operand → Value} {w : World} {dst : Option Tmp} {T : TypeId} {p : String} {af : Array Edge} {g : Option (Nat × Bool)} (x y z : Operand) (a : Option Addr) (n c : Nat) (i j : Int) (h : ev x = .slice a n c) (h2 : ev y = .int .i64 i) (h3 : ev z = .int .i64 j) : (execOp ev { dst := dst, op := .build 252 #[(0, x), (2, y), (3, z)], type := T, pos := p, after := af, guard := g }).run Tryz.prog w = .ok (.value (.agg #[.slice a n c, .slice none 0 0, .int .i64 i, .int .i64 j])) w := by
 simp [go_sem, h, h2, h3]
theorem qM {ev : Operand → Value} {w : World} {dst : Option Tmp} {T : TypeId} {p : String} {af : Array Edge} {g : Option (Nat × Bool)} (x : Operand) (n : Int) (h : ev x = .int .i64 n) : (execOp ev { dst := dst, op := .buildSlice 24 1 #[(0, x)], type := T, pos := p, after := af, guard := g }).run Tryz.prog w = .ok (.value (.slice (some ⟨w.heap.size, 0, none⟩) 1 1)) (w.alloc (.cells #[.int .i64 n] 3)) := by
 simp [go_sem, h]
theorem aCm {ev : Operand → Value} {w : World} {dst : Option Tmp} {T : TypeId} {p : String} {af : Array Edge} {g : Option (Nat × Bool)} (x : Operand) (n : Int) (hc : ∀ v, ev (.const v) = v) (hx : ev x = .int .i64 n) (h0 : 0 ≤ n) (h1 : n ≤ 1000000) : (execOp ev { dst := dst, op := .binOp .quo 3 x (.const (.int .i64 65280)) 3, type := T, pos := p, after := af, guard := g }).run Tryz.prog w = .ok (.value (.int .i64 (n / 65280))) w := by
 have e : n.tdiv 65280 = n / 65280 := Int.tdiv_eq_ediv_of_nonneg h0
 have hw : IntKind.i64.wrap (n / 65280) = n / 65280 := by
  rw [IntKind.wrap_i64]
  omega
 simp [go_sem, hc, hx, e, hw]
theorem aGo (W : World) (B : Nat) (n : Int) (hB : B ≤ W.heap.size) : aS (W.alloc (.cells #[.int .i64 n] 3)) B (.slice (some ⟨W.heap.size, 0, none⟩) 1 1) [n] := ⟨rfl, .inr ⟨W.heap.size, 1, #[.int .i64 n], rfl, hB, heap_alloc_new W _, Nat.le_refl _, by unfold maxLen; omega, rfl, rfl⟩⟩
theorem aK (a : Act) (k : Nat) (v : Value) : (a.put (some k) v).defers = a.defers := rfl
theorem aI (a : Act) (k j : Nat) (v : Value) (hk : k < a.tmps.size) : (a.put (some k) v).eval (.tmp j) = if j = k then v else a.eval (.tmp j) := by
 by_cases e : j = k
 ·subst e
  simp [Act.eval, Act.put, hk]
 ·have e' : k ≠ j := fun h => e h.symm
  simp [Act.eval, Act.put, e, Array.getElem?_setIfInBounds_ne e']
theorem pne (a : Act) (k j : Nat) (v : Value) (e : j ≠ k) : (a.put (some k) v).eval (.tmp j) = a.eval (.tmp j) := by
 have e' : k ≠ j := fun h => e h.symm
 simp [Act.eval, Act.put, Array.getElem?_setIfInBounds_ne e']
theorem aE (a : Act) (k : Nat) (v : Value) : (a.put (some k) v).tmps.size = a.tmps.size := by simp [Act.put]
theorem aAa (a : Act) (Q : Exit → Act → World → Prop) (W : World) (id d b2 : Nat) (x : Int) (T1 T2 T3 : TypeId) (p1 p2 p3 : String) (af1 af2 af3 : Array Edge) (hd : d < a.tmps.size) (hd2 : d ≠ 2) (h2 : a.eval (.tmp 2) = .pointer (some ⟨b2, 0, none⟩)) (hr : W.heap[b2]? = some (.cells #[.slice none 0 0, .slice none 0 0, .int .i64 0, .int .i64 0] 252 (0, 0)))
  (h : ∀ W', Chg W W' (fun k => k = b2) → W'.heap[b2]? = some (.cells #[.slice none 0 0, .slice none 0 0, .int .i64 0, .int .i64 0] 252 (0, 0)) → Q .normal ((a.put (some d) (.agg #[.slice none 0 0, .slice none 0 0, .int .i64 0, .int .i64 0])).put (some 3) (.int .i64 x)) W') :
  (Code.region id ([{ dst := some d, op := .build 252 #[], type := T1, pos := p1, after := af1, guard := none }, { dst := none, op := .store 252 (.tmp 2) (.tmp d), type := T2, pos := p2, after := af2, guard := none }, { dst := some 3, op := .assign (.const (.int .i64 x)), type := T3, pos := p3, after := af3, guard := none }] : List Oper).toArray false).wp Tryz.prog Q a W := by
 refine wp_region_lit (aG rfl aCr ?_)
 refine wpList_store_row rfl 252 (.tmp 2) (.tmp d) rfl b2 #[.slice none 0 0, .slice none 0 0, .int .i64 0, .int .i64 0] ?_ ?_ 252 _ hr gW rfl (by simp [Value.oneCell']) ?_
 ·rw [aI _ _ _ _ hd, if_neg (fun e => hd2 e.symm)]
  exact h2
 ·rw [aI _ _ _ _ hd, if_pos rfl]
 ·refine aG rfl (aX _) (wpList_nil ?_)
  exact h _ ⟨rfl, rfl, rfl, by rw [setRow_size]; exact Nat.le_refl _, fun k _ hk => setRow_other W b2 k _ hk⟩ (setRow_heap W b2 _ _ _ _ hr)
end Go.Proofs.YtfekelmldebplaaGreatDoor
