import Derived.BigRegion
import Derived.Test.YtfekelmldebplaaGreatDoorJm
import Derived.Test.YtfekelmldebplaaGreatDoorJp
set_option maxRecDepth 100000
set_option maxHeartbeats 8000000
namespace Go.Proofs.YtfekelmldebplaaGreatDoor
open Go.RowKit
structure OpOk (w0 : World) (o : OpV) : Prop where
 l : ∃ la lc xs, o.l = .slice la (List.length xs) lc ∧ cB w0 (.slice la xs.length lc) xs ∧ xs.length ≤ 1048576
 cfg : ∃ z0 z1 z2 z3 lim a c, ∃ LL : List (List Rule), o.n0 = .int .i64 z0 ∧ o.n1 = .int .i64 z1 ∧ o.n2 = .int .i64 z2 ∧ o.n3 = .int .i64 z3 ∧ o.n4 = .int .i64 lim ∧ o.ru = .slice a LL.length c ∧ bZ w0 (.slice a LL.length c) LL ∧ (a = none → c = 0) ∧ LL.length ≤ 1048576 ∧ ∀ rs ∈ LL, rs.length ≤ 1048576
 s : o.s.size ≤ 1048576
 A : -9223372036854775808 ≤ o.A ∧ o.A ≤ 9223372036854775807
 C : -9223372036854775808 ≤ o.C ∧ o.C ≤ 9223372036854775807
def BJ (w0 : World) (N n : Nat) (w : World) : Prop := ∃ ps vp vb vi rb ri, BInv w w0.heap.size w0.heap.size ps vp vb vi rb ri ∧ ps.length ≤ min n N + 1 ∧ rb.length ≤ min n N + 1 ∧ ri.length ≤ min n N + 1 ∧ Chg w0 w (fun k => w0.heap.size ≤ k)
theorem BJ.below {w0 w w' : World} {N n : Nat} (h : BJ w0 N n w) (hb : Below w.heap.size w w') : BJ w0 N n w' := by
 obtain ⟨ps, vp, vb, vi, rb, ri, h1, h2, h3, h4, h5⟩ := h
 exact ⟨ps, vp, vb, vi, rb, ri, h1.below hb, h2, h3, h4, h5.trans (Chg.of_below hb (fun _ => False)) (fun _ e _ => e.elim)⟩
theorem BJ.mono {w0 w : World} {N n m : Nat} (h : BJ w0 N n w) (hm : n ≤ m) : BJ w0 N m w := by
 obtain ⟨ps, vp, vb, vi, rb, ri, h1, h2, h3, h4, h5⟩ := h
 exact ⟨ps, vp, vb, vi, rb, ri, h1, by omega, by omega, by omega, h5⟩
theorem jC {w0 w : World} (h : Chg w0 w (fun k => w0.heap.size ≤ k)) : Below w0.heap.size w0 w := ⟨h.os, h.tape, h.output, h.size, fun k p => h.block k p (by omega)⟩
theorem aFq {w0 : World} {la : Option Addr} {lc : Nat} {xs : List Int} (h : cB w0 (.slice la xs.length lc) xs) : xs ≠ [] → ∀ b, (Value.slice la xs.length lc).ownBlock = some b → b < w0.heap.size := fun hx b e => by
 obtain ⟨a', c', e', hh⟩ := h
 cases e'
 rcases hh with hh | ⟨b', o', rfl, hb, _⟩
 ·exact absurd hh hx
 ·have : b' = b := by
   simp [Value.ownBlock] at e
   first | exact e | exact e.2 | exact e.1
  omega
theorem BJ.of_bank {w0 w w' : World} {N n : Nat} (hnN : n < N) {ps : List BP} {rb ri : List Rec} (h : dY w w' w0.heap.size w0.heap.size ps rb ri) (h1 : ps.length ≤ n + 1) (h2 : rb.length ≤ n + 1) (h3 : ri.length ≤ n + 1) (hc : Chg w0 w (fun k => w0.heap.size ≤ k)) : BJ w0 N (n + 1) w' := by
 obtain ⟨ps', vp, vb, vi, rb', ri', k1, k2, k3, k4, k5⟩ := h
 exact ⟨ps', vp, vb, vi, rb', ri', k1, by omega, by omega, by omega, hc.trans k5 (fun _ e _ => e)⟩
theorem BJ.of_made {w0 w w' : World} {N n : Nat} {ps : List BP} {vb vi : Value} {rb ri : List Rec} (h : iY w w' w0.heap.size w0.heap.size ps vb vi rb ri) (h1 : ps.length ≤ min n N) (h2 : rb.length ≤ min n N + 1) (h3 : ri.length ≤ min n N + 1) (hc : Chg w0 w (fun k => w0.heap.size ≤ k)) : BJ w0 N n w' := by
 obtain ⟨ps', vp, k1, k2, k3⟩ := h
 exact ⟨ps', vp, _, _, _, _, k1, by omega, by omega, by omega, hc.trans k3 (fun _ e _ => e)⟩
theorem BInv.start {w : World} {B bw : Nat} (h : w.heap[bw]? = some (.cells (wrow (.slice none 0 0) (.slice none 0 0) (.slice none 0 0) (.slice none 0 0) (.slice none 0 0)) 91 (0, 0))) (he : dF w) (hB : 0 < B) : BInv w B bw [] (.slice none 0 0) (.slice none 0 0) (.slice none 0 0) [] [] :=
 ⟨⟨h, World.ownsRow_nil _ _ _ _, World.ownsRow_nil _ _ _ _, fun r m => by simp at m, fun r m => by simp at m, fun r m => by simp at m⟩, World.ownsRow_nil _ _ _ _, fun p m => by simp at m, fun i j p q e => by simp at e, fun r m => by simp at m, he, hB⟩
theorem nC (wr0 : Bool) (ops : List (Int × OpV)) (w0 : World) (hn : ops.length ≤ 1048576) (ho : ∀ op ∈ ops, OpOk w0 op.2) (he : dF w0) : PlaysW wr0 w0 4 [4, 5, 6, 7] ops (BJ w0 ops.length) (fun i => BJ w0 ops.length (i + 1)) := by
 have hz : 0 < w0.heap.size := World.block_lt_of_cell? w0 _ he
 refine ⟨fun i w h => ?_, fun i w w' h hb => h.below hb, fun i w h => h.mono (by omega), ?_, ?_, fun i w w' h hb => h.below hb, ?_⟩
 ·obtain ⟨_, _, _, _, _, _, _, _, _, _, h5⟩ := h
  exact h5
 ·rintro i ⟨kd, o⟩ w hop hk _ hJ
  have hil := (List.getElem?_eq_some_iff.1 hop).1
  obtain ⟨⟨la, lc, xs, el, hl, hxl⟩, ⟨z0, z1, z2, z3, lim, a, c, LL, e0, e1, e2, e3, e4, er, hLL, ha, hLn, hLr⟩, hs, hA, hC⟩ := ho _ (List.mem_of_getElem? hop)
  obtain ⟨ps, vp, vb, vi, rb, ri, hI, h1, h2, h3, hc⟩ := hJ
  have hbel := jC hc
  obtain ⟨A, Bq, C, D, s, l, n0, n1, n2, n3, n4, ru, li⟩ := o
  simp only at el e0 e1 e2 e3 e4 er hs hA hC
  subst el e0 e1 e2 e3 e4 er
  have hbw := hI.bw_lt
  have hk' : kd = 4 ∨ kd = 5 ∨ kd = 6 ∨ kd = 7 := by simpa using hk
  rcases hk' with rfl | rfl | rfl | rfl
  ·refine (uJ A Bq C D s _ _ z0 z1 z2 z3 lim a c LL w0.heap.size w0.heap.size ps vp vb vi rb ri w hI (Nat.le_refl _) (hLL.below hbel) ha (by omega) (fun rs m => by have := hLr rs m; omega) (by omega)).mono ?_
   rintro e w' ⟨rfl, hp⟩
   exact ⟨rfl, BJ.of_made hp (by omega) (by omega) (by omega) hc⟩
  ·refine (lY A Bq C D 5 s _ _ _ _ _ _ _ _ w0.heap.size w0.heap.size ps vp vb vi rb ri w hI (.inl rfl) (by omega) hA ?_).mono ?_
   ·intro W j p hp hb
    exact aEq A Bq C D s _ _ _ _ _ _ _ la lc xs w0.heap.size w0.heap.size ps vp vb vi rb ri j p W (hI.below hb) hp (by have := hb.size; omega) ((hl.below hbel).below hb) (aFq hl) (by omega) hC
   ·rintro e w' ⟨rfl, hp⟩
    exact ⟨rfl, BJ.of_bank hil hp (by omega) (by omega) (by omega) hc⟩
  ·refine (lY A Bq C D 6 s _ _ _ _ _ _ _ _ w0.heap.size w0.heap.size ps vp vb vi rb ri w hI (.inr (.inl rfl)) (by omega) hA ?_).mono ?_
   ·intro W j p hp hb
    exact aEr A Bq C D s _ _ _ _ _ _ _ _ w0.heap.size w0.heap.size ps vp vb vi rb ri j p W (hI.below hb) hp (Nat.le_refl _) (by omega) hC
   ·rintro e w' ⟨rfl, hp⟩
    exact ⟨rfl, BJ.of_bank hil hp (by omega) (by omega) (by omega) hc⟩
  ·refine (lY A Bq C D 7 s _ _ _ _ _ _ _ _ w0.heap.size w0.heap.size ps vp vb vi rb ri w hI (.inr (.inr rfl)) (by omega) hA ?_).mono ?_
   ·intro W j p hp hb
    exact wJ A Bq C D s _ _ _ _ _ _ _ _ w0.heap.size w0.heap.size ps vp vb vi rb ri j p W (hI.below hb) hp (Nat.le_refl _) (by omega) (by omega) hC
   ·rintro e w' ⟨rfl, hp⟩
    exact ⟨rfl, BJ.of_bank hil hp (by omega) (by omega) (by omega) hc⟩
 ·rintro i w ⟨ps, vp, vb, vi, rb, ri, hI, h1, h2, h3, hc⟩
  refine (yL w0.heap.size w0.heap.size vb vi rb ri w hI.book.at (by omega) (by omega)).mono ?_
  rintro e w' ⟨rfl, hb⟩
  exact ⟨rfl, BJ.below ⟨ps, vp, vb, vi, rb, ri, hI, h1, h2, h3, hc⟩ hb⟩
 ·intro w a hb hhl hrow
  have hI := BInv.start (B := w0.heap.size) hrow (he.below hb) hz
  refine (uJ 1 2 0 0 ⟨#[97, 98, 99]⟩ (.slice none 0 0) (.slice none 0 0) 20 10 5 8 2 (some a) 2 pG w0.heap.size w0.heap.size [] _ _ _ [] [] w hI (Nat.le_refl _) hhl (fun e => by cases e) (by decide) (by decide) (by simp)).mono ?_
  rintro e w' ⟨rfl, hp⟩
  exact ⟨rfl, BJ.of_made hp (by simp) (by simp) (by simp) (Chg.of_below hb _)⟩
theorem OpOk.below {w w' : World} {o : OpV} (h : OpOk w o) (hb : Below w.heap.size w w') : OpOk w' o := by
 obtain ⟨⟨la, lc, xs, e, hl, hx⟩, ⟨z0, z1, z2, z3, lim, a, c, LL, e0, e1, e2, e3, e4, er, hL, ha, h1, h2⟩, hs, hA, hC⟩ := h
 exact ⟨⟨la, lc, xs, e, hl.below hb, hx⟩, ⟨z0, z1, z2, z3, lim, a, c, LL, e0, e1, e2, e3, e4, er, hL.below hb, ha, h1, h2⟩, hs, hA, hC⟩
theorem answers_call (ops : List (Int × OpV)) (a : Option Addr) (c : Nat) (w : World) (hS : nD w.heap.size w a ops) (hl : ops.length ≤ 1048576) (ho : ∀ op ∈ ops, OpOk w op.2) (he : dF w) :
  Calls Tryz.prog 5 #[.slice a ops.length c] w fun e w' => e = .returned (.bool true) ∧ Below w.heap.size w w' := by
 have hb : Below w.heap.size w (w.alloc (.cells #[.int .i64 4, .int .i64 5, .int .i64 6, .int .i64 7] 3)) := (Below.refl _ _).alloc (Nat.le_refl _) _
 have HP := hide (nC true ops (w.alloc (.cells #[.int .i64 4, .int .i64 5, .int .i64 6, .int .i64 7] 3)) hl (fun op m => (ho op m).below hb) (he.below hb))
 have HS1 : Hid (nD (w.alloc (.cells #[.int .i64 4, .int .i64 5, .int .i64 6, .int .i64 7] 3)).heap.size (w.alloc (.cells #[.int .i64 4, .int .i64 5, .int .i64 6, .int .i64 7] 3)) a ops) := fun i op ho => by
  obtain ⟨b, o, e, hlt, hc⟩ := hS i op ho
  refine ⟨b, o, e, by have := hb.size; omega, fun j u h => ?_⟩
  rw [← hc j u h]
  exact World.cell?_of_block (hb.block b hlt)
 have HB := hide hb
 have HC := hide (xE 4 [4, 5, 6, 7] ops _ _ a c w.heap.size _ (aA HP) (aA HS1) (heap_alloc_new w _) (by simp) rfl (by simp) (by omega))
 clear hS hb ho
 go_enter Tryz.func5, Tryz.ntmps5
 go_wp2_with fail
 refine (aA HC).mono ?_
 rintro e w' ⟨rfl, hj⟩
 have HJ := hide hj
 clear hj
 go_wp2
 go_ret
 refine ⟨rfl, aD (aA HB) ?_⟩
 obtain ⟨_, _, _, _, _, _, _, _, _, _, f⟩ := aA HJ
 exact jC f
end Go.Proofs.YtfekelmldebplaaGreatDoor
