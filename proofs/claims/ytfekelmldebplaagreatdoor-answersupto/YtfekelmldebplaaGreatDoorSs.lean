import Derived.Deep.RegionLaw
import Derived.Test.YtfekelmldebplaaGreatDoorBb
set_option maxRecDepth 100000
set_option maxHeartbeats 8000000
namespace Go.Proofs.YtfekelmldebplaaGreatDoor
open Go.RowKit
theorem aFt : (Tryz.prog.info? 127).map (fun i => (i.zero, i.size, i.bytes)) = some (some (.agg #[.slice none 0 0, .slice none 0 0, .slice none 0 0, .slice none 0 0, .int .i64 0]), 5, 104) := by kernel_rfl
structure InB (w : World) (B bw : Nat) (c0 c1 c2 vb vf : Value) (rb rf : List Rec) (v : Value) (w' : World) : Prop where
 out : ∃ vf' r, BookJ w' B bw c0 c1 c2 vb vf' rb (rf ++ [r]) ∧ (vf'.ownBlock = vf.ownBlock ∨ ∃ k, w.heap.size ≤ k ∧ vf'.ownBlock = some k) ∧ ∀ k, r.has k → v.ownBlock = some k ∨ w.heap.size ≤ k
 chg : Chg w w' (fun k => k = bw ∨ vf.ownBlock = some k ∨ v.ownBlock = some k)
theorem aFr {w w1 M w9 : World} {B bw : Nat} {c0 c1 c2 vf vb v v1 v2 v3 vf' : Value} {rf rb : List Rec} {xs : List Int} (h : BookJ w B bw c0 c1 c2 vb vf rb rf) (hv : aS w B v xs) (hfree : ∀ r, (r ∈ rb ∨ r ∈ rf) → ∀ k, r.has k → v.ownBlock ≠ some k)
  (ho : I.OwnI w B v v1 v2 v3 rf.length w1) (hm : rf.length ≤ 1000000000000) (hM : Below w1.heap.size w1 M) (hg : M.grownBy w9 vf.ownBlock) (hr : w9.ownsRow B 127 5 vf' (rf.length + 1) (rf.flatMap Rec.cells ++ [v, v1, v2, v3, .int .i64 rf.length])) (hat : vf.ownBlock = vf'.ownBlock ∨ ∃ k, w1.heap.size ≤ k ∧ vf'.ownBlock = some k) :
  InB w B bw c0 c1 c2 vb vf rb rf v (w9.setCell ⟨bw, 4, none⟩ vf') := by
 have hbw : bw < w.heap.size := (Array.getElem?_eq_some_iff.1 h.row).1
 have tf : ∀ k, vf.ownBlock = some k → k < w.heap.size := fun k e => (World.ownsRow.lt h.rowI k e).2
 have tv : ∀ k, v.ownBlock = some k → k < w.heap.size := fun k e => (World.ownsRow.lt hv k e).2
 have nfv : ∀ k, vf.ownBlock = some k → v.ownBlock ≠ some k := fun k e e' => by
  obtain ⟨cs, fr, hh⟩ : ∃ cs fr, w.heap[k]? = some (.cells cs 127 fr) := bH h.rowI e
  exact absurd (bV hv hh e') (by decide)
 have nbv : ∀ k, vb.ownBlock = some k → v.ownBlock ≠ some k := fun k e e' => by
  obtain ⟨cs, fr, hh⟩ : ∃ cs fr, w.heap[k]? = some (.cells cs 125 fr) := bH h.rowB e
  exact absurd (bV hv hh e') (by decide)
 have nwv : v.ownBlock ≠ some bw := fun e => absurd (bV hv h.row e) (by decide)
 have nwf : vf.ownBlock ≠ some bw := fun e => absurd (bV h.rowI h.row e) (by decide)
 have nwb : vb.ownBlock ≠ some bw := fun e => absurd (bV h.rowB h.row e) (by decide)
 have nfb : ∀ k, vf.ownBlock = some k → vb.ownBlock ≠ some k := fun k e e' => by
  obtain ⟨cs, fr, hh⟩ : ∃ cs fr, w.heap[k]? = some (.cells cs 127 fr) := bH h.rowI e
  exact absurd (bV h.rowB hh e') (by decide)
 have tb : ∀ k, vb.ownBlock = some k → k < w.heap.size := fun k e => (World.ownsRow.lt h.rowB k e).2
 have z1 := ho.grown.size
 have z2 := hM.size
 have z3 := hg.size
 have z4 : (w9.setCell ⟨bw, 4, none⟩ vf').heap.size = w9.heap.size := by simp [World.setCell]
 have C : Chg w (w9.setCell ⟨bw, 4, none⟩ vf') (fun k => k = bw ∨ vf.ownBlock = some k ∨ v.ownBlock = some k) :=
  ((((Chg.of_grown ho.grown).mono (E := fun k => k = bw ∨ vf.ownBlock = some k ∨ v.ownBlock = some k) fun i _ e => .inr (.inr e)).trans (Chg.of_below hM (fun _ => False)) (fun _ e _ => e.elim)).trans (Chg.of_grown hg) (fun _ e _ => .inr (.inl e))).trans (Chg.set w9 bw 4 vf') (fun _ e _ => .inl e)
 have hnew : ∀ k, (Rec.mk v v1 v2 v3 rf.length).has k → v.ownBlock = some k ∨ w.heap.size ≤ k := by
  rintro k (e | e | e | e)
  ·exact .inl e
  ·rcases ho.b1 with q | ⟨j, hj, q⟩
   ·exact .inl (q.symm.trans e)
   ·have : j = k := by have := q.symm.trans e; simpa using this
    exact .inr (by omega)
  ·rcases ho.b2 with q | ⟨j, hj, q⟩
   ·exact .inl (q.symm.trans e)
   ·have : j = k := by have := q.symm.trans e; simpa using this
    exact .inr (by omega)
  ·rcases ho.b3 with q | ⟨j, hj, q⟩
   ·exact .inl (q.symm.trans e)
   ·have : j = k := by have := q.symm.trans e; simpa using this
    exact .inr (by omega)
 have nb : ∀ k, (Rec.mk v v1 v2 v3 rf.length).has k → k ≠ bw ∧ vf.ownBlock ≠ some k ∧ vb.ownBlock ≠ some k := fun k e => by
  rcases hnew k e with q | q
  ·exact ⟨fun e' => nwv (by rw [q, e']), fun e' => nfv k e' q, fun e' => nbv k e' q⟩
  ·exact ⟨by omega, fun e' => by have := tf k e'; omega, fun e' => by have := tb k e'; omega⟩
 have old : ∀ r, (r ∈ rb ∨ r ∈ rf) → ∀ k, r.has k → ¬ (k = bw ∨ vf.ownBlock = some k ∨ v.ownBlock = some k) := fun r m k e => by
  have q := h.sep r m k e
  rintro (e' | e' | e')
  ·exact q.2.2.1 e'
  ·exact q.2.2.2.2 e'
  ·exact hfree r m k e e'
 have same1 : ∀ k, k < w1.heap.size → k ≠ bw → vf.ownBlock ≠ some k → (w9.setCell ⟨bw, 4, none⟩ vf').heap[k]? = w1.heap[k]? := fun k p n1 n2 => by
  rw [heap_setCell_other _ _ _ _ (fun e => n1 e), hg.block k (by omega) (fun e => n2 e.symm), hM.block k p]
 have row9 : w9.heap[bw]? = some (.cells (gP c0 c1 c2 vb vf) 91 (0, 0)) := by
  rw [hg.block bw (by omega) (fun e => nwf e.symm), hM.block bw (by omega), ho.grown.block bw hbw (fun e => nwv e.symm)]
  exact h.row
 have nwf' : vf'.ownBlock ≠ some bw := fun e => absurd (bV hr row9 e) (by decide)
 have oknew : (Rec.mk v v1 v2 v3 rf.length).OkI (w9.setCell ⟨bw, 4, none⟩ vf') := by
  have h0 : (Rec.mk v v1 v2 v3 rf.length).OkI w1 := ⟨ho.h0, ho.h1, ho.h2, ho.h3, hm⟩
  refine h0.kept (by omega) fun u hu k p q => ?_
  have hk : (Rec.mk v v1 v2 v3 rf.length).has k := by rcases hu with rfl | rfl | rfl | rfl <;> simp [Rec.has, q]
  exact same1 k p (nb k hk).1 (nb k hk).2.1
 refine ⟨⟨vf', ⟨v, v1, v2, v3, rf.length⟩, ⟨?row, ?rB, ?rF, ?oB, ?oF, ?sp⟩, ?bl, hnew⟩, C⟩
 case row =>
  have := heap_setCell_same w9 bw 4 _ 91 vf' row9
  simpa [gP] using this
 case rF =>
  have q : w9.ownsRow B 127 5 vf' (rf ++ [Rec.mk v v1 v2 v3 rf.length]).length ((rf ++ [Rec.mk v v1 v2 v3 rf.length]).flatMap Rec.cells) := by
   simpa [Rec.cells] using hr
  exact aJ q fun i _ p e => heap_setCell_other _ _ _ _ (fun e' => nwf' (by rw [e, e']))
 case rB =>
  exact aJ h.rowB fun i _ p e => C.block i p (by
   rintro (e' | e' | e')
   ·exact nwb (by rw [e, e'])
   ·exact nfb i e' e
   ·exact nbv i e e')
 case oF =>
  intro r m
  rcases List.mem_append.1 m with m | m
  ·refine (h.okI r m).kept C.size fun u hu i p q => C.block i p (old r (.inr m) i ?_)
   rcases hu with rfl | rfl | rfl | rfl <;> simp [Rec.has, q]
  ·rw [List.mem_singleton.1 m]
   exact oknew
 case oB =>
  intro r m
  refine (h.okB r m).kept C.size fun u hu i p q => C.block i p (old r (.inl m) i ?_)
  rcases hu with rfl | rfl | rfl | rfl <;> simp [Rec.has, q]
 case sp =>
  intro r m k e
  have oldr : (r ∈ rb ∨ r ∈ rf) → B ≤ k ∧ k < (w9.setCell ⟨bw, 4, none⟩ vf').heap.size ∧ k ≠ bw ∧ vb.ownBlock ≠ some k ∧ vf'.ownBlock ≠ some k := fun m => by
   have q := h.sep r m k e
   refine ⟨q.1, by omega, q.2.2.1, q.2.2.2.1, fun e' => ?_⟩
   rcases hat with a | ⟨j, hj, a⟩
   ·exact q.2.2.2.2 (a.trans e')
   ·have : j = k := by have := a.symm.trans e'; simpa using this
    omega
  rcases m with m | m
  ·exact oldr (.inl m)
  ·rcases List.mem_append.1 m with m | m
   ·exact oldr (.inr m)
   ·rw [List.mem_singleton.1 m] at e
    have q := ho.lt k e
    have n := nb k e
    refine ⟨q.1, by omega, n.1, n.2.2, fun e' => ?_⟩
    rcases hat with a | ⟨j, hj, a⟩
    ·exact n.2.1 (a.trans e')
    ·have : j = k := by have := a.symm.trans e'; simpa using this
     omega
 case bl =>
  rcases hat with a | ⟨j, hj, a⟩
  ·exact .inl a.symm
  ·exact .inr ⟨j, by omega, a⟩
theorem aFs (B bw : Nat) (c0 c1 c2 vb vf v : Value) (rb rf : List Rec) (xs : List Int) (w : World) (h : BookJ w B bw c0 c1 c2 vb vf rb rf) (hv : aS w B v xs) (hfree : ∀ r, (r ∈ rb ∨ r ∈ rf) → ∀ k, r.has k → v.ownBlock ≠ some k)
  (hn : xs.length ≤ 1000000000) (hb : rf.length ≤ 1000000000) (hB : B ≤ w.heap.size) :
  Calls Tryz.prog 93 #[.pointer (some ⟨bw, 3, none⟩), v] w fun e w' => e = .returned (.tuple #[]) ∧ InB w B bw c0 c1 c2 vb vf rb rf v w' := by
 obtain ⟨i0, hi, hz0, hz1, hz2⟩ := info_parts aFt
 obtain ⟨ob, cb, rfl, hob1, hob2⟩ := bU h.rowI
 obtain ⟨av, nv, cv, rfl⟩ := aP hv
 have H := hide h
 have HV := hide hv
 have HF := hide hfree
 have q3 := h.at.c4
 clear h hv hfree
 go_enter Tryz.func93, Tryz.ntmps93
 go_wp2_with fail
 refine (I.ownInts_any B _ xs rf.length w (aA HV) hn (by omega) hB).mono ?_
 rintro e w1 ⟨v1, v2, v3, rfl, hob⟩
 obtain ⟨a1, n1, k1, rfl, _, _⟩ := id hob.h1
 obtain ⟨a2, n2, k2, rfl, _, _⟩ := id hob.h2
 obtain ⟨a3, n3, k3, rfl, _, _⟩ := id hob.h3
 have hr1 : w1.heap[bw]? = some (.cells (gP c0 c1 c2 vb (.slice ob rf.length cb)) 91 (0, 0)) :=
  (hob.grown.block bw (Array.getElem?_eq_some_iff.1 (aA H).row).1 (fun e => absurd (bV (aA HV) (aA H).row e.symm) (by decide))).trans (aA H).row
 have q4 := cell_of_row _ _ 4 _ _ _ hr1
 have f4 := frozen_of_row _ _ 4 _ _ hr1
 simp [gP] at q4
 have hbw : bw < w1.heap.size := (Array.getElem?_eq_some_iff.1 hr1).1
 have HOB := hide hob
 have HS9 : Hid (∀ (M w9 : World), M.grownBy w9 (Value.slice ob rf.length cb).ownBlock → M.heap = ((w1.alloc (.cells #[.slice av nv cv, .slice a1 n1 k1, .slice a2 n2 k2, .slice a3 n3 k3, .int .i64 rf.length] 127)).alloc (.cells #[.slice av nv cv, .slice a1 n1 k1, .slice a2 n2 k2, .slice a3 n3 k3, .int .i64 rf.length] 127)).heap → w9.cell? ⟨bw, 4, none⟩ = some (.slice ob rf.length cb) ∧ w9.frozen? ⟨bw, 4, none⟩ = false) := fun M w9 g e => by
  have r9 := qF hr1 e g (fun e => absurd (bV (aA H).rowI (aA H).row e.symm) (by decide))
  exact ⟨cell_of_row _ _ 4 _ _ _ r9, frozen_of_row _ _ 4 _ _ r9⟩
 clear q3 hr1 hob
 go_wp2_with fail
 have HOne : Hid (∀ u ∈ ([.slice av nv cv, .slice a1 n1 k1, .slice a2 n2 k2, .slice a3 n3 k3, .int .i64 rf.length] : List Value), u.oneCell' = true) := by
  intro u hu
  simp at hu
  rcases hu with rfl | rfl | rfl | rfl | rfl <;> rfl
 have HRow : Hid (w1.ownsRow B 127 5 (.slice ob rf.length cb) rf.length (rf.flatMap Rec.cells)) := aJ (aA H).rowI fun i _ p q => (aA HOB).grown.block i p fun e => by
  obtain ⟨cs, fr, hh⟩ := bH (aA H).rowI q
  exact absurd (bV (aA HV) hh e.symm) (by decide)
 have hB1 : B ≤ w1.heap.size := Nat.le_trans hB (aA HOB).grown.size
 generalize eRC : rf.flatMap Rec.cells = RC at HRow
 have ERC := hide eRC
 clear eRC
 have hbwne : bw ≠ w1.heap.size := by omega
 go_region_law (first
  | (refine step_append_lies _ ?hg (.tmp 16) (.tmp 18) 85 ?ho B 127 i0 (.agg #[.slice none 0 0, .slice none 0 0, .slice none 0 0, .slice none 0 0, .int .i64 0]) 5 104 Tryz.underlying85 hi hz0 hz1 hz2 rfl (by decide) (.slice ob rf.length cb) rf.length RC ?hs ?hw
      ⟨w1.heap.size + 1, 0, none⟩ 1 1 [.slice av nv cv, .slice a1 n1 k1, .slice a2 n2 k2, .slice a3 n3 k3, .int .i64 rf.length] ?hx rfl ?hc (aA HOne) (by decide) ?h6 ?hb ?hz (w1.heap.size + 2) ?hH ?_
     case ho => exact rfl
     case hg => exact rfl
     case hs => exact rfl
     case hx => exact rfl
     case hw => exact vR (World.ownsRow.alloc (World.ownsRow.alloc (aA HRow) (.cells #[.slice av nv cv, .slice a1 n1 k1, .slice a2 n2 k2, .slice a3 n3 k3, .int .i64 rf.length] 127)) (.cells #[.slice av nv cv, .slice a1 n1 k1, .slice a2 n2 k2, .slice a3 n3 k3, .int .i64 rf.length] 127)) rfl
     case hc => exact qS (cs := #[.slice av nv cv, .slice a1 n1 k1, .slice a2 n2 k2, .slice a3 n3 k3, .int .i64 rf.length]) (t := 127) (lL (w := w1) (o := .cells #[.slice av nv cv, .slice a1 n1 k1, .slice a2 n2 k2, .slice a3 n3 k3, .int .i64 rf.length] 127) rfl)
     case h6 => unfold maxLen; omega
     case hb => omega
     case hz => simp; omega
     case hH => simp
     intro g9 cap9 w9 o9 gr9 h9 l9
     obtain ⟨s91, s92⟩ := aA HS9 _ w9 gr9 rfl)
  | fail)
 all_goals
  refine bodyPost_end (v := .tuple #[]) (by simp [results, Tryz.results93]) rfl ⟨rfl, ?_⟩
  refine aFr (w1 := w1) (aA H) (aA HV) (aA HF) (aA HOB) (by omega) ?_ gr9 (by rw [aA ERC]; exact o9) ?_
  ·repeat (first | exact Below.refl _ _ | refine Below.drew ?_ | refine Below.alloc ?_ (by first | (simp; done) | (simp; omega)) _)
  ·rcases h9 with h9 | h9
   ·exact .inl h9
   ·exact .inr ⟨g9, by omega, rfl⟩
def kO (w : World) (B : Nat) (v : Value) (xs : List Int) : Prop := (v = .slice none 0 0 ∧ xs = []) ∨ ∃ g c, v = .slice (some ⟨g, 0, none⟩) xs.length c ∧ w.ownsRow B 3 1 (.slice (some ⟨g, 0, none⟩) (xs.length + 1) c) (xs.length + 1) (xs.map (Value.int .i64) ++ [.int .i64 (-77)])
theorem aBl {w : World} {b o : Nat} {xs : List Int} (hc : ∀ i, i < xs.length → w.cell? ⟨b, o + i, none⟩ = some (.int .i64 (xs.getD i 0))) :
  ∀ j u, (xs.map (Value.int .i64))[j]? = some u → w.cell? ((⟨b, o, none⟩ : Addr).add j) = some u := fun j u hu => by
 have hj : j < xs.length := by
  rcases Nat.lt_or_ge j xs.length with h | h
  ·exact h
  ·rw [List.getElem?_eq_none (by simpa using h)] at hu
   cases hu
 have e1 : (⟨b, o, none⟩ : Addr).add j = ⟨b, o + j, none⟩ := by unfold Addr.add; split <;> simp_all
 rw [e1, hc j hj]
 rw [List.getElem?_map, List.getElem?_eq_getElem hj] at hu
 simpa [List.getD, List.getElem?_eq_getElem hj] using hu
theorem aDz (xs : List Int) : ∀ u ∈ xs.map (Value.int .i64), u.oneCell' = true := fun u hu => by
 obtain ⟨x, _, rfl⟩ := List.mem_map.1 hu
 rfl
theorem tG (a : Option Addr) (c : Nat) (xs : List Int) (w : World) (h : xs = [] ∨ ∃ b o, a = some ⟨b, o, none⟩ ∧ b < w.heap.size ∧ ∀ i, i < xs.length → w.cell? ⟨b, o + i, none⟩ = some (.int .i64 (xs.getD i 0))) (hn : xs.length ≤ 1000000000) :
  Calls Tryz.prog 88 #[.slice a xs.length c] w fun e w' => ∃ v, e = .returned v ∧ kO w' w.heap.size v xs ∧ (v = .slice none 0 0 ↔ a = none) ∧ Below w.heap.size w w' := by
 obtain ⟨i0, hi, hz0, hz1, hz2⟩ := info_parts kS
 have q24 : ∀ (w : World) (a : Option Addr) (n c n' c' : Nat), (binOp .eql 24 (.slice a n c) (.slice none n' c')).run Tryz.prog w = .ok (.bool a.isNone) w := fun w a n c n' c' => Lib.run_eql_slice_nil w _ _ a n c n' c' Tryz.underlying24
 cases a with
 | none =>
  have hx : xs = [] := by
   rcases h with h | ⟨b, o, e, _⟩
   ·exact h
   ·cases e
  subst hx
  go_enter Tryz.func88, Tryz.ntmps88
  go_wp2
  go_ret
  exact ⟨_, rfl, .inl ⟨rfl, rfl⟩, by simp, Below.refl _ _⟩
 | some ad =>
  by_cases hx : xs = []
  ·subst hx
   clear h
   go_enter Tryz.func88, Tryz.ntmps88
   go_wp2_with (at_builtin; (refine aT _ rfl (.tmp 9) (.tmp 10) 24 rfl w.heap.size 3 i0 (.int .i64 0) 1 8 Tryz.underlying24 hi hz0 hz1 hz2 rfl (by decide) _ 0 [] rfl (World.ownsRow_nil _ _ _ _) ⟨w.heap.size, 0, none⟩ 1 1 [.int .i64 (-77)] rfl rfl (eE _ #[.int .i64 (-77)] 3) (by simp [Value.oneCell']) (by decide) (by unfold maxLen; omega) (by omega) (by simp) ?_))
   intro v3 w3 r3 k3
   have hb3 : Below w.heap.size w w3 := bT (aD (Below.refl _ _) ((Below.refl _ _).alloc (Nat.le_refl _) _)) (fun j e => by simp [Value.ownBlock] at e) k3
   obtain ⟨a3, c3, rfl, h1, h2⟩ := bU r3
   obtain ⟨y3, rfl⟩ : ∃ y, a3 = some y := by
    cases a3 with
    | none => have := h1 rfl; omega
    | some y => exact ⟨y, rfl⟩
   obtain ⟨g3, rfl, hc3⟩ := h2 y3 rfl
   have HR3 := hide r3
   clear r3 k3 h1 h2
   have hc3' : (0 : Int) ≤ (c3 : Int) := by omega
   go_wp2
   go_ret
   exact ⟨_, rfl, .inr ⟨g3, c3, rfl, aA HR3⟩, by simp, hb3⟩
  ·obtain ⟨b, o, e, hbl, hcc⟩ := h.resolve_left hx
   cases e
   have hp0 : 0 < xs.length := List.length_pos_iff.2 hx
   have HNw := hide (aBl hcc)
   have HOne := hide (aDz xs)
   clear hcc h
   go_enter Tryz.func88, Tryz.ntmps88
   go_wp2_with (at_builtin; (refine aT _ rfl (.tmp 6) (.tmp 7) 24 rfl w.heap.size 3 i0 (.int .i64 0) 1 8 Tryz.underlying24 hi hz0 hz1 hz2 rfl (by decide) _ 0 [] rfl (World.ownsRow_nil _ _ _ _) ⟨b, o, none⟩ xs.length c (xs.map (Value.int .i64)) rfl (by simp) (aA HNw) (aA HOne) hp0 (by unfold maxLen; omega) (by omega) (Nat.le_refl _) ?_))
   intro v2 w2 r2 k2
   obtain ⟨a2, n2', c2, rfl⟩ := aP r2
   have hb2 : Below w.heap.size w w2 := bT (Below.refl _ _) (fun j e => by simp [Value.ownBlock] at e) k2
   have HR2 := hide r2
   have hz2' := hb2.size
   generalize hXS : xs.map (Value.int .i64) = XS at HR2
   have HXS := hide hXS
   clear hXS r2 k2 HNw HOne
   go_wp2_with (at_builtin; (refine aT _ rfl (.tmp 9) (.tmp 10) 24 rfl w.heap.size 3 i0 (.int .i64 0) 1 8 Tryz.underlying24 hi hz0 hz1 hz2 rfl (by decide) _ xs.length XS rfl (World.ownsRow.alloc (aA HR2) _) ⟨w2.heap.size, 0, none⟩ 1 1 [.int .i64 (-77)] rfl rfl (eE _ #[.int .i64 (-77)] 3) (by simp [Value.oneCell']) (by decide) (by unfold maxLen; omega) (by omega) (by simp; omega) ?_))
   intro v3 w3 r3 k3
   have hb3 : Below w.heap.size w w3 := bT (aD hb2 ((Below.refl _ _).alloc (Nat.le_refl _) _)) (fun j e => (World.ownsRow.lt (aA HR2) j e).1) k3
   obtain ⟨a3, c3, rfl, h1, h2⟩ := bU r3
   obtain ⟨y3, rfl⟩ : ∃ y, a3 = some y := by
    cases a3 with
    | none => have := h1 rfl; omega
    | some y => exact ⟨y, rfl⟩
   obtain ⟨g3, rfl, hc3⟩ := h2 y3 rfl
   have HR3 := hide r3
   clear r3 k3 h1 h2
   have hc3' : (xs.length : Int) ≤ (c3 : Int) := by omega
   go_wp2
   go_ret
   refine ⟨_, rfl, .inr ⟨g3, c3, rfl, ?_⟩, by simp, hb3⟩
   rw [aA HXS]
   exact aA HR3
theorem aG7 : (Tryz.prog.info? 95).map (·.size) = some 14 := by kernel_rfl
structure SP where
 pb : Nat
 tb : Nat
 vA : Value
 all : List Int
def SP.st (x : SP) : List Fr × List Int × Bool := aGp ([], [], false) x.all
structure SP.Ok (w : World) (B : Nat) (x : SP) : Prop where
 prog : w.heap[x.pb]? = some (.cells (spl x.st.2.1 x.st.2.2) 181 (0, 0))
 held : Held x.st.2.1
 ref : w.heap[x.tb]? = some (.cells #[x.vA, .int .i64 x.st.1.length, .bool x.st.2.2] 118 (0, 0))
 own : Owns w B x.vA x.all
 bys : Bys x.all
def SP.pv (x : SP) : Value := .pointer (some ⟨x.pb, 0, none⟩)
def SP.tv (x : SP) : Value := .pointer (some ⟨x.tb, 0, none⟩)
structure Inv (w : World) (B bw : Nat) (xs : List SP) (vs vt vb vf : Value) (rb rf : List Rec) : Prop where
 book : BookIn w B bw vs vt (.slice none 0 0) vb vf rb rf
 rowS : w.ownsRow B 114 1 vs xs.length (xs.map SP.pv)
 rowT : w.ownsRow B 116 1 vt xs.length (xs.map SP.tv)
 ok : ∀ x ∈ xs, x.Ok w B
 ndP : (xs.map (·.pb)).Nodup
 ndT : (xs.map (·.tb)).Nodup
 ndA : xs.Pairwise fun x y => ∀ k, x.vA.ownBlock = some k → y.vA.ownBlock ≠ some k
 sep : ∀ r, (r ∈ rb ∨ r ∈ rf) → ∀ k, r.has k → vs.ownBlock ≠ some k ∧ vt.ownBlock ≠ some k ∧ ∀ x ∈ xs, x.pb ≠ k ∧ x.tb ≠ k ∧ x.vA.ownBlock ≠ some k
structure OpV where
 A : Int
 B : Int
 C : Int
 D : Int
 s : ByteArray
 l : Value
 n0 : Value
 n1 : Value
 n2 : Value
 n3 : Value
 n4 : Value
 ru : Value
 li : Value
def OpV.cells (o : OpV) (kd : Int) : Array Value := #[.int .i64 kd, .int .i64 o.A, .int .i64 o.B, .int .i64 o.C, .int .i64 o.D, .string o.s, o.l, o.n0, o.n1, o.n2, o.n3, o.n4, o.ru, o.li]
end Go.Proofs.YtfekelmldebplaaGreatDoor
