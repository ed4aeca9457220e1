import Derived.Test.YtfekelmldebplaaGreatDoorSj
import Derived.Deep.RegionLaw
namespace Go.Proofs.YtfekelmldebplaaGreatDoor
open Go.RowKit

/-- Only blocks of D, and new ones, have turned. -/
structure Chg (w w' : World) (D : Nat → Prop) : Prop where
  os : w'.os = w.os
  tape : w'.tape = w.tape
  output : w'.output = w.output
  size : w.heap.size ≤ w'.heap.size
  block : ∀ k, k < w.heap.size → ¬ D k → w'.heap[k]? = w.heap[k]?
theorem Chg.refl (w : World) (D : Nat → Prop) : Chg w w D := ⟨rfl, rfl, rfl, Nat.le_refl _, fun _ _ _ => rfl⟩
theorem Chg.of_grown {w w' : World} {r : Option Nat} (h : w.grownBy w' r) : Chg w w' (fun k => r = some k) := ⟨h.os, h.tape, h.output, h.size, fun k p n => h.block k p fun e => n e.symm⟩
theorem Chg.of_below {w w' : World} (h : Below w.heap.size w w') (D : Nat → Prop) : Chg w w' D := ⟨h.os, h.tape, h.output, h.size, fun k p _ => h.block k p⟩
theorem Chg.trans {a b c : World} {D E : Nat → Prop} (h : Chg a b D) (k : Chg b c E) (hE : ∀ i, E i → i < a.heap.size → D i) : Chg a c D :=
  ⟨k.os.trans h.os, k.tape.trans h.tape, k.output.trans h.output, Nat.le_trans h.size k.size, fun i p n => (k.block i (Nat.lt_of_lt_of_le p h.size) fun e => n (hE i e p)).trans (h.block i p n)⟩
theorem Chg.mono {a b : World} {D E : Nat → Prop} (h : Chg a b D) (hE : ∀ i, i < a.heap.size → D i → E i) : Chg a b E := ⟨h.os, h.tape, h.output, h.size, fun i p n => h.block i p fun e => n (hE i p e)⟩
theorem Chg.set (w : World) (g i : Nat) (v : Value) : Chg w (w.setCell ⟨g, i, none⟩ v) (fun k => k = g) :=
  ⟨rfl, rfl, rfl, by simp [World.setCell], fun k _ n => heap_setCell_other _ _ _ _ (fun e => n e)⟩

def Rec.has (r : Rec) (k : Nat) : Prop := r.v0.ownBlock = some k ∨ r.v1.ownBlock = some k ∨ r.v2.ownBlock = some k ∨ r.v3.ownBlock = some k

/-- The cells of a World. -/
def wrow (c0 c1 c2 vb vf : Value) : Array Value := #[c0, c1, c2, vb, .slice none 0 0, vf, .slice none 0 0]

/-- The book, and what keeps its records whole. -/
structure BookIn (w : World) (B bw : Nat) (c0 c1 c2 vb vf : Value) (rb rf : List Rec) : Prop where
  row : w.heap[bw]? = some (.cells (wrow c0 c1 c2 vb vf) 91 (0, 0))
  rowB : w.ownsRow B 125 5 vb rb.length (rb.flatMap Rec.cells)
  rowF : w.ownsRow B 130 5 vf rf.length (rf.flatMap Rec.cells)
  okB : ∀ r ∈ rb, r.OkB w
  okF : ∀ r ∈ rf, r.OkF w
  sep : ∀ r, (r ∈ rb ∨ r ∈ rf) → ∀ k, r.has k → B ≤ k ∧ k < w.heap.size ∧ k ≠ bw ∧ vb.ownBlock ≠ some k ∧ vf.ownBlock ≠ some k

theorem BookIn.at {w : World} {B bw : Nat} {c0 c1 c2 vb vf : Value} {rb rf : List Rec} (h : BookIn w B bw c0 c1 c2 vb vf rb rf) : BookAt w B bw vb vf rb rf :=
  ⟨cell_of_row _ _ 3 _ _ _ h.row, cell_of_row _ _ 4 _ _ _ h.row, cell_of_row _ _ 5 _ _ _ h.row, cell_of_row _ _ 6 _ _ _ h.row, h.rowB, h.rowF, h.okB, h.okF⟩

/-- What does not touch the book. -/
theorem BookIn.chg {w w' : World} {B bw : Nat} {c0 c1 c2 vb vf : Value} {rb rf : List Rec} {D : Nat → Prop} (h : BookIn w B bw c0 c1 c2 vb vf rb rf) (k : Chg w w' D) (hb : ¬ D bw) (hvb : ∀ i, vb.ownBlock = some i → ¬ D i) (hvf : ∀ i, vf.ownBlock = some i → ¬ D i)
    (hr : ∀ r, (r ∈ rb ∨ r ∈ rf) → ∀ i, r.has i → ¬ D i) : BookIn w' B bw c0 c1 c2 vb vf rb rf := by
  refine ⟨(k.block bw (Array.getElem?_eq_some_iff.1 h.row).1 hb).trans h.row, ownsRow_keep h.rowB fun i _ p q => k.block i p (hvb i q), ownsRow_keep h.rowF fun i _ p q => k.block i p (hvf i q), fun r m => ?_, fun r m => ?_, fun r m i q => ?_⟩
  · refine (h.okB r m).kept k.size fun v hv i p q => k.block i p (hr r (.inl m) i ?_)
    rcases hv with rfl | rfl | rfl | rfl <;> simp [Rec.has, q]
  · refine (h.okF r m).kept k.size fun v hv i p q => k.block i p (hr r (.inr m) i ?_)
    rcases hv with rfl | rfl | rfl | rfl <;> simp [Rec.has, q]
  · have := h.sep r m i q
    have z := k.size
    exact ⟨this.1, by omega, this.2.2⟩

theorem info90s : (Tryz.prog.info? 125).map (fun i => (i.zero, i.size, i.bytes)) = some (some (.agg #[.slice none 0 0, .slice none 0 0, .slice none 0 0, .slice none 0 0, .int .i64 0]), 5, 104) := by kernel_rfl
theorem info94s : (Tryz.prog.info? 130).map (fun i => (i.zero, i.size, i.bytes)) = some (some (.agg #[.slice none 0 0, .slice none 0 0, .slice none 0 0, .slice none 0 0, .int .i64 0]), 5, 104) := by kernel_rfl

theorem own_cells {w : World} {B size g : Nat} {e : TypeId} {v : Value} {n : Nat} {xs : List Value} (h : w.ownsRow B e size v n xs) (hv : v.ownBlock = some g) : ∃ cs fr, w.heap[g]? = some (.cells cs e fr) := by
  rcases h.2 with ⟨rfl, _⟩ | ⟨g2, cap, cur, rfl, _, hh, _⟩
  · simp [Value.ownBlock] at hv
  · have : g2 = g := by simpa [Value.ownBlock] using hv
    subst this
    exact ⟨_, _, hh⟩

/-- What Book.byte leaves. -/
structure Byted (w : World) (B bw : Nat) (c0 c1 c2 vb vf : Value) (rb rf : List Rec) (v : Value) (w' : World) : Prop where
  out : ∃ vb' r, BookIn w' B bw c0 c1 c2 vb' vf (rb ++ [r]) rf ∧ (vb'.ownBlock = vb.ownBlock ∨ ∃ k, w.heap.size ≤ k ∧ vb'.ownBlock = some k) ∧ ∀ k, r.has k → v.ownBlock = some k ∨ w.heap.size ≤ k
  chg : Chg w w' (fun k => k = bw ∨ vb.ownBlock = some k ∨ v.ownBlock = some k)

theorem byte_end {w w1 M w9 : World} {B bw : Nat} {c0 c1 c2 vb vf v v1 v2 v3 vb' : Value} {rb rf : List Rec} {xs : List Int} (h : BookIn w B bw c0 c1 c2 vb vf rb rf) (hv : Owns w B v xs) (hfree : ∀ r, (r ∈ rb ∨ r ∈ rf) → ∀ k, r.has k → v.ownBlock ≠ some k)
    (ho : OwnB w B v v1 v2 v3 rb.length w1) (hm : rb.length ≤ 1000000000000) (hM : Below w1.heap.size w1 M) (hg : M.grownBy w9 vb.ownBlock) (hr : w9.ownsRow B 125 5 vb' (rb.length + 1) (rb.flatMap Rec.cells ++ [v, v1, v2, v3, .int .i64 rb.length])) (hat : vb.ownBlock = vb'.ownBlock ∨ ∃ k, w1.heap.size ≤ k ∧ vb'.ownBlock = some k) :
    Byted w B bw c0 c1 c2 vb vf rb rf v (w9.setCell ⟨bw, 3, none⟩ vb') := by
  have hbw : bw < w.heap.size := (Array.getElem?_eq_some_iff.1 h.row).1
  have tb : ∀ k, vb.ownBlock = some k → k < w.heap.size := fun k e => (World.ownsRow.lt h.rowB k e).2
  have tv : ∀ k, v.ownBlock = some k → k < w.heap.size := fun k e => (World.ownsRow.lt hv k e).2
  -- the blocks told apart by what lies in them
  have nbv : ∀ k, vb.ownBlock = some k → v.ownBlock ≠ some k := fun k e e' => by
    obtain ⟨cs, fr, hh⟩ : ∃ cs fr, w.heap[k]? = some (.cells cs 125 fr) := own_cells h.rowB e
    exact absurd (own_elem hv hh e') (by decide)
  have nfv : ∀ k, vf.ownBlock = some k → v.ownBlock ≠ some k := fun k e e' => by
    obtain ⟨cs, fr, hh⟩ : ∃ cs fr, w.heap[k]? = some (.cells cs 130 fr) := own_cells h.rowF e
    exact absurd (own_elem hv hh e') (by decide)
  have nwv : v.ownBlock ≠ some bw := fun e => absurd (own_elem hv h.row e) (by decide)
  have nwb : vb.ownBlock ≠ some bw := fun e => absurd (own_elem h.rowB h.row e) (by decide)
  have nwf : vf.ownBlock ≠ some bw := fun e => absurd (own_elem h.rowF h.row e) (by decide)
  have nbf : ∀ k, vb.ownBlock = some k → vf.ownBlock ≠ some k := fun k e e' => by
    obtain ⟨cs, fr, hh⟩ : ∃ cs fr, w.heap[k]? = some (.cells cs 125 fr) := own_cells h.rowB e
    exact absurd (own_elem h.rowF hh e') (by decide)
  have tf : ∀ k, vf.ownBlock = some k → k < w.heap.size := fun k e => (World.ownsRow.lt h.rowF k e).2
  have z1 := ho.grown.size
  have z2 := hM.size
  have z3 := hg.size
  have z4 : (w9.setCell ⟨bw, 3, none⟩ vb').heap.size = w9.heap.size := by simp [World.setCell]
  have C : Chg w (w9.setCell ⟨bw, 3, none⟩ vb') (fun k => k = bw ∨ vb.ownBlock = some k ∨ v.ownBlock = some k) :=
    ((((Chg.of_grown ho.grown).mono (E := fun k => k = bw ∨ vb.ownBlock = some k ∨ v.ownBlock = some k) fun i _ e => .inr (.inr e)).trans (Chg.of_below hM (fun _ => False)) (fun _ e _ => e.elim)).trans (Chg.of_grown hg) (fun _ e _ => .inr (.inl e))).trans (Chg.set w9 bw 3 vb') (fun _ e _ => .inl e)
  have hnew : ∀ k, (Rec.mk v v1 v2 v3 rb.length).has k → v.ownBlock = some k ∨ w.heap.size ≤ k := by
    rintro k (e | e | e | e)
    · exact .inl e
    · rcases ho.b1 with q | ⟨j, hj, q⟩
      · exact .inl (q.symm.trans e)
      · have : j = k := by have := q.symm.trans e; simpa using this
        exact .inr (by omega)
    · rcases ho.b2 with q | ⟨j, hj, q⟩
      · exact .inl (q.symm.trans e)
      · have : j = k := by have := q.symm.trans e; simpa using this
        exact .inr (by omega)
    · rcases ho.b3 with q | ⟨j, hj, q⟩
      · exact .inl (q.symm.trans e)
      · have : j = k := by have := q.symm.trans e; simpa using this
        exact .inr (by omega)
  have nb : ∀ k, (Rec.mk v v1 v2 v3 rb.length).has k → k ≠ bw ∧ vb.ownBlock ≠ some k ∧ vf.ownBlock ≠ some k := fun k e => by
    rcases hnew k e with q | q
    · exact ⟨fun e' => nwv (by rw [q, e']), fun e' => nbv k e' q, fun e' => nfv k e' q⟩
    · exact ⟨by omega, fun e' => by have := tb k e'; omega, fun e' => by have := tf k e'; omega⟩
  have old : ∀ r, (r ∈ rb ∨ r ∈ rf) → ∀ k, r.has k → ¬ (k = bw ∨ vb.ownBlock = some k ∨ v.ownBlock = some k) := fun r m k e => by
    have q := h.sep r m k e
    rintro (e' | e' | e')
    · exact q.2.2.1 e'
    · exact q.2.2.2.1 e'
    · exact hfree r m k e e'
  have same1 : ∀ k, k < w1.heap.size → k ≠ bw → vb.ownBlock ≠ some k → (w9.setCell ⟨bw, 3, none⟩ vb').heap[k]? = w1.heap[k]? := fun k p n1 n2 => by
    rw [heap_setCell_other _ _ _ _ (fun e => n1 e), hg.block k (by omega) (fun e => n2 e.symm), hM.block k p]
  have row9 : w9.heap[bw]? = some (.cells (wrow c0 c1 c2 vb vf) 91 (0, 0)) := by
    rw [hg.block bw (by omega) (fun e => nwb e.symm), hM.block bw (by omega), ho.grown.block bw hbw (fun e => nwv e.symm)]
    exact h.row
  have nwb' : vb'.ownBlock ≠ some bw := fun e => absurd (own_elem hr row9 e) (by decide)
  have oknew : (Rec.mk v v1 v2 v3 rb.length).OkB (w9.setCell ⟨bw, 3, none⟩ vb') := by
    have h0 : (Rec.mk v v1 v2 v3 rb.length).OkB w1 := ⟨ho.h0, ho.h1, ho.h2, ho.h3, hm⟩
    refine h0.kept (by omega) fun u hu k p q => ?_
    have hk : (Rec.mk v v1 v2 v3 rb.length).has k := by rcases hu with rfl | rfl | rfl | rfl <;> simp [Rec.has, q]
    exact same1 k p (nb k hk).1 (nb k hk).2.1
  refine ⟨⟨vb', ⟨v, v1, v2, v3, rb.length⟩, ⟨?_, ?_, ?_, ?_, ?_, ?_⟩, ?_, hnew⟩, C⟩
  · have := heap_setCell_same w9 bw 3 _ 91 vb' row9
    simpa [wrow] using this
  · have q : w9.ownsRow B 125 5 vb' (rb ++ [Rec.mk v v1 v2 v3 rb.length]).length ((rb ++ [Rec.mk v v1 v2 v3 rb.length]).flatMap Rec.cells) := by
      simpa [Rec.cells] using hr
    exact ownsRow_keep q fun i _ p e => heap_setCell_other _ _ _ _ (fun e' => nwb' (by rw [e, e']))
  · exact ownsRow_keep h.rowF fun i _ p e => C.block i p (by
      rintro (e' | e' | e')
      · exact nwf (by rw [e, e'])
      · exact nbf i e' e
      · exact nfv i e e')
  · intro r m
    rcases List.mem_append.1 m with m | m
    · refine (h.okB r m).kept C.size fun u hu i p q => C.block i p (old r (.inl m) i ?_)
      rcases hu with rfl | rfl | rfl | rfl <;> simp [Rec.has, q]
    · rw [List.mem_singleton.1 m]
      exact oknew
  · intro r m
    refine (h.okF r m).kept C.size fun u hu i p q => C.block i p (old r (.inr m) i ?_)
    rcases hu with rfl | rfl | rfl | rfl <;> simp [Rec.has, q]
  · intro r m k e
    have oldr : (r ∈ rb ∨ r ∈ rf) → B ≤ k ∧ k < (w9.setCell ⟨bw, 3, none⟩ vb').heap.size ∧ k ≠ bw ∧ vb'.ownBlock ≠ some k ∧ vf.ownBlock ≠ some k := fun m => by
      have q := h.sep r m k e
      refine ⟨q.1, by omega, q.2.2.1, fun e' => ?_, q.2.2.2.2⟩
      rcases hat with a | ⟨j, hj, a⟩
      · exact q.2.2.2.1 (a.trans e')
      · have : j = k := by have := a.symm.trans e'; simpa using this
        omega
    rcases m with m | m
    · rcases List.mem_append.1 m with m | m
      · exact oldr (.inl m)
      · rw [List.mem_singleton.1 m] at e
        have q := ho.lt k e
        have n := nb k e
        refine ⟨q.1, by omega, n.1, fun e' => ?_, n.2.2⟩
        rcases hat with a | ⟨j, hj, a⟩
        · exact n.2.1 (a.trans e')
        · have : j = k := by have := a.symm.trans e'; simpa using this
          omega
    · exact oldr (.inr m)
  · rcases hat with a | ⟨j, hj, a⟩
    · exact .inl a.symm
    · exact .inr ⟨j, by omega, a⟩

theorem store_row {w1 M w9 : World} {o o' : Obj} {bw : Nat} {r : Option Nat} {x : Obj} (h : w1.heap[bw]? = some x) (e : M.heap = ((w1.alloc o).alloc o').heap) (g : M.grownBy w9 r) (n : some bw ≠ r) : w9.heap[bw]? = some x := by
  have hl := (Array.getElem?_eq_some_iff.1 h).1
  rw [g.block bw (by rw [e]; simp; omega) n, e, Below.heap_alloc _ _ _ (by simp; omega), Below.heap_alloc _ _ _ hl]
  exact h
theorem heap_new_of' {w w' : World} {o o' : Obj} (hh : w'.heap = ((w.alloc o').alloc o).heap) : w'.heap[w.heap.size + 1]? = some o := by
  rw [hh]
  have := heap_alloc_new (w.alloc o') o
  rwa [show (w.alloc o').heap.size = w.heap.size + 1 by simp] at this
set_option maxRecDepth 100000 in
set_option maxHeartbeats 4000000 in
theorem byte_any (B bw : Nat) (c0 c1 c2 vb vf v : Value) (rb rf : List Rec) (xs : List Int) (w : World) (h : BookIn w B bw c0 c1 c2 vb vf rb rf) (hv : Owns w B v xs) (hfree : ∀ r, (r ∈ rb ∨ r ∈ rf) → ∀ k, r.has k → v.ownBlock ≠ some k)
    (hn : xs.length ≤ 1000000000) (hb : rb.length ≤ 1000000000) (hB : B ≤ w.heap.size) :
    Calls Tryz.prog 54 #[.pointer (some ⟨bw, 3, none⟩), v] w fun e w' => e = .returned (.tuple #[]) ∧ Byted w B bw c0 c1 c2 vb vf rb rf v w' := by
  obtain ⟨i0, hi, hz0, hz1, hz2⟩ := info_parts info90s
  obtain ⟨ob, cb, rfl, hob1, hob2⟩ := ownsRow_opt h.rowB
  obtain ⟨av, nv, cv, rfl⟩ := own_shape hv
  have H := hide h
  have HV := hide hv
  have HF := hide hfree
  have q3 := h.at.c3
  clear h hv hfree
  go_enter Tryz.func54, Tryz.ntmps54
  go_wp2_with fail
  refine (ownBytes_any B _ xs rb.length w (unhide HV) hn (by omega) hB).mono ?_
  rintro e w1 ⟨v1, v2, v3, rfl, hob⟩
  obtain ⟨a1, n1, k1, rfl, _, _⟩ := id hob.h1
  obtain ⟨a2, n2, k2, rfl, _, _⟩ := id hob.h2
  obtain ⟨a3, n3, k3, rfl, _, _⟩ := id hob.h3
  have hr1 : w1.heap[bw]? = some (.cells (wrow c0 c1 c2 (.slice ob rb.length cb) vf) 91 (0, 0)) :=
    (hob.grown.block bw (Array.getElem?_eq_some_iff.1 (unhide H).row).1 (fun e => absurd (own_elem (unhide HV) (unhide H).row e.symm) (by decide))).trans (unhide H).row
  have q4 := cell_of_row _ _ 3 _ _ _ hr1
  have f4 := frozen_of_row _ _ 3 _ _ hr1
  simp [wrow] at q4
  have hbw : bw < w1.heap.size := (Array.getElem?_eq_some_iff.1 hr1).1
  have HOB := hide hob
  have HS9 : Hid (∀ (M w9 : World), M.grownBy w9 (Value.slice ob rb.length cb).ownBlock → M.heap = ((w1.alloc (.cells #[.slice av nv cv, .slice a1 n1 k1, .slice a2 n2 k2, .slice a3 n3 k3, .int .i64 rb.length] 125)).alloc (.cells #[.slice av nv cv, .slice a1 n1 k1, .slice a2 n2 k2, .slice a3 n3 k3, .int .i64 rb.length] 125)).heap → w9.cell? ⟨bw, 3, none⟩ = some (.slice ob rb.length cb) ∧ w9.frozen? ⟨bw, 3, none⟩ = false) := fun M w9 g e => by
    have r9 := store_row hr1 e g (fun e => absurd (own_elem (unhide H).rowB (unhide H).row e.symm) (by decide))
    exact ⟨cell_of_row _ _ 3 _ _ _ r9, frozen_of_row _ _ 3 _ _ r9⟩
  clear q3 hr1 hob
  go_wp2_with fail
  have HOne : Hid (∀ u ∈ ([.slice av nv cv, .slice a1 n1 k1, .slice a2 n2 k2, .slice a3 n3 k3, .int .i64 rb.length] : List Value), u.oneCell' = true) := by
    intro u hu
    simp at hu
    rcases hu with rfl | rfl | rfl | rfl | rfl <;> rfl
  have HRow : Hid (w1.ownsRow B 125 5 (.slice ob rb.length cb) rb.length (rb.flatMap Rec.cells)) := ownsRow_keep (unhide H).rowB fun i _ p q => (unhide HOB).grown.block i p fun e => by
    obtain ⟨cs, fr, hh⟩ := own_cells (unhide H).rowB q
    exact absurd (own_elem (unhide HV) hh e.symm) (by decide)
  have hB1 : B ≤ w1.heap.size := Nat.le_trans hB (unhide HOB).grown.size
  generalize eRC : rb.flatMap Rec.cells = RC at HRow
  have ERC := hide eRC
  clear eRC
  have hbwne : bw ≠ w1.heap.size := by omega
  go_region_law (first
    | (refine step_append_lies _ ?hg (.tmp 16) (.tmp 18) 84 ?ho B 125 i0 (.agg #[.slice none 0 0, .slice none 0 0, .slice none 0 0, .slice none 0 0, .int .i64 0]) 5 104 Tryz.underlying84 hi hz0 hz1 hz2 rfl (by decide) (.slice ob rb.length cb) rb.length RC ?hs ?hw
        ⟨w1.heap.size + 1, 0, none⟩ 1 1 [.slice av nv cv, .slice a1 n1 k1, .slice a2 n2 k2, .slice a3 n3 k3, .int .i64 rb.length] ?hx rfl ?hc (unhide HOne) (by decide) ?h6 ?hb ?hz (w1.heap.size + 2) ?hH ?_
       case ho => exact rfl
       case hg => exact rfl
       case hs => exact rfl
       case hx => exact rfl
       case hw => exact own_heap (World.ownsRow.alloc (World.ownsRow.alloc (unhide HRow) (.cells #[.slice av nv cv, .slice a1 n1 k1, .slice a2 n2 k2, .slice a3 n3 k3, .int .i64 rb.length] 125)) (.cells #[.slice av nv cv, .slice a1 n1 k1, .slice a2 n2 k2, .slice a3 n3 k3, .int .i64 rb.length] 125)) rfl
       case hc => exact news_heap (cs := #[.slice av nv cv, .slice a1 n1 k1, .slice a2 n2 k2, .slice a3 n3 k3, .int .i64 rb.length]) (t := 125) (heap_new_of' (w := w1) (o := .cells #[.slice av nv cv, .slice a1 n1 k1, .slice a2 n2 k2, .slice a3 n3 k3, .int .i64 rb.length] 125) rfl)
       case h6 => unfold maxLen; omega
       case hb => omega
       case hz => simp; omega
       case hH => simp
       intro g9 cap9 w9 o9 gr9 h9 l9
       obtain ⟨s91, s92⟩ := unhide HS9 _ w9 gr9 rfl)
    | fail)
  all_goals
    refine bodyPost_end (v := .tuple #[]) (by simp [results, Tryz.results54]) rfl ⟨rfl, ?_⟩
    refine byte_end (w1 := w1) (unhide H) (unhide HV) (unhide HF) (unhide HOB) (by omega) ?_ gr9 (by rw [unhide ERC]; exact o9) ?_
    · repeat (first | exact Below.refl _ _ | refine Below.drew ?_ | refine Below.alloc ?_ (by first | (simp; done) | (simp; omega)) _)
    · rcases h9 with h9 | h9
      · exact .inl h9
      · exact .inr ⟨g9, by omega, rfl⟩
end Go.Proofs.YtfekelmldebplaaGreatDoor
