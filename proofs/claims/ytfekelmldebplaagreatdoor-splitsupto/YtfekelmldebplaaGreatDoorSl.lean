import Derived.Test.YtfekelmldebplaaGreatDoorSk
namespace Go.Proofs.YtfekelmldebplaaGreatDoor
open Go.RowKit

/-- What the end of Book.frame leaves. -/
structure FrB (w : World) (B bw : Nat) (c0 c1 c2 vb vf : Value) (rb rf : List Rec) (v : Value) (w' : World) : Prop where
  out : ∃ vf' r, BookIn w' B bw c0 c1 c2 vb vf' rb (rf ++ [r]) ∧ (vf'.ownBlock = vf.ownBlock ∨ ∃ k, w.heap.size ≤ k ∧ vf'.ownBlock = some k) ∧ ∀ k, r.has k → v.ownBlock = some k ∨ w.heap.size ≤ k
  chg : Chg w w' (fun k => k = bw ∨ vf.ownBlock = some k ∨ v.ownBlock = some k)

theorem frame_end {w w1 M w9 : World} {B bw : Nat} {c0 c1 c2 vf vb v v1 v2 v3 vf' : Value} {rf rb : List Rec} {n : Nat} {ys : List Value} (h : BookIn w B bw c0 c1 c2 vb vf rb rf) (hv : w.ownsRow B 185 3 v n ys) (hfree : ∀ r, (r ∈ rb ∨ r ∈ rf) → ∀ k, r.has k → v.ownBlock ≠ some k)
    (ho : OwnF w B v v1 v2 v3 rf.length w1) (hm : rf.length ≤ 1000000000000) (hM : Below w1.heap.size w1 M) (hg : M.grownBy w9 vf.ownBlock) (hr : w9.ownsRow B 130 5 vf' (rf.length + 1) (rf.flatMap Rec.cells ++ [v, v1, v2, v3, .int .i64 rf.length])) (hat : vf.ownBlock = vf'.ownBlock ∨ ∃ k, w1.heap.size ≤ k ∧ vf'.ownBlock = some k) :
    FrB w B bw c0 c1 c2 vb vf rb rf v (w9.setCell ⟨bw, 5, none⟩ vf') := by
  have hbw : bw < w.heap.size := (Array.getElem?_eq_some_iff.1 h.row).1
  have tf : ∀ k, vf.ownBlock = some k → k < w.heap.size := fun k e => (World.ownsRow.lt h.rowF k e).2
  have tv : ∀ k, v.ownBlock = some k → k < w.heap.size := fun k e => (World.ownsRow.lt hv k e).2
  -- the blocks told apart by what lies in them
  have nfv : ∀ k, vf.ownBlock = some k → v.ownBlock ≠ some k := fun k e e' => by
    obtain ⟨cs, fr, hh⟩ : ∃ cs fr, w.heap[k]? = some (.cells cs 130 fr) := own_cells h.rowF e
    exact absurd (own_elem hv hh e') (by decide)
  have nbv : ∀ k, vb.ownBlock = some k → v.ownBlock ≠ some k := fun k e e' => by
    obtain ⟨cs, fr, hh⟩ : ∃ cs fr, w.heap[k]? = some (.cells cs 125 fr) := own_cells h.rowB e
    exact absurd (own_elem hv hh e') (by decide)
  have nwv : v.ownBlock ≠ some bw := fun e => absurd (own_elem hv h.row e) (by decide)
  have nwf : vf.ownBlock ≠ some bw := fun e => absurd (own_elem h.rowF h.row e) (by decide)
  have nwb : vb.ownBlock ≠ some bw := fun e => absurd (own_elem h.rowB h.row e) (by decide)
  have nfb : ∀ k, vf.ownBlock = some k → vb.ownBlock ≠ some k := fun k e e' => by
    obtain ⟨cs, fr, hh⟩ : ∃ cs fr, w.heap[k]? = some (.cells cs 130 fr) := own_cells h.rowF e
    exact absurd (own_elem h.rowB hh e') (by decide)
  have tb : ∀ k, vb.ownBlock = some k → k < w.heap.size := fun k e => (World.ownsRow.lt h.rowB k e).2
  have z1 := ho.grown.size
  have z2 := hM.size
  have z3 := hg.size
  have z4 : (w9.setCell ⟨bw, 5, none⟩ vf').heap.size = w9.heap.size := by simp [World.setCell]
  have C : Chg w (w9.setCell ⟨bw, 5, none⟩ vf') (fun k => k = bw ∨ vf.ownBlock = some k ∨ v.ownBlock = some k) :=
    ((((Chg.of_grown ho.grown).mono (E := fun k => k = bw ∨ vf.ownBlock = some k ∨ v.ownBlock = some k) fun i _ e => .inr (.inr e)).trans (Chg.of_below hM (fun _ => False)) (fun _ e _ => e.elim)).trans (Chg.of_grown hg) (fun _ e _ => .inr (.inl e))).trans (Chg.set w9 bw 5 vf') (fun _ e _ => .inl e)
  have hnew : ∀ k, (Rec.mk v v1 v2 v3 rf.length).has k → v.ownBlock = some k ∨ w.heap.size ≤ k := by
    rintro k (e | e | e | e)
    · exact .inl e
    · rcases ho.b1 with q | ⟨j, hj, q⟩
      · exact .inl (q.symm.trans e)
      · have : j = k := by have := q.symm.trans e; simpa using this
        exact .inr (by omega)
    · rcases ho.b2 with q | ⟨j, hj, q⟩
      · exact .inl (q.symm.trans e)
      · have : j = k := by have := q.symm.trans e; simpa using this
        exact .inr (by omega)
    · rcases ho.b3 with q | ⟨j, hj, q⟩
      · exact .inl (q.symm.trans e)
      · have : j = k := by have := q.symm.trans e; simpa using this
        exact .inr (by omega)
  have nb : ∀ k, (Rec.mk v v1 v2 v3 rf.length).has k → k ≠ bw ∧ vf.ownBlock ≠ some k ∧ vb.ownBlock ≠ some k := fun k e => by
    rcases hnew k e with q | q
    · exact ⟨fun e' => nwv (by rw [q, e']), fun e' => nfv k e' q, fun e' => nbv k e' q⟩
    · exact ⟨by omega, fun e' => by have := tf k e'; omega, fun e' => by have := tb k e'; omega⟩
  have old : ∀ r, (r ∈ rb ∨ r ∈ rf) → ∀ k, r.has k → ¬ (k = bw ∨ vf.ownBlock = some k ∨ v.ownBlock = some k) := fun r m k e => by
    have q := h.sep r m k e
    rintro (e' | e' | e')
    · exact q.2.2.1 e'
    · exact q.2.2.2.2 e'
    · exact hfree r m k e e'
  have same1 : ∀ k, k < w1.heap.size → k ≠ bw → vf.ownBlock ≠ some k → (w9.setCell ⟨bw, 5, none⟩ vf').heap[k]? = w1.heap[k]? := fun k p n1 n2 => by
    rw [heap_setCell_other _ _ _ _ (fun e => n1 e), hg.block k (by omega) (fun e => n2 e.symm), hM.block k p]
  have row9 : w9.heap[bw]? = some (.cells (wrow c0 c1 c2 vb vf) 91 (0, 0)) := by
    rw [hg.block bw (by omega) (fun e => nwf e.symm), hM.block bw (by omega), ho.grown.block bw hbw (fun e => nwv e.symm)]
    exact h.row
  have nwf' : vf'.ownBlock ≠ some bw := fun e => absurd (own_elem hr row9 e) (by decide)
  have oknew : (Rec.mk v v1 v2 v3 rf.length).OkF (w9.setCell ⟨bw, 5, none⟩ vf') := by
    have h0 : (Rec.mk v v1 v2 v3 rf.length).OkF w1 := ⟨ho.h0, ho.h1, ho.h2, ho.h3, hm⟩
    refine h0.kept (by omega) fun u hu k p q => ?_
    have hk : (Rec.mk v v1 v2 v3 rf.length).has k := by rcases hu with rfl | rfl | rfl | rfl <;> simp [Rec.has, q]
    exact same1 k p (nb k hk).1 (nb k hk).2.1
  refine ⟨⟨vf', ⟨v, v1, v2, v3, rf.length⟩, ⟨?row, ?rB, ?rF, ?oB, ?oF, ?sp⟩, ?bl, hnew⟩, C⟩
  case row =>
    have := heap_setCell_same w9 bw 5 _ 91 vf' row9
    simpa [wrow] using this
  case rF =>
    have q : w9.ownsRow B 130 5 vf' (rf ++ [Rec.mk v v1 v2 v3 rf.length]).length ((rf ++ [Rec.mk v v1 v2 v3 rf.length]).flatMap Rec.cells) := by
      simpa [Rec.cells] using hr
    exact ownsRow_keep q fun i _ p e => heap_setCell_other _ _ _ _ (fun e' => nwf' (by rw [e, e']))
  case rB =>
    exact ownsRow_keep h.rowB fun i _ p e => C.block i p (by
      rintro (e' | e' | e')
      · exact nwb (by rw [e, e'])
      · exact nfb i e' e
      · exact nbv i e e')
  case oF =>
    intro r m
    rcases List.mem_append.1 m with m | m
    · refine (h.okF r m).kept C.size fun u hu i p q => C.block i p (old r (.inr m) i ?_)
      rcases hu with rfl | rfl | rfl | rfl <;> simp [Rec.has, q]
    · rw [List.mem_singleton.1 m]
      exact oknew
  case oB =>
    intro r m
    refine (h.okB r m).kept C.size fun u hu i p q => C.block i p (old r (.inl m) i ?_)
    rcases hu with rfl | rfl | rfl | rfl <;> simp [Rec.has, q]
  case sp =>
    intro r m k e
    have oldr : (r ∈ rb ∨ r ∈ rf) → B ≤ k ∧ k < (w9.setCell ⟨bw, 5, none⟩ vf').heap.size ∧ k ≠ bw ∧ vb.ownBlock ≠ some k ∧ vf'.ownBlock ≠ some k := fun m => by
      have q := h.sep r m k e
      refine ⟨q.1, by omega, q.2.2.1, q.2.2.2.1, fun e' => ?_⟩
      rcases hat with a | ⟨j, hj, a⟩
      · exact q.2.2.2.2 (a.trans e')
      · have : j = k := by have := a.symm.trans e'; simpa using this
        omega
    rcases m with m | m
    · exact oldr (.inl m)
    · rcases List.mem_append.1 m with m | m
      · exact oldr (.inr m)
      · rw [List.mem_singleton.1 m] at e
        have q := ho.lt k e
        have n := nb k e
        refine ⟨q.1, by omega, n.1, n.2.2, fun e' => ?_⟩
        rcases hat with a | ⟨j, hj, a⟩
        · exact n.2.1 (a.trans e')
        · have : j = k := by have := a.symm.trans e'; simpa using this
          omega
  case bl =>
    rcases hat with a | ⟨j, hj, a⟩
    · exact .inl a.symm
    · exact .inr ⟨j, by omega, a⟩


/-- The loop of Book.frame, behind k data. -/
structure FLoop (w : World) (B bw : Nat) (c0 c1 c2 vb vf : Value) (rb rf : List Rec) (v : Value) (ds : List FD) (k : Nat) (vb' : Value) (rb' : List Rec) (wr : World) : Prop where
  book : BookIn wr B bw c0 c1 c2 vb' vf rb' rf
  len : rb'.length = rb.length + k
  blk : vb'.ownBlock = vb.ownBlock ∨ ∃ i, w.heap.size ≤ i ∧ vb'.ownBlock = some i
  free : ∀ r, (r ∈ rb' ∨ r ∈ rf) → ∀ i, r.has i → v.ownBlock ≠ some i ∧ ∀ d ∈ ds.drop k, d.g ≠ i
  recs : ∀ r ∈ rb', r ∈ rb ∨ ∀ i, r.has i → (∃ d ∈ ds, d.g = i) ∨ w.heap.size ≤ i
  row : wr.ownsRow B 185 3 v ds.length (ds.flatMap FD.cells)
  own : ∀ d ∈ ds.drop k, Owns wr B d.val d.fr.data
  chg : Chg w wr (fun i => i = bw ∨ vb.ownBlock = some i ∨ ∃ d ∈ ds, d.g = i)

theorem FLoop.step {w : World} {B bw : Nat} {c0 c1 c2 vb vf : Value} {rb rf : List Rec} {v : Value} {ds : List FD} {k : Nat} {vb' : Value} {rb' : List Rec} {wr w' : World} {d : FD} (h : FLoop w B bw c0 c1 c2 vb vf rb rf v ds k vb' rb' wr) (hd : ds[k]? = some d) (hnd : (ds.map (·.g)).Nodup) (hap : ∀ d ∈ ds, v.ownBlock ≠ some d.g)
    (hb : Byted wr B bw c0 c1 c2 vb' vf rb' rf d.val w') : ∃ vb2 rb2, FLoop w B bw c0 c1 c2 vb vf rb rf v ds (k + 1) vb2 rb2 w' := by
  obtain ⟨vb2, r, hbk, hbl, hr⟩ := hb.out
  have hk : k < ds.length := (List.getElem?_eq_some_iff.1 hd).1
  have hdk : ds.drop k = d :: ds.drop (k + 1) := by
    rw [List.drop_eq_getElem_cons hk]
    congr 1
    exact (List.getElem?_eq_some_iff.1 hd).2
  have hmem : d ∈ ds := List.mem_of_getElem? hd
  have hdd : d ∈ ds.drop k := by rw [hdk]; simp
  have hsub : ∀ e ∈ ds.drop (k + 1), e ∈ ds.drop k := fun e he => by rw [hdk]; simp [he]
  have hne : ∀ e ∈ ds.drop (k + 1), e.g ≠ d.g := by
    intro e he
    have := (List.drop_sublist k ds).map (·.g) |>.nodup hnd
    rw [hdk] at this
    simp only [List.map_cons, List.nodup_cons, List.mem_map, not_exists, not_and] at this
    exact this.1 e he
  have z := h.chg.size
  have z' := hb.chg.size
  have hval : ∀ e : FD, e.val.ownBlock = some e.g := fun e => rfl
  have hvlt := World.ownsRow.lt h.row
  have nd : ∀ e ∈ ds.drop (k + 1), ¬ (e.g = bw ∨ vb'.ownBlock = some e.g ∨ d.val.ownBlock = some e.g) := by
    intro e he
    have ho := h.own e (hsub e he)
    rintro (q | q | q)
    · exact absurd (own_elem ho (by rw [q]; exact h.book.row) (hval e)) (by decide)
    · obtain ⟨cs, fr, hh⟩ := own_cells h.book.rowB q
      exact absurd (own_elem ho hh (hval e)) (by decide)
    · rw [hval d] at q
      exact hne e he (by simpa using q.symm)
  have nv : ∀ i, v.ownBlock = some i → ¬ (i = bw ∨ vb'.ownBlock = some i ∨ d.val.ownBlock = some i) := by
    intro i hi
    rintro (q | q | q)
    · exact absurd (own_elem h.row (by rw [q]; exact h.book.row) hi) (by decide)
    · obtain ⟨cs, fr, hh⟩ := own_cells h.book.rowB q
      exact absurd (own_elem h.row hh hi) (by decide)
    · rw [hval d] at q
      exact hap d hmem (by rw [hi, ← q])
  refine ⟨vb2, rb' ++ [r], hbk, by simp [h.len]; omega, ?_, ?_, ?_, ?_, ?_, ?_⟩
  · rcases hbl with q | ⟨i, hi, q⟩
    · rw [q]
      exact h.blk
    · exact .inr ⟨i, by omega, q⟩
  · intro x m i hx
    have oldx : (x ∈ rb' ∨ x ∈ rf) → v.ownBlock ≠ some i ∧ ∀ e ∈ ds.drop (k + 1), e.g ≠ i := fun m => ⟨(h.free x m i hx).1, fun e he => (h.free x m i hx).2 e (hsub e he)⟩
    rcases m with m | m
    · rcases List.mem_append.1 m with m | m
      · exact oldx (.inl m)
      · rw [List.mem_singleton.1 m] at hx
        rcases hr i hx with q | q
        · rw [hval d] at q
          have : d.g = i := by simpa using q
          subst this
          exact ⟨hap d hmem, hne⟩
        · refine ⟨fun e => by have := hvlt i e; omega, fun e he e' => ?_⟩
          have := World.ownsRow.lt (h.own e (hsub e he)) e.g rfl
          omega
    · exact oldx (.inr m)
  · intro x m
    rcases List.mem_append.1 m with m | m
    · exact h.recs x m
    · rw [List.mem_singleton.1 m]
      refine .inr fun i hi => ?_
      rcases hr i hi with q | q
      · rw [hval d] at q
        exact .inl ⟨d, hmem, by simpa using q⟩
      · exact .inr (by omega)
  · exact ownsRow_keep h.row fun i _ p q => hb.chg.block i p (nv i q)
  · intro e he
    exact ownsRow_keep (h.own e (hsub e he)) fun i _ p q => hb.chg.block i p (by
      rw [hval e] at q
      have : e.g = i := by simpa using q
      subst this
      exact nd e he)
  · refine h.chg.trans hb.chg ?_
    rintro i (q | q | q) hi
    · exact .inl q
    · rcases h.blk with q' | ⟨j, hj, q'⟩
      · exact .inr (.inl (q'.symm.trans q))
      · have : j = i := by have := q'.symm.trans q; simpa using this
        omega
    · rw [hval d] at q
      exact .inr (.inr ⟨d, hmem, by simpa using q⟩)

end Go.Proofs.YtfekelmldebplaaGreatDoor
