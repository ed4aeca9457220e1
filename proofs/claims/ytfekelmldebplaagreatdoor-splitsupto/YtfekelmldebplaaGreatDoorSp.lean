import Derived.Test.YtfekelmldebplaaGreatDoorSn
namespace Go.Proofs.YtfekelmldebplaaGreatDoor
open Go.RowKit

/-- A splitter of the program's (its block), the document's (its block, its bytes), and all that was fed. -/
structure SP where
  pb : Nat
  tb : Nat
  vA : Value
  all : List Int
def SP.st (x : SP) : List Fr × List Int × Bool := feedF ([], [], false) x.all
structure SP.Ok (w : World) (B : Nat) (x : SP) : Prop where
  prog : w.heap[x.pb]? = some (.cells (spl x.st.2.1 x.st.2.2) 181 (0, 0))
  held : Held x.st.2.1
  ref : w.heap[x.tb]? = some (.cells #[x.vA, .int .i64 x.st.1.length, .bool x.st.2.2] 118 (0, 0))
  own : Owns w B x.vA x.all
  bys : Bys x.all
def SP.pv (x : SP) : Value := .pointer (some ⟨x.pb, 0, none⟩)
def SP.tv (x : SP) : Value := .pointer (some ⟨x.tb, 0, none⟩)

/-- The world of a script of Splits between two steps. -/
structure Inv (w : World) (B bw : Nat) (xs : List SP) (vs vt vb vf : Value) (rb rf : List Rec) : Prop where
  book : BookIn w B bw vs vt (.slice none 0 0) vb vf rb rf
  rowS : w.ownsRow B 114 1 vs xs.length (xs.map SP.pv)
  rowT : w.ownsRow B 116 1 vt xs.length (xs.map SP.tv)
  ok : ∀ x ∈ xs, x.Ok w B
  ndP : (xs.map (·.pb)).Nodup
  ndT : (xs.map (·.tb)).Nodup
  ndA : xs.Pairwise fun x y => ∀ k, x.vA.ownBlock = some k → y.vA.ownBlock ≠ some k
  sep : ∀ r, (r ∈ rb ∨ r ∈ rf) → ∀ k, r.has k → vs.ownBlock ≠ some k ∧ vt.ownBlock ≠ some k ∧ ∀ x ∈ xs, x.pb ≠ k ∧ x.tb ≠ k ∧ x.vA.ownBlock ≠ some k

theorem SP.Ok.chg {w w' : World} {B : Nat} {x : SP} {D : Nat → Prop} (h : x.Ok w B) (c : Chg w w' D) (hp : ¬ D x.pb) (ht : ¬ D x.tb) (ha : ∀ k, x.vA.ownBlock = some k → ¬ D k) : x.Ok w' B :=
  ⟨(c.block _ (Array.getElem?_eq_some_iff.1 h.prog).1 hp).trans h.prog, h.held, (c.block _ (Array.getElem?_eq_some_iff.1 h.ref).1 ht).trans h.ref, ownsRow_keep h.own fun k _ p q => c.block k p (ha k q), h.bys⟩

/-- What does not touch it. -/
theorem Inv.chg {w w' : World} {B bw : Nat} {xs : List SP} {vs vt vb vf : Value} {rb rf : List Rec} {D : Nat → Prop} (h : Inv w B bw xs vs vt vb vf rb rf) (c : Chg w w' D) (hD : ∀ k, k < w.heap.size → ¬ D k) : Inv w' B bw xs vs vt vb vf rb rf := by
  have hl : ∀ {v : Value} {e : TypeId} {size n : Nat} {ys : List Value}, w.ownsRow B e size v n ys → ∀ k, v.ownBlock = some k → ¬ D k := fun r k e => hD k (World.ownsRow.lt r k e).2
  refine ⟨h.book.chg c (hD _ (Array.getElem?_eq_some_iff.1 h.book.row).1) (hl h.book.rowB) (hl h.book.rowF) (fun r m i e => hD i (h.book.sep r m i e).2.1), ownsRow_keep h.rowS fun k _ p q => c.block k p (hl h.rowS k q), ownsRow_keep h.rowT fun k _ p q => c.block k p (hl h.rowT k q), fun x m => (h.ok x m).chg c (hD _ (Array.getElem?_eq_some_iff.1 (h.ok x m).prog).1) (hD _ (Array.getElem?_eq_some_iff.1 (h.ok x m).ref).1) (hl (h.ok x m).own), h.ndP, h.ndT, h.ndA, h.sep⟩
theorem Inv.below {w w' : World} {B bw : Nat} {xs : List SP} {vs vt vb vf : Value} {rb rf : List Rec} (h : Inv w B bw xs vs vt vb vf rb rf) (hb : Below w.heap.size w w') : Inv w' B bw xs vs vt vb vf rb rf := h.chg (Chg.of_below hb (fun _ => False)) (fun _ _ e => e)

/-- Two rows of other elements lie in other blocks. -/
theorem row_ne {w : World} {g g' : Nat} {cs cs' : Array Value} {t t' : TypeId} {fr fr' : Nat × Nat} (h : w.heap[g]? = some (.cells cs t fr)) (h' : w.heap[g']? = some (.cells cs' t' fr')) (hne : t ≠ t') : g ≠ g' := fun e => by
  subst e
  rw [h] at h'
  simp at h'
  exact hne h'.2.1

theorem map_set_same {α β : Type} (f : α → β) (xs : List α) (k : Nat) (x x' : α) (hx : xs[k]? = some x) (hf : f x' = f x) : (xs.set k x').map f = xs.map f := by
  rw [List.map_set, hf]
  apply List.ext_getElem?
  intro i
  by_cases e : k = i
  · subst e
    simp [List.getElem?_set, hx]
    exact (List.getElem?_eq_some_iff.1 hx).1
  · simp [e]

/-- One splitter was fed. -/
theorem Inv.fed {w w' : World} {B bw : Nat} {xs : List SP} {vs vt vb vf : Value} {rb rf : List Rec} (h : Inv w B bw xs vs vt vb vf rb rf) {k : Nat} {x x' : SP} (hx : xs[k]? = some x) (hpb : x'.pb = x.pb) (htb : x'.tb = x.tb) (hok : x'.Ok w' B)
    (hA : x'.vA.ownBlock = x.vA.ownBlock ∨ ∃ i, w.heap.size ≤ i ∧ x'.vA.ownBlock = some i) (c : Chg w w' (fun i => i = x.pb ∨ i = x.tb ∨ x.vA.ownBlock = some i)) : Inv w' B bw (xs.set k x') vs vt vb vf rb rf := by
  have hm : x ∈ xs := List.mem_of_getElem? hx
  have ox := h.ok x hm
  have hlen : k < xs.length := (List.getElem?_eq_some_iff.1 hx).1
  -- blocks of other elements
  have nD : ∀ {g : Nat} {cs : Array Value} {t : TypeId} {fr : Nat × Nat}, w.heap[g]? = some (.cells cs t fr) → t ≠ 181 → t ≠ 118 → t ≠ 5 → ¬ (g = x.pb ∨ g = x.tb ∨ x.vA.ownBlock = some g) := by
    intro g cs t fr hg h1 h2 h3
    rintro (e | e | e)
    · exact row_ne hg ox.prog h1 e
    · exact row_ne hg ox.ref h2 e
    · exact h3 (own_elem ox.own hg e).symm
  have nR : ∀ {v : Value} {e : TypeId} {size n : Nat} {ys : List Value}, w.ownsRow B e size v n ys → e ≠ 181 → e ≠ 118 → e ≠ 5 → ∀ i, v.ownBlock = some i → ¬ (i = x.pb ∨ i = x.tb ∨ x.vA.ownBlock = some i) := by
    intro v e size n ys r h1 h2 h3 i hi
    obtain ⟨cs, fr, hh⟩ := own_cells r hi
    exact nD hh h1 h2 h3
  have sepx : ∀ r, (r ∈ rb ∨ r ∈ rf) → ∀ i, r.has i → ¬ (i = x.pb ∨ i = x.tb ∨ x.vA.ownBlock = some i) := by
    intro r m i e
    have q := (h.sep r m i e).2.2 x hm
    rintro (e' | e' | e')
    · exact q.1 e'.symm
    · exact q.2.1 e'.symm
    · exact q.2.2 e'
  have mem' : ∀ y ∈ xs.set k x', y = x' ∨ ∃ j, j ≠ k ∧ xs[j]? = some y := by
    intro y hy
    obtain ⟨j, hj, e⟩ := List.getElem_of_mem hy
    by_cases ej : k = j
    · subst ej
      left
      simpa using e.symm
    · right
      refine ⟨j, fun e' => ej e'.symm, ?_⟩
      rw [List.getElem_set_ne ej] at e
      simp at hj
      rw [List.getElem?_eq_getElem hj, e]
  have other : ∀ j y, j ≠ k → xs[j]? = some y → y.pb ≠ x.pb ∧ y.tb ≠ x.tb ∧ (∀ i, y.vA.ownBlock = some i → x.vA.ownBlock ≠ some i) := by
    intro j y hj hy
    have hjl : j < xs.length := (List.getElem?_eq_some_iff.1 hy).1
    have ey := (List.getElem?_eq_some_iff.1 hy).2
    have ex := (List.getElem?_eq_some_iff.1 hx).2
    refine ⟨fun e => hj ?_, fun e => hj ?_, fun i hi hi' => ?_⟩
    · have := List.pairwise_iff_getElem.1 h.ndP
      rcases Nat.lt_or_gt_of_ne hj with lt | lt
      · have q := this j k (by simpa using hjl) (by simpa using hlen) lt
        simp only [List.getElem_map, ey, ex] at q
        exact absurd e q
      · have q := this k j (by simpa using hlen) (by simpa using hjl) lt
        simp only [List.getElem_map, ey, ex] at q
        exact absurd e.symm q
    · have := List.pairwise_iff_getElem.1 h.ndT
      rcases Nat.lt_or_gt_of_ne hj with lt | lt
      · have q := this j k (by simpa using hjl) (by simpa using hlen) lt
        simp only [List.getElem_map, ey, ex] at q
        exact absurd e q
      · have q := this k j (by simpa using hlen) (by simpa using hjl) lt
        simp only [List.getElem_map, ey, ex] at q
        exact absurd e.symm q
    · have q := List.pairwise_iff_getElem.1 h.ndA
      rcases Nat.lt_or_gt_of_ne hj with lt | lt
      · have := q j k hjl hlen lt i
        rw [ey, ex] at this
        exact this hi hi'
      · have := q k j hlen hjl lt i
        rw [ey, ex] at this
        exact this hi' hi
  refine ⟨h.book.chg c (nD h.book.row (by decide) (by decide) (by decide)) (nR h.book.rowB (by decide) (by decide) (by decide)) (nR h.book.rowF (by decide) (by decide) (by decide)) sepx, ?_, ?_, ?_, ?_, ?_, ?_, ?_⟩
  · rw [List.length_set, map_set_same SP.pv xs k x x' hx (by simp [SP.pv, hpb])]
    exact ownsRow_keep h.rowS fun i _ p q => c.block i p (nR h.rowS (by decide) (by decide) (by decide) i q)
  · rw [List.length_set, map_set_same SP.tv xs k x x' hx (by simp [SP.tv, htb])]
    exact ownsRow_keep h.rowT fun i _ p q => c.block i p (nR h.rowT (by decide) (by decide) (by decide) i q)
  · intro y hy
    rcases mem' y hy with rfl | ⟨j, hj, ey⟩
    · exact hok
    · have oy := h.ok y (List.mem_of_getElem? ey)
      have n := other j y hj ey
      refine oy.chg c ?_ ?_ ?_
      · rintro (e | e | e)
        · exact n.1 e
        · exact row_ne oy.prog ox.ref (by decide) e
        · exact absurd (own_elem ox.own oy.prog e) (by decide)
      · rintro (e | e | e)
        · exact row_ne oy.ref ox.prog (by decide) e
        · exact n.2.1 e
        · exact absurd (own_elem ox.own oy.ref e) (by decide)
      · intro i hi
        rintro (e | e | e)
        · subst e
          exact absurd (own_elem oy.own ox.prog hi) (by decide)
        · subst e
          exact absurd (own_elem oy.own ox.ref hi) (by decide)
        · exact n.2.2 i hi e
  · rw [map_set_same (·.pb) xs k x x' hx hpb]
    exact h.ndP
  · rw [map_set_same (·.tb) xs k x x' hx htb]
    exact h.ndT
  · rw [List.pairwise_iff_getElem]
    intro i j hi hj hij
    simp at hi hj
    have q := List.pairwise_iff_getElem.1 h.ndA i j hi hj hij
    have ex := (List.getElem?_eq_some_iff.1 hx).2
    have lt : ∀ t (ht : t < xs.length) m, (xs[t]).vA.ownBlock = some m → m < w.heap.size := fun t ht m e => (World.ownsRow.lt (h.ok _ (List.getElem_mem ht)).own m e).2
    rw [List.getElem_set, List.getElem_set]
    split
    · rename_i e1
      subst e1
      rw [if_neg (by omega)]
      intro m e2 e3
      rcases hA with a | ⟨t, ht, a⟩
      · rw [a, ← ex] at e2
        exact q m e2 e3
      · have e4 : t = m := by have := a.symm.trans e2; simpa using this
        have := lt j hj m e3
        omega
    · split
      · rename_i e0 e1
        subst e1
        intro m e2 e3
        rcases hA with a | ⟨t, ht, a⟩
        · rw [a, ← ex] at e3
          exact q m e2 e3
        · have e4 : t = m := by have := a.symm.trans e3; simpa using this
          have := lt i hi m e2
          omega
      · exact q
  · intro r m i e
    have q := h.sep r m i e
    refine ⟨q.1, q.2.1, fun y hy => ?_⟩
    rcases mem' y hy with rfl | ⟨j, hj, ey⟩
    · have qx := q.2.2 x hm
      refine ⟨by rw [hpb]; exact qx.1, by rw [htb]; exact qx.2.1, fun e' => ?_⟩
      rcases hA with a | ⟨t, ht, a⟩
      · exact qx.2.2 (a.symm.trans e')
      · have e4 : t = i := by have := a.symm.trans e'; simpa using this
        have := (h.book.sep r m i e).2.1
        omega
    · exact q.2.2 y (List.mem_of_getElem? ey)
end Go.Proofs.YtfekelmldebplaaGreatDoor
