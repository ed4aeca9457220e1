import Derived.Test.YtfekelmldebplaaGreatDoorSq
namespace Go.Proofs.YtfekelmldebplaaGreatDoor
open Go.RowKit

/-- A splitter more. -/
theorem Inv.fresh {w w' : World} {B bw : Nat} {xs : List SP} {vs vt vb vf vs' vt' : Value} {rb rf : List Rec} {pb tb : Nat} (h : Inv w B bw xs vs vt vb vf rb rf) (c : Chg w w' (fun i => i = bw ∨ vs.ownBlock = some i ∨ vt.ownBlock = some i))
    (row : w'.heap[bw]? = some (.cells (wrow vs' vt' (.slice none 0 0) vb vf) 91 (0, 0))) (rS : w'.ownsRow B 114 1 vs' (xs.length + 1) (xs.map SP.pv ++ [.pointer (some ⟨pb, 0, none⟩)])) (rT : w'.ownsRow B 116 1 vt' (xs.length + 1) (xs.map SP.tv ++ [.pointer (some ⟨tb, 0, none⟩)]))
    (hp : w'.heap[pb]? = some (.cells (spl [] false) 181 (0, 0))) (ht : w'.heap[tb]? = some (.cells #[.slice none 0 0, .int .i64 0, .bool false] 118 (0, 0))) (hpn : w.heap.size ≤ pb) (htn : w.heap.size ≤ tb)
    (hs : vs'.ownBlock = vs.ownBlock ∨ ∃ i, w.heap.size ≤ i ∧ vs'.ownBlock = some i) (htt : vt'.ownBlock = vt.ownBlock ∨ ∃ i, w.heap.size ≤ i ∧ vt'.ownBlock = some i) : Inv w' B bw (xs ++ [⟨pb, tb, .slice none 0 0, []⟩]) vs' vt' vb vf rb rf := by
  have nR : ∀ {v : Value} {e : TypeId} {size n : Nat} {ys : List Value}, w.ownsRow B e size v n ys → e ≠ 91 → e ≠ 114 → e ≠ 116 → ∀ i, v.ownBlock = some i → ¬ (i = bw ∨ vs.ownBlock = some i ∨ vt.ownBlock = some i) := by
    intro v e size n ys r h1 h2 h3 i hi
    obtain ⟨cs, fr, hh⟩ := own_cells r hi
    rintro (e' | e' | e')
    · exact row_ne hh h.book.row h1 e'
    · exact h2 (own_elem h.rowS hh e').symm
    · exact h3 (own_elem h.rowT hh e').symm
  have nD : ∀ {g : Nat} {cs : Array Value} {t : TypeId} {fr : Nat × Nat}, w.heap[g]? = some (.cells cs t fr) → t ≠ 91 → t ≠ 114 → t ≠ 116 → ¬ (g = bw ∨ vs.ownBlock = some g ∨ vt.ownBlock = some g) := by
    intro g cs t fr hg h1 h2 h3
    rintro (e' | e' | e')
    · exact row_ne hg h.book.row h1 e'
    · exact h2 (own_elem h.rowS hg e').symm
    · exact h3 (own_elem h.rowT hg e').symm
  have nr : ∀ r, (r ∈ rb ∨ r ∈ rf) → ∀ i, r.has i → ¬ (i = bw ∨ vs.ownBlock = some i ∨ vt.ownBlock = some i) := by
    intro r m i e
    rintro (e' | e' | e')
    · exact (h.book.sep r m i e).2.2.1 e'
    · exact (h.sep r m i e).1 e'
    · exact (h.sep r m i e).2.1 e'
  have st0 : (SP.mk pb tb (.slice none 0 0) []).st = ([], [], false) := rfl
  refine ⟨⟨row, ownsRow_keep h.book.rowB fun i _ p q => c.block i p (nR h.book.rowB (by decide) (by decide) (by decide) i q), ownsRow_keep h.book.rowF fun i _ p q => c.block i p (nR h.book.rowF (by decide) (by decide) (by decide) i q), fun r m => ?_, fun r m => ?_, fun r m i q => ?_⟩, ?_, ?_, ?_, ?_, ?_, ?_, ?_⟩
  · refine (h.book.okB r m).kept c.size fun v hv i p q => c.block i p (nr r (.inl m) i ?_)
    rcases hv with rfl | rfl | rfl | rfl <;> simp [Rec.has, q]
  · refine (h.book.okF r m).kept c.size fun v hv i p q => c.block i p (nr r (.inr m) i ?_)
    rcases hv with rfl | rfl | rfl | rfl <;> simp [Rec.has, q]
  · have := h.book.sep r m i q
    have z := c.size
    exact ⟨this.1, by omega, this.2.2⟩
  · simpa [SP.pv] using rS
  · simpa [SP.tv] using rT
  · intro x m
    rcases List.mem_append.1 m with m | m
    · have ox := h.ok x m
      exact ox.chg c (nD ox.prog (by decide) (by decide) (by decide)) (nD ox.ref (by decide) (by decide) (by decide)) (nR ox.own (by decide) (by decide) (by decide))
    · rw [List.mem_singleton.1 m]
      exact ⟨hp, Held.nil, ht, World.ownsRow_nil _ _ _ _, Bys.nil⟩
  · rw [List.map_append]
    refine List.nodup_append.2 ⟨h.ndP, by simp, ?_⟩
    intro a ha b hb
    obtain ⟨x, m, rfl⟩ := List.mem_map.1 ha
    have := (Array.getElem?_eq_some_iff.1 (h.ok x m).prog).1
    simp at hb
    omega
  · rw [List.map_append]
    refine List.nodup_append.2 ⟨h.ndT, by simp, ?_⟩
    intro a ha b hb
    obtain ⟨x, m, rfl⟩ := List.mem_map.1 ha
    have := (Array.getElem?_eq_some_iff.1 (h.ok x m).ref).1
    simp at hb
    omega
  · refine List.pairwise_append.2 ⟨h.ndA, by simp, ?_⟩
    intro x _ y hy k _
    rw [List.mem_singleton.1 hy]
    simp [Value.ownBlock]
  · intro r m i e
    have q := h.sep r m i e
    have l := (h.book.sep r m i e).2.1
    refine ⟨fun e' => ?_, fun e' => ?_, fun x hx => ?_⟩
    · rcases hs with a | ⟨j, hj, a⟩
      · exact q.1 (a.symm.trans e')
      · have : j = i := by have := a.symm.trans e'; simpa using this
        omega
    · rcases htt with a | ⟨j, hj, a⟩
      · exact q.2.1 (a.symm.trans e')
      · have : j = i := by have := a.symm.trans e'; simpa using this
        omega
    · rcases List.mem_append.1 hx with m' | m'
      · exact q.2.2 x m'
      · rw [List.mem_singleton.1 m']
        exact ⟨by show pb ≠ i; omega, by show tb ≠ i; omega, by simp [Value.ownBlock]⟩
end Go.Proofs.YtfekelmldebplaaGreatDoor
