import Derived.Test.YtfekelmldebplaaGreatDoorSp
namespace Go.Proofs.YtfekelmldebplaaGreatDoor
open Go.RowKit

/-- Blocks that lie apart from all that the splitters hold. -/
def Apart (xs : List SP) (vs vt : Value) (i : Nat) : Prop := vs.ownBlock ≠ some i ∧ vt.ownBlock ≠ some i ∧ ∀ x ∈ xs, x.pb ≠ i ∧ x.tb ≠ i ∧ x.vA.ownBlock ≠ some i

/-- By what lies in it. -/
theorem Inv.apart_row {w : World} {B bw : Nat} {xs : List SP} {vs vt vb vf : Value} {rb rf : List Rec} (h : Inv w B bw xs vs vt vb vf rb rf) {i : Nat} {cs : Array Value} {t : TypeId} {fr : Nat × Nat} (hi : w.heap[i]? = some (.cells cs t fr)) (h1 : t ≠ 114) (h2 : t ≠ 116) (h3 : t ≠ 181) (h4 : t ≠ 118) (h5 : t ≠ 5 ∨ ∀ x ∈ xs, x.vA.ownBlock ≠ some i) : Apart xs vs vt i := by
  refine ⟨fun e => h1 (own_elem h.rowS hi e).symm, fun e => h2 (own_elem h.rowT hi e).symm, fun x m => ⟨fun e => ?_, fun e => ?_, fun e => ?_⟩⟩
  · exact row_ne hi (h.ok x m).prog h3 e.symm
  · exact row_ne hi (h.ok x m).ref h4 e.symm
  · rcases h5 with h5 | h5
    · exact h5 (own_elem (h.ok x m).own hi e).symm
    · exact h5 x m e
theorem Inv.apart_new {w : World} {B bw : Nat} {xs : List SP} {vs vt vb vf : Value} {rb rf : List Rec} (h : Inv w B bw xs vs vt vb vf rb rf) {i : Nat} (hi : w.heap.size ≤ i) : Apart xs vs vt i := by
  refine ⟨fun e => ?_, fun e => ?_, fun x m => ⟨fun e => ?_, fun e => ?_, fun e => ?_⟩⟩
  · have := (World.ownsRow.lt h.rowS i e).2; omega
  · have := (World.ownsRow.lt h.rowT i e).2; omega
  · have := (Array.getElem?_eq_some_iff.1 (h.ok x m).prog).1; omega
  · have := (Array.getElem?_eq_some_iff.1 (h.ok x m).ref).1; omega
  · have := (World.ownsRow.lt (h.ok x m).own i e).2; omega

/-- A book that was written on. -/
theorem Inv.rebook {w w' : World} {B bw : Nat} {xs : List SP} {vs vt vb vf vb' vf' : Value} {rb rf rb' rf' : List Rec} {D : Nat → Prop} (h : Inv w B bw xs vs vt vb vf rb rf) (c : Chg w w' D) (hD : ∀ i, D i → Apart xs vs vt i) (hb : BookIn w' B bw vs vt (.slice none 0 0) vb' vf' rb' rf')
    (hr : ∀ r, (r ∈ rb' ∨ r ∈ rf') → (r ∈ rb ∨ r ∈ rf) ∨ ∀ i, r.has i → Apart xs vs vt i) : Inv w' B bw xs vs vt vb' vf' rb' rf' := by
  refine ⟨hb, ownsRow_keep h.rowS fun i _ p q => c.block i p fun e => (hD i e).1 q, ownsRow_keep h.rowT fun i _ p q => c.block i p fun e => (hD i e).2.1 q, fun x m => ?_, h.ndP, h.ndT, h.ndA, fun r m i e => ?_⟩
  · exact (h.ok x m).chg c (fun e => ((hD _ e).2.2 x m).1 rfl) (fun e => ((hD _ e).2.2 x m).2.1 rfl) (fun k q e => ((hD k e).2.2 x m).2.2 q)
  · rcases hr r m with q | q
    · exact h.sep r q i e
    · exact q i e

theorem Inv.booked {w w' : World} {B bw : Nat} {xs : List SP} {vs vt vb vf v : Value} {rb rf : List Rec} {ds : List FD} (h : Inv w B bw xs vs vt vb vf rb rf) (hG : Gave w B v ds) (hA : ∀ x ∈ xs, ∀ d ∈ ds, x.vA.ownBlock ≠ some d.g) (hb : Booked w B bw vs vt (.slice none 0 0) vb vf rb rf v ds w') :
    ∃ vb' vf' rb' rf', Inv w' B bw xs vs vt vb' vf' rb' rf' ∧ rb'.length = rb.length + ds.length ∧ rf'.length = rf.length + 1 := by
  obtain ⟨vb', vf', rb', rf', hbk, l1, l2, _, _, hr⟩ := hb.out
  have ad : ∀ d ∈ ds, Apart xs vs vt d.g := fun d m => by
    obtain ⟨cs, fr, hh⟩ := own_cells (hG.own d m) (g := d.g) rfl
    exact h.apart_row hh (by decide) (by decide) (by decide) (by decide) (.inr fun x mx => hA x mx d m)
  have av : ∀ i, v.ownBlock = some i → Apart xs vs vt i := fun i e => by
    obtain ⟨cs, fr, hh⟩ := own_cells hG.row e
    exact h.apart_row hh (by decide) (by decide) (by decide) (by decide) (.inl (by decide))
  refine ⟨vb', vf', rb', rf', h.rebook hb.chg ?_ hbk ?_, l1, l2⟩
  · rintro i (e | e | e | e | ⟨d, m, e⟩)
    · subst e
      exact h.apart_row h.book.row (by decide) (by decide) (by decide) (by decide) (.inl (by decide))
    · obtain ⟨cs, fr, hh⟩ := own_cells h.book.rowB e
      exact h.apart_row hh (by decide) (by decide) (by decide) (by decide) (.inl (by decide))
    · obtain ⟨cs, fr, hh⟩ := own_cells h.book.rowF e
      exact h.apart_row hh (by decide) (by decide) (by decide) (by decide) (.inl (by decide))
    · exact av i e
    · rw [← e]
      exact ad d m
  · intro r m
    rcases hr r m with q | q
    · exact .inl q
    · refine .inr fun i hi => ?_
      rcases q i hi with ⟨d, m, e⟩ | e | e
      · rw [← e]
        exact ad d m
      · exact av i e
      · exact h.apart_new e

theorem Inv.byted {w w' : World} {B bw : Nat} {xs : List SP} {vs vt vb vf v : Value} {rb rf : List Rec} {bs : List Int} (h : Inv w B bw xs vs vt vb vf rb rf) (hv : Owns w B v bs) (hA : ∀ x ∈ xs, ∀ i, v.ownBlock = some i → x.vA.ownBlock ≠ some i) (hb : Byted w B bw vs vt (.slice none 0 0) vb vf rb rf v w') :
    ∃ vb' rb', Inv w' B bw xs vs vt vb' vf rb' rf ∧ rb'.length = rb.length + 1 := by
  obtain ⟨vb', r, hbk, _, hr⟩ := hb.out
  have av : ∀ i, v.ownBlock = some i → Apart xs vs vt i := fun i e => by
    obtain ⟨cs, fr, hh⟩ := own_cells hv e
    exact h.apart_row hh (by decide) (by decide) (by decide) (by decide) (.inr fun x mx => hA x mx i e)
  refine ⟨vb', rb ++ [r], h.rebook hb.chg ?_ hbk ?_, by simp⟩
  · rintro i (e | e | e)
    · subst e
      exact h.apart_row h.book.row (by decide) (by decide) (by decide) (by decide) (.inl (by decide))
    · obtain ⟨cs, fr, hh⟩ := own_cells h.book.rowB e
      exact h.apart_row hh (by decide) (by decide) (by decide) (by decide) (.inl (by decide))
    · exact av i e
  · rintro x (m | m)
    · rcases List.mem_append.1 m with m | m
      · exact .inl (.inl m)
      · rw [List.mem_singleton.1 m]
        refine .inr fun i hi => ?_
        rcases hr i hi with e | e
        · exact av i e
        · exact h.apart_new e
    · exact .inl (.inr m)
end Go.Proofs.YtfekelmldebplaaGreatDoor
