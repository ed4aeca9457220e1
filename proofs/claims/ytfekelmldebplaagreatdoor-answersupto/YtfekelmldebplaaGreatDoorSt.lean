import Derived.Laws.Strings
import Derived.Test.YtfekelmldebplaaGreatDoorSs
set_option maxRecDepth 100000
set_option maxHeartbeats 8000000
namespace Go.Proofs.YtfekelmldebplaaGreatDoor
open Go.RowKit
theorem gV {w : World} {v : Value} {xs : List Int} (h : Lies w v xs) : ∃ a c, v = .slice a xs.length c := by
 rcases h with ⟨a, c, rfl, rfl⟩ | ⟨b, o, c, rfl, _⟩
 ·exact ⟨a, c, rfl⟩
 ·exact ⟨_, c, rfl⟩
def jH (w : World) (B : Nat) (v : Value) (s : ByteArray) : Prop := (v = .slice none 0 0 ∧ s = ByteArray.empty) ∨ ∃ g c, v = .slice (some ⟨g, 0, none⟩) s.size c ∧ Lent w B g c s
theorem jH.lies {w : World} {B : Nat} {v : Value} {s : ByteArray} (h : jH w B v s) : Lies w v (sb s) := by
 rcases h with ⟨rfl, rfl⟩ | ⟨g, c, rfl, h⟩
 ·exact .inl ⟨_, _, rfl, rfl⟩
 ·exact h.lies
theorem aEb (s : ByteArray) (nn : Bool) (w : World) (hs : s.size ≤ 1000000000) : Calls Tryz.prog 50 #[.string s, .bool nn] w fun e w' => ∃ v, e = .returned v ∧ jH w' w.heap.size v s ∧ Below w.heap.size w w' := by
 by_cases hc : s = ByteArray.empty ∧ nn = true
 ·obtain ⟨rfl, rfl⟩ := hc
  refine (aEa w).mono ?_
  rintro e w' ⟨rfl, rfl⟩
  exact ⟨_, rfl, .inl ⟨rfl, rfl⟩, Below.refl _ _⟩
 ·refine (aBr s nn w hs ?_).mono ?_
  ·by_cases e : s = ByteArray.empty
   ·right
    refine ⟨e, ?_⟩
    cases nn with
    | true => exact absurd ⟨e, rfl⟩ hc
    | false => rfl
   ·left
    rw [Bool.eq_false_iff]
    intro q
    have q' : s.toList = [] := by simpa using q
    rw [ByteArray.toList_eq] at q'
    apply e
    obtain ⟨⟨d⟩⟩ := s
    simp at q'
    subst q'
    rfl
  ·rintro e w' ⟨g, c, rfl, h, hb⟩
   exact ⟨_, rfl, .inr ⟨g, c, rfl, h⟩, hb⟩
theorem aEt (s : ByteArray) (v : Value) (B : Nat) (w : World) (hs : s.size ≤ 1000000000) (h : jH w B v s) : Calls Tryz.prog 52 #[v, .string s] w fun e w' => e = .returned (.bool true) ∧ w.grownBy w' v.ownBlock := by
 rcases h with ⟨rfl, rfl⟩ | ⟨g, c, rfl, h⟩
 ·refine (aEs w).mono ?_
  rintro e w' ⟨rfl, rfl⟩
  exact ⟨rfl, World.grownBy.refl _ _⟩
 ·exact aB5 s g c B w hs h
end Go.Proofs.YtfekelmldebplaaGreatDoor
