import Derived.BigRegion
import Derived.Test.YtfekelmldebplaaGreatDoorSx
import Derived.Test.YtfekelmldebplaaGreatDoorSs
set_option maxRecDepth 100000
set_option maxHeartbeats 8000000
namespace Go.Proofs.YtfekelmldebplaaGreatDoor
open Go.RowKit
def nD (B : Nat) (w : World) (a : Option Addr) (ops : List (Int × OpV)) : Prop :=
 ∀ i op, ops[i]? = some op → ∃ b o, a = some ⟨b, o, none⟩ ∧ b < B ∧ ∀ j u, (op.2.cells op.1)[j]? = some u → w.cell? ⟨b, o + i * 14 + j, none⟩ = some u
theorem zS (kk : Int) (kinds : List Int) (q : Nat) (hq : q < kinds.length) : decide (kk ∈ kinds.take (q + 1)) = (decide (kk ∈ kinds.take q) || decide (kk = kinds.getD q 0)) := by
 rw [List.take_add_one, List.getElem?_eq_getElem hq]
 simp only [Option.toList_some, List.mem_append, List.mem_singleton, List.getD, List.getElem?_eq_getElem hq, Option.getD_some]
 rw [Bool.decide_or]
end Go.Proofs.YtfekelmldebplaaGreatDoor
