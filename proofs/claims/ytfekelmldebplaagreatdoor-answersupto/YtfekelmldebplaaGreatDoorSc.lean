import Derived.Deep.DeepCutAuto
import Derived.Test.YtfekelmldebplaaGreatDoorSe
set_option maxRecDepth 100000
set_option maxHeartbeats 8000000
namespace Go.Proofs.YtfekelmldebplaaGreatDoor
open Go.RowKit
attribute [local go_sem ↓] Go.wp_at_zero Go.wp_at_succ
theorem vR {w w' : World} {base : Nat} {e : TypeId} {size : Nat} {v : Value} {n : Nat} {xs : List Value} (h : w.ownsRow base e size v n xs) (hh : w'.heap = w.heap) : w'.ownsRow base e size v n xs := by
 unfold World.ownsRow at *
 rw [hh]
 exact h
theorem qS {w : World} {H : Nat} {cs : Array Value} {t : TypeId} (h : w.heap[H]? = some (.cells cs t (0, 0))) : ∀ j u, cs.toList[j]? = some u → w.cell? ((⟨H, 0, none⟩ : Addr).add j) = some u := World.news_of_block h
theorem gN (bs : List Int) (k i : Nat) : (bs.drop k).getD i 0 = bs.getD (k + i) 0 := by simp [List.getD]
end Go.Proofs.YtfekelmldebplaaGreatDoor
