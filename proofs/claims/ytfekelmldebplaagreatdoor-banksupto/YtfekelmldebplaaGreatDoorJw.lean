import Derived.BigRegion
import Derived.Test.YtfekelmldebplaaGreatDoorJr
import Derived.Test.YtfekelmldebplaaGreatDoorJq
set_option maxRecDepth 100000
set_option maxHeartbeats 8000000
namespace Go.Proofs.YtfekelmldebplaaGreatDoor
open Go.RowKit
theorem banks_call (ops : List (Int × OpV)) (a : Option Addr) (c : Nat) (w : World) (hS : nD w.heap.size w a ops) (hl : ops.length ≤ 1048576) (ho : ∀ op ∈ ops, OpOk w op.2) (he : dF w) :
  Calls Tryz.prog 4 #[.slice a ops.length c] w fun e w' => e = .returned (.bool true) ∧ Below w.heap.size w w' := by
 have hb : Below w.heap.size w (w.alloc (.cells #[.int .i64 4, .int .i64 5, .int .i64 6, .int .i64 7] 3)) := (Below.refl _ _).alloc (Nat.le_refl _) _
 have HP := hide (nC false ops (w.alloc (.cells #[.int .i64 4, .int .i64 5, .int .i64 6, .int .i64 7] 3)) hl (fun op m => (ho op m).below hb) (he.below hb))
 have HS1 : Hid (nD (w.alloc (.cells #[.int .i64 4, .int .i64 5, .int .i64 6, .int .i64 7] 3)).heap.size (w.alloc (.cells #[.int .i64 4, .int .i64 5, .int .i64 6, .int .i64 7] 3)) a ops) := fun i op ho => by
  obtain ⟨b, o, e, hlt, hc⟩ := hS i op ho
  refine ⟨b, o, e, by have := hb.size; omega, fun j u h => ?_⟩
  rw [← hc j u h]
  exact World.cell?_of_block (hb.block b hlt)
 have HB := hide hb
 have HC := hide (xF 4 [4, 5, 6, 7] ops _ _ a c w.heap.size _ (aA HP) (aA HS1) (heap_alloc_new w _) (by simp) rfl (by simp) (by omega))
 clear hS hb ho
 go_enter Tryz.func4, Tryz.ntmps4
 go_wp2_with fail
 refine (aA HC).mono ?_
 rintro e w' ⟨rfl, hj⟩
 have HJ := hide hj
 clear hj
 go_wp2
 go_ret
 refine ⟨rfl, aD (aA HB) ?_⟩
 obtain ⟨_, _, _, _, _, _, _, _, _, _, f⟩ := aA HJ
 exact jC f
end Go.Proofs.YtfekelmldebplaaGreatDoor
