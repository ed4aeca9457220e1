import Derived.Test.YtfekelmldebplaaGreatDoorSn
namespace Go.Proofs.YtfekelmldebplaaGreatDoor
open Go.RowKit

theorem info64 : (Tryz.prog.info? 95).map (·.size) = some 14 := by kernel_rfl

set_option maxRecDepth 100000 in
set_option maxHeartbeats 1000000 in
theorem head_any (kd : Int) (w : World) : Calls Tryz.prog 40 #[.int .i64 kd] w fun e w' => ∃ a, e = .returned (.agg #[.int .i64 kd, .int .i64 1, .int .i64 2, .int .i64 0, .int .i64 0, .string ⟨#[97, 98, 99]⟩, .slice none 0 0, .int .i64 20, .int .i64 10, .int .i64 5, .int .i64 8, .int .i64 2, .slice (some a) 2 2, .slice none 0 0]) ∧ Below w.heap.size w w' := by
  go_enter Tryz.func40, Tryz.ntmps40
  go_wp2
  refine bodyPost_ret (v := .agg #[.int .i64 kd, .int .i64 1, .int .i64 2, .int .i64 0, .int .i64 0, .string ⟨#[97, 98, 99]⟩, .slice none 0 0, .int .i64 20, .int .i64 10, .int .i64 5, .int .i64 8, .int .i64 2, .slice (some ⟨w.heap.size + 1 + 1 + 1, 0, none⟩) 2 2, .slice none 0 0]) (results_cell_row Tryz.results40 _ _ w.heap.size 95 _ (0, 0) _ rfl ?_ Tryz.underlying95 rfl info64) rfl ⟨_, rfl, ?_⟩
  · rw [Below.heap_alloc _ _ _ (by simp; omega), Below.heap_alloc _ _ _ (by simp; omega), Below.heap_alloc _ _ _ (by simp)]
    exact heap_alloc_new _ _
  · repeat (first | exact Below.refl _ _ | refine Below.alloc ?_ (by first | (simp; done) | (simp; omega)) _)
end Go.Proofs.YtfekelmldebplaaGreatDoor
