import Derived.Lib.ConvBytes
import Derived.Test.YtfekelmldebplaaGreatDoorSt
set_option maxRecDepth 100000
set_option maxHeartbeats 8000000
namespace Go.Proofs.YtfekelmldebplaaGreatDoor
open Go.RowKit
theorem jH.blk {w : World} {B : Nat} {v : Value} {s : ByteArray} (h : jH w B v s) : ∀ k, v.ownBlock = some k → B ≤ k ∧ k < w.heap.size := by
 rcases h with ⟨rfl, _⟩ | ⟨g, c, rfl, h⟩
 ·intro k e
  simp [Value.ownBlock] at e
 ·intro k e
  exact World.ownsRow.lt h.own k e
theorem wF (w : World) (s : ByteArray) : Below w.heap.size w (Lib.bytesWorld w 5 s) :=
 ⟨rfl, rfl, rfl, by rw [Lib.bytesWorld_size]; omega, fun k hk => Lib.bytesWorld_at_old w 5 s k hk⟩
theorem zM (s : ByteArray) (i : Nat) (h : i < s.size) : (sb s).getD i 0 = ((s.data.toList.getD i 0).toNat : Int) := by
 have h' : i < s.data.toList.length := by simpa using h
 simp only [sb, List.getD, List.getElem?_map, List.getElem?_eq_getElem h', Option.map_some, Option.getD_some]
theorem yX (w : World) (s : ByteArray) : Lies (Lib.bytesWorld w 5 s) (.slice (some ⟨w.heap.size, 0, none⟩) s.size (grownCap w s.size 0 5)) (sb s) := by
 refine .inr ⟨w.heap.size, 0, _, by rw [fY], by rw [fY]; exact grownCap_ge _ _ _ _, .inr (by rw [Lib.bytesWorld_size]; omega), fun i hi => ?_⟩
 rw [fY] at hi
 rw [Nat.zero_add, Lib.bytesWorld_cell w 5 s i hi, zM s i hi]
theorem yO (w : World) (s : ByteArray) : ∃ w' c, (convert 9 37 (.string s)).run Tryz.prog w = .ok (.slice (some ⟨w.heap.size, 0, none⟩) s.size c) w' ∧ Below w.heap.size w w' ∧ Lies w' (.slice (some ⟨w.heap.size, 0, none⟩) s.size c) (sb s) :=
 ⟨_, _, Lib.run_convert_string_bytes (P := Tryz.prog) w 9 37 5 s Tryz.underlying9 Tryz.underlying37 Tryz.underlying5, wF w s, yX w s⟩
theorem chg_below {w w1 w2 : World} {D : Nat → Prop} (h : Chg w w1 D) (hb : Below w1.heap.size w1 w2) : Chg w w2 D := h.trans (Chg.of_below hb (fun _ => False)) (fun _ e _ => e.elim)
end Go.Proofs.YtfekelmldebplaaGreatDoor
