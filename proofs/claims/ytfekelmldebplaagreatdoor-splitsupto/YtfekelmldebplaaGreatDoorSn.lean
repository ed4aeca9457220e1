import Derived.Test.YtfekelmldebplaaGreatDoorSm
namespace Go.Proofs.YtfekelmldebplaaGreatDoor
open Go.RowKit

theorem feedAt_none {w : World} {b : Nat} {h : List Int} {br : Bool} {T : TypeId} (hb : w.heap[b]? = some (.cells (spl h br) T (0, 0))) (hh : Held h) : FeedAt w b T ([], h, br) (.slice none 0 0) w [] :=
  ⟨hh, hb, Gave.nil _ _, rfl, World.grownBy.refl _ _⟩

set_option maxRecDepth 100000 in
set_option maxHeartbeats 4000000 in
/-- Feed of nil. -/
theorem feed_none (b : Nat) (h : List Int) (br : Bool) (T : TypeId) (w : World) (hb : w.heap[b]? = some (.cells (spl h br) T (0, 0))) (hh : Held h) :
    Calls Tryz.prog 139 #[.pointer (some ⟨b, 0, none⟩), .slice none 0 0] w fun e w' => e = .returned (.tuple #[.slice none 0 0, .int .i64 (if br = true then 1 else 0)]) ∧ w' = w := by
  have hl := hh.len
  have c1 : w.cell? ⟨b, 261, none⟩ = some (.bool br) := by rw [cell_of_row _ _ _ _ _ _ hb]; exact spl_broken _ _ (by omega)
  clear hb hh hl
  go_enter Tryz.func139, Tryz.ntmps139
  go_wp2
  go_loopw [6, 11] (fun v i wr => v = .slice none 0 0 ∧ i = .int .i64 0 ∧ wr = w) (fun _ _ _ => 0)
  case atStart => exact ⟨rfl, rfl, rfl⟩
  case round =>
    obtain ⟨rfl, rfl, rfl⟩ := hrel
    cases br with
    | true =>
      go_wp2
      go_ret2
      exact ⟨rfl, rfl⟩
    | false =>
      go_wp2
      go_ret2
      exact ⟨rfl, rfl⟩

set_option maxHeartbeats 400000 in
theorem rfeed_none (b : Nat) (h : List Int) (br : Bool) (T : TypeId) (w : World) (hb : w.heap[b]? = some (.cells (spl h br) T (0, 0))) (hh : Held h) :
    Calls Tryz.prog 82 #[.pointer (some ⟨b, 0, none⟩), .slice none 0 0] w fun e w' => FeedPost w b T (feedF ([], h, br) []) e w' := by
  have HP : Hid (FeedPost w b T (feedF ([], h, br) []) (.returned (.tuple #[.slice none 0 0, .int .i64 (if br = true then 1 else 0)])) w) := ⟨_, [], rfl, feedAt_none hb hh⟩
  have HB := hide hb
  have HH := hide hh
  clear hb hh
  go_enter Tryz.func82, Tryz.ntmps82
  go_wp2_with fail
  refine (feed_none b h br T w (unhide HB) (unhide HH)).mono ?_
  rintro e w' ⟨rfl, rfl⟩
  generalize (if br = true then (1 : Int) else 0) = n at *
  go_wp2
  go_ret2
  exact unhide HP
end Go.Proofs.YtfekelmldebplaaGreatDoor
