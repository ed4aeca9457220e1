import Derived.Test.YtfekelmldebplaaGreatDoorSs
import Derived.Laws.Strings
namespace Go.Proofs.YtfekelmldebplaaGreatDoor
open Go.RowKit

theorem lies_slice {w : World} {v : Value} {xs : List Int} (h : Lies w v xs) : ∃ a c, v = .slice a xs.length c := by
  rcases h with ⟨a, c, rfl, rfl⟩ | ⟨b, o, c, rfl, _⟩
  · exact ⟨a, c, rfl⟩
  · exact ⟨_, c, rfl⟩

set_option maxRecDepth 100000 in
set_option maxHeartbeats 1600000 in
theorem rframe_err (mark unit : Int) (a : Option Addr) (n c : Nat) (w : World) (hn : n ≤ 140737488355328) (h : frameOk mark unit n = false) :
    Calls Tryz.prog 53 #[.int .i64 mark, .int .i64 unit, .slice a n c] w fun e w' => e = .returned (.tuple #[.slice none 0 0, .int .i64 1]) ∧ w' = w := by
  have k : ¬ ((0 ≤ mark ∧ mark ≤ 65535) ∧ (0 ≤ unit ∧ unit ≤ 255) ∧ 1 ≤ n ∧ n ≤ 253) := fun e => by rw [frameOk_iff.2 e] at h; cases h
  clear h
  go_enter Tryz.func53, Tryz.ntmps53
  by_cases m0 : mark < 0
  · go_wp2
    go_ret2
    exact ⟨rfl, rfl⟩
  · by_cases m1 : 65535 < mark
    · go_wp2
      go_ret2
      exact ⟨rfl, rfl⟩
    · by_cases u0 : unit < 0
      · go_wp2
        go_ret2
        exact ⟨rfl, rfl⟩
      · by_cases u1 : 255 < unit
        · go_wp2
          go_ret2
          exact ⟨rfl, rfl⟩
        · by_cases l0 : (n : Int) < 1
          · go_wp2
            go_ret2
            exact ⟨rfl, rfl⟩
          · have l1 : (253 : Int) < n := by omega
            clear k
            go_wp2
            go_ret2
            exact ⟨rfl, rfl⟩

/-- What both Frames answer. -/
def FrRes (mark unit : Int) (xs : List Int) (w : World) (e : Ending) (w' : World) : Prop :=
  ∃ v' k, e = .returned (.tuple #[v', .int .i64 k]) ∧ Below w.heap.size w w' ∧ k = (if frameOk mark unit xs.length = true then 0 else 1) ∧ Owns w' w.heap.size v' (if frameOk mark unit xs.length = true then frameL mark unit xs else []) ∧ (frameOk mark unit xs.length = false → v' = .slice none 0 0)

theorem frame_all (mark unit : Int) (v : Value) (xs : List Int) (w : World) (h : Lies w v xs) (hl : xs.length ≤ 1000000000) : Calls Tryz.prog 51 #[.int .i64 mark, .int .i64 unit, v] w fun e w' => FrRes mark unit xs w e w' := by
  by_cases hk : frameOk mark unit xs.length = true
  · have q := frameOk_iff.1 hk
    refine (frame_any mark unit v xs w q.1.1 q.1.2 q.2.1.1 q.2.1.2 h q.2.2.1 q.2.2.2).mono ?_
    rintro e w' ⟨v', rfl, ho, hb⟩
    exact ⟨v', 0, rfl, hb, by rw [if_pos hk], by rw [if_pos hk]; exact ho, fun e => by rw [hk] at e; cases e⟩
  · obtain ⟨a, c, rfl⟩ := lies_slice h
    refine (frame_err mark unit a xs.length c w (by omega) (by simpa using hk)).mono ?_
    rintro e w' ⟨rfl, rfl⟩
    exact ⟨_, 1, rfl, Below.refl _ _, by rw [if_neg hk], by rw [if_neg hk]; exact World.ownsRow_nil _ _ _ _, fun _ => rfl⟩
theorem rframe_all (mark unit : Int) (v : Value) (xs : List Int) (w : World) (h : Lies w v xs) (hl : xs.length ≤ 1000000000) : Calls Tryz.prog 53 #[.int .i64 mark, .int .i64 unit, v] w fun e w' => FrRes mark unit xs w e w' := by
  by_cases hk : frameOk mark unit xs.length = true
  · have q := frameOk_iff.1 hk
    refine (rframe_any mark unit v xs w q.1.1 q.1.2 q.2.1.1 q.2.1.2 h q.2.2.1 q.2.2.2).mono ?_
    rintro e w' ⟨v', rfl, ho, hb⟩
    exact ⟨v', 0, rfl, hb, by rw [if_pos hk], by rw [if_pos hk]; exact ho, fun e => by rw [hk] at e; cases e⟩
  · obtain ⟨a, c, rfl⟩ := lies_slice h
    refine (rframe_err mark unit a xs.length c w (by omega) (by simpa using hk)).mono ?_
    rintro e w' ⟨rfl, rfl⟩
    exact ⟨_, 1, rfl, Below.refl _ _, by rw [if_neg hk], by rw [if_neg hk]; exact World.ownsRow_nil _ _ _ _, fun _ => rfl⟩

/-- What was lent, where it stands as it was: nil, or bytes with a spare one. -/
def LentV (w : World) (B : Nat) (v : Value) (s : ByteArray) : Prop := (v = .slice none 0 0 ∧ s = ByteArray.empty) ∨ ∃ g c, v = .slice (some ⟨g, 0, none⟩) s.size c ∧ Lent w B g c s
theorem LentV.lies {w : World} {B : Nat} {v : Value} {s : ByteArray} (h : LentV w B v s) : Lies w v (sb s) := by
  rcases h with ⟨rfl, rfl⟩ | ⟨g, c, rfl, h⟩
  · exact .inl ⟨_, _, rfl, rfl⟩
  · exact h.lies
theorem lent_all (s : ByteArray) (nn : Bool) (w : World) (hs : s.size ≤ 1000000000) : Calls Tryz.prog 50 #[.string s, .bool nn] w fun e w' => ∃ v, e = .returned v ∧ LentV w' w.heap.size v s ∧ Below w.heap.size w w' := by
  by_cases hc : s = ByteArray.empty ∧ nn = true
  · obtain ⟨rfl, rfl⟩ := hc
    refine (lent_nil w).mono ?_
    rintro e w' ⟨rfl, rfl⟩
    exact ⟨_, rfl, .inl ⟨rfl, rfl⟩, Below.refl _ _⟩
  · refine (lent_some s nn w hs ?_).mono ?_
    · by_cases e : s = ByteArray.empty
      · right
        refine ⟨e, ?_⟩
        cases nn with
        | true => exact absurd ⟨e, rfl⟩ hc
        | false => rfl
      · left
        rw [Bool.eq_false_iff]
        intro q
        have q' : s.toList = [] := by simpa using q
        rw [ByteArray.toList_eq] at q'
        apply e
        obtain ⟨⟨d⟩⟩ := s
        simp at q'
        subst q'
        rfl
    · rintro e w' ⟨g, c, rfl, h, hb⟩
      exact ⟨_, rfl, .inr ⟨g, c, rfl, h⟩, hb⟩
theorem back_all (s : ByteArray) (v : Value) (B : Nat) (w : World) (hs : s.size ≤ 1000000000) (h : LentV w B v s) : Calls Tryz.prog 52 #[v, .string s] w fun e w' => e = .returned (.bool true) ∧ w.grownBy w' v.ownBlock := by
  rcases h with ⟨rfl, rfl⟩ | ⟨g, c, rfl, h⟩
  · refine (back_nil w).mono ?_
    rintro e w' ⟨rfl, rfl⟩
    exact ⟨rfl, World.grownBy.refl _ _⟩
  · exact back_some s g c B w hs h
end Go.Proofs.YtfekelmldebplaaGreatDoor
