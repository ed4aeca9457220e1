import Derived.Test.YtfekelmldebplaaGreatDoorD
import Derived.Deep.QuietTactic
import Derived.BigQuiet
import Derived.Deep.RegionWith
namespace Go.Proofs.YtfekelmldebplaaGreatDoor
open Go.RowKit

/-! ### The splitter's cells -/
def splL (h : List Int) (br : Bool) : List Value := h.map (Value.int .u8) ++ List.replicate (260 - h.length) (Value.int .u8 0) ++ [.int .i64 h.length, .bool br]
def spl (h : List Int) (br : Bool) : Array Value := (splL h br).toArray

theorem splL_len (h : List Int) (br : Bool) (hl : h.length ≤ 260) : (splL h br).length = 262 := by simp [splL]; omega
theorem spl_size (h : List Int) (br : Bool) (hl : h.length ≤ 260) : (spl h br).size = 262 := by simp [spl, splL_len h br hl]
theorem spl_held (h : List Int) (br : Bool) (hl : h.length ≤ 260) (i : Nat) (hi : i < 260) : (spl h br)[i]? = some (.int .u8 (h.getD i 0)) := by
  simp only [spl, List.getElem?_toArray, splL]
  rw [List.getElem?_append_left (by simp; omega)]
  by_cases hj : i < h.length
  · rw [List.getElem?_append_left (by simpa using hj)]
    simp [List.getD, List.getElem?_eq_getElem hj]
  · rw [List.getElem?_append_right (by simpa using hj)]
    simp [List.getElem?_replicate, List.getD, List.getElem?_eq_none (Nat.le_of_not_lt hj)]
    omega
theorem spl_count (h : List Int) (br : Bool) (hl : h.length ≤ 260) : (spl h br)[260]? = some (.int .i64 h.length) := by
  simp only [spl, List.getElem?_toArray, splL]
  rw [List.getElem?_append_right (by simp; omega)]
  simp
  rw [show 260 - (h.length + (260 - h.length)) = 0 by omega]
  rfl
theorem spl_broken (h : List Int) (br : Bool) (hl : h.length ≤ 260) : (spl h br)[261]? = some (.bool br) := by
  simp only [spl, List.getElem?_toArray, splL]
  rw [List.getElem?_append_right (by simp; omega)]
  simp
  rw [show 261 - (h.length + (260 - h.length)) = 1 by omega]
  rfl
theorem spl_all (h : List Int) (br : Bool) : (spl h br).all (·.oneCell') = true := by
  rw [Array.all_eq_true_iff_forall_mem]
  intro v hv
  simp only [spl, List.mem_toArray, splL, List.mem_append, List.mem_map, List.mem_replicate, List.mem_cons, List.not_mem_nil, or_false] at hv
  rcases hv with (⟨_, _, rfl⟩ | ⟨_, rfl⟩) | rfl | rfl <;> rfl
theorem spl_push (h : List Int) (br : Bool) (hl : h.length < 260) (x : Int) :
    ((spl h br).setIfInBounds h.length (.int .u8 x)).setIfInBounds 260 (.int .i64 ((h.length : Int) + 1)) = spl (h ++ [x]) br := by
  apply Array.ext'
  simp only [spl, splL, Array.toList_setIfInBounds]
  rw [List.append_assoc, List.set_append_right _ _ (by simp)]
  rw [show 260 - h.length = (260 - (h ++ [x]).length) + 1 by simp; omega, List.replicate_succ]
  simp only [List.length_map, Nat.sub_self, List.cons_append, List.set_cons_zero]
  rw [List.set_append_right _ _ (by simp; omega)]
  rw [show 260 - (List.map (Value.int IntKind.u8) h).length = (260 - (h ++ [x]).length) + 1 by simp; omega, List.set_cons_succ, List.set_append_right _ _ (by simp)]
  simp

theorem built_broken : (Tryz.prog.built 179 [(2, .bool true)]).getD #[] = spl [] true := by kernel_rfl
theorem built_fresh : (Tryz.prog.built 179 []).getD #[] = spl [] false := by kernel_rfl
theorem built_fresh71 : (Tryz.prog.built 181 []).getD #[] = spl [] false := by kernel_rfl
theorem built_some : (Tryz.prog.built 179 [(2, .bool true)]).isSome = true := by kernel_rfl
theorem built_some0 : (Tryz.prog.built 179 []).isSome = true := by kernel_rfl
theorem info69 : (Tryz.prog.info? 179).map (·.size) = some 262 := by kernel_rfl

/-- Can what is held still begin a frame when x stands behind it? -/
def fitsL (h : List Int) (x : Int) : Bool :=
  if h.length = 2 ∨ h.length = 3 then decide (x = 0) else if h.length = 4 then decide (256 * x ≤ 254) else if h.length = 5 then inB 2 (256 * h.getD 4 0 + x) 254 else true

set_option maxHeartbeats 800000 in
theorem fits_any (b : Nat) (h : List Int) (br : Bool) (T : TypeId) (x : Int) (w : World) (hb : w.heap[b]? = some (.cells (spl h br) T (0, 0))) (hl : h.length ≤ 260) (hx : Bys h) (x0 : 0 ≤ x) (x1 : x < 256) :
    Calls Tryz.prog 198 #[.pointer (some ⟨b, 0, none⟩), .int .u8 x] w fun e w' => e = .returned (.bool (fitsL h x)) ∧ w' = w := by
  have hc : w.cell? ⟨b, 260, none⟩ = some (.int .i64 h.length) := by rw [cell_of_row _ _ _ _ _ _ hb]; exact spl_count h br hl
  have h4 : w.cell? ⟨b, 4, none⟩ = some (.int .u8 (h.getD 4 0)) := by rw [cell_of_row _ _ _ _ _ _ hb]; exact spl_held h br hl 4 (by omega)
  have b4 := hx.at 4
  have HF : Hid (fitsL h x = if h.length = 2 ∨ h.length = 3 then decide (x = 0) else if h.length = 4 then decide (256 * x ≤ 254) else if h.length = 5 then inB 2 (256 * h.getD 4 0 + x) 254 else true) := rfl
  generalize h.getD 4 0 = y at *
  generalize h.length = n at *
  clear hb hx
  by_cases e2 : n = 2
  · subst e2
    go_enter Tryz.func198, Tryz.ntmps198
    go_wp2
    go_ret
    exact ⟨ret_bool (by rw [unhide HF]; rw [Bool.eq_iff_iff]; simp), rfl⟩
  by_cases e3 : n = 3
  · subst e3
    go_enter Tryz.func198, Tryz.ntmps198
    go_wp2
    go_ret
    exact ⟨ret_bool (by rw [unhide HF]; rw [Bool.eq_iff_iff]; simp), rfl⟩
  by_cases e4 : n = 4
  · subst e4
    go_enter Tryz.func198, Tryz.ntmps198
    go_wp2_with (go_at_call 199; refine (fword_any _ _ _ (by omega) (by omega) (by omega) (by omega)).mono ?_; rintro e w ⟨rfl, rfl⟩)
    go_ret
    exact ⟨ret_bool (by rw [unhide HF]; simp), rfl⟩
  by_cases e5 : n = 5
  · subst e5
    go_enter Tryz.func198, Tryz.ntmps198
    go_wp2_with (first
      | (go_at_call 199; refine (fword_any _ _ _ (by omega) (by omega) (by omega) (by omega)).mono ?_; rintro e w ⟨rfl, rfl⟩)
      | (go_at_call 137; refine (within_any _ _ _ _).mono ?_; rintro e w ⟨rfl, rfl⟩))
    go_ret
    exact ⟨ret_bool (by rw [unhide HF]; simp), rfl⟩
  have k2 : ((n : Int) == 2) = false := by simp; omega
  have k3 : ((n : Int) == 3) = false := by simp; omega
  have k4 : ((n : Int) == 4) = false := by simp; omega
  have k5 : ((n : Int) == 5) = false := by simp; omega
  have HG : Hid (fitsL h x = true) := by rw [unhide HF]; simp [e2, e3, e4, e5]; exact trivial
  clear e2 e3 e4 e5
  go_enter Tryz.func198, Tryz.ntmps198
  go_wp2
  go_ret
  exact ⟨ret_bool (by rw [unhide HG]), rfl⟩
end Go.Proofs.YtfekelmldebplaaGreatDoor
