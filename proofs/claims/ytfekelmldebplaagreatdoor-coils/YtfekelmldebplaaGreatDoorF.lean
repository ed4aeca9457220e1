import Derived.Test.YtfekelmldebplaaGreatDoorD
import Derived.Deep.QuietTactic
import Derived.BigQuiet
import Derived.Deep.RegionWith
namespace Go.Proofs.YtfekelmldebplaaGreatDoor
open Go.RowKit

/-! ### The splitter's cells -/
def splL (h : List Int) (br : Bool) : List Value := h.map (Value.int .u8) ++ List.replicate (260 - h.length) (Value.int .u8 0) ++ [.int .i64 h.length, .bool br]
def spl (h : List Int) (br : Bool) : Array Value := (splL h br).toArray

theorem splL_len (h : List Int) (br : Bool) (hl : h.length ≤ 260) : (splL h br).length = 262 := by simp [splL]; omega
theorem spl_size (h : List Int) (br : Bool) (hl : h.length ≤ 260) : (spl h br).size = 262 := by simp [spl, splL_len h br hl]
theorem spl_held (h : List Int) (br : Bool) (hl : h.length ≤ 260) (i : Nat) (hi : i < 260) : (spl h br)[i]? = some (.int .u8 (h.getD i 0)) := by
  simp only [spl, List.getElem?_toArray, splL]
  rw [List.getElem?_append_left (by simp; omega)]
  by_cases hj : i < h.length
  · rw [List.getElem?_append_left (by simpa using hj)]
    simp [List.getD, List.getElem?_eq_getElem hj]
  · rw [List.getElem?_append_right (by simpa using hj)]
    simp [List.getElem?_replicate, List.getD, List.getElem?_eq_none (Nat.le_of_not_lt hj)]
    omega
theorem spl_count (h : List Int) (br : Bool) (hl : h.length ≤ 260) : (spl h br)[260]? = some (.int .i64 h.length) := by
  simp only [spl, List.getElem?_toArray, splL]
  rw [List.getElem?_append_right (by simp; omega)]
  simp
  rw [show 260 - (h.length + (260 - h.length)) = 0 by omega]
  rfl
theorem spl_broken (h : List Int) (br : Bool) (hl : h.length ≤ 260) : (spl h br)[261]? = some (.bool br) := by
  simp only [spl, List.getElem?_toArray, splL]
  rw [List.getElem?_append_right (by simp; omega)]
  simp
  rw [show 261 - (h.length + (260 - h.length)) = 1 by omega]
  rfl
theorem spl_all (h : List Int) (br : Bool) : (spl h br).all (·.oneCell') = true := by
  rw [Array.all_eq_true_iff_forall_mem]
  intro v hv
  simp only [spl, List.mem_toArray, splL, List.mem_append, List.mem_map, List.mem_replicate, List.mem_cons, List.not_mem_nil, or_false] at hv
  rcases hv with (⟨_, _, rfl⟩ | ⟨_, rfl⟩) | rfl | rfl <;> rfl
theorem spl_push (h : List Int) (br : Bool) (hl : h.length < 260) (x : Int) :
    ((spl h br).setIfInBounds h.length (.int .u8 x)).setIfInBounds 260 (.int .i64 ((h.length : Int) + 1)) = spl (h ++ [x]) br := by
  apply Array.ext'
  simp only [spl, splL, Array.toList_setIfInBounds]
  rw [List.append_assoc, List.set_append_right _ _ (by simp)]
  rw [show 260 - h.length = (260 - (h ++ [x]).length) + 1 by simp; omega, List.replicate_succ]
  simp only [List.length_map, Nat.sub_self, List.cons_append, List.set_cons_zero]
  rw [List.set_append_right _ _ (by simp; omega)]
  rw [show 260 - (List.map (Value.int IntKind.u8) h).length = (260 - (h ++ [x]).length) + 1 by simp; omega, List.set_cons_succ, List.set_append_right _ _ (by simp)]
  simp

theorem built_broken : (Tryz.prog.built 179 [(2, .bool true)]).getD #[] = spl [] true := by kernel_rfl
theorem built_fresh : (Tryz.prog.built 179 []).getD #[] = spl [] false := by kernel_rfl
theorem built_fresh71 : (Tryz.prog.built 181 []).getD #[] = spl [] false := by kernel_rfl
theorem built_some : (Tryz.prog.built 179 [(2, .bool true)]).isSome = true := by kernel_rfl
theorem built_some0 : (Tryz.prog.built 179 []).isSome = true := by kernel_rfl
theorem info69 : (Tryz.prog.info? 179).map (·.size) = some 262 := by kernel_rfl

/-- Can what is held still begin a frame when x stands behind it? -/
def fitsL (h : List Int) (x : Int) : Bool :=
  if h.length = 2 ∨ h.length = 3 then decide (x = 0) else if h.length = 4 then decide (256 * x ≤ 254) else if h.length = 5 then inB 2 (256 * h.getD 4 0 + x) 254 else true

set_option maxHeartbeats 800000 in
theorem fits_any (b : Nat) (h : List Int) (br : Bool) (T : TypeId) (x : Int) (w : World) (hb : w.heap[b]? = some (.cells (spl h br) T (0, 0))) (hl : h.length ≤ 260) (hx : Bys h) (x0 : 0 ≤ x) (x1 : x < 256) :
    Calls Tryz.prog 198 #[.pointer (some ⟨b, 0, none⟩), .int .u8 x] w fun e w' => e = .returned (.bool (fitsL h x)) ∧ w' = w := by
  have hc : w.cell? ⟨b, 260, none⟩ = some (.int .i64 h.length) := by rw [cell_of_row _ _ _ _ _ _ hb]; exact spl_count h br hl
  have h4 : w.cell? ⟨b, 4, none⟩ = some (.int .u8 (h.getD 4 0)) := by rw [cell_of_row _ _ _ _ _ _ hb]; exact spl_held h br hl 4 (by omega)
  have b4 := hx.at 4
  have HF : Hid (fitsL h x = if h.length = 2 ∨ h.length = 3 then decide (x = 0) else if h.length = 4 then decide (256 * x ≤ 254) else if h.length = 5 then inB 2 (256 * h.getD 4 0 + x) 254 else true) := rfl
  generalize h.getD 4 0 = y at *
  generalize h.length = n at *
  clear hb hx
  by_cases e2 : n = 2
  · subst e2
    go_enter Tryz.func198, Tryz.ntmps198
    go_wp2
    go_ret
    exact ⟨ret_bool (by rw [unhide HF]; rw [Bool.eq_iff_iff]; simp), rfl⟩
  by_cases e3 : n = 3
  · subst e3
    go_enter Tryz.func198, Tryz.ntmps198
    go_wp2
    go_ret
    exact ⟨ret_bool (by rw [unhide HF]; rw [Bool.eq_iff_iff]; simp), rfl⟩
  by_cases e4 : n = 4
  · subst e4
    go_enter Tryz.func198, Tryz.ntmps198
    go_wp2_with (go_at_call 199; refine (fword_any _ _ _ (by omega) (by omega) (by omega) (by omega)).mono ?_; rintro e w ⟨rfl, rfl⟩)
    go_ret
    exact ⟨ret_bool (by rw [unhide HF]; simp), rfl⟩
  by_cases e5 : n = 5
  · subst e5
    go_enter Tryz.func198, Tryz.ntmps198
    go_wp2_with (first
      | (go_at_call 199; refine (fword_any _ _ _ (by omega) (by omega) (by omega) (by omega)).mono ?_; rintro e w ⟨rfl, rfl⟩)
      | (go_at_call 137; refine (within_any _ _ _ _).mono ?_; rintro e w ⟨rfl, rfl⟩))
    go_ret
    exact ⟨ret_bool (by rw [unhide HF]; simp), rfl⟩
  have k2 : ((n : Int) == 2) = false := by simp; omega
  have k3 : ((n : Int) == 3) = false := by simp; omega
  have k4 : ((n : Int) == 4) = false := by simp; omega
  have k5 : ((n : Int) == 5) = false := by simp; omega
  have HG : Hid (fitsL h x = true) := by rw [unhide HF]; simp [e2, e3, e4, e5]; exact trivial
  clear e2 e3 e4 e5
  go_enter Tryz.func198, Tryz.ntmps198
  go_wp2
  go_ret
  exact ⟨ret_bool (by rw [unhide HG]), rfl⟩
end Go.Proofs.YtfekelmldebplaaGreatDoor

namespace Go.Proofs.YtfekelmldebplaaGreatDoor
open Go.RowKit

theorem info69s (h : List Int) (br : Bool) (hl : h.length ≤ 260) : (Tryz.prog.info? 179).map (·.size) = some (spl h br).size := by rw [spl_size h br hl]; exact info69
theorem spl_sizes (h h' : List Int) (br br' : Bool) (hl : h.length ≤ 260) (hl' : h'.length ≤ 260) : (spl h br).size = (spl h' br').size := by rw [spl_size h br hl, spl_size h' br' hl']

theorem build_bad {ops : Array Oper} {rest : List Oper} {o : Oper} {a : Act} {w : World} {Q : Exit → Act → World → Prop} (hg : o.guard = none) (ho : o.op = .build 179 #[(2, .const (.bool true))])
    (h : wpList Tryz.prog ops Q rest (a.put o.dst (.agg (spl [] true))) w) : wpList Tryz.prog ops Q (o :: rest) a w := by
  have e : ((#[(2, Operand.const (.bool true))] : Array (Nat × Operand)).map (fun (i, x) => (i, a.eval x))).toList = [(2, .bool true)] := by simp [Act.eval]
  refine wpList_build hg 179 _ ho ?_ ?_
  · rw [e]; exact built_some
  · rw [e, built_broken]; exact h
theorem build_fresh {ops : Array Oper} {rest : List Oper} {o : Oper} {a : Act} {w : World} {Q : Exit → Act → World → Prop} (hg : o.guard = none) (ho : o.op = .build 179 #[])
    (h : wpList Tryz.prog ops Q rest (a.put o.dst (.agg (spl [] false))) w) : wpList Tryz.prog ops Q (o :: rest) a w := by
  have e : ((#[] : Array (Nat × Operand)).map (fun (i, x) => (i, a.eval x))).toList = [] := by simp
  refine wpList_build hg 179 _ ho ?_ ?_
  · rw [e]; exact built_some0
  · rw [e, built_fresh]; exact h

set_option maxHeartbeats 800000 in
theorem take_bad (b : Nat) (h : List Int) (br : Bool) (T : TypeId) (x : Int) (w : World) (hb : w.heap[b]? = some (.cells (spl h br) T (0, 0))) (hl : h.length ≤ 260) (hx : Bys h) (x0 : 0 ≤ x) (x1 : x < 256) (hf : fitsL h x = false) :
    Calls Tryz.prog 173 #[.pointer (some ⟨b, 0, none⟩), .int .u8 x] w fun e w' => e = .returned (.tuple #[]) ∧ w' = w.setRow b (spl [] true) := by
  have HB := hide hb
  have HX := hide hx
  have A1 := hide (info69s [] true (by simp))
  have A2 := hide (spl_sizes h [] br true hl (by simp))
  have A3 := hide (spl_all [] true)
  clear hb hx
  go_enter Tryz.func173, Tryz.ntmps173
  go_wp2_with (first
    | (go_at_call 198; refine (fits_any b h br T x _ (unhide HB) hl (unhide HX) x0 x1).mono ?_; rintro e w ⟨rfl, rfl⟩)
    | (refine build_bad rfl rfl ?_)
    | (refine wpList_store_row rfl 179 _ _ rfl b (spl [] true) rfl rfl T (spl h br) (unhide HB) (unhide A1) (unhide A2) (unhide A3) ?_))
  exact bodyPost_ret (v := .tuple #[]) (by simp [results, Tryz.results173, go_sem]) rfl ⟨rfl, rfl⟩

theorem setRow_two (w : World) (b i j : Nat) (C : Array Value) (T : TypeId) (u v : Value) (hb : w.heap[b]? = some (.cells C T (0, 0))) :
    (w.setCell ⟨b, i, none⟩ u).setCell ⟨b, j, none⟩ v = w.setRow b ((C.setIfInBounds i u).setIfInBounds j v) := by
  rw [setCell_eq_setRow w b i C T (0, 0) u hb, setCell_eq_setRow _ b j _ T (0, 0) v (setRow_heap w b C _ T _ hb), setRow_setRow]

set_option maxHeartbeats 800000 in
theorem take_good (b : Nat) (h : List Int) (br : Bool) (T : TypeId) (x : Int) (w : World) (hb : w.heap[b]? = some (.cells (spl h br) T (0, 0))) (hl : h.length < 260) (hx : Bys h) (x0 : 0 ≤ x) (x1 : x < 256) (hf : fitsL h x = true) :
    Calls Tryz.prog 173 #[.pointer (some ⟨b, 0, none⟩), .int .u8 x] w fun e w' => e = .returned (.tuple #[]) ∧ w' = (w.setRow b (spl (h ++ [x]) br)).drew := by
  have hc : w.cell? ⟨b, 260, none⟩ = some (.int .i64 h.length) := by rw [cell_of_row _ _ _ _ _ _ hb]; exact spl_count h br (by omega)
  have hn : w.cell? ⟨b, h.length, none⟩ = some (.int .u8 (h.getD h.length 0)) := by rw [cell_of_row _ _ _ _ _ _ hb]; exact spl_held h br (by omega) _ (by omega)
  have hc2 : ∀ v, (w.setCell ⟨b, h.length, none⟩ v).cell? ⟨b, 260, none⟩ = some (.int .i64 h.length) := fun v => by
    rw [World.cell?_setCell_other _ _ _ _ (fun e => by simp at e <;> omega), hc]
  have hfz : ∀ i, w.frozen? ⟨b, i, none⟩ = false := fun i => frozen_of_row w b i _ T hb
  have HB := hide hb
  have HX := hide hx
  have HS := hide (setRow_two w b h.length 260 (spl h br) T (.int .u8 x) (.int .i64 ((h.length : Int) + 1)) hb)
  have HP := hide (spl_push h br hl x)
  clear hb hx
  have hne : (h.length : Int) < 260 := by omega
  go_enter Tryz.func173, Tryz.ntmps173
  go_wp2_with (first
    | (go_at_call 198; refine (fits_any b h br T x _ (unhide HB) (by omega) (unhide HX) x0 x1).mono ?_; rintro e w ⟨rfl, rfl⟩))
  go_region
  go_wp2
  go_end0
  refine ⟨rfl, ?_⟩
  rw [unhide HS, unhide HP]

/-- Is what is held whole? -/
def wholeL (h : List Int) : Bool := decide (7 ≤ h.length) && decide ((h.length : Int) = 6 + (256 * h.getD 4 0 + h.getD 5 0))

set_option maxHeartbeats 800000 in
theorem isWhole_any (b : Nat) (h : List Int) (br : Bool) (T : TypeId) (w : World) (hb : w.heap[b]? = some (.cells (spl h br) T (0, 0))) (hl : h.length ≤ 260) (hx : Bys h) :
    Calls Tryz.prog 174 #[.pointer (some ⟨b, 0, none⟩)] w fun e w' => e = .returned (.bool (wholeL h)) ∧ ∃ nq, w' = w.drewN nq := by
  have hc : w.cell? ⟨b, 260, none⟩ = some (.int .i64 h.length) := by rw [cell_of_row _ _ _ _ _ _ hb]; exact spl_count h br hl
  have h4 : w.cell? ⟨b, 4, none⟩ = some (.int .u8 (h.getD 4 0)) := by rw [cell_of_row _ _ _ _ _ _ hb]; exact spl_held h br hl 4 (by omega)
  have h5 : w.cell? ⟨b, 5, none⟩ = some (.int .u8 (h.getD 5 0)) := by rw [cell_of_row _ _ _ _ _ _ hb]; exact spl_held h br hl 5 (by omega)
  have b4 := hx.at 4
  have b5 := hx.at 5
  have HF : Hid (wholeL h = (decide (7 ≤ h.length) && decide ((h.length : Int) = 6 + (256 * h.getD 4 0 + h.getD 5 0)))) := rfl
  generalize h.getD 4 0 = y at *
  generalize h.getD 5 0 = z at *
  generalize h.length = n at *
  clear hb hx
  by_cases h7 : 7 ≤ n
  · have h7' : (7 : Int) ≤ n := by omega
    go_enter Tryz.func174, Tryz.ntmps174
    go_wp2_with fail
    go_quiet ((go_at_call 199; exact Calls.quiet_of_same (fword_any _ _ _ (by omega) (by omega) (by omega) (by omega))))
    go_wp2
    go_ret
    exact ⟨ret_bool (by rw [unhide HF, Bool.eq_iff_iff]; simp; omega), _, rfl⟩
  · have h7' : decide ((7 : Int) ≤ n) = false := by simp; omega
    go_enter Tryz.func174, Tryz.ntmps174
    go_wp2_with fail
    go_quiet (fail)
    go_wp2
    go_ret
    exact ⟨ret_bool (by rw [unhide HF, Bool.eq_iff_iff]; simp; omega), _, rfl⟩
end Go.Proofs.YtfekelmldebplaaGreatDoor
