import Derived.Test.YtfekelmldebplaaGreatDoorSf
import Derived.Lib.AppendStr
namespace Go.Proofs.YtfekelmldebplaaGreatDoor
open Go.RowKit

/-- A string's bytes. -/
def sb (s : ByteArray) : List Int := s.data.toList.map fun b => (b.toNat : Int)
theorem sb_len (s : ByteArray) : (sb s).length = s.size := by simp [sb]
theorem sb_bys (s : ByteArray) : Bys (sb s) := fun x hx => by
  obtain ⟨b, _, rfl⟩ := List.mem_map.1 hx
  have := b.toNat_lt
  omega
theorem sb_cells (s : ByteArray) : Lib.strCells s = (sb s).map (Value.int .u8) := by simp [sb, Lib.strCells]
theorem sb_back (s : ByteArray) : strOfNums (sb s) = s := by
  unfold strOfNums sb
  cases s with
  | mk d =>
    congr 1
    apply Array.ext'
    simp [List.map_map, Function.comp_def]

set_option maxHeartbeats 400000 in
theorem lent_nil (w : World) : Calls Tryz.prog 50 #[.string ByteArray.empty, .bool true] w fun e w' => e = .returned (.slice none 0 0) ∧ w' = w := by
  go_enter Tryz.func50, Tryz.ntmps50
  go_wp2
  go_ret
  exact ⟨rfl, rfl⟩

/-- What is lent: bytes, and a spare one behind them. -/
structure Lent (w : World) (B g c : Nat) (s : ByteArray) : Prop where
  own : Owns w B (.slice (some ⟨g, 0, none⟩) (s.size + 1) c) (sb s ++ [77])

theorem lent_end {w w2 w3 : World} {v : Value} {s : ByteArray} {g c : Nat} (hb : Below w.heap.size w w2) (o2 : Owns w2 w.heap.size v (sb s)) (r3 : w3.ownsRow w.heap.size 5 1 (.slice (some ⟨g, 0, none⟩) (s.size + 1) c) (s.size + 1) ((sb s).map (Value.int .u8) ++ [.int .u8 77])) (g3 : (w2.alloc (.cells #[.int .u8 77] 5)).grownBy w3 v.ownBlock) :
    Lent w3 w.heap.size g c s ∧ Below w.heap.size w w3 := by
  refine ⟨⟨?_⟩, ?_⟩
  · unfold Owns
    rw [List.length_append, sb_len, List.map_append]
    exact r3
  · exact (hb.alloc hb.size _).grown g3 (by have := hb.size; simp; omega) (fun k hk => (World.ownsRow.lt o2 k hk).1)

set_option maxRecDepth 100000 in
set_option maxHeartbeats 800000 in
theorem lent_some (s : ByteArray) (nn : Bool) (w : World) (hs : s.size ≤ 1000000000) (h : (s.toList == ([] : List UInt8)) = false ∨ s = ByteArray.empty ∧ nn = false) :
    Calls Tryz.prog 50 #[.string s, .bool nn] w fun e w' => ∃ g c, e = .returned (.slice (some ⟨g, 0, none⟩) s.size c) ∧ Lent w' w.heap.size g c s ∧ Below w.heap.size w w' := by
  obtain ⟨i0, hi, hz0, hz1, hz2⟩ := info_parts info5
  have hl := sb_len s
  have HL := hide hl
  clear hl
  rcases h with h | ⟨rfl, rfl⟩
  all_goals
    go_enter Tryz.func50, Tryz.ntmps50
    go_wp2_with (at_builtin; refine Lib.wpList_append_own_string _ rfl (.tmp 11) (.tmp 12) 37 9 rfl w.heap.size 5 i0 Tryz.underlying37 Tryz.underlying9 hi hz0 hz1 hz2 _ 0 [] rfl (World.ownsRow_nil _ _ _ _) _ rfl (by unfold maxLen; omega) (by omega) (Nat.le_refl _) ?_)
    intro v2 w2 r2 g2 _
    rw [sb_cells] at r2
    have q2 := (Below.refl w.heap.size w).grown g2 (Nat.le_refl _) (fun k e => by cases e)
    have z2 := q2.size
    have R2 := hide r2
    have Q2 := hide q2
    clear g2 q2
    generalize hx : (sb _).map (Value.int .u8) = SV at r2
    have HX := hide hx
    clear hx
    go_wp2_with (at_builtin; refine wpList_append_lies _ rfl (.tmp 14) (.tmp 15) 37 rfl w.heap.size 5 i0 (.int .u8 0) 1 1 Tryz.underlying37 hi hz0 hz1 hz2 rfl (by decide) v2 _ SV rfl (r2.alloc _) ⟨w2.heap.size, 0, none⟩ 1 1 [.int .u8 77] rfl rfl (cells1 _ _) (by simp [Value.oneCell']) (by decide) (by unfold maxLen; omega) (by omega) (by simp; omega) _ rfl ?_)
    intro g3 c3 w3 r3 gr3 _ _
  · have hO : Owns w2 w.heap.size v2 (sb s) := by unfold Owns; rw [unhide HL]; exact unhide R2
    obtain ⟨e1, e2⟩ := lent_end (unhide Q2) hO (by rw [unhide HX]; exact r3) gr3
    have hcap : s.size + 1 ≤ c3 := ownsRow_cap r3
    have E1 := hide e1
    have E2 := hide e2
    clear e1 e2 r3 gr3 r2 hO
    go_wp2
    go_ret
    exact ⟨g3, c3, rfl, unhide E1, unhide E2⟩
  · have hO : Owns w2 w.heap.size (.slice none 0 0) (sb ByteArray.empty) := World.ownsRow_nil _ _ _ _
    obtain ⟨e1, e2⟩ := lent_end (s := ByteArray.empty) (unhide Q2) hO (by rw [unhide HX]; exact r3) gr3
    have hcap : 1 ≤ c3 := ownsRow_cap r3
    have E1 := hide e1
    have E2 := hide e2
    clear e1 e2 r3 gr3 r2 hO
    go_wp2
    go_ret
    exact ⟨g3, c3, rfl, unhide E1, unhide E2⟩

theorem Lent.row {w : World} {B g c : Nat} {s : ByteArray} (h : Lent w B g c s) : ∃ cur, w.heap[g]? = some (.cells cur 5 (0, 0)) ∧ cur.size = c ∧ s.size + 1 ≤ c ∧ cur.toList.take (s.size + 1) = (sb s ++ [77]).map (Value.int .u8) := by
  have hl : (sb s ++ [77]).length = s.size + 1 := by simp [sb_len]
  rcases h.own.2 with ⟨e, _⟩ | ⟨g', c', cur, e, _, hg, h1, _, h3, h4⟩
  · cases e
  · have e' : g = g' ∧ c = c' := by
      simp only [Value.slice.injEq, Option.some.injEq, Addr.mk.injEq] at e
      exact ⟨e.1.1, e.2.2⟩
    obtain ⟨rfl, rfl⟩ := e'
    rw [hl] at h1 h4
    exact ⟨cur, hg, by omega, h1, by simpa using h4⟩

/-- What lies under the lent bytes. -/
theorem Lent.cells {w : World} {B g c : Nat} {s : ByteArray} (h : Lent w B g c s) (i : Nat) (hi : i < s.size + 1) : w.cell? ⟨g, i, none⟩ = some (.int .u8 ((sb s ++ [77]).getD i 0)) := by
  obtain ⟨cur, hg, hc, _, ht⟩ := h.row
  have hl : (sb s ++ [77]).length = s.size + 1 := by simp [sb_len]
  rw [cell_of_row _ _ _ _ _ _ hg, ← Array.getElem?_toList]
  have e : cur.toList[i]? = (cur.toList.take (s.size + 1))[i]? := by rw [List.getElem?_take, if_pos hi]
  rw [e, ht, List.getElem?_map, List.getElem?_eq_getElem (by omega)]
  simp [List.getD, List.getElem?_eq_getElem (show i < (sb s ++ [77]).length by omega)]
theorem Lent.lies {w : World} {B g c : Nat} {s : ByteArray} (h : Lent w B g c s) : Lies w (.slice (some ⟨g, 0, none⟩) s.size c) (sb s) := by
  obtain ⟨cur, hg, _, hcap, _⟩ := h.row
  refine .inr ⟨g, 0, c, by rw [sb_len], by rw [sb_len]; omega, .inr (Array.getElem?_eq_some_iff.1 hg).1, fun i hi => ?_⟩
  rw [sb_len] at hi
  rw [Nat.zero_add, h.cells i (by omega)]
  simp only [List.getD]
  rw [List.getElem?_append_left (by rw [sb_len]; exact hi)]
theorem Lent.spare {w : World} {B g c : Nat} {s : ByteArray} (h : Lent w B g c s) : w.cell? ⟨g, s.size, none⟩ = some (.int .u8 77) := by
  rw [h.cells s.size (by omega)]
  simp [List.getD, ← sb_len s]

theorem grown_setCell {w w' : World} {g : Nat} (h : w.grownBy w' (some g)) (i : Nat) (v : Value) : w.grownBy (w'.setCell ⟨g, i, none⟩ v) (some g) :=
  ⟨h.os, h.tape, h.output, by simp [World.setCell]; exact h.size, fun k hk hne => by
    rw [heap_setCell_other _ _ _ _ (fun e => hne (by rw [e]))]
    exact h.block k hk hne⟩

set_option maxRecDepth 100000 in
set_option maxHeartbeats 800000 in
theorem back_some (s : ByteArray) (g c B : Nat) (w : World) (hs : s.size ≤ 1000000000) (h : Lent w B g c s) :
    Calls Tryz.prog 52 #[.slice (some ⟨g, 0, none⟩) s.size c, .string s] w fun e w' => e = .returned (.bool true) ∧ w.grownBy w' (some g) := by
  have q29 : ∀ (w : World) (a : Option Addr) (n c n' c' : Nat), (binOp .eql 37 (.slice a n c) (.slice none n' c')).run Tryz.prog w = .ok (.bool a.isNone) w := fun w a n c n' c' => Lib.run_eql_slice_nil w _ _ a n c n' c' Tryz.underlying37
  have hcv := conv_lies h.lies
  rw [sb_back] at hcv
  obtain ⟨cur, hg, hcs, hcap, _⟩ := h.row
  have c77 := h.spare
  have HG := hide hg
  clear hg h
  go_enter Tryz.func52, Tryz.ntmps52
  go_wp2
  go_loopw [7] (fun i wr => ∃ k : Nat, k ≤ s.size + 1 ∧ i = .int .i64 k ∧ w.grownBy wr (some g) ∧ ∃ cur', wr.heap[g]? = some (.cells cur' 5 (0, 0)) ∧ cur'.size = c) (fun i _ => s.size + 1 - (intOf i).toNat)
  case atStart => exact ⟨0, by omega, rfl, ⟨rfl, rfl, rfl, Nat.le_refl _, fun _ _ _ => rfl⟩, cur, unhide HG, hcs⟩
  case round =>
    obtain ⟨k, hk, rfl, hgr, cur', hg', hcs'⟩ := hrel
    by_cases hlt : k < s.size + 1
    · have d1 : wr.cell? ⟨g, k, none⟩ = some (cur'[k]'(by omega)) := by rw [cell_of_row _ _ _ _ _ _ hg']; exact Array.getElem?_eq_getElem _
      have d2 : wr.frozen? ⟨g, k, none⟩ = false := frozen_of_row _ _ _ _ _ hg'
      generalize cur'[k]'(by omega) = y at d1
      have HG' := hide hg'
      have HGr := hide hgr
      have hlt' : (k : Int) < (s.size : Int) + 1 := by omega
      clear hg' hgr hcv c77
      go_wp2
      go_roundw
      case rel => exact ⟨k + 1, by omega, by go_num, grown_setCell (unhide HGr) _ _, _, heap_setCell_same wr g k _ 5 _ (unhide HG'), by simpa using hcs'⟩
      case measure => simp [intOf]; omega
    · have hge : ¬ (k : Int) < (s.size : Int) + 1 := by omega
      have HGr := hide hgr
      clear hg' hgr hcv c77
      go_wp2
      go_ret
      exact ⟨rfl, unhide HGr⟩

set_option maxHeartbeats 400000 in
theorem back_nil (w : World) : Calls Tryz.prog 52 #[.slice none 0 0, .string ByteArray.empty] w fun e w' => e = .returned (.bool true) ∧ w' = w := by
  have q29 : ∀ (w : World) (a : Option Addr) (n c n' c' : Nat), (binOp .eql 37 (.slice a n c) (.slice none n' c')).run Tryz.prog w = .ok (.bool a.isNone) w := fun w a n c n' c' => Lib.run_eql_slice_nil w _ _ a n c n' c' Tryz.underlying37
  go_enter Tryz.func52, Tryz.ntmps52
  go_wp2
  go_ret
  exact ⟨rfl, rfl⟩
end Go.Proofs.YtfekelmldebplaaGreatDoor
