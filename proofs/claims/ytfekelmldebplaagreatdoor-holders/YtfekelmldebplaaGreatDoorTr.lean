import Derived.Test.YtfekelmldebplaaGreatDoorKa
import Derived.Test.YtfekelmldebplaaGreatDoorTq
namespace Go.Proofs.YtfekelmldebplaaGreatDoor
open Go.RowKit

set_option maxRecDepth 10000 in
set_option maxHeartbeats 1000000 in
theorem wordy_lies (a : Option Addr) (c : Nat) (xs : List Int) (w : World) (h : xs = [] ∨ ∃ b o, a = some ⟨b, o, none⟩ ∧ b < w.heap.size ∧ ∀ i, i < xs.length → w.cell? ⟨b, o + i, none⟩ = some (.int .i64 (xs.getD i 0))) (hx : ∀ x ∈ xs, 0 ≤ x ∧ x ≤ 65535) (hn : xs.length ≤ 1000) :
    Calls Tryz.prog 22 #[.slice a xs.length c] w fun e w' => ∃ v', e = .returned v' ∧ Owns w' w.heap.size v' (wordsL xs) ∧ Below w.heap.size w w' := by
  obtain ⟨i0, hi, hz0, hz1, hz2⟩ := info_parts info5
  have H := hide h
  have HX := hide hx
  clear h hx
  go_enter Tryz.func22, Tryz.ntmps22
  go_wp2
  go_loopw [3, 4] (fun v i wr => ∃ k : Nat, k ≤ xs.length ∧ i = .int .i64 k ∧ Hid (Owns wr w.heap.size v (wordsL (xs.take k))) ∧ Below w.heap.size w wr) (fun v i _ => xs.length - (intOf i).toNat)
  case atStart => exact ⟨0, by omega, rfl, World.ownsRow_nil _ _ _ _, Below.refl _ _⟩
  case round =>
    obtain ⟨k, hk, rfl, HO, hb⟩ := hrel
    have hz := hb.size
    by_cases hlt : k < xs.length
    · obtain ⟨g, o, rfl, hgl, hgc⟩ := (unhide H).resolve_left (fun e => by rw [e] at hlt; simp at hlt)
      have ck := (hb.cell (by exact hgl)).trans (hgc k hlt)
      clear hgc
      have hy := unhide HX (xs.getD k 0) (by simp [List.getD, List.getElem?_eq_getElem hlt])
      have HN : Hid (wordsL (xs.take (k + 1)) = wordsL (xs.take k) ++ wd (xs.getD k 0)) := by
        show _ = _
        unfold wordsL
        rw [List.take_add_one, List.getElem?_eq_getElem hlt, Option.toList_some, List.flatMap_append]
        simp only [List.flatMap_cons, List.flatMap_nil, List.append_nil, List.getD, List.getElem?_eq_getElem hlt, Option.getD_some]
      have hwl := wordsL_len (xs.take k)
      rw [List.length_take, show min k xs.length = k by omega] at hwl
      generalize xs.getD k 0 = y at ck hy HN
      obtain ⟨ao, no, co, rfl⟩ := own_shape (unhide HO)
      have HO2 : Hid (wr.ownsRow w.heap.size 5 1 (.slice ao no co) (2 * k) ((wordsL (xs.take k)).map (Value.int .u8))) := by
        have := unhide HO
        unfold Owns at this
        rw [hwl] at this
        exact this
      generalize hXS : (wordsL (xs.take k)).map (Value.int .u8) = XS at HO2
      have HXS := hide hXS
      have HWL := hide hwl
      clear hXS hwl
      go_wp2_with (first
        | (go_at_call 25; refine (word_any _ _ hy.1 hy.2).mono ?_; rintro e w2 ⟨rfl, rfl⟩)
        | (at_builtin; refine append_keep _ rfl (.tmp 11) (.tmp 16) 37 rfl w.heap.size 5 i0 (.int .u8 0) 1 1 Tryz.underlying37 hi hz0 hz1 hz2 rfl (by decide) _ (2 * k) XS rfl (World.ownsRow.alloc (unhide HO2) _) ⟨wr.heap.size, 0, none⟩ 2 2 [.int .u8 (y / 256), .int .u8 (y % 256)] rfl rfl (cellsL _ #[.int .u8 (y / 256), .int .u8 (y % 256)] 5) (by simp [Value.oneCell']) (by decide) (by unfold maxLen; omega) (by omega) (by simp; omega) ?_))
      intro v2 w3 r2 k2
      obtain ⟨a2, n2', c2, rfl⟩ := own_shape r2
      have HR2 := hide r2
      have hb3 : Below w.heap.size w w3 := below_kept (bl_trans hb ((Below.refl _ _).alloc (Nat.le_refl _) _)) (fun j e => (World.ownsRow.lt (unhide HO2) j e).1) k2
      clear r2 k2
      go_wp2
      go_roundw
      case rel =>
        refine ⟨k + 1, by omega, by go_num, ?_, hb3⟩
        show Owns _ _ _ _
        unfold Owns
        rw [unhide HN, List.map_append, unhide HXS, List.length_append, unhide HWL]
        simpa [wd] using unhide HR2
      case measure => simp [intOf]; omega
    · obtain rfl : k = xs.length := by omega
      obtain ⟨ao, no, co, rfl⟩ := own_shape (unhide HO)
      go_wp2
      go_ret
      refine ⟨_, rfl, ?_, hb⟩
      have := unhide HO
      rw [List.take_length] at this
      exact this
end Go.Proofs.YtfekelmldebplaaGreatDoor

namespace Go.Proofs.YtfekelmldebplaaGreatDoor
open Go.RowKit

/-- What 'open' lets its client 0 do. -/
def allRules : List Rule := [⟨0, 0, 65535, true, true⟩, ⟨1, 0, 65535, true, true⟩, ⟨2, 0, 65535, true, true⟩, ⟨3, 0, 65535, true, true⟩]
theorem owns_list {w : World} {B : Nat} {v : Value} {rs : List Rule} (h : w.ownsRow B 52 5 v rs.length (rs.flatMap fun x => x.cells.toList)) : ListAt w v rs := by
  obtain ⟨a, c, rfl, h1, h2⟩ := ownsRow_opt h
  refine ⟨a, c, rfl, ?_⟩
  cases a with
  | none => exact .inl (List.eq_nil_of_length_eq_zero (h1 rfl))
  | some y =>
    obtain ⟨g, rfl, _⟩ := h2 y rfl
    refine .inr ⟨g, 0, rfl, (World.ownsRow.lt h g rfl).2, fun i x hx j u hu => ?_⟩
    have hj : j < 5 := by
      have := (Array.getElem?_eq_some_iff.1 hu).1
      simpa [Rule.cells] using this
    have hil : i < rs.length := (List.getElem?_eq_some_iff.1 hx).1
    have e := rules_get rs i j x hx hj
    rw [hu] at e
    rw [Nat.zero_add, World.ownsRow.cellAt h (i * 5 + j) (by omega)]
    exact e

theorem all_next (k : Nat) (hk : k < 4) : ((allRules.take (k + 1)).flatMap fun x => x.cells.toList) = ((allRules.take k).flatMap fun x => x.cells.toList) ++ [.int .i64 (k : Int), .int .i64 0, .int .i64 65535, .bool true, .bool true] := by
  have hk : k = 0 ∨ k = 1 ∨ k = 2 ∨ k = 3 := by omega
  rcases hk with rfl | rfl | rfl | rfl <;> rfl
theorem all_len (k : Nat) (hk : k ≤ 4) : (allRules.take k).length = k := by
  simp [allRules]; omega

set_option maxRecDepth 10000 in
set_option maxHeartbeats 2000000 in
theorem open_with (n0 n1 n2 n3 : Nat) (w : World) (Q : World → Nat → World → Prop)
    (hNew : ∀ W v, Below w.heap.size w W → ListsAt W v [allRules, []] → Calls Tryz.prog 29 #[.agg #[.int .i64 n0, .int .i64 n1, .int .i64 n2, .int .i64 n3, .int .i64 4, v]] W fun e w' => ∃ rb, e = .returned (.tuple #[.pointer (some ⟨rb, 0, none⟩), .int .i64 0]) ∧ Q W rb w') :
    Calls Tryz.prog 17 #[.agg #[.int .i64 n0, .int .i64 n1, .int .i64 n2, .int .i64 n3]] w fun e w' => ∃ rb W, e = .returned (.tuple #[.pointer (some ⟨rb, 0, none⟩), .bool true]) ∧ Below w.heap.size w W ∧ Q W rb w' := by
  obtain ⟨i0, hi, hz0, hz1, hz2⟩ := info_parts info66s
  have HN := hide hNew
  clear hNew
  go_enter Tryz.func17, Tryz.ntmps17
  have HB0 : Hid (Below w.heap.size w (w.alloc (.cells #[.int .i64 n0, .int .i64 n1, .int .i64 n2, .int .i64 n3] 31))) := (Below.refl _ _).alloc (Nat.le_refl _) _
  have R0 : Hid ((w.alloc (.cells #[.int .i64 n0, .int .i64 n1, .int .i64 n2, .int .i64 n3] 31)).heap[w.heap.size]? = some (.cells #[.int .i64 n0, .int .i64 n1, .int .i64 n2, .int .i64 n3] 31 (0, 0))) := heap_alloc_new w _
  have hz : (w.alloc (.cells #[.int .i64 n0, .int .i64 n1, .int .i64 n2, .int .i64 n3] 31)).heap.size = w.heap.size + 1 := by simp
  have HZ := hide hz
  clear hz
  go_wp2
  generalize w.alloc (.cells #[.int .i64 n0, .int .i64 n1, .int .i64 n2, .int .i64 n3] 31) = W0 at HB0 R0 HZ ⊢
  go_loopw [4, 5] (fun v i wr => ∃ k : Nat, k ≤ 4 ∧ i = .int .i64 k ∧ Hid (wr.ownsRow (w.heap.size + 1) 52 5 v k ((allRules.take k).flatMap fun x => x.cells.toList)) ∧ Hid (Below W0.heap.size W0 wr)) (fun v i _ => 4 - (intOf i).toNat)
  case atStart => exact ⟨0, by omega, rfl, World.ownsRow_nil _ _ _ _, Below.refl _ _⟩
  case round =>
    obtain ⟨k, hk, rfl, HO, HB⟩ := hrel
    have zr : w.heap.size + 1 ≤ wr.heap.size := by have := (unhide HB).size; have := unhide HZ; omega
    by_cases hlt : k < 4
    · obtain ⟨av, cv, rfl, _, _⟩ := ownsRow_opt (unhide HO)
      have HNx := hide (all_next k hlt)
      generalize hXS : ((allRules.take k).flatMap fun x => x.cells.toList) = XS at HO HNx
      clear hXS
      have hlt' : (k : Int) < 4 := by omega
      go_wp2_with (at_builtin; go_loud (refine append_keep _ rfl (.tmp 12) (.tmp 15) 55 rfl (w.heap.size + 1) 52 i0 (.agg #[.int .i64 0, .int .i64 0, .int .i64 0, .bool false, .bool false]) 5 32 Tryz.underlying55 hi hz0 hz1 hz2 rfl (by decide) _ k XS rfl (World.ownsRow.alloc (unhide HO) _) ⟨wr.heap.size, 0, none⟩ 1 1 [.int .i64 (k : Int), .int .i64 0, .int .i64 65535, .bool true, .bool true] rfl rfl (cellsL _ #[.int .i64 (k : Int), .int .i64 0, .int .i64 65535, .bool true, .bool true] 52) (by simp [Value.oneCell']) (by decide) (by unfold maxLen; omega) (by omega) (by simp; omega) ?_))
      intro v2 w3 r2 k2
      obtain ⟨a2, n2', c2, rfl⟩ := own_shape r2
      have HR2 := hide r2
      have hb3 : Below W0.heap.size W0 w3 := by
        rw [← unhide HZ] at k2
        refine below_kept (bl_trans (unhide HB) ((Below.refl _ _).alloc (Nat.le_refl _) _)) (fun j e => ?_) k2
        rw [unhide HZ]
        exact (World.ownsRow.lt (unhide HO) j e).1
      have HB3 := hide hb3
      clear r2 k2 hb3
      go_wp2
      go_roundw
      case rel =>
        refine ⟨k + 1, by omega, by go_num, ?_, HB3⟩
        show World.ownsRow _ _ _ _ _ _ _
        rw [unhide HNx]
        exact unhide HR2
      case measure => simp [intOf]; omega
    · obtain rfl : k = 4 := by omega
      obtain ⟨av, cv, rfl, _, _⟩ := ownsRow_opt (unhide HO)
      have r0 := ((unhide HB).block w.heap.size (by have := unhide HZ; omega)).trans (unhide R0)
      have q0 := cell_of_row _ _ 0 _ _ _ r0
      have q1 := cell_of_row _ _ 1 _ _ _ r0
      have q2 := cell_of_row _ _ 2 _ _ _ r0
      have q3 := cell_of_row _ _ 3 _ _ _ r0
      simp at q0 q1 q2 q3
      clear r0
      have hbA : Below wr.heap.size wr (wr.alloc (.cells #[.slice av 4 cv, .slice none 0 0] 55)) := (Below.refl _ _).alloc (Nat.le_refl _) _
      have hL0 : ListAt wr (.slice av 4 cv) allRules := owns_list (unhide HO)
      have hL : ListsAt (wr.alloc (.cells #[.slice av 4 cv, .slice none 0 0] 55)) (.slice (some ⟨wr.heap.size, 0, none⟩) 2 2) [allRules, []] := by
        refine ⟨_, _, rfl, .inr ⟨wr.heap.size, 0, rfl, by simp, fun i rs hx => ?_⟩⟩
        have rr := heap_alloc_new wr (.cells #[.slice av 4 cv, .slice none 0 0] 55)
        match i, hx with
        | 0, hx =>
          cases hx
          obtain ⟨a, c, e, hl⟩ := hL0
          refine ⟨.slice av 4 cv, cell_of_row _ _ 0 _ _ _ rr, a, c, e, ?_⟩
          rcases hl with hl | ⟨b, o, e1, hlt, hc⟩
          · exact .inl hl
          · exact .inr ⟨b, o, e1, Nat.lt_of_lt_of_le hlt hbA.size, fun i x hx j u hu => (hbA.cell (by exact hlt)).trans (hc i x hx j u hu)⟩
        | 1, hx =>
          cases hx
          exact ⟨.slice none 0 0, cell_of_row _ _ 1 _ _ _ rr, none, 0, rfl, .inl rfl⟩
      have hbW := bl_trans (bl_trans (unhide HB0) (unhide HB)) hbA
      have HC := hide (unhide HN _ _ hbW hL)
      have HBW := hide hbW
      clear hbA hL0 hL hbW HN
      go_wp2_with fail
      refine (unhide HC).mono ?_
      rintro e w4 ⟨rb, rfl, hq⟩
      have HQ := hide hq
      clear hq HC
      go_wp2
      refine bodyPost_ret (v := .tuple #[.pointer (some ⟨rb, 0, none⟩), .bool true]) (by simp [results, Tryz.results17]) rfl ⟨rb, _, rfl, unhide HBW, unhide HQ⟩
end Go.Proofs.YtfekelmldebplaaGreatDoor
