import Derived.Test.YtfekelmldebplaaGreatDoorTb
import Derived.Test.YtfekelmldebplaaGreatDoorTq
namespace Go.Proofs.YtfekelmldebplaaGreatDoor
open Go.RowKit

set_option maxRecDepth 10000 in
set_option maxHeartbeats 400000 in
theorem isWrong_any (x : Rule) (w : World) : Calls Tryz.prog 113 #[.agg x.cells] w fun e w' => e = .returned (.bool x.bad) ∧ Below w.heap.size w w' := by
  obtain ⟨t, lo, hi, r, ww⟩ := x
  unfold Rule.cells
  have hb : Below w.heap.size w (w.alloc (.cells #[.int .i64 t, .int .i64 lo, .int .i64 hi, .bool r, .bool ww] 52)) := (Below.refl _ _).alloc (Nat.le_refl _) _
  have HB := hide hb
  clear hb
  by_cases h0 : t < 0
  · go_enter Tryz.func113, Tryz.ntmps113
    go_wp2
    go_ret
    exact ⟨ret_bool (by simp [Rule.bad, h0]), unhide HB⟩
  · have h0' : decide (t < 0) = false := by simpa using h0
    by_cases h1 : 4 ≤ t
    · go_enter Tryz.func113, Tryz.ntmps113
      go_wp2
      go_ret
      exact ⟨ret_bool (by simp [Rule.bad, h1]), unhide HB⟩
    · have h1' : decide (4 ≤ t) = false := by simpa using h1
      by_cases h2 : lo < 0
      · go_enter Tryz.func113, Tryz.ntmps113
        go_wp2
        go_ret
        exact ⟨ret_bool (by simp [Rule.bad, h2]), unhide HB⟩
      · have h2' : decide (lo < 0) = false := by simpa using h2
        by_cases h3 : hi < lo
        · go_enter Tryz.func113, Tryz.ntmps113
          go_wp2
          go_ret
          exact ⟨ret_bool (by simp [Rule.bad, h3]), unhide HB⟩
        · have h3' : decide (hi < lo) = false := by simpa using h3
          go_enter Tryz.func113, Tryz.ntmps113
          go_wp2
          go_ret
          exact ⟨ret_bool (by simp [Rule.bad, h0', h1', h2', h3']), unhide HB⟩

theorem ListAt.below {w w' : World} {v : Value} {rs : List Rule} (h : ListAt w v rs) (hb : Below w.heap.size w w') : ListAt w' v rs := by
  obtain ⟨a, c, rfl, h⟩ := h
  exact ⟨a, c, rfl, h.imp id fun ⟨b, o, e, hl, hc⟩ => ⟨b, o, e, Nat.lt_of_lt_of_le hl hb.size, fun i x hx j u hu => (hb.cell (by exact hl)).trans (hc i x hx j u hu)⟩⟩

theorem any_next (p : Rule → Bool) (rs : List Rule) (k : Nat) (x : Rule) (hx : rs[k]? = some x) : (rs.drop k).any p = (p x || (rs.drop (k + 1)).any p) := by
  have hk := (List.getElem?_eq_some_iff.1 hx).1
  have e := (List.getElem?_eq_some_iff.1 hx).2
  rw [List.drop_eq_getElem_cons hk, e]
  simp only [List.any_cons]

set_option maxRecDepth 10000 in
set_option maxHeartbeats 1000000 in
theorem indexWrong_any (v : Value) (rs : List Rule) (w : World) (h : ListAt w v rs) (hn : rs.length ≤ 100000000) :
    Calls Tryz.prog 163 #[v, .func (.func 113) #[] #[]] w fun e w' => ∃ k : Int, e = .returned (.int .i64 k) ∧ decide (0 ≤ k) = rs.any Rule.bad ∧ Below w.heap.size w w' := by
  obtain ⟨a, c, rfl, hl⟩ := h
  have HL := hide hl
  clear hl
  go_enter Tryz.func163, Tryz.ntmps163
  go_wp2
  go_loopw [8] (fun i wr => ∃ k : Nat, k ≤ rs.length ∧ i = .int .i64 k ∧ Hid (rs.any Rule.bad = (rs.drop k).any Rule.bad) ∧ Below w.heap.size w wr) (fun i _ => rs.length - (intOf i).toNat)
  case atStart => exact ⟨0, by omega, rfl, hide rfl, Below.refl _ _⟩
  case round =>
    obtain ⟨k, hk, rfl, HA, hb⟩ := hrel
    by_cases hlt : k < rs.length
    · obtain ⟨x, hx⟩ : ∃ x, rs[k]? = some x := ⟨_, List.getElem?_eq_getElem hlt⟩
      obtain ⟨b, o, rfl, hbl, hc⟩ := (unhide HL).resolve_left (fun e => by rw [e] at hlt; simp at hlt)
      have HC := hide (hc k x hx)
      have HN := hide (any_next Rule.bad rs k x hx)
      have HW := hide (isWrong_any x wr)
      clear hc hx
      obtain ⟨t, lo, hi, rr, ww⟩ := x
      unfold Rule.cells at HC HW
      have g0 := (hb.cell (by exact hbl)).trans (unhide HC 0 _ rfl)
      have g1 := (hb.cell (by exact hbl)).trans (unhide HC 1 _ rfl)
      have g2 := (hb.cell (by exact hbl)).trans (unhide HC 2 _ rfl)
      have g3 := (hb.cell (by exact hbl)).trans (unhide HC 3 _ rfl)
      have g4 := (hb.cell (by exact hbl)).trans (unhide HC 4 _ rfl)
      rw [Nat.add_zero] at g0
      go_wp2_with fail
      refine (unhide HW).mono ?_
      rintro e w2 ⟨rfl, hb2⟩
      clear g0 g1 g2 g3 g4
      generalize hbad : (⟨t, lo, hi, rr, ww⟩ : Rule).bad = bad at HN
      clear hbad
      cases bad with
      | true =>
        go_wp2
        go_ret
        refine ⟨(k : Int), rfl, ?_, bl_trans hb hb2⟩
        rw [unhide HA, unhide HN]
        simp
      | false =>
        go_wp2
        go_roundw
        case rel =>
          refine ⟨k + 1, by omega, by go_num, ?_, bl_trans hb hb2⟩
          show _ = _
          rw [unhide HA, unhide HN]
          simp
        case measure => simp [intOf]; omega
    · obtain rfl : k = rs.length := by omega
      go_wp2
      go_ret
      refine ⟨-1, rfl, ?_, hb⟩
      rw [unhide HA]
      simp

set_option maxRecDepth 10000 in
set_option maxHeartbeats 1000000 in
theorem containsWrong_any (v : Value) (rs : List Rule) (w : World) (h : ListAt w v rs) (hn : rs.length ≤ 100000000) :
    Calls Tryz.prog 112 #[v, .func (.func 113) #[] #[]] w fun e w' => e = .returned (.bool (rs.any Rule.bad)) ∧ Below w.heap.size w w' := by
  have HI := hide (indexWrong_any v rs w h hn)
  clear h
  go_enter Tryz.func112, Tryz.ntmps112
  go_wp2_with fail
  refine (unhide HI).mono ?_
  rintro e w2 ⟨k, rfl, hk, hb⟩
  have HK := hide hk
  clear hk HI
  go_wp2
  go_ret
  exact ⟨ret_bool (unhide HK), hb⟩
end Go.Proofs.YtfekelmldebplaaGreatDoor
