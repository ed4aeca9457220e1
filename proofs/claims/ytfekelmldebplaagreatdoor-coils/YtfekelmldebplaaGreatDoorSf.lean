import Derived.Test.YtfekelmldebplaaGreatDoorSd
import Derived.Test.YtfekelmldebplaaGreatDoorSe
namespace Go.Proofs.YtfekelmldebplaaGreatDoor
open Go.RowKit

/-- A record of the book: a list that came out, three others begun at it, its mark. -/
structure Rec where
  v0 : Value
  v1 : Value
  v2 : Value
  v3 : Value
  m : Nat
def Rec.cells (r : Rec) : List Value := [r.v0, r.v1, r.v2, r.v3, .int .i64 r.m]
structure Rec.OkB (w : World) (r : Rec) : Prop where
  h0 : MarkB w r.v0 r.m
  h1 : MarkB w r.v1 r.m
  h2 : MarkB w r.v2 r.m
  h3 : MarkB w r.v3 r.m
  hm : r.m ≤ 1000000000000
structure Rec.OkF (w : World) (r : Rec) : Prop where
  h0 : MarkF w r.v0 r.m
  h1 : MarkF w r.v1 r.m
  h2 : MarkF w r.v2 r.m
  h3 : MarkF w r.v3 r.m
  hm : r.m ≤ 1000000000000

theorem rec_cells (rs : List Rec) (k j : Nat) (hj : j < 5) (d : Rec) (hd : rs[k]? = some d) : (rs.flatMap Rec.cells)[k * 5 + j]? = d.cells[j]? := by
  induction rs generalizing k with
  | nil => simp at hd
  | cons e rs ih =>
    cases k with
    | zero =>
      simp at hd
      subst hd
      simp only [List.flatMap_cons]
      rw [List.getElem?_append_left (by simp [Rec.cells]; omega)]
      simp
    | succ k =>
      simp at hd
      simp only [List.flatMap_cons]
      rw [List.getElem?_append_right (by simp [Rec.cells]; omega)]
      have e1 : (k + 1) * 5 + j - e.cells.length = k * 5 + j := by simp [Rec.cells]; omega
      rw [e1]
      exact ih k hd

theorem rec_at {w : World} {base g cap : Nat} {t : TypeId} {rs : List Rec} {k : Nat} {d : Rec} (h : w.ownsRow base t 5 (.slice (some ⟨g, 0, none⟩) rs.length cap) rs.length (rs.flatMap Rec.cells)) (hd : rs[k]? = some d) (j : Nat) (hj : j < 5) : w.cell? ⟨g, k * 5 + j, none⟩ = d.cells[j]? := by
  have hk : k < rs.length := (List.getElem?_eq_some_iff.1 hd).1
  rw [h.cellAt _ (by omega)]
  exact rec_cells rs k j hj d hd

theorem Rec.OkB.kept {w w' : World} {r : Rec} (h : r.OkB w) (hs : w.heap.size ≤ w'.heap.size) (hk : ∀ v, (v = r.v0 ∨ v = r.v1 ∨ v = r.v2 ∨ v = r.v3) → ∀ k, k < w.heap.size → v.ownBlock = some k → w'.heap[k]? = w.heap[k]?) : r.OkB w' :=
  ⟨h.h0.kept hs (hk _ (by simp)), h.h1.kept hs (hk _ (by simp)), h.h2.kept hs (hk _ (by simp)), h.h3.kept hs (hk _ (by simp)), h.hm⟩
theorem Rec.OkF.kept {w w' : World} {r : Rec} (h : r.OkF w) (hs : w.heap.size ≤ w'.heap.size) (hk : ∀ v, (v = r.v0 ∨ v = r.v1 ∨ v = r.v2 ∨ v = r.v3) → ∀ k, k < w.heap.size → v.ownBlock = some k → w'.heap[k]? = w.heap[k]?) : r.OkF w' :=
  ⟨h.h0.kept hs (hk _ (by simp)), h.h1.kept hs (hk _ (by simp)), h.h2.kept hs (hk _ (by simp)), h.h3.kept hs (hk _ (by simp)), h.hm⟩

/-- The book, where no numbers and no lines have come out. -/
structure BookAt (w : World) (B bw : Nat) (vb vf : Value) (rb rf : List Rec) : Prop where
  c3 : w.cell? ⟨bw, 3, none⟩ = some vb
  c4 : w.cell? ⟨bw, 4, none⟩ = some (.slice none 0 0)
  c5 : w.cell? ⟨bw, 5, none⟩ = some vf
  c6 : w.cell? ⟨bw, 6, none⟩ = some (.slice none 0 0)
  rowB : w.ownsRow B 125 5 vb rb.length (rb.flatMap Rec.cells)
  rowF : w.ownsRow B 130 5 vf rf.length (rf.flatMap Rec.cells)
  okB : ∀ r ∈ rb, r.OkB w
  okF : ∀ r ∈ rf, r.OkF w
theorem BookAt.below {w w' : World} {B bw : Nat} {vb vf : Value} {rb rf : List Rec} (h : BookAt w B bw vb vf rb rf) (hb : Below w.heap.size w w') : BookAt w' B bw vb vf rb rf := by
  have hl : bw < w.heap.size := World.block_lt_of_cell? w _ h.c3
  exact ⟨(hb.cell (by exact hl)).trans h.c3, (hb.cell (by exact hl)).trans h.c4, (hb.cell (by exact hl)).trans h.c5, (hb.cell (by exact hl)).trans h.c6, ownsRow_keep h.rowB fun k _ p _ => hb.block k p, ownsRow_keep h.rowF fun k _ p _ => hb.block k p,
    fun r hr => (h.okB r hr).kept hb.size fun _ _ k p _ => hb.block k p, fun r hr => (h.okF r hr).kept hb.size fun _ _ k p _ => hb.block k p⟩

set_option maxRecDepth 100000 in
set_option maxHeartbeats 2000000 in
theorem looks_any (B bw : Nat) (vb vf : Value) (rb rf : List Rec) (w : World) (h : BookAt w B bw vb vf rb rf) (hb : rb.length ≤ 1000000000) (hf : rf.length ≤ 1000000000) :
    Calls Tryz.prog 41 #[.pointer (some ⟨bw, 3, none⟩)] w fun e w' => e = .returned (.bool true) ∧ Below w.heap.size w w' := by
  obtain ⟨ob, cb, rfl, hob1, hob2⟩ := ownsRow_opt h.rowB
  obtain ⟨of_, cf, rfl, hof1, hof2⟩ := ownsRow_opt h.rowF
  have H := hide h
  have c3 := h.c3
  have c4 := h.c4
  have c5 := h.c5
  have c6 := h.c6
  have HB1 := hide hob1
  have HB2 := hide hob2
  have HF1 := hide hof1
  have HF2 := hide hof2
  have hl : bw < w.heap.size := World.block_lt_of_cell? w _ h.c3
  clear h hob1 hob2 hof1 hof2
  go_enter Tryz.func41, Tryz.ntmps41
  go_wp2
  go_loopw [3, 4] (fun ok i wr => ∃ k : Nat, k ≤ rb.length ∧ ok = .bool true ∧ i = .int .i64 k ∧ Below w.heap.size w wr) (fun _ i _ => rb.length - (intOf i).toNat)
  case atStart => exact ⟨0, Nat.zero_le _, rfl, rfl, Below.refl _ _⟩
  case round =>
    obtain ⟨k, hk, rfl, rfl, hbel⟩ := hrel
    have HBel := hide hbel
    have d3 := (hbel.cell (p := ⟨bw, 3, none⟩) (by exact hl)).trans c3
    have d4 := (hbel.cell (p := ⟨bw, 4, none⟩) (by exact hl)).trans c4
    have d5 := (hbel.cell (p := ⟨bw, 5, none⟩) (by exact hl)).trans c5
    have d6 := (hbel.cell (p := ⟨bw, 6, none⟩) (by exact hl)).trans c6
    by_cases hlt : k < rb.length
    · obtain ⟨x0, rfl⟩ : ∃ x, ob = some x := by
        cases ob with
        | none => have := unhide HB1 rfl; omega
        | some x => exact ⟨x, rfl⟩
      obtain ⟨gb, rfl, hcc⟩ := unhide HB2 x0 rfl
      have hr := List.getElem?_eq_getElem hlt
      generalize rb[k] = r at hr
      have hbk := (unhide H).below hbel
      have hok := hbk.okB r (List.mem_of_getElem? hr)
      have HOk := hide hok
      have e0 := rec_at hbk.rowB hr 0 (by omega)
      have e1 := rec_at hbk.rowB hr 1 (by omega)
      have e2 := rec_at hbk.rowB hr 2 (by omega)
      have e3 := rec_at hbk.rowB hr 3 (by omega)
      have e4 := rec_at hbk.rowB hr 4 (by omega)
      simp only [Rec.cells, List.getElem?_cons_zero, List.getElem?_cons_succ, Nat.add_zero] at e0 e1 e2 e3 e4
      clear hbk hok hbel hr
      go_wp2_with (go_at_call 60; refine (stillB_any _ _ _ _ _ _ (unhide HOk).h0 (unhide HOk).h1 (unhide HOk).h2 (unhide HOk).h3 (unhide HOk).hm).mono ?_; rintro e w1 ⟨rfl, hb1⟩)
      go_roundw
      case rel => exact ⟨k + 1, by omega, rfl, by go_num, bl_trans (unhide HBel) hb1⟩
      case measure => simp [intOf]; omega
    · clear hbel
      go_wp2_with fail
      go_loopw [3, 6] (fun ok i wq => ok = .bool true ∧ i = .int .i64 0 ∧ wq = wr) (fun _ _ _ => 0)
      case atStart => exact ⟨rfl, rfl, rfl⟩
      case round =>
        obtain ⟨rfl, rfl, hwq⟩ := hrel
        subst hwq
        go_wp2_with fail
        rename_i wa
        go_loopw [3, 8] (fun ok i wq => ∃ k : Nat, k ≤ rf.length ∧ ok = .bool true ∧ i = .int .i64 k ∧ Below w.heap.size w wq) (fun _ i _ => rf.length - (intOf i).toNat)
        case atStart => exact ⟨0, Nat.zero_le _, rfl, rfl, unhide HBel⟩
        case round =>
          obtain ⟨k, hk, rfl, rfl, hbel⟩ := hrel
          have HBel3 := hide hbel
          have d3 := (hbel.cell (p := ⟨bw, 3, none⟩) (by exact hl)).trans c3
          have d4 := (hbel.cell (p := ⟨bw, 4, none⟩) (by exact hl)).trans c4
          have d5 := (hbel.cell (p := ⟨bw, 5, none⟩) (by exact hl)).trans c5
          have d6 := (hbel.cell (p := ⟨bw, 6, none⟩) (by exact hl)).trans c6
          by_cases hlt : k < rf.length
          · obtain ⟨x0, rfl⟩ : ∃ x, of_ = some x := by
              cases of_ with
              | none => have := unhide HF1 rfl; omega
              | some x => exact ⟨x, rfl⟩
            obtain ⟨gf, rfl, hcc⟩ := unhide HF2 x0 rfl
            have hr := List.getElem?_eq_getElem hlt
            generalize rf[k] = r at hr
            have hbk := (unhide H).below hbel
            have hok := hbk.okF r (List.mem_of_getElem? hr)
            have HOk := hide hok
            have e0 := rec_at hbk.rowF hr 0 (by omega)
            have e1 := rec_at hbk.rowF hr 1 (by omega)
            have e2 := rec_at hbk.rowF hr 2 (by omega)
            have e3 := rec_at hbk.rowF hr 3 (by omega)
            have e4 := rec_at hbk.rowF hr 4 (by omega)
            simp only [Rec.cells, List.getElem?_cons_zero, List.getElem?_cons_succ, Nat.add_zero] at e0 e1 e2 e3 e4
            clear hbk hok hbel hr
            go_wp2_with (go_at_call 62; refine (stillF_any _ _ _ _ _ _ (unhide HOk).h0 (unhide HOk).h1 (unhide HOk).h2 (unhide HOk).h3 (unhide HOk).hm).mono ?_; rintro e w1 ⟨rfl, hb1⟩)
            go_roundw
            case rel => exact ⟨k + 1, by omega, rfl, by go_num, bl_trans (unhide HBel3) hb1⟩
            case measure => simp [intOf]; omega
          · clear hbel
            go_wp2_with fail
            go_loopw [3, 10] (fun ok i wq => ok = .bool true ∧ i = .int .i64 0 ∧ Below w.heap.size w wq) (fun _ _ _ => 0)
            case atStart => exact ⟨rfl, rfl, unhide HBel3⟩
            case round =>
              obtain ⟨rfl, rfl, hbel⟩ := hrel
              have HBel4 := hide hbel
              have d6 := (hbel.cell (p := ⟨bw, 6, none⟩) (by exact hl)).trans c6
              clear hbel
              go_wp2
              go_ret
              exact ⟨rfl, unhide HBel4⟩
end Go.Proofs.YtfekelmldebplaaGreatDoor
