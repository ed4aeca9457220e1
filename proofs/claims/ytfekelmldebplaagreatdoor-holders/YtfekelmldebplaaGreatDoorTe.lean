import Derived.Test.YtfekelmldebplaaGreatDoorTd
namespace Go.Proofs.YtfekelmldebplaaGreatDoor
open Go.RowKit

/-- What a bank keeps. -/
structure StoreAt (w : World) (B sb tb kb : Nat) (lm : Int) (t0 t1 t2 t3 : Tab) (LL : List (List Rule)) (us : List Value) : Prop where
  row : w.heap[sb]? = some (.cells #[.int .i32 0, .int .u32 0, .slice (some ⟨tb, 0, none⟩) 4 4, .slice (some ⟨kb, 0, none⟩) LL.length LL.length, .int .i64 lm] 143 (0, 0))
  tabs : Tabs w B tb t0 t1 t2 t3
  cl : Clients w B kb LL us
  lo : B ≤ sb

theorem ListsAt.below {w w' : World} {v : Value} {LL : List (List Rule)} (h : ListsAt w v LL) (hb : Below w.heap.size w w') : ListsAt w' v LL := by
  obtain ⟨a, c, rfl, h⟩ := h
  refine ⟨a, c, rfl, ?_⟩
  rcases h with h | ⟨b, o, e, hl, hc⟩
  · exact .inl h
  · refine .inr ⟨b, o, e, Nat.lt_of_lt_of_le hl hb.size, fun i rs hx => ?_⟩
    obtain ⟨u, q1, q2⟩ := hc i rs hx
    exact ⟨u, (hb.cell (by exact hl)).trans q1, q2.below hb⟩
theorem Clients.below {w w' : World} {B kb : Nat} {LL : List (List Rule)} {us : List Value} (h : Clients w B kb LL us) (hb : Below w.heap.size w w') : Clients w' B kb LL us :=
  ⟨(hb.block _ (Array.getElem?_eq_some_iff.1 h.row).1).trans h.row, h.len, h.lo, fun i rs u h1 h2 => (h.at_ i rs u h1 h2).below hb⟩
theorem Clients.weak {w : World} {B B' kb : Nat} {LL : List (List Rule)} {us : List Value} (h : Clients w B kb LL us) (hb : B' ≤ B) : Clients w B' kb LL us :=
  ⟨h.row, h.len, Nat.le_trans hb h.lo, fun i rs u h1 h2 => (h.at_ i rs u h1 h2).weak hb⟩
theorem Tabs.weak {w : World} {B B' tb : Nat} {t0 t1 t2 t3 : Tab} (h : Tabs w B tb t0 t1 t2 t3) (hb : B' ≤ B) : Tabs w B' tb t0 t1 t2 t3 :=
  ⟨h.row, h.a0, h.a1, h.a2, h.a3, h.nd, by have := h.lo; omega⟩

theorem index4 (a b c d : Value) (w : World) : (Instr.index 31 (.agg #[a, b, c, d]) (.int .i64 0)).run Tryz.prog w = .ok a w ∧ (Instr.index 31 (.agg #[a, b, c, d]) (.int .i64 1)).run Tryz.prog w = .ok b w ∧
    (Instr.index 31 (.agg #[a, b, c, d]) (.int .i64 2)).run Tryz.prog w = .ok c w ∧ (Instr.index 31 (.agg #[a, b, c, d]) (.int .i64 3)).run Tryz.prog w = .ok d w := by
  refine ⟨?_, ?_, ?_, ?_⟩ <;> kernel_rfl

set_option maxRecDepth 10000 in
set_option maxHeartbeats 2000000 in
theorem banksNew_ok (n0 n1 n2 n3 : Nat) (lim : Int) (v : Value) (LL : List (List Rule)) (w : World) (h0 : n0 ≤ 200) (h1 : n1 ≤ 200) (h2 : n2 ≤ 200) (h3 : n3 ≤ 200) (hl1 : 1 ≤ lim) (hl2 : lim ≤ 4) (h : ListsAt w v LL) (hn : LL.length ≤ 6) (hr : okRules LL = true) :
    Calls Tryz.prog 47 #[.agg #[.int .i64 n0, .int .i64 n1, .int .i64 n2, .int .i64 n3, .int .i64 lim, v]] w fun e w' => ∃ sb tb kb e0 g0 e1 g1 e2 g2 e3 g3 us, e = .returned (.tuple #[.pointer (some ⟨sb, 0, none⟩), .int .i64 0]) ∧
      StoreAt w' w.heap.size sb tb kb lim ⟨e0, g0, List.replicate n0 0⟩ ⟨e1, g1, List.replicate n1 0⟩ ⟨e2, g2, List.replicate n2 0⟩ ⟨e3, g3, List.replicate n3 0⟩ LL us ∧ Below w.heap.size w w' := by
  have hb0 : Below w.heap.size w (w.alloc (.cells #[.int .i64 n0, .int .i64 n1, .int .i64 n2, .int .i64 n3, .int .i64 lim, v] 58)) := (Below.refl _ _).alloc (Nat.le_refl _) _
  have HR := hide (rulesNew_any v LL _ (h.below hb0) (by omega) (fun rs hm => by
    have := List.all_eq_true.1 hr rs hm
    simp at this
    omega))
  have HB0 := hide hb0
  have R0 : Hid ((w.alloc (.cells #[.int .i64 n0, .int .i64 n1, .int .i64 n2, .int .i64 n3, .int .i64 lim, v] 58)).heap[w.heap.size]? = some (.cells #[.int .i64 n0, .int .i64 n1, .int .i64 n2, .int .i64 n3, .int .i64 lim, v] 58 (0, 0))) := heap_alloc_new w _
  obtain ⟨a, c, rfl, _⟩ := h
  clear hb0
  go_enter Tryz.func47, Tryz.ntmps47
  go_wp2_with fail
  refine (unhide HR).mono ?_
  rintro e w1 ⟨v1, rfl, hcl, hb1⟩
  have e1 : (decide (LL.length ≤ 6) && okRules LL) = true := by simp [hn, hr]
  rw [e1] at hcl ⊢
  obtain ⟨us, rfl, hcl2⟩ := hcl rfl
  have HC := hide hcl2
  have HB1 := hide hb1
  have R1 := hide ((hb1.block w.heap.size (by simp)).trans (unhide R0))
  have q0 := cell_of_row _ _ 0 _ _ _ (unhide R1)
  have q1 := cell_of_row _ _ 1 _ _ _ (unhide R1)
  have q2 := cell_of_row _ _ 2 _ _ _ (unhide R1)
  have q3 := cell_of_row _ _ 3 _ _ _ (unhide R1)
  have q4 := cell_of_row _ _ 4 _ _ _ (unhide R1)
  simp at q0 q1 q2 q3 q4
  clear hcl hcl2 hb1 HR R0 e1
  have hsz := index4 (.int .i64 n0) (.int .i64 n1) (.int .i64 n2) (.int .i64 n3)
  have hx0 := fun w => (hsz w).1
  have hx1 := fun w => (hsz w).2.1
  have hx2 := fun w => (hsz w).2.2.1
  have hx3 := fun w => (hsz w).2.2.2
  clear hsz
  have l1 : decide (lim < 1) = false := by simp; omega
  have l2 : decide (4 < lim) = false := by simp; omega
  go_wp2_with fail
  go_loopw [28] (fun i wr => ∃ k : Nat, k ≤ 4 ∧ i = .int .i64 k ∧ wr = w1) (fun i _ => 4 - (intOf i).toNat)
  case atStart => exact ⟨0, by omega, rfl, rfl⟩
  case round =>
    obtain ⟨k, hk, rfl, hwr⟩ := hrel
    subst hwr
    have hk5 : k = 0 ∨ k = 1 ∨ k = 2 ∨ k = 3 ∨ k = 4 := by omega
    rcases hk5 with rfl | rfl | rfl | rfl | rfl
    · have s1 : decide (((n0 : Nat) : Int) < 0) = false := by simp
      have s2 : decide ((200 : Int) < ((n0 : Nat) : Int)) = false := by simp; omega
      go_wp2
      go_roundw
      case rel => exact ⟨1, by omega, by simp, by trivial⟩
      case measure => simp [intOf]
    · have s1 : decide (((n1 : Nat) : Int) < 0) = false := by simp
      have s2 : decide ((200 : Int) < ((n1 : Nat) : Int)) = false := by simp; omega
      go_wp2
      go_roundw
      case rel => exact ⟨2, by omega, by simp, by trivial⟩
      case measure => simp [intOf]
    · have s1 : decide (((n2 : Nat) : Int) < 0) = false := by simp
      have s2 : decide ((200 : Int) < ((n2 : Nat) : Int)) = false := by simp; omega
      go_wp2
      go_roundw
      case rel => exact ⟨3, by omega, by simp, by trivial⟩
      case measure => simp [intOf]
    · have s1 : decide (((n3 : Nat) : Int) < 0) = false := by simp
      have s2 : decide ((200 : Int) < ((n3 : Nat) : Int)) = false := by simp; omega
      go_wp2
      go_roundw
      case rel => exact ⟨4, by omega, by simp, by trivial⟩
      case measure => simp [intOf]
    · have HT : Hid (Calls Tryz.prog 71 #[.agg #[.int .i64 n0, .int .i64 n1, .int .i64 n2, .int .i64 n3]] wr.drew fun e w' => ∃ tb e0 g0 e1 g1 e2 g2 e3 g3, e = .returned (.slice (some ⟨tb, 0, none⟩) 4 4) ∧ Tabs w' wr.heap.size tb ⟨e0, g0, List.replicate n0 0⟩ ⟨e1, g1, List.replicate n1 0⟩ ⟨e2, g2, List.replicate n2 0⟩ ⟨e3, g3, List.replicate n3 0⟩ ∧ Below wr.heap.size wr w') := by
        refine (newTables_any n0 n1 n2 n3 wr.drew h0 h1 h2 h3).mono ?_
        rintro e w' ⟨tb, e0, g0, e1, g1, e2, g2, e3, g3, rfl, hT, hb⟩
        exact ⟨tb, e0, g0, e1, g1, e2, g2, e3, g3, rfl, hT, ⟨hb.os, hb.tape, hb.output, hb.size, hb.block⟩⟩
      have HK : Hid (wr.cell? ⟨w.heap.size, 0, none⟩ = some (.int .i64 n0) ∧ wr.cell? ⟨w.heap.size, 1, none⟩ = some (.int .i64 n1) ∧ wr.cell? ⟨w.heap.size, 2, none⟩ = some (.int .i64 n2) ∧ wr.cell? ⟨w.heap.size, 3, none⟩ = some (.int .i64 n3) ∧ wr.cell? ⟨w.heap.size, 4, none⟩ = some (.int .i64 lim)) := ⟨q0, q1, q2, q3, q4⟩
      have HL := hide (Array.getElem?_eq_some_iff.1 (unhide R1)).1
      have HK2 : Hid (∀ w', Below wr.heap.size wr w' → w'.cell? ⟨w.heap.size, 0, none⟩ = some (.int .i64 n0) ∧ w'.cell? ⟨w.heap.size, 1, none⟩ = some (.int .i64 n1) ∧ w'.cell? ⟨w.heap.size, 2, none⟩ = some (.int .i64 n2) ∧ w'.cell? ⟨w.heap.size, 3, none⟩ = some (.int .i64 n3) ∧ w'.cell? ⟨w.heap.size, 4, none⟩ = some (.int .i64 lim)) := fun w' h => by
        obtain ⟨y0, y1, y2, y3, y4⟩ := unhide HK
        exact ⟨(h.cell (unhide HL)).trans y0, (h.cell (unhide HL)).trans y1, (h.cell (unhide HL)).trans y2, (h.cell (unhide HL)).trans y3, (h.cell (unhide HL)).trans y4⟩
      clear q0 q1 q2 q3 q4
      go_wp2_with fail
      go_region_held3 (fun w' => w'.cell? ⟨w.heap.size, 0, none⟩ = some (.int .i64 n0) ∧ w'.cell? ⟨w.heap.size, 1, none⟩ = some (.int .i64 n1) ∧ w'.cell? ⟨w.heap.size, 2, none⟩ = some (.int .i64 n2) ∧ w'.cell? ⟨w.heap.size, 3, none⟩ = some (.int .i64 n3) ∧ w'.cell? ⟨w.heap.size, 4, none⟩ = some (.int .i64 lim))
        (first
          | exact unhide HK
          | exact unhide HK2 _ (by assumption)
          | exact unhide HK2 _ (bl_alloc (by assumption) _))
        (first
          | (go_at_call 71; refine (unhide HT).mono ?_; rintro e w2 ⟨tb, e0, g0, e1, g1, e2, g2, e3, g3, rfl, hT, hb2⟩)
          | fail)
      all_goals
        have HT2 := hide hT
        have HB2 := hide hb2
        clear hT hb2 HT
        go_wp2
        refine bodyPost_ret (v := .tuple #[.pointer (some ⟨w2.heap.size, 0, none⟩), .int .i64 0]) (by simp [results, Tryz.results47]) rfl ?_
        have z0 := (unhide HB0).size
        have z1 := (unhide HB1).size
        have z2 := (unhide HB2).size
        have hbE : Below w2.heap.size w2 (w2.alloc (.cells #[.int .i32 0, .int .u32 0, .slice (some ⟨tb, 0, none⟩) 4 4, .slice (some ⟨w.heap.size + 1, 0, none⟩) LL.length LL.length, .int .i64 lim] 143)) := bl_alloc (Below.refl _ _) _
        have HC' := unhide HC
        rw [show (w.alloc (.cells #[.int .i64 n0, .int .i64 n1, .int .i64 n2, .int .i64 n3, .int .i64 lim, .slice a LL.length c] 58)).heap.size = w.heap.size + 1 by simp] at HC'
        refine ⟨w2.heap.size, tb, w.heap.size + 1, e0, g0, e1, g1, e2, g2, e3, g3, us, rfl, ⟨heap_alloc_new w2 _, ((unhide HT2).weak (by simp at z1; omega)).below hbE, ((HC'.weak (by omega)).below (unhide HB2)).below hbE, by simp at z1; omega⟩, ?_⟩
        exact bl_trans (bl_trans (bl_trans (unhide HB0) (unhide HB1)) (unhide HB2)) hbE
end Go.Proofs.YtfekelmldebplaaGreatDoor
