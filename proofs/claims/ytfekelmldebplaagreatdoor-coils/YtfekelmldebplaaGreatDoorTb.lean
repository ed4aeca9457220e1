import Derived.Test.YtfekelmldebplaaGreatDoorTa
import Derived.Test.YtfekelmldebplaaGreatDoorLocks
import Derived.Conc.MuLone
import Derived.Deep.RegionHeld3
namespace Go.Proofs.YtfekelmldebplaaGreatDoor
open Go.RowKit Go.MuLone

/-- One table: its struct's block, its entries' block, its entries. -/
structure Tab where
  e : Nat
  g : Nat
  L : List Int
/-- The four tables, as they lie. -/
structure Tabs (w : World) (B tb : Nat) (t0 t1 t2 t3 : Tab) : Prop where
  row : w.heap[tb]? = some (.cells #[.iface 221 (.pointer (some ⟨t0.e, 0, none⟩)), .iface 221 (.pointer (some ⟨t1.e, 0, none⟩)), .iface 223 (.pointer (some ⟨t2.e, 0, none⟩)), .iface 223 (.pointer (some ⟨t3.e, 0, none⟩))] 145 (0, 0))
  a0 : TabAt w t0.e t0.g 299 1 t0.L
  a1 : TabAt w t1.e t1.g 299 1 t1.L
  a2 : TabAt w t2.e t2.g 300 65535 t2.L
  a3 : TabAt w t3.e t3.g 300 65535 t3.L
  nd : [t0.g, t1.g, t2.g, t3.g].Nodup
  lo : B ≤ tb ∧ B ≤ t0.e ∧ B ≤ t1.e ∧ B ≤ t2.e ∧ B ≤ t3.e ∧ B ≤ t0.g ∧ B ≤ t1.g ∧ B ≤ t2.g ∧ B ≤ t3.g
theorem Tabs.below {w w' : World} {B tb : Nat} {t0 t1 t2 t3 : Tab} (h : Tabs w B tb t0 t1 t2 t3) (hb : Below w.heap.size w w') : Tabs w' B tb t0 t1 t2 t3 :=
  have k : ∀ {e g : Nat} {T : TypeId} {hi : Int} {L : List Int}, TabAt w e g T hi L → TabAt w' e g T hi L := fun h => ⟨(hb.block _ (Array.getElem?_eq_some_iff.1 h.row).1).trans h.row, (hb.block _ (Array.getElem?_eq_some_iff.1 h.ent).1).trans h.ent, h.len⟩
  ⟨(hb.block _ (Array.getElem?_eq_some_iff.1 h.row).1).trans h.row, k h.a0, k h.a1, k h.a2, k h.a3, h.nd, h.lo⟩
theorem bl_alloc {W w : World} (h : Below W.heap.size W w) (o : Obj) : Below W.heap.size W (w.alloc o) := h.alloc h.size o

def NewT (w w' : World) (e g : Nat) (T : TypeId) (hi : Int) (n : Nat) : Prop := (w.heap.size ≤ e ∧ w.heap.size ≤ g ∧ e < w'.heap.size ∧ g < w'.heap.size ∧ e ≠ g) ∧ TabAt w' e g T hi (List.replicate n 0) ∧ Below w.heap.size w w'
theorem NewT.below {w w' : World} {e g : Nat} {T : TypeId} {hi : Int} {n : Nat} (h : NewT w w' e g T hi n) : Below w.heap.size w w' := h.2.2
theorem newBits_n (n : Nat) (w : World) (hn : n ≤ 200) : Calls Tryz.prog 115 #[.int .i64 n] w fun r w' => ∃ e g, r = .returned (.pointer (some ⟨e, 0, none⟩)) ∧ NewT w w' e g 299 1 n := by
  refine (newBits_any n w hn).mono ?_
  rintro r w' ⟨e, g, rfl, a, b, c, d, f, t, q⟩
  exact ⟨e, g, rfl, ⟨a, b, c, d, f⟩, t, q⟩
theorem newWords_n (n : Nat) (w : World) (hn : n ≤ 200) : Calls Tryz.prog 116 #[.int .i64 n] w fun r w' => ∃ e g, r = .returned (.pointer (some ⟨e, 0, none⟩)) ∧ NewT w w' e g 300 65535 n := by
  refine (newWords_any n w hn).mono ?_
  rintro r w' ⟨e, g, rfl, a, b, c, d, f, t, q⟩
  exact ⟨e, g, rfl, ⟨a, b, c, d, f⟩, t, q⟩
theorem TabAt.below {w w' : World} {e g : Nat} {T : TypeId} {hi : Int} {L : List Int} (h : TabAt w e g T hi L) (hb : Below w.heap.size w w') : TabAt w' e g T hi L :=
  ⟨(hb.block e (Array.getElem?_eq_some_iff.1 h.row).1).trans h.row, (hb.block g (Array.getElem?_eq_some_iff.1 h.ent).1).trans h.ent, h.len⟩

theorem newTables_end {w W wA wB wC wD : World} {e0 g0 e1 g1 e2 g2 e3 g3 n0 n1 n2 n3 : Nat} (hW : Below w.heap.size w W) (hA : NewT W wA e0 g0 299 1 n0) (hB : NewT wA wB e1 g1 299 1 n1) (hC : NewT wB wC e2 g2 300 65535 n2) (hD : NewT wC wD e3 g3 300 65535 n3) :
    Tabs (wD.alloc (.cells #[.iface 221 (.pointer (some ⟨e0, 0, none⟩)), .iface 221 (.pointer (some ⟨e1, 0, none⟩)), .iface 223 (.pointer (some ⟨e2, 0, none⟩)), .iface 223 (.pointer (some ⟨e3, 0, none⟩))] 145)) w.heap.size wD.heap.size ⟨e0, g0, List.replicate n0 0⟩ ⟨e1, g1, List.replicate n1 0⟩ ⟨e2, g2, List.replicate n2 0⟩ ⟨e3, g3, List.replicate n3 0⟩ ∧
      Below w.heap.size w (wD.alloc (.cells #[.iface 221 (.pointer (some ⟨e0, 0, none⟩)), .iface 221 (.pointer (some ⟨e1, 0, none⟩)), .iface 223 (.pointer (some ⟨e2, 0, none⟩)), .iface 223 (.pointer (some ⟨e3, 0, none⟩))] 145)) := by
  have zW := hW.size
  have bA := hA.below
  have bB := hB.below
  have bC := hC.below
  have bD := hD.below
  have zA := bA.size
  have zB := bB.size
  have zC := bC.size
  have zD := bD.size
  obtain ⟨⟨a1, a2, a3, a4, a5⟩, tA, _⟩ := hA
  obtain ⟨⟨b1, b2, b3, b4, b5⟩, tB, _⟩ := hB
  obtain ⟨⟨c1, c2, c3, c4, c5⟩, tC, _⟩ := hC
  obtain ⟨⟨d1, d2, d3, d4, d5⟩, tD, _⟩ := hD
  have bE := bl_alloc (Below.refl wD.heap.size wD) (.cells #[.iface 221 (.pointer (some ⟨e0, 0, none⟩)), .iface 221 (.pointer (some ⟨e1, 0, none⟩)), .iface 223 (.pointer (some ⟨e2, 0, none⟩)), .iface 223 (.pointer (some ⟨e3, 0, none⟩))] 145)
  refine ⟨⟨heap_alloc_new wD _, (((tA.below bB).below bC).below bD).below bE, ((tB.below bC).below bD).below bE, (tC.below bD).below bE, tD.below bE, ?_, ?_⟩, bl_trans (bl_trans (bl_trans (bl_trans (bl_trans hW bA) bB) bC) bD) bE⟩
  · simp only [List.nodup_cons, List.mem_cons, List.not_mem_nil, or_false, not_or, not_false_eq_true, List.nodup_nil, and_true]
    omega
  · simp only
    omega

set_option maxRecDepth 10000 in
set_option maxHeartbeats 1000000 in
theorem newTables_any (n0 n1 n2 n3 : Nat) (w : World) (h0 : n0 ≤ 200) (h1 : n1 ≤ 200) (h2 : n2 ≤ 200) (h3 : n3 ≤ 200) :
    Calls Tryz.prog 71 #[.agg #[.int .i64 n0, .int .i64 n1, .int .i64 n2, .int .i64 n3]] w fun r w' => ∃ tb e0 g0 e1 g1 e2 g2 e3 g3, r = .returned (.slice (some ⟨tb, 0, none⟩) 4 4) ∧ Tabs w' w.heap.size tb ⟨e0, g0, List.replicate n0 0⟩ ⟨e1, g1, List.replicate n1 0⟩ ⟨e2, g2, List.replicate n2 0⟩ ⟨e3, g3, List.replicate n3 0⟩ ∧ Below w.heap.size w w' := by
  have HK : Hid (∀ w', Below (w.alloc (.cells #[.int .i64 n0, .int .i64 n1, .int .i64 n2, .int .i64 n3] 31)).heap.size (w.alloc (.cells #[.int .i64 n0, .int .i64 n1, .int .i64 n2, .int .i64 n3] 31)) w' → Below (w.alloc (.cells #[.int .i64 n0, .int .i64 n1, .int .i64 n2, .int .i64 n3] 31)).heap.size (w.alloc (.cells #[.int .i64 n0, .int .i64 n1, .int .i64 n2, .int .i64 n3] 31)) w' ∧ w'.cell? ⟨w.heap.size, 0, none⟩ = some (.int .i64 n0) ∧ w'.cell? ⟨w.heap.size, 1, none⟩ = some (.int .i64 n1) ∧ w'.cell? ⟨w.heap.size, 2, none⟩ = some (.int .i64 n2) ∧ w'.cell? ⟨w.heap.size, 3, none⟩ = some (.int .i64 n3)) := fun w' hb => by
    have r := (hb.block w.heap.size (by simp)).trans (heap_alloc_new w _)
    exact ⟨hb, cell_of_row _ _ 0 _ _ _ r, cell_of_row _ _ 1 _ _ _ r, cell_of_row _ _ 2 _ _ _ r, cell_of_row _ _ 3 _ _ _ r⟩
  go_enter Tryz.func71, Tryz.ntmps71
  go_wp2_with fail
  generalize hW : (w.alloc (.cells #[.int .i64 n0, .int .i64 n1, .int .i64 n2, .int .i64 n3] 31)) = W at HK ⊢
  go_region_held3 (fun w' => Below W.heap.size W w' ∧ w'.cell? ⟨w.heap.size, 0, none⟩ = some (.int .i64 n0) ∧ w'.cell? ⟨w.heap.size, 1, none⟩ = some (.int .i64 n1) ∧ w'.cell? ⟨w.heap.size, 2, none⟩ = some (.int .i64 n2) ∧ w'.cell? ⟨w.heap.size, 3, none⟩ = some (.int .i64 n3))
    ((refine unhide HK _ ?_; repeat (first
      | exact Below.refl _ _
      | exact And.left (by assumption)
      | refine Below.drew ?_
      | refine bl_alloc ?_ _
      | refine bl_trans ?_ (NewT.below (by assumption)))))
    (first
      | (go_at_call 115; refine (newBits_n _ _ (by assumption)).mono ?_; rintro r w2 ⟨e, g, rfl, hN⟩)
      | (go_at_call 116; refine (newWords_n _ _ (by assumption)).mono ?_; rintro r w2 ⟨e, g, rfl, hN⟩)
      | fail)
  go_wp2
  go_ret
  rename_i wA e0 g0 hA wB e1 g1 hB wC e2 g2 hC hH
  have hW0 : Below w.heap.size w W.drew := by
    rw [← hW]
    exact ((Below.refl _ _).alloc (Nat.le_refl _) _).drew
  have q := newTables_end hW0 hA hB hC hN
  exact ⟨_, _, _, _, _, _, _, _, _, rfl, q.1, q.2⟩
end Go.Proofs.YtfekelmldebplaaGreatDoor
