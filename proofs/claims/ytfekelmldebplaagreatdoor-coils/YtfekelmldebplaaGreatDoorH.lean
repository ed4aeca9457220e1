import Derived.Test.YtfekelmldebplaaGreatDoorF
import Derived.Lib.SliceRun
import Derived.Deep.RegionHeld3
import Derived.Deep.DrawnRows
namespace Go.Proofs.YtfekelmldebplaaGreatDoor
open Go.RowKit
attribute [local go_sem ↓] Go.wp_at_zero Go.wp_at_succ

theorem owns_empty (w : World) : (w.alloc (.cells #[] 5)).ownsRow w.heap.size 5 1 (.slice (some ⟨w.heap.size, 0, none⟩) 0 0) 0 [] :=
  World.ownsRow_made w #[] 0 (Nat.le_refl _) (by unfold maxLen; omega) rfl

set_option maxHeartbeats 400000 in
theorem clone_any (v : Value) (xs : List Int) (w : World) (hl : Lies w v xs) (hn : xs ≠ []) (hm : xs.length ≤ 1000000) :
    Calls Tryz.prog 200 #[v] w fun e w' => ∃ g cap, e = .returned (.slice (some ⟨g, 0, none⟩) xs.length cap) ∧ Owns w' w.heap.size (.slice (some ⟨g, 0, none⟩) xs.length cap) xs ∧ Below w.heap.size w w' := by
  obtain ⟨i0, hi, hz0, hz1, hz2⟩ := info_parts info5
  have hp : 0 < xs.length := List.length_pos_iff.2 hn
  have hl' := hl.below ((Below.refl _ _).alloc (Nat.le_refl _) (.cells #[] 5))
  obtain ⟨b, o, c, rfl, hlc, hbb, hcc⟩ := hl'.shape hn
  have HC := hide hcc
  clear hcc hl hl'
  have q29 : ∀ (w : World) (a : Option Addr) (n c n' c' : Nat), (binOp .eql 37 (.slice a n c) (.slice none n' c')).run Tryz.prog w = .ok (.bool a.isNone) w := fun w a n c n' c' => Lib.run_eql_slice_nil w _ _ a n c n' c' Tryz.underlying37
  have HO := hide (owns_empty w)
  go_enter Tryz.func200, Tryz.ntmps200
  go_wp2_with (at_builtin; refine wpList_append_lies _ rfl _ _ 37 rfl w.heap.size 5 i0 (.int .u8 0) 1 1 Tryz.underlying37 hi hz0 hz1 hz2 rfl (by decide) _ 0 [] rfl (unhide HO) ⟨b, o, none⟩ xs.length c (xs.map (Value.int .u8)) rfl (by simp) (news_lies (unhide HC)) (one_bytes _) hp (by unfold maxLen; omega) (by omega) (by simp) _ rfl ?_)
  intro g cap w1 h1 h2 h3 h4
  have hb : Below w.heap.size w w1 := ((Below.refl _ _).alloc (Nat.le_refl _) _).grown h2 (by simp) (fun k e => by simp [Value.ownBlock] at e; omega)
  have ho : Owns w1 w.heap.size (.slice (some ⟨g, 0, none⟩) xs.length cap) xs := by unfold Owns; simpa using h1
  clear h1 h2 h3 h4 HO HC
  go_wp2
  go_ret
  exact ⟨g, cap, by simp, ho, hb⟩

theorem bcell {W w1 : World} (hb : Below W.heap.size W w1) : (∀ b o, b < W.heap.size → w1.cell? ⟨b, o, none⟩ = W.cell? ⟨b, o, none⟩) ∧ (∀ b o, b < W.heap.size → w1.frozen? ⟨b, o, none⟩ = W.frozen? ⟨b, o, none⟩) :=
  ⟨fun b o h => hb.cell (p := ⟨b, o, none⟩) h, fun b o h => hb.frozen (p := ⟨b, o, none⟩) h⟩
theorem bl_trans {w X w1 : World} (h : Below w.heap.size w X) (k : Below X.heap.size X w1) : Below w.heap.size w w1 := h.trans (k.mono h.size)

theorem Owns.heap {w w' : World} {base g n cap : Nat} {xs : List Int} (h : Owns w base (.slice (some ⟨g, 0, none⟩) n cap) xs) (e : w'.heap[g]? = w.heap[g]?) : Owns w' base (.slice (some ⟨g, 0, none⟩) n cap) xs := by
  obtain ⟨h1, h2⟩ := h
  refine ⟨h1, ?_⟩
  rcases h2 with ⟨h2, _⟩ | ⟨g', cap', cur, hv, hg, hh, r⟩
  · cases h2
  · have e' : g' = g := by simp at hv; exact hv.1.symm
    subst e'
    exact .inr ⟨g', cap', cur, hv, hg, by rw [e]; exact hh, r⟩
theorem Owns.base {w : World} {base base' g n cap : Nat} {xs : List Int} (h : Owns w base (.slice (some ⟨g, 0, none⟩) n cap) xs) (hb : base' ≤ g) : Owns w base' (.slice (some ⟨g, 0, none⟩) n cap) xs := by
  obtain ⟨h1, h2⟩ := h
  refine ⟨h1, ?_⟩
  rcases h2 with ⟨h2, _⟩ | ⟨g', cap', cur, hv, hg, hh, r⟩
  · cases h2
  · have e' : g' = g := by simp at hv; exact hv.1.symm
    subst e'
    exact .inr ⟨g', cap', cur, hv, hb, hh, r⟩
theorem Owns.lt {w : World} {base g n cap : Nat} {xs : List Int} (h : Owns w base (.slice (some ⟨g, 0, none⟩) n cap) xs) : base ≤ g ∧ g < w.heap.size := World.ownsRow.lt h g rfl

/-- What stands behind the first region of 'give': the frame in a variable of its own (block A3), the result's variable still zero, the data owned. -/
structure GiveMid (w W : World) (A3 : Nat) (mark u : Int) (g n cap : Nat) (xs : List Int) : Prop where
  below : Below w.heap.size w W
  c3 : W.heap[A3]? = some (.cells #[.int .i64 mark, .int .i64 u, .slice (some ⟨g, 0, none⟩) n cap] 185 (0, 0))
  c2 : W.heap[w.heap.size]? = some (.cells #[.int .i64 0, .int .i64 0, .slice none 0 0] 185 (0, 0))
  own : Owns W w.heap.size (.slice (some ⟨g, 0, none⟩) n cap) xs
  ne3 : w.heap.size < A3
  neg : w.heap.size < g

def z42 : Obj := .cells #[.int .i64 0, .int .i64 0, .slice none 0 0] 185

theorem mid_one {w w1 : World} {mark u : Int} {g n cap : Nat} {xs : List Int} (ho : Owns w1 (w.alloc z42).drew.heap.size (.slice (some ⟨g, 0, none⟩) n cap) xs) (hb : Below (w.alloc z42).drew.heap.size (w.alloc z42).drew w1) :
    GiveMid w (w1.alloc (.cells #[.int .i64 mark, .int .i64 u, .slice (some ⟨g, 0, none⟩) n cap] 185)) w1.heap.size mark u g n cap xs := by
  have hs : (w.alloc z42).drew.heap.size = w.heap.size + 1 := by simp
  have hz := hb.size
  have hlt := ho.lt
  have hblk := hb.block w.heap.size (by omega)
  rw [hs] at hz hlt
  have b0 : Below w.heap.size w (w.alloc z42).drew := ((Below.refl _ _).alloc (Nat.le_refl _) _).drew
  refine ⟨(b0.trans (hb.mono (by omega))).alloc (by omega) _, heap_alloc_new _ _, ?_, ?_, by omega, by omega⟩
  · rw [Below.heap_alloc _ _ _ (by omega), hblk, heap_drew]
    exact heap_alloc_new _ _
  · exact (ho.base (by omega)).heap (Below.heap_alloc _ _ _ hlt.2)

theorem mid_two {w w1 : World} {mark u : Int} {g n cap : Nat} {xs : List Int} (ho : Owns w1 ((w.alloc z42).drew.alloc z42).heap.size (.slice (some ⟨g, 0, none⟩) n cap) xs) (hb : Below ((w.alloc z42).drew.alloc z42).heap.size ((w.alloc z42).drew.alloc z42) w1) :
    GiveMid w (((w1.setCell ⟨w.heap.size + 1, 0, none⟩ (.int .i64 mark)).setCell ⟨w.heap.size + 1, 1, none⟩ (.int .i64 u)).setCell ⟨w.heap.size + 1, 2, none⟩ (.slice (some ⟨g, 0, none⟩) n cap)) (w.heap.size + 1) mark u g n cap xs := by
  have hs : ((w.alloc z42).drew.alloc z42).heap.size = w.heap.size + 2 := by simp
  have hz := hb.size
  have hlt := ho.lt
  have hblk := hb.block w.heap.size (by omega)
  have hblk1 := hb.block (w.heap.size + 1) (by omega)
  rw [hs] at hz hlt
  have b0 : Below w.heap.size w ((w.alloc z42).drew.alloc z42) := (((Below.refl _ _).alloc (Nat.le_refl _) _).drew).alloc (by simp) _
  have e1 : w1.heap[w.heap.size + 1]? = some z42 := by
    rw [hblk1]
    have := heap_alloc_new (w.alloc z42).drew z42
    rwa [show (w.alloc z42).drew.heap.size = w.heap.size + 1 by simp] at this
  refine ⟨(((b0.trans (hb.mono (by omega))).setCell (by simp) _).setCell (by simp) _).setCell (by simp) _, ?_, ?_, ?_, by omega, by omega⟩
  · have s1 := heap_setCell_same w1 (w.heap.size + 1) 0 _ 185 (.int .i64 mark) e1
    have s2 := heap_setCell_same _ (w.heap.size + 1) 1 _ 185 (.int .i64 u) s1
    have s3 := heap_setCell_same _ (w.heap.size + 1) 2 _ 185 (.slice (some ⟨g, 0, none⟩) n cap) s2
    simpa using s3
  · rw [heap_setCell_other _ _ _ _ (by simp), heap_setCell_other _ _ _ _ (by simp), heap_setCell_other _ _ _ _ (by simp), hblk, Below.heap_alloc _ _ _ (by simp), heap_drew]
    exact heap_alloc_new _ _
  · refine (ho.base (by omega)).heap ?_
    rw [heap_setCell_other _ _ _ _ (by simp; omega), heap_setCell_other _ _ _ _ (by simp; omega), heap_setCell_other _ _ _ _ (by simp; omega)]

theorem wrap_u8_i64 (u : Int) (h : 0 ≤ u ∧ u < 256) : IntKind.i64.wrap u = u := by
  simp [IntKind.wrap, IntKind.bits, IntKind.signed]
  omega

theorem info42 : (Tryz.prog.info? 185).map (·.size) = some 3 := by kernel_rfl

theorem give_end {w W : World} {A3 b : Nat} {mark u : Int} {g n cap : Nat} {xs : List Int} {T : TypeId} {C S : Array Value} (hG : GiveMid w W A3 mark u g n cap xs) (hbl : b < w.heap.size) (hb : W.heap[b]? = some (.cells C T (0, 0))) :
    ((((W.setRow b S).setCell ⟨w.heap.size, 0, none⟩ (.int .i64 mark)).setCell ⟨w.heap.size, 1, none⟩ (.int .i64 u)).setCell ⟨w.heap.size, 2, none⟩ (.slice (some ⟨g, 0, none⟩) n cap)).heap[w.heap.size]? = some (.cells #[.int .i64 mark, .int .i64 u, .slice (some ⟨g, 0, none⟩) n cap] 185 (0, 0)) ∧
    Owns ((((W.setRow b S).setCell ⟨w.heap.size, 0, none⟩ (.int .i64 mark)).setCell ⟨w.heap.size, 1, none⟩ (.int .i64 u)).setCell ⟨w.heap.size, 2, none⟩ (.slice (some ⟨g, 0, none⟩) n cap)) w.heap.size (.slice (some ⟨g, 0, none⟩) n cap) xs ∧
    ((((W.setRow b S).setCell ⟨w.heap.size, 0, none⟩ (.int .i64 mark)).setCell ⟨w.heap.size, 1, none⟩ (.int .i64 u)).setCell ⟨w.heap.size, 2, none⟩ (.slice (some ⟨g, 0, none⟩) n cap)).heap[b]? = some (.cells S T (0, 0)) ∧
    w.grownBy ((((W.setRow b S).setCell ⟨w.heap.size, 0, none⟩ (.int .i64 mark)).setCell ⟨w.heap.size, 1, none⟩ (.int .i64 u)).setCell ⟨w.heap.size, 2, none⟩ (.slice (some ⟨g, 0, none⟩) n cap)) (some b) := by
  have hneg := hG.neg
  have hz := hG.below.size
  have e0 := (setRow_other W b _ S (Nat.ne_of_gt hbl)).trans hG.c2
  refine ⟨?_, ?_, ?_, ?_⟩
  · have s1 := heap_setCell_same _ w.heap.size 0 _ 185 (.int .i64 mark) e0
    have s2 := heap_setCell_same _ w.heap.size 1 _ 185 (.int .i64 u) s1
    have s3 := heap_setCell_same _ w.heap.size 2 _ 185 (.slice (some ⟨g, 0, none⟩) n cap) s2
    simpa using s3
  · refine hG.own.heap ?_
    rw [heap_setCell_other _ _ _ _ (by simp; omega), heap_setCell_other _ _ _ _ (by simp; omega), heap_setCell_other _ _ _ _ (by simp; omega), setRow_other _ _ _ _ (by omega)]
  · rw [heap_setCell_other _ _ _ _ (by simp; omega), heap_setCell_other _ _ _ _ (by simp; omega), heap_setCell_other _ _ _ _ (by simp; omega)]
    exact setRow_heap W b C S T _ hb
  · refine ⟨hG.below.os, hG.below.tape, hG.below.output, by simp [World.setCell, World.setRow]; exact hz, fun k hk hne => ?_⟩
    rw [heap_setCell_other _ _ _ _ (by simp; omega), heap_setCell_other _ _ _ _ (by simp; omega), heap_setCell_other _ _ _ _ (by simp; omega), setRow_other _ _ _ _ (fun e => hne (by rw [e]))]
    exact hG.below.block k hk

set_option maxHeartbeats 4000000 in
theorem give_any (b : Nat) (h : List Int) (br : Bool) (T : TypeId) (w : World) (hb : w.heap[b]? = some (.cells (spl h br) T (0, 0))) (hl : h.length ≤ 260) (h8 : 8 ≤ h.length) (hx : Bys h) :
    Calls Tryz.prog 175 #[.pointer (some ⟨b, 0, none⟩)] w fun e w' => ∃ g cap, e = .returned (.agg #[.int .i64 (256 * h.getD 0 0 + h.getD 1 0), .int .i64 (h.getD 6 0), .slice (some ⟨g, 0, none⟩) (h.length - 7) cap]) ∧
      Owns w' w.heap.size (.slice (some ⟨g, 0, none⟩) (h.length - 7) cap) (h.drop 7) ∧ w'.heap[b]? = some (.cells (spl [] false) T (0, 0)) ∧ w.grownBy w' (some b) := by
  have hbl : b < w.heap.size := (Array.getElem?_eq_some_iff.1 hb).1
  have hc : w.cell? ⟨b, 260, none⟩ = some (.int .i64 h.length) := by rw [cell_of_row _ _ _ _ _ _ hb]; exact spl_count h br hl
  have h0 : w.cell? ⟨b, 0, none⟩ = some (.int .u8 (h.getD 0 0)) := by rw [cell_of_row _ _ _ _ _ _ hb]; exact spl_held h br hl 0 (by omega)
  have h1 : w.cell? ⟨b, 1, none⟩ = some (.int .u8 (h.getD 1 0)) := by rw [cell_of_row _ _ _ _ _ _ hb]; exact spl_held h br hl 1 (by omega)
  have h6 : w.cell? ⟨b, 6, none⟩ = some (.int .u8 (h.getD 6 0)) := by rw [cell_of_row _ _ _ _ _ _ hb]; exact spl_held h br hl 6 (by omega)
  have b0 := hx.at 0
  have b1 := hx.at 1
  have b6 := hx.at 6
  have HD : Hid (∀ w', Below w.heap.size w w' → Lies w' (.slice (some ⟨b, 7, none⟩) (h.length - 7) 253) (h.drop 7)) := by
    intro w' hw
    refine .inr ⟨b, 7, 253, by simp, by simp; omega, .inr (by have := hw.size; omega), fun i hi => ?_⟩
    have hi' : i < h.length - 7 := by simpa using hi
    rw [hw.cell (by exact hbl), cell_of_row _ _ _ _ _ _ hb, spl_held h br hl _ (by omega)]
    simp [List.getD]
  generalize h.getD 0 0 = m0 at *
  generalize h.getD 1 0 = m1 at *
  generalize h.getD 6 0 = u at *
  have HB := hide hb
  have HX := hide hx
  clear hb hx
  have k1 : (7 : Int) ≤ (h.length : Int) := by omega
  have k2 : (h.length : Int) ≤ 260 := by omega
  have k3 : (0 : Int) ≤ (h.length : Int) := by omega
  have HK : Hid (∀ w', Below w.heap.size w w' → Below w.heap.size w w' ∧ w'.cell? ⟨b, 260, none⟩ = some (.int .i64 h.length) ∧ w'.cell? ⟨b, 0, none⟩ = some (.int .u8 m0) ∧ w'.cell? ⟨b, 1, none⟩ = some (.int .u8 m1) ∧ w'.cell? ⟨b, 6, none⟩ = some (.int .u8 u)) := fun w' hw =>
    ⟨hw, (hw.cell (by exact hbl)).trans hc, (hw.cell (by exact hbl)).trans h0, (hw.cell (by exact hbl)).trans h1, (hw.cell (by exact hbl)).trans h6⟩
  have HN : Hid (h.drop 7 ≠ []) := by
    intro e
    have := congrArg List.length e
    simp at this
    omega
  have HM : Hid ((h.drop 7).length ≤ 1000000) := by show (h.drop 7).length ≤ 1000000; simp; omega
  clear hc h0 h1 h6
  go_enter Tryz.func175, Tryz.ntmps175
  go_wp2_with fail
  go_region_held3 (fun w' => Below w.heap.size w w' ∧ w'.cell? ⟨b, 260, none⟩ = some (.int .i64 h.length) ∧ w'.cell? ⟨b, 0, none⟩ = some (.int .u8 m0) ∧ w'.cell? ⟨b, 1, none⟩ = some (.int .u8 m1) ∧ w'.cell? ⟨b, 6, none⟩ = some (.int .u8 u))
    ((refine unhide HK _ ?_; repeat (first
      | exact Below.refl _ _
      | exact And.left (by assumption)
      | refine Below.drew ?_
      | refine Below.alloc ?_ (by first | omega | (simp; done) | (simp; omega)) _
      | refine bl_trans ?_ (by assumption)
      | refine Below.setCell ?_ (by first | omega | (simp; done) | (simp; omega)) _)))
    (first
      | (go_at_call 199; refine (fword_any _ _ _ (by omega) (by omega) (by omega) (by omega)).mono ?_; rintro e w2 ⟨rfl, rfl⟩)
      | (go_at_call 200; refine (clone_any _ (h.drop 7) _ ?_ (unhide HN) (unhide HM)).mono ?_; exact unhide HD _ (And.left (by assumption)); rintro e w1 ⟨g, cap, rfl, ho, hbw⟩; rw [List.length_drop] at ho; have hz := hbw.size; simp at hz; obtain ⟨hcw, hfw⟩ := bcell hbw))
  all_goals first
    | (have HG := hide (mid_one (w := w) (mark := 256 * m0 + m1) (u := IntKind.i64.wrap u) ho hbw); generalize w1.alloc (.cells #[.int .i64 (256 * m0 + m1), .int .i64 (IntKind.i64.wrap u), .slice (some ⟨g, 0, none⟩) (h.length - 7) cap] 185) = W at HG ⊢)
    | (have HG := hide (mid_two (w := w) (mark := 256 * m0 + m1) (u := IntKind.i64.wrap u) ho hbw); generalize ((w1.setCell ⟨w.heap.size + 1, 0, none⟩ (.int .i64 (256 * m0 + m1))).setCell ⟨w.heap.size + 1, 1, none⟩ (.int .i64 (IntKind.i64.wrap u))).setCell ⟨w.heap.size + 1, 2, none⟩ (.slice (some ⟨g, 0, none⟩) (h.length - 7) cap) = W at HG ⊢)
  all_goals
    clear ho hbw hcw hfw hz
    rename_i hHeld
    clear hHeld HK HD HM HN
    have hG := unhide HG
    have HB' := hide ((hG.below.block b hbl).trans (unhide HB))
    have ne3 := hG.ne3
    have neg := hG.neg
    have r3 := (setRow_other W b _ (spl [] false) (Nat.ne_of_gt (Nat.lt_trans hbl ne3))).trans hG.c3
    have r2 := (setRow_other W b _ (spl [] false) (Nat.ne_of_gt hbl)).trans hG.c2
    have l0 := cell_of_row _ _ 0 _ _ _ r3
    have l1 := cell_of_row _ _ 1 _ _ _ r3
    have l2 := cell_of_row _ _ 2 _ _ _ r3
    have s0 := cell_of_row _ _ 0 _ _ _ r2
    have s1 := cell_of_row _ _ 1 _ _ _ r2
    have s2 := cell_of_row _ _ 2 _ _ _ r2
    have fz : ∀ j, (W.setRow b (spl [] false)).frozen? ⟨w.heap.size, j, none⟩ = false := fun j => frozen_of_row _ _ j _ _ r2
    clear hG r3 r2
    simp at l0 l1 l2 s0 s1 s2
    have A1 := hide (info69s [] false (by simp))
    have A2 := hide (spl_sizes h [] br false hl (by simp))
    have A3 := hide (spl_all [] false)
    go_wp2_with (first
      | (refine build_fresh rfl rfl ?_)
      | (refine wpList_store_row rfl 179 _ _ rfl b (spl [] false) rfl rfl T (spl h br) (unhide HB') (unhide A1) (unhide A2) (unhide A3) ?_))
    have hG := unhide HG
    rw [wrap_u8_i64 u b6] at hG
    obtain ⟨f1, f2, f3, f4⟩ := give_end (S := spl [] false) hG hbl (unhide HB')
    exact bodyPost_ret (v := .agg #[.int .i64 (256 * m0 + m1), .int .i64 u, .slice (some ⟨g, 0, none⟩) (h.length - 7) cap]) (results_cell_row Tryz.results175 _ _ w.heap.size 185 _ (0, 0) _ rfl f1 Tryz.underlying185 rfl info42) rfl ⟨g, cap, rfl, f2, f3, f4⟩
end Go.Proofs.YtfekelmldebplaaGreatDoor

namespace Go.Proofs.YtfekelmldebplaaGreatDoor
open Go.RowKit

/-! ### Plain: what feeding bytes comes to -/
/-- A frame: mark, unit, data. -/
structure Fr where
  mark : Int
  unit : Int
  data : List Int
def toFr (h : List Int) : Fr := ⟨256 * h.getD 0 0 + h.getD 1 0, h.getD 6 0, h.drop 7⟩
/-- One byte: the frames so far, what is held, whether it has broken. -/
def stepF (s : List Fr × List Int × Bool) (x : Int) : List Fr × List Int × Bool :=
  if s.2.2 = true then s else if fitsL s.2.1 x = true then (if wholeL (s.2.1 ++ [x]) = true then (s.1 ++ [toFr (s.2.1 ++ [x])], [], false) else (s.1, s.2.1 ++ [x], false)) else (s.1, [], true)
def feedF (s : List Fr × List Int × Bool) (xs : List Int) : List Fr × List Int × Bool := xs.foldl stepF s

/-- What is held is the head of a frame that is not whole. -/
def Held (h : List Int) : Prop := Bys h ∧ (5 ≤ h.length → h.getD 4 0 = 0) ∧ (6 ≤ h.length → 2 ≤ h.getD 5 0 ∧ h.getD 5 0 ≤ 254 ∧ (h.length : Int) < 6 + h.getD 5 0)
theorem Held.nil : Held [] := ⟨Bys.nil, by simp, by simp⟩
theorem Held.len {h : List Int} (k : Held h) : h.length < 260 := by
  by_cases h6 : 6 ≤ h.length
  · have := k.2.2 h6; omega
  · omega

theorem getD_append_left (h : List Int) (x : Int) (i : Nat) (hi : i < h.length) : (h ++ [x]).getD i 0 = h.getD i 0 := by
  simp only [List.getD, List.getElem?_append_left hi]
theorem getD_append_last (h : List Int) (x : Int) (i : Nat) (hi : i = h.length) : (h ++ [x]).getD i 0 = x := by
  subst hi; simp [List.getD]

theorem Held.push {h : List Int} (k : Held h) {x : Int} (x0 : 0 ≤ x) (x1 : x < 256) (hf : fitsL h x = true) : Bys (h ++ [x]) ∧ (wholeL (h ++ [x]) = false → Held (h ++ [x])) ∧ (wholeL (h ++ [x]) = true → 8 ≤ (h ++ [x]).length) := by
  have hb : Bys (h ++ [x]) := k.1.append (Bys.one x0 x1)
  have hl : (h ++ [x]).length = h.length + 1 := by simp
  have k5 : 5 ≤ (h ++ [x]).length → (h ++ [x]).getD 4 0 = 0 := by
    intro h5
    by_cases e : h.length = 4
    · rw [getD_append_last h x 4 e.symm]
      simp [fitsL, e] at hf
      omega
    · rw [getD_append_left h x 4 (by omega)]
      exact k.2.1 (by omega)
  have k6 : 6 ≤ (h ++ [x]).length → 2 ≤ (h ++ [x]).getD 5 0 ∧ (h ++ [x]).getD 5 0 ≤ 254 := by
    intro h6
    by_cases e : h.length = 5
    · rw [getD_append_last h x 5 e.symm]
      have z := k.2.1 (by omega)
      simp only [fitsL, e, z] at hf
      have := inB_iff.1 (by simpa using hf)
      omega
    · rw [getD_append_left h x 5 (by omega)]
      have := k.2.2 (by omega)
      omega
  have kl : 6 ≤ h.length → (h.length : Int) < 6 + (h ++ [x]).getD 5 0 := by
    intro h6
    rw [getD_append_left h x 5 (by omega)]
    exact (k.2.2 h6).2.2
  refine ⟨hb, fun hw => ⟨hb, k5, fun h6 => ?_⟩, fun hw => ?_⟩
  · have a := k6 h6
    have z := k5 (by omega)
    refine ⟨a.1, a.2, ?_⟩
    simp only [wholeL, z, Bool.and_eq_false_iff, decide_eq_false_iff_not] at hw
    rcases hw with hw | hw
    · omega
    · have c : (h.length : Int) < 6 + (h ++ [x]).getD 5 0 ∨ h.length = 5 := by
        by_cases e : 6 ≤ h.length
        · exact .inl (kl e)
        · exact .inr (by omega)
      rw [hl] at hw ⊢
      omega
  · simp only [wholeL, Bool.and_eq_true, decide_eq_true_eq] at hw
    have a := k6 (by omega)
    have z := k5 (by omega)
    omega

/-- A frame as it lies: its data's block and capacity with it. -/
structure FD where
  fr : Fr
  g : Nat
  cap : Nat
def FD.val (d : FD) : Value := .slice (some ⟨d.g, 0, none⟩) d.fr.data.length d.cap
def FD.cells (d : FD) : List Value := [.int .i64 d.fr.mark, .int .i64 d.fr.unit, d.val]

/-- The frames that were given, as they lie. -/
structure Gave (w : World) (base : Nat) (v : Value) (ds : List FD) : Prop where
  row : w.ownsRow base 185 3 v ds.length (ds.flatMap FD.cells)
  own : ∀ d ∈ ds, Owns w base d.val d.fr.data
  nodup : (ds.map (·.g)).Nodup
  apart : ∀ d ∈ ds, v.ownBlock ≠ some d.g

theorem Gave.nil (w : World) (base : Nat) : Gave w base (.slice none 0 0) [] := ⟨World.ownsRow_nil _ _ _ _, by simp, by simp, by simp⟩

theorem ownsRow_keep {w w' : World} {base : Nat} {e : TypeId} {size : Nat} {v : Value} {n : Nat} {xs : List Value} (h : w.ownsRow base e size v n xs) (hk : ∀ k, base ≤ k → k < w.heap.size → v.ownBlock = some k → w'.heap[k]? = w.heap[k]?) : w'.ownsRow base e size v n xs := by
  have hlt := h.lt
  obtain ⟨h1, h2⟩ := h
  refine ⟨h1, h2.imp id ?_⟩
  rintro ⟨g, cap, cur, hv, hg, hh, r⟩
  have hl := hlt g (by rw [hv]; rfl)
  exact ⟨g, cap, cur, hv, hg, by rw [hk g hl.1 hl.2 (by rw [hv]; rfl)]; exact hh, r⟩

theorem Gave.kept {w w' : World} {base : Nat} {v : Value} {ds : List FD} (h : Gave w base v ds) (hk : ∀ k, base ≤ k → k < w.heap.size → w'.heap[k]? = w.heap[k]?) : Gave w' base v ds :=
  ⟨ownsRow_keep h.row fun k h1 h2 _ => hk k h1 h2, fun d hd => ownsRow_keep (h.own d hd) fun k h1 h2 _ => hk k h1 h2, h.nodup, h.apart⟩

theorem Gave.lt {w : World} {base : Nat} {v : Value} {ds : List FD} (h : Gave w base v ds) (d : FD) (hd : d ∈ ds) : base ≤ d.g ∧ d.g < w.heap.size := World.ownsRow.lt (h.own d hd) d.g rfl

/-- One frame more: 'give' has made its data in a world w2 behind w1 (w1: as w, above base), the append has laid it behind the others. -/
theorem Gave.push {w w2 w4 : World} {base : Nat} {v v' : Value} {ds : List FD} {d : FD} (h : Gave w base v ds) (hb : base ≤ w.heap.size) (hs : w.heap.size ≤ w2.heap.size) (hk : ∀ k, base ≤ k → k < w.heap.size → w2.heap[k]? = w.heap[k]?)
    (ho : Owns w2 w.heap.size d.val d.fr.data) (C : Obj) (hg : (w2.alloc C).grownBy w4 v.ownBlock) (hr : w4.ownsRow base 185 3 v' (ds.length + 1) (ds.flatMap FD.cells ++ d.cells)) (hat : v'.ownBlock = v.ownBlock ∨ v'.ownBlock = some (w2.heap.size + 1)) :
    Gave w4 base v' (ds ++ [d]) := by
  have hd := World.ownsRow.lt ho d.g rfl
  have hvb : ∀ k, v.ownBlock = some k → base ≤ k ∧ k < w.heap.size := h.row.lt
  have hblk : ∀ k, k < w2.heap.size → v.ownBlock ≠ some k → w4.heap[k]? = w2.heap[k]? := fun k h1 h2 => by
    rw [hg.block k (by simp; omega) (Ne.symm h2)]
    exact Below.heap_alloc _ _ _ h1
  have hdne : v.ownBlock ≠ some d.g := fun e => by have := hvb _ e; omega
  refine ⟨by simpa using hr, ?_, ?_, ?_⟩
  · intro e he
    rcases List.mem_append.1 he with he | he
    · have hl := h.lt e he
      have a := h.apart e he
      refine ownsRow_keep (h.own e he) fun k h1 h2 h3 => ?_
      have : k = e.g := by simp [FD.val, Value.ownBlock] at h3; omega
      subst this
      rw [hblk e.g (by omega) a, hk e.g hl.1 hl.2]
    · have : e = d := by simpa using he
      subst this
      have q : Owns w4 w.heap.size e.val e.fr.data := ownsRow_keep ho fun k h1 h2 h3 => by
        have : k = e.g := by simp [FD.val, Value.ownBlock] at h3; omega
        subst this
        exact hblk e.g hd.2 hdne
      exact Owns.base q (by omega)
  · rw [List.map_append]
    refine List.nodup_append.2 ⟨h.nodup, by simp, ?_⟩
    intro a ha c hc
    obtain ⟨e, he, rfl⟩ := List.mem_map.1 ha
    have hl := h.lt e he
    simp at hc
    omega
  · intro e he e'
    have hv' : v'.ownBlock = v.ownBlock ∨ v'.ownBlock = some (w2.heap.size + 1) := hat
    rcases List.mem_append.1 he with he | he
    · have hl := h.lt e he
      rcases hv' with q | q
      · exact h.apart e he (q ▸ e')
      · rw [q] at e'; simp at e'; omega
    · have : e = d := by simpa using he
      subst this
      rcases hv' with q | q
      · exact hdne (q ▸ e')
      · rw [q] at e'; simp at e'; omega
end Go.Proofs.YtfekelmldebplaaGreatDoor
