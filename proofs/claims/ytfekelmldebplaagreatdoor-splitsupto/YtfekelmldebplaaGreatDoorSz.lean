import Derived.Test.YtfekelmldebplaaGreatDoorSy
namespace Go.Proofs.YtfekelmldebplaaGreatDoor
open Go.RowKit

/-- How much the first steps may give. -/
def acc (ops : List (Int × OpV)) (i : Nat) : Nat := ((ops.take i).map fun o => o.2.s.size + 1).sum
theorem acc_next (ops : List (Int × OpV)) (i : Nat) (op : Int × OpV) (h : ops[i]? = some op) : acc ops (i + 1) = acc ops i + (op.2.s.size + 1) := by
  unfold acc
  rw [List.take_add_one, h]
  simp
theorem acc_skip (ops : List (Int × OpV)) (i : Nat) : acc ops i ≤ acc ops (i + 1) := by
  cases h : ops[i]? with
  | none =>
    unfold acc
    rw [List.take_add_one, h]
    simp
  | some op => rw [acc_next ops i op h]; omega
theorem acc_le (ops : List (Int × OpV)) (i : Nat) : acc ops i ≤ acc ops ops.length := by
  have e : ∀ d, acc ops i ≤ acc ops (i + d) := fun d => by
    induction d with
    | zero => exact Nat.le_refl _
    | succ d ih => exact Nat.le_trans ih (acc_skip ops (i + d))
  by_cases h : i ≤ ops.length
  · have := e (ops.length - i)
    rwa [show i + (ops.length - i) = ops.length by omega] at this
  · unfold acc
    rw [List.take_of_length_le (by omega), List.take_length]
    exact Nat.le_refl _

/-- The world of Splits behind so many steps. -/
def SJ (w0 : World) (n : Nat) (w : World) : Prop :=
  ∃ xs vs vt vb vf rb rf, Inv w w0.heap.size w0.heap.size xs vs vt vb vf rb rf ∧ xs.length ≤ n ∧ rb.length ≤ 1 + n ∧ rf.length ≤ n ∧ (∀ x ∈ xs, w0.heap.size ≤ x.pb ∧ w0.heap.size ≤ x.tb ∧ x.all.length ≤ n) ∧ Chg w0 w (fun k => w0.heap.size ≤ k)
theorem SJ.below {w0 w w' : World} {n : Nat} (h : SJ w0 n w) (hb : Below w.heap.size w w') : SJ w0 n w' := by
  obtain ⟨xs, vs, vt, vb, vf, rb, rf, a, b, c, d, e, f⟩ := h
  exact ⟨xs, vs, vt, vb, vf, rb, rf, a.below hb, b, c, d, e, f.trans (Chg.of_below hb (fun _ => False)) (fun _ e _ => e.elim)⟩
theorem SJ.mono {w0 w : World} {n m : Nat} (h : SJ w0 n w) (hm : n ≤ m) : SJ w0 m w := by
  obtain ⟨xs, vs, vt, vb, vf, rb, rf, a, b, c, d, e, f⟩ := h
  exact ⟨xs, vs, vt, vb, vf, rb, rf, a, by omega, by omega, by omega, fun x m => ⟨(e x m).1, (e x m).2.1, by have := (e x m).2.2; omega⟩, f⟩

theorem Inv.start {w : World} {B bw : Nat} (h : w.heap[bw]? = some (.cells (wrow (.slice none 0 0) (.slice none 0 0) (.slice none 0 0) (.slice none 0 0) (.slice none 0 0)) 91 (0, 0))) : Inv w B bw [] (.slice none 0 0) (.slice none 0 0) (.slice none 0 0) (.slice none 0 0) [] [] :=
  ⟨⟨h, World.ownsRow_nil _ _ _ _, World.ownsRow_nil _ _ _ _, by simp, by simp, by simp⟩, World.ownsRow_nil _ _ _ _, World.ownsRow_nil _ _ _ _, by simp, by simp, by simp, by simp, by simp⟩

theorem splits_plays (ops : List (Int × OpV)) (w0 : World) (hn : acc ops ops.length ≤ 2000000) (hA : ∀ op ∈ ops, -9223372036854775808 ≤ op.2.A ∧ op.2.A ≤ 9223372036854775807) (hC : ∀ op ∈ ops, -9223372036854775808 ≤ op.2.C ∧ op.2.C ≤ 9223372036854775807) :
    Plays w0 1 [1, 2, 3] ops (fun i w => SJ w0 (acc ops i) w) (fun i w => SJ w0 (acc ops (i + 1)) w) := by
  refine ⟨fun i w h => ?_, fun i w w' h hb => h.below hb, fun i w h => h.mono (acc_skip ops i), fun i op w ho hk h => ?_, fun i w h => ?_, fun i w w' h hb => h.below hb, fun w a hb hr => ?_⟩
  · obtain ⟨xs, vs, vt, vb, vf, rb, rf, _, _, _, _, _, f⟩ := h
    exact f
  · obtain ⟨xs, vs, vt, vb, vf, rb, rf, hi, b, c, d, e, f⟩ := h
    have m := List.mem_of_getElem? ho
    have hz := f.size
    have e1 := acc_next ops i op ho
    have e2 := acc_le ops (i + 1)
    have old : ∀ {v : Value} {t : TypeId} {s k : Nat} {ys : List Value}, w.ownsRow w0.heap.size t s v k ys → ∀ j, v.ownBlock = some j → w0.heap.size ≤ j := fun r j q => (World.ownsRow.lt r j q).1
    obtain ⟨kk, ov⟩ := op
    simp only at e1 ⊢
    have hk' : kk = 1 ∨ kk = 2 ∨ kk = 3 := by simpa using hk
    rcases hk' with rfl | rfl | rfl
    · refine (step_frame ov w0.heap.size w0.heap.size xs vs vt vb vf rb rf w hi (by omega) hz (by omega) (hC _ m)).mono ?_
      rintro e' w' ⟨rfl, vb', rb', hi', hl, hc⟩
      refine ⟨rfl, xs, vs, vt, vb', vf, rb', rf, hi', by omega, by omega, by omega, fun x mx => ⟨(e x mx).1, (e x mx).2.1, by have := (e x mx).2.2; omega⟩, f.trans hc fun j q _ => ?_⟩
      rcases q with q | q
      · omega
      · exact old hi.book.rowB j q
    · refine (step_fresh ov w0.heap.size w0.heap.size xs vs vt vb vf rb rf w hi (by omega) hz).mono ?_
      rintro e' w' ⟨rfl, xs', vs', vt', hi', hl, hx, hc⟩
      refine ⟨rfl, xs', vs', vt', vb, vf, rb, rf, hi', by omega, by omega, by omega, fun x mx => ?_, f.trans hc fun j q _ => ?_⟩
      · rcases hx x mx with q | ⟨q1, q2, q3⟩
        · exact ⟨(e x q).1, (e x q).2.1, by have := (e x q).2.2; omega⟩
        · exact ⟨by omega, by omega, by rw [q3]; simp⟩
      · rcases q with q | q | q
        · omega
        · exact old hi.rowS j q
        · exact old hi.rowT j q
    · refine (step_feed ov w0.heap.size w0.heap.size xs vs vt vb vf rb rf w hi (by omega) (by omega) hz (by omega) (by omega) (hA _ m) (fun x mx => by have := (e x mx).2.2; omega)).mono ?_
      rintro e' w' ⟨rfl, xs', vb', vf', rb', rf', hi', hl, hx, h1, h2, hc⟩
      refine ⟨rfl, xs', vs, vt, vb', vf', rb', rf', hi', by omega, by omega, by omega, fun y my => ?_, f.trans hc fun j q _ => ?_⟩
      · obtain ⟨x, mx, q1, q2, q3⟩ := hx y my
        have := e x mx
        exact ⟨by omega, by omega, by omega⟩
      · rcases q with q | q | q | ⟨x, mx, q | q | q⟩
        · omega
        · exact old hi.book.rowB j q
        · exact old hi.book.rowF j q
        · have := e x mx; omega
        · have := e x mx; omega
        · exact old (hi.ok x mx).own j q
  · obtain ⟨xs, vs, vt, vb, vf, rb, rf, hi, b, c, d, e, f⟩ := h
    have e2 := acc_le ops (i + 1)
    refine (looks_any w0.heap.size w0.heap.size vb vf rb rf w hi.book.at (by omega) (by omega)).mono ?_
    rintro e' w' ⟨rfl, hb⟩
    exact ⟨rfl, SJ.below ⟨xs, vs, vt, vb, vf, rb, rf, hi, b, c, d, e, f⟩ hb⟩
  · have hi : Inv w w0.heap.size w0.heap.size [] (.slice none 0 0) (.slice none 0 0) (.slice none 0 0) (.slice none 0 0) [] [] := Inv.start hr
    have q := step_frame ⟨1, 2, 0, 0, ⟨#[97, 98, 99]⟩, .slice none 0 0, .int .i64 20, .int .i64 10, .int .i64 5, .int .i64 8, .int .i64 2, .slice (some a) 2 2, .slice none 0 0⟩ w0.heap.size w0.heap.size [] _ _ _ _ [] [] w hi (by show (3 : Nat) ≤ 1000000000; omega) hb.size (by simp) (by show -9223372036854775808 ≤ (0 : Int) ∧ (0 : Int) ≤ 9223372036854775807; omega)
    refine Calls.mono q ?_
    rintro e' w' ⟨rfl, vb', rb', hi', hl, hc⟩
    refine ⟨rfl, [], _, _, vb', _, rb', [], hi', by simp, by simp at hl; omega, by simp, by simp, (Chg.of_below hb _).trans hc fun j q _ => ?_⟩
    rcases q with q | q
    · omega
    · simp [Value.ownBlock] at q

set_option maxRecDepth 100000 in
set_option maxHeartbeats 1000000 in
theorem splits_call (ops : List (Int × OpV)) (a : Option Addr) (c : Nat) (w : World) (hS : ScrAt w.heap.size w a ops) (hl : ops.length ≤ 1000000000) (hn : acc ops ops.length ≤ 2000000) (hA : ∀ op ∈ ops, -9223372036854775808 ≤ op.2.A ∧ op.2.A ≤ 9223372036854775807) (hC : ∀ op ∈ ops, -9223372036854775808 ≤ op.2.C ∧ op.2.C ≤ 9223372036854775807) :
    Calls Tryz.prog 3 #[.slice a ops.length c] w fun e w' => e = .returned (.bool true) ∧ Below w.heap.size w w' := by
  have HP := fun w0 => hide (splits_plays ops w0 hn hA hC)
  have HS := hide hS
  have hb : Below w.heap.size w (w.alloc (.cells #[.int .i64 1, .int .i64 2, .int .i64 3] 3)) := (Below.refl _ _).alloc (Nat.le_refl _) _
  have HS1 : Hid (ScrAt (w.alloc (.cells #[.int .i64 1, .int .i64 2, .int .i64 3] 3)).heap.size (w.alloc (.cells #[.int .i64 1, .int .i64 2, .int .i64 3] 3)) a ops) := fun i op ho => by
    obtain ⟨b, o, e, hlt, hc⟩ := hS i op ho
    refine ⟨b, o, e, by have := hb.size; omega, fun j u h => ?_⟩
    rw [← hc j u h]
    exact World.cell?_of_block (hb.block b hlt)
  have HB := hide hb
  have HC := hide (plays_any 1 [1, 2, 3] ops _ _ a c w.heap.size _ (unhide (HP _)) (unhide HS1) (heap_alloc_new w _) (by simp) rfl (by simp) hl)
  clear hS hA hC hb
  go_enter Tryz.func3, Tryz.ntmps3
  go_wp2_with fail
  refine (unhide HC).mono ?_
  rintro e w' ⟨rfl, hj⟩
  have HJ := hide hj
  clear hj
  go_wp2
  go_ret
  refine ⟨rfl, bl_trans (unhide HB) ?_⟩
  obtain ⟨xs, vs, vt, vb, vf, rb, rf, _, _, _, _, _, f⟩ := unhide HJ
  exact ⟨f.os, f.tape, f.output, f.size, fun k p => f.block k p (by omega)⟩
end Go.Proofs.YtfekelmldebplaaGreatDoor
