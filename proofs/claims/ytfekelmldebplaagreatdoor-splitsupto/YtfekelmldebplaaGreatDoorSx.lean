import Derived.Test.YtfekelmldebplaaGreatDoorSw
namespace Go.Proofs.YtfekelmldebplaaGreatDoor
open Go.RowKit

theorem FedPost.below {w W w' : World} {B bw : Nat} {xs : List SP} {vs vt vb vf : Value} {rb rf : List Rec} {n : Nat} (hb : Below w.heap.size w W) (h : FedPost W w' B bw xs vs vt vb vf rb rf n) : FedPost w w' B bw xs vs vt vb vf rb rf n := by
  obtain ⟨xs', vb', vf', rb', rf', a, b, c, d, e, f⟩ := h
  exact ⟨xs', vb', vf', rb', rf', a, b, c, d, e, (Chg.of_below hb _).trans f (fun _ e _ => e)⟩

set_option maxRecDepth 100000 in
set_option maxHeartbeats 1000000 in
theorem step_feed (o : OpV) (B bw : Nat) (xs : List SP) (vs vt vb vf : Value) (rb rf : List Rec) (w : World) (h : Inv w B bw xs vs vt vb vf rb rf) (hn2 : xs.length ≤ 1000000000) (hs0 : o.s.size ≤ 100000000) (hB : B ≤ w.heap.size) (hrb : rb.length + o.s.size ≤ 1000000000) (hrf : rf.length ≤ 1000000000)
    (hA : -9223372036854775808 ≤ o.A ∧ o.A ≤ 9223372036854775807) (hall : ∀ x ∈ xs, x.all.length + o.s.size ≤ 1000000000) :
    Calls Tryz.prog 39 #[.pointer (some ⟨bw, 0, none⟩), .agg (o.cells 3)] w fun e w' => e = .returned (.bool true) ∧ FedPost w w' B bw xs vs vt vb vf rb rf o.s.size := by
  obtain ⟨os, cs, rfl, hos1, hos2⟩ := ownsRow_opt h.rowS
  have H := hide h
  have hbw : bw < w.heap.size := (Array.getElem?_eq_some_iff.1 h.book.row).1
  have q0 := cell_of_row _ _ 0 _ _ _ h.book.row
  simp [wrow] at q0
  by_cases hx : xs.length = 0
  · have HX := hide hx
    obtain ⟨A, Bq, C, D, s, l, n0, n1, n2, n3, n4, ru, li⟩ := o
    unfold OpV.cells
    rw [hx] at q0
    clear h hos1 hos2 hx hn2 hrb hrf hall hs0
    go_enter Tryz.func39, Tryz.ntmps39
    go_wp2
    go_ret
    have hb : Below w.heap.size w (w.alloc (.cells #[.int .i64 3, .int .i64 A, .int .i64 Bq, .int .i64 C, .int .i64 D, .string s, l, n0, n1, n2, n3, n4, ru, li] 95)) := (Below.refl _ _).alloc (Nat.le_refl _) _
    exact ⟨rfl, xs, vb, vf, rb, rf, (unhide H).below hb, rfl, fun y m => ⟨y, m, rfl, rfl, by omega⟩, by omega, by omega, Chg.of_below hb _⟩
  · have hx' : (0 : Int) < (xs.length : Int) := by omega
    have hF := fun W (hb : Below w.heap.size w W) => fed_any o 3 B bw xs _ vt vb vf rb rf W (h.below hb) (by omega) hn2 hs0 (by have := hb.size; omega) hrb hrf hA hall
    have HF := hide hF
    obtain ⟨A, Bq, C, D, s, l, n0, n1, n2, n3, n4, ru, li⟩ := o
    unfold OpV.cells at *
    clear h hF hos1 hos2 hx hn2 hrb hrf hall hs0
    have hb : Below w.heap.size w (w.alloc (.cells #[.int .i64 3, .int .i64 A, .int .i64 Bq, .int .i64 C, .int .i64 D, .string s, l, n0, n1, n2, n3, n4, ru, li] 95)) := (Below.refl _ _).alloc (Nat.le_refl _) _
    have HB := hide hb
    clear hb
    go_enter Tryz.func39, Tryz.ntmps39
    go_wp2_with fail
    refine (unhide HF _ (unhide HB)).mono ?_
    rintro e w1 ⟨rfl, hp⟩
    have HP := hide hp
    clear hp
    go_wp2
    go_ret
    exact ⟨rfl, (unhide HP).below (unhide HB)⟩
end Go.Proofs.YtfekelmldebplaaGreatDoor
