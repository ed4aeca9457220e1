import Derived.Test.YtfekelmldebplaaGreatDoorUd
namespace Go.Proofs.YtfekelmldebplaaGreatDoor
open Go.RowKit

theorem quo0 (w : World) : (binOp .quo 3 (.int .i64 0) (.int .i64 65280)).run Tryz.prog w = .ok (.int .i64 0) w := by kernel_rfl
theorem quo1 (w : World) : (binOp .quo 3 (.int .i64 65280) (.int .i64 65280)).run Tryz.prog w = .ok (.int .i64 1) w := by kernel_rfl
/-- The end of one that writes one entry out of a new list. -/
theorem parse_end1 {w W3 : World} {rp : Nat} {f t wa : Int} {x : Int} {v : Value} {bs : List Int} (hR : RAt W3 rp f t 0 0 wa 1 (.slice none 0 0) 0 (.slice none 0 0)) (hC : Chg w W3 (fun k => k = rp)) (h : Lies w v bs) (hv : ∀ b, v.ownBlock = some b → b ≠ rp) {W5 : World}
    (hW : W5 = ((W3.alloc (.cells #[.int .i64 x] 3)).setCell ⟨rp, 6, none⟩ (.slice (some ⟨W3.heap.size, 0, none⟩) 1 1)).setCell ⟨rp, 8, none⟩ v) :
    RAt W5 rp f t 0 0 wa 1 (.slice (some ⟨W3.heap.size, 0, none⟩) 1 1) 0 v ∧ LiesI W5 (.slice (some ⟨W3.heap.size, 0, none⟩) 1 1) [x] ∧ Lies W5 v bs ∧ Chg w W5 (fun k => k = rp) ∧ (∀ b, (Value.slice (some ⟨W3.heap.size, 0, none⟩) 1 1).ownBlock = some b → w.heap.size ≤ b) := by
  subst hW
  have hl := hR.lt
  have c1 : Chg (W3.alloc (.cells #[.int .i64 x] 3)) (((W3.alloc (.cells #[.int .i64 x] 3)).setCell ⟨rp, 6, none⟩ (.slice (some ⟨W3.heap.size, 0, none⟩) 1 1)).setCell ⟨rp, 8, none⟩ v) (fun k => k = rp) := ((Chg.refl _ (fun k => k = rp)).put rp 6 _ rfl).put rp 8 _ rfl
  have c2 : Chg w (((W3.alloc (.cells #[.int .i64 x] 3)).setCell ⟨rp, 6, none⟩ (.slice (some ⟨W3.heap.size, 0, none⟩) 1 1)).setCell ⟨rp, 8, none⟩ v) (fun k => k = rp) := (hC.new _).trans c1 (fun _ e _ => e)
  refine ⟨((hR.below (rule_new _ _)).s6 _).s8 _, ?_, h.chg c2 (fun b e => hv b e), c2, fun b e => by simp [Value.ownBlock] at e; have := hC.size; omega⟩
  have q : (W3.alloc (.cells #[.int .i64 x] 3)).heap[W3.heap.size]? = some (.cells (([x] : List Int).map (Value.int .i64)).toArray 3 (0, 0)) := heap_alloc_new W3 _
  exact lies_chgI (rowI_lies q 0 1 1 (by simp)) c1 (fun b e => by simp [Value.ownBlock] at e; subst e; intro e2; have e3 : W3.heap.size = rp := e2; omega)

set_option maxRecDepth 10000 in
set_option maxHeartbeats 1000000 in
theorem parse5_any (rp : Nat) (f : Int) (v : Value) (bs : List Int) (w : World) (hr : QNew w rp f) (h : Lies w v bs) (hx : Bys bs) (hl : bs.length ≤ 252) (hv : ∀ b, v.ownBlock = some b → b ≠ rp) :
    Calls Tryz.prog 202 #[.pointer (some ⟨rp, 0, none⟩), v] w fun e w' => PPost w rp f v (parse5 f bs) e w' := by
  obtain ⟨av, cv, rfl⟩ := h.slice
  by_cases h4 : bs.length < 4
  · have HR : Hid (parse5 f bs = .inl 3) := by
      show _ = _
      unfold parse5
      rw [if_neg (by omega)]
    have HS := hide (split_no _ bs 2 w h (by omega) h4)
    rw [show ((2 : Nat) : Int) = 2 from rfl] at HS
    have HW := hide (wrongSize_any rp _ _ _ _ _ _ _ _ _ w hr)
    clear h hr hx
    go_enter Tryz.func202, Tryz.ntmps202
    go_wp2_with fail
    refine (unhide HS).mono ?_
    rintro e w ⟨rfl, rfl⟩
    clear HS
    go_wp2_with fail
    refine (unhide HW).mono ?_
    rintro e w1 ⟨n, v', rfl, he, hb⟩
    obtain ⟨T, p, rfl⟩ := he.iface
    have HE := hide he
    clear he HW
    go_wp2
    go_ret
    exact PPost.err (unhide HR) (unhide HE) hb
  · have HS := hide (split_yes _ bs 2 w h hx (by omega) (by omega) (by omega) (by omega))
    rw [show ((2 : Nat) : Int) = 2 from rfl] at HS
    have HR0 := hide hr
    have H := hide h
    have HX := hide hx
    clear h hr hx
    by_cases h5 : bs.length = 4
    · by_cases hv0 : wAt bs 1 = 0
      · have HQ : Hid (parse5 f bs = .inr ⟨f, 0, 0, 0, wAt bs 0, 1, [0], 0, bs⟩) := by
          show _ = _
          unfold parse5
          rw [if_pos ⟨h5, .inl hv0⟩, hv0]
          rfl
        have HV : Hid (((wAt bs 1 : Nat) : Int) = 0) := by
          show _ = _
          omega
        have H5 := hide h5
        have HVV := hide hv
        clear h5 hv0 hv
        go_enter Tryz.func202, Tryz.ntmps202
        go_wp2_with fail
        refine (unhide HS).mono ?_
        rintro e w1 ⟨k, a, m, c, rfl, hs⟩
        have hm : m = 0 := by
          have := hs.rest.len
          have h5 := unhide H5
          simp at this
          omega
        have hr1 := (unhide HR0).below hs.bel
        have q0 := unpW_at bs 2 0 w1 k hs.row (by omega)
        have q1 := unpW_at bs 2 1 w1 k hs.row (by omega)
        have c1 := cell_of_row _ _ 1 _ _ _ hr1.row
        have f1 := frozen_of_row _ _ 1 _ _ hr1.row
        have c4 := cell_of_row _ _ 4 _ _ _ hr1.row
        have f4 := frozen_of_row _ _ 4 _ _ hr1.row
        have c5 := cell_of_row _ _ 5 _ _ _ hr1.row
        have f5 := frozen_of_row _ _ 5 _ _ hr1.row
        have c6 := cell_of_row _ _ 6 _ _ _ hr1.row
        have f6 := frozen_of_row _ _ 6 _ _ hr1.row
        have c8 := cell_of_row _ _ 8 _ _ _ hr1.row
        have f8 := frozen_of_row _ _ 8 _ _ hr1.row
        simp [rrow] at c1 c4 c5 c6 c8
        have HS1 := hide hs
        have HR1 := hide hr1
        subst hm
        clear hs hr1 HS
        have hlr : rp < w.heap.size := (Array.getElem?_eq_some_iff.1 (unhide HR0).row).1
        have hlk := (unhide HS1).lo
        have hne : k ≠ rp := by omega
        have hne' : rp ≠ k := by omega
        rw [unhide HV] at q1
        have hq := quo0
        clear c6 f6 c8 f8
        go_wp2_with (with_reducible (refine (unhide (p := wpList _ _ _ (_ :: _) _ (((World.setCell _ _ _).setCell _ _).setCell _ _)) ?_)))
        have C3 := hide ((((Chg.of_below (unhide HS1).bel (fun k => k = rp)).put rp 1 (.int .i64 0) rfl).put rp 4 (.int .i64 (wAt bs 0 : Nat)) rfl).put rp 5 (.int .i64 1) rfl)
        have R3 := hide ((((unhide HR1).s1 0).s4 (wAt bs 0 : Nat)).s5 1)
        generalize ((w1.setCell ⟨rp, 1, none⟩ (.int .i64 0)).setCell ⟨rp, 4, none⟩ (.int .i64 (wAt bs 0 : Nat))).setCell ⟨rp, 5, none⟩ (.int .i64 1) = W3 at R3 C3 ⊢
        clear c1 f1 c4 f4 c5 f5 q0 q1 hne hne'
        have r4 := (rule_new W3 (.cells #[.int .i64 0] 3)).block rp (unhide R3).lt |>.trans (unhide R3).row
        have c6 := cell_of_row _ _ 6 _ _ _ r4
        have f6 := frozen_of_row _ _ 6 _ _ r4
        have c8 := cell_of_row _ _ 8 _ _ _ r4
        have f8 := frozen_of_row _ _ 8 _ _ r4
        simp only [rrow] at c6 c8
        clear r4
        have HEnd := hide (fun W5 hW => parse_end1 (W5 := W5) (x := 0) (unhide R3) (unhide C3) (unhide H) (unhide HVV) hW)
        show wpList _ _ _ _ _ _
        go_wp2
        go_ret
        have hend := unhide HEnd _ rfl
        refine ⟨hend.2.2.2.1, ?_⟩
        rw [unhide HQ]
        exact ⟨_, _, rfl, hend.1, hend.2.1, hend.2.2.1, hend.2.2.2.2, fun b e => e⟩
      · by_cases hv1 : wAt bs 1 = 65280
        · have HQ : Hid (parse5 f bs = .inr ⟨f, 0, 0, 0, wAt bs 0, 1, [1], 0, bs⟩) := by
            show _ = _
            unfold parse5
            rw [if_pos ⟨h5, .inr hv1⟩, hv1]
            rfl
          have HV : Hid (((wAt bs 1 : Nat) : Int) = 65280) := by
            show _ = _
            omega
          have H5 := hide h5
          have HVV := hide hv
          clear h5 hv0 hv1 hv
          go_enter Tryz.func202, Tryz.ntmps202
          go_wp2_with fail
          refine (unhide HS).mono ?_
          rintro e w1 ⟨k, a, m, c, rfl, hs⟩
          have hm : m = 0 := by
            have := hs.rest.len
            have h5 := unhide H5
            simp at this
            omega
          have hr1 := (unhide HR0).below hs.bel
          have q0 := unpW_at bs 2 0 w1 k hs.row (by omega)
          have q1 := unpW_at bs 2 1 w1 k hs.row (by omega)
          have c1 := cell_of_row _ _ 1 _ _ _ hr1.row
          have f1 := frozen_of_row _ _ 1 _ _ hr1.row
          have c4 := cell_of_row _ _ 4 _ _ _ hr1.row
          have f4 := frozen_of_row _ _ 4 _ _ hr1.row
          have c5 := cell_of_row _ _ 5 _ _ _ hr1.row
          have f5 := frozen_of_row _ _ 5 _ _ hr1.row
          have c6 := cell_of_row _ _ 6 _ _ _ hr1.row
          have f6 := frozen_of_row _ _ 6 _ _ hr1.row
          have c8 := cell_of_row _ _ 8 _ _ _ hr1.row
          have f8 := frozen_of_row _ _ 8 _ _ hr1.row
          simp [rrow] at c1 c4 c5 c6 c8
          have HS1 := hide hs
          have HR1 := hide hr1
          subst hm
          clear hs hr1 HS
          have hlr : rp < w.heap.size := (Array.getElem?_eq_some_iff.1 (unhide HR0).row).1
          have hlk := (unhide HS1).lo
          have hne : k ≠ rp := by omega
          have hne' : rp ≠ k := by omega
          rw [unhide HV] at q1
          have hq := quo1
          clear c6 f6 c8 f8
          go_wp2_with (with_reducible (refine (unhide (p := wpList _ _ _ (_ :: _) _ (((World.setCell _ _ _).setCell _ _).setCell _ _)) ?_)))
          have C3 := hide ((((Chg.of_below (unhide HS1).bel (fun k => k = rp)).put rp 1 (.int .i64 0) rfl).put rp 4 (.int .i64 (wAt bs 0 : Nat)) rfl).put rp 5 (.int .i64 1) rfl)
          have R3 := hide ((((unhide HR1).s1 0).s4 (wAt bs 0 : Nat)).s5 1)
          generalize ((w1.setCell ⟨rp, 1, none⟩ (.int .i64 0)).setCell ⟨rp, 4, none⟩ (.int .i64 (wAt bs 0 : Nat))).setCell ⟨rp, 5, none⟩ (.int .i64 1) = W3 at R3 C3 ⊢
          clear c1 f1 c4 f4 c5 f5 q0 q1 hne hne'
          have r4 := (rule_new W3 (.cells #[.int .i64 1] 3)).block rp (unhide R3).lt |>.trans (unhide R3).row
          have c6 := cell_of_row _ _ 6 _ _ _ r4
          have f6 := frozen_of_row _ _ 6 _ _ r4
          have c8 := cell_of_row _ _ 8 _ _ _ r4
          have f8 := frozen_of_row _ _ 8 _ _ r4
          simp only [rrow] at c6 c8
          clear r4
          have HEnd := hide (fun W5 hW => parse_end1 (W5 := W5) (x := 1) (unhide R3) (unhide C3) (unhide H) (unhide HVV) hW)
          show wpList _ _ _ _ _ _
          go_wp2
          go_ret
          have hend := unhide HEnd _ rfl
          refine ⟨hend.2.2.2.1, ?_⟩
          rw [unhide HQ]
          exact ⟨_, _, rfl, hend.1, hend.2.1, hend.2.2.1, hend.2.2.2.2, fun b e => e⟩
        · have HR : Hid (parse5 f bs = .inl 3) := by
            show _ = _
            unfold parse5
            rw [if_neg (by omega)]
          have hz0 : (((wAt bs 1 : Nat) : Int) != 0) = true := by simp; omega
          have hz1 : (((wAt bs 1 : Nat) : Int) != 65280) = true := by simp; omega
          have H5 := hide h5
          clear h5 hv0 hv1 hv
          go_enter Tryz.func202, Tryz.ntmps202
          go_wp2_with fail
          refine (unhide HS).mono ?_
          rintro e w1 ⟨k, a, m, c, rfl, hs⟩
          have hm : m = 0 := by
            have := hs.rest.len
            have h5 := unhide H5
            simp at this
            omega
          have hr1 := (unhide HR0).below hs.bel
          have q1 := unpW_at bs 2 1 w1 k hs.row (by omega)
          have HS1 := hide hs
          have HR1 := hide hr1
          subst hm
          clear hs hr1 HS
          have hlr : rp < w.heap.size := (Array.getElem?_eq_some_iff.1 (unhide HR0).row).1
          have hlk := (unhide HS1).lo
          have hne : k ≠ rp := by omega
          have hne' : rp ≠ k := by omega
          have HW := hide (fun s => wrong_any rp _ _ _ _ _ _ _ _ _ s w1 (unhide HR1))
          generalize ((wAt bs 1 : Nat) : Int) = x1 at q1 hz0 hz1
          go_wp2_with fail
          refine (unhide HW _).mono ?_
          rintro e w2 ⟨n, v', rfl, he, hb⟩
          obtain ⟨T, p, rfl⟩ := he.iface
          have HE := hide he
          clear he HW
          go_wp2
          go_ret
          exact PPost.err (unhide HR) (unhide HE) (bl_trans (unhide HS1).bel hb)
    · have h5' : 4 < bs.length := by omega
      have HR : Hid (parse5 f bs = .inl 3) := by
        show _ = _
        unfold parse5
        rw [if_neg (by omega)]
      go_enter Tryz.func202, Tryz.ntmps202
      go_wp2_with fail
      refine (unhide HS).mono ?_
      rintro e w1 ⟨k, a, m, c, rfl, hs⟩
      have hm : (0 : Int) < (m : Int) := by
        have := hs.rest.len
        simp at this
        omega
      have HW := hide (wrongSize_any rp _ _ _ _ _ _ _ _ _ w1 ((unhide HR0).below hs.bel))
      have HS1 := hide hs
      clear hs HS
      go_wp2_with fail
      refine (unhide HW).mono ?_
      rintro e w2 ⟨n, v', rfl, he, hb⟩
      obtain ⟨T, p, rfl⟩ := he.iface
      have HE := hide he
      clear he HW
      go_wp2
      go_ret
      exact PPost.err (unhide HR) (unhide HE) (bl_trans (unhide HS1).bel hb)

end Go.Proofs.YtfekelmldebplaaGreatDoor

namespace Go.Proofs.YtfekelmldebplaaGreatDoor
open Go.RowKit

/-- The end of one that writes one entry out of the numbers of the request. -/
theorem parse_end2 {w w1 W3 : World} {rp k : Nat} {f t wa : Int} {v : Value} {bs : List Int} {vr : Value} (hs : SplitAt w w1 v bs 2 k vr) (hR : RAt W3 rp f t 0 0 wa 1 (.slice none 0 0) 0 (.slice none 0 0)) (hC : Chg w1 W3 (fun k => k = rp)) (h : Lies w v bs) (hv : ∀ b, v.ownBlock = some b → b ≠ rp) (hk : k ≠ rp) {W5 : World}
    (hW : W5 = (W3.setCell ⟨rp, 6, none⟩ (.slice (some ⟨k, 1, none⟩) 1 1)).setCell ⟨rp, 8, none⟩ v) :
    RAt W5 rp f t 0 0 wa 1 (.slice (some ⟨k, 1, none⟩) 1 1) 0 v ∧ LiesI W5 (.slice (some ⟨k, 1, none⟩) 1 1) [(wAt bs 1 : Int)] ∧ Lies W5 v bs ∧ Chg w W5 (fun k => k = rp) := by
  subst hW
  have c1 : Chg w1 ((W3.setCell ⟨rp, 6, none⟩ (.slice (some ⟨k, 1, none⟩) 1 1)).setCell ⟨rp, 8, none⟩ v) (fun k => k = rp) := (hC.put rp 6 _ rfl).put rp 8 _ rfl
  have c2 : Chg w ((W3.setCell ⟨rp, 6, none⟩ (.slice (some ⟨k, 1, none⟩) 1 1)).setCell ⟨rp, 8, none⟩ v) (fun k => k = rp) := (Chg.of_below hs.bel (fun k => k = rp)).trans c1 (fun _ e _ => e)
  refine ⟨(hR.s6 _).s8 _, ?_, h.chg c2 (fun b e => hv b e), c2⟩
  have q := lies_chgI (rowI_lies hs.row 1 1 1 (by simp [unpackW_len])) c1 (fun b e => by simp [Value.ownBlock] at e; subst e; exact hk)
  exact q
set_option maxRecDepth 10000 in
set_option maxHeartbeats 1000000 in
theorem parse6_any (rp : Nat) (f : Int) (v : Value) (bs : List Int) (w : World) (hr : QNew w rp f) (h : Lies w v bs) (hx : Bys bs) (hl : bs.length ≤ 252) (hv : ∀ b, v.ownBlock = some b → b ≠ rp) :
    Calls Tryz.prog 203 #[.pointer (some ⟨rp, 0, none⟩), v] w fun e w' => PPost w rp f v (parse6 f bs) e w' := by
  obtain ⟨av, cv, rfl⟩ := h.slice
  by_cases h4 : bs.length < 4
  · have HR : Hid (parse6 f bs = .inl 3) := by
      show _ = _
      unfold parse6
      rw [if_neg (by omega)]
    have HS := hide (split_no _ bs 2 w h (by omega) h4)
    rw [show ((2 : Nat) : Int) = 2 from rfl] at HS
    have HW := hide (wrongSize_any rp _ _ _ _ _ _ _ _ _ w hr)
    clear h hr hx
    go_enter Tryz.func203, Tryz.ntmps203
    go_wp2_with fail
    refine (unhide HS).mono ?_
    rintro e w ⟨rfl, rfl⟩
    clear HS
    go_wp2_with fail
    refine (unhide HW).mono ?_
    rintro e w1 ⟨n, v', rfl, he, hb⟩
    obtain ⟨T, p, rfl⟩ := he.iface
    have HE := hide he
    clear he HW
    go_wp2
    go_ret
    exact PPost.err (unhide HR) (unhide HE) hb
  · have HS := hide (split_yes _ bs 2 w h hx (by omega) (by omega) (by omega) (by omega))
    rw [show ((2 : Nat) : Int) = 2 from rfl] at HS
    have HR0 := hide hr
    have H := hide h
    have HX := hide hx
    clear h hr hx
    by_cases h5 : bs.length = 4
    · have HQ : Hid (parse6 f bs = .inr ⟨f, 3, 0, 0, wAt bs 0, 1, [(wAt bs 1 : Int)], 0, bs⟩) := by
        show _ = _
        unfold parse6
        rw [if_pos h5]
      have H5 := hide h5
      have HVV := hide hv
      clear h5 hv
      go_enter Tryz.func203, Tryz.ntmps203
      go_wp2_with fail
      refine (unhide HS).mono ?_
      rintro e w1 ⟨k, a, m, c, rfl, hs⟩
      have hm : m = 0 := by
        have := hs.rest.len
        have h5 := unhide H5
        simp at this
        omega
      have hr1 := (unhide HR0).below hs.bel
      have q0 := unpW_at bs 2 0 w1 k hs.row (by omega)
      have q1 := unpW_at bs 2 1 w1 k hs.row (by omega)
      have c1 := cell_of_row _ _ 1 _ _ _ hr1.row
      have f1 := frozen_of_row _ _ 1 _ _ hr1.row
      have c4 := cell_of_row _ _ 4 _ _ _ hr1.row
      have f4 := frozen_of_row _ _ 4 _ _ hr1.row
      have c5 := cell_of_row _ _ 5 _ _ _ hr1.row
      have f5 := frozen_of_row _ _ 5 _ _ hr1.row
      simp [rrow] at c1 c4 c5
      have HS1 := hide hs
      have HR1 := hide hr1
      subst hm
      clear hs hr1 HS
      have hlr : rp < w.heap.size := (Array.getElem?_eq_some_iff.1 (unhide HR0).row).1
      have hlk := (unhide HS1).lo
      have hne : k ≠ rp := by omega
      have hne' : rp ≠ k := by omega
      go_wp2_with (with_reducible (refine (unhide (p := wpList _ _ _ (_ :: _) _ (((World.setCell _ _ _).setCell _ _).setCell _ _)) ?_)))
      have C3 := hide ((((Chg.refl w1 (fun k => k = rp)).put rp 1 (.int .i64 3) rfl).put rp 4 (.int .i64 (wAt bs 0 : Nat)) rfl).put rp 5 (.int .i64 1) rfl)
      have R3 := hide ((((unhide HR1).s1 3).s4 (wAt bs 0 : Nat)).s5 1)
      generalize ((w1.setCell ⟨rp, 1, none⟩ (.int .i64 3)).setCell ⟨rp, 4, none⟩ (.int .i64 (wAt bs 0 : Nat))).setCell ⟨rp, 5, none⟩ (.int .i64 1) = W3 at R3 C3 ⊢
      clear c1 f1 c4 f4 c5 f5 q0 q1
      have c6 := cell_of_row _ _ 6 _ _ _ (unhide R3).row
      have f6 := frozen_of_row _ _ 6 _ _ (unhide R3).row
      have c8 := cell_of_row _ _ 8 _ _ _ (unhide R3).row
      have f8 := frozen_of_row _ _ 8 _ _ (unhide R3).row
      simp only [rrow] at c6 c8
      have HEnd := hide (fun W5 hW => parse_end2 (W5 := W5) (unhide HS1) (unhide R3) (unhide C3) (unhide H) (unhide HVV) hne hW)
      clear hne hne'
      show wpList _ _ _ _ _ _
      go_wp2
      go_ret
      have hend := unhide HEnd _ rfl
      refine ⟨hend.2.2.2, ?_⟩
      rw [unhide HQ]
      exact ⟨_, _, rfl, hend.1, hend.2.1, hend.2.2.1, fun b e => by simp [Value.ownBlock] at e; omega, fun b e => e⟩
    · have h5' : 4 < bs.length := by omega
      have HR : Hid (parse6 f bs = .inl 3) := by
        show _ = _
        unfold parse6
        rw [if_neg (by omega)]
      go_enter Tryz.func203, Tryz.ntmps203
      go_wp2_with fail
      refine (unhide HS).mono ?_
      rintro e w1 ⟨k, a, m, c, rfl, hs⟩
      have hm : (0 : Int) < (m : Int) := by
        have := hs.rest.len
        simp at this
        omega
      have HW := hide (wrongSize_any rp _ _ _ _ _ _ _ _ _ w1 ((unhide HR0).below hs.bel))
      have HS1 := hide hs
      clear hs HS
      go_wp2_with fail
      refine (unhide HW).mono ?_
      rintro e w2 ⟨n, v', rfl, he, hb⟩
      obtain ⟨T, p, rfl⟩ := he.iface
      have HE := hide he
      clear he HW
      go_wp2
      go_ret
      exact PPost.err (unhide HR) (unhide HE) (bl_trans (unhide HS1).bel hb)

theorem SplitAt.below {w w1 w2 : World} {v : Value} {bs : List Int} {n k : Nat} {vr : Value} (h : SplitAt w w1 v bs n k vr) (hb : Below w1.heap.size w1 w2) : SplitAt w w2 v bs n k vr :=
  ⟨h.lo, (hb.block k (Array.getElem?_eq_some_iff.1 h.row).1).trans h.row, h.rest.below hb, h.own, bl_trans h.bel hb⟩
/-- The end of the one with the mask. -/
theorem parse_end3 {w w1 W3 : World} {rp k : Nat} {f : Int} {v : Value} {bs : List Int} {vr : Value} (hs : SplitAt w w1 v bs 3 k vr) (hR : RAt W3 rp f 3 (wAt bs 0 : Nat) 1 (wAt bs 0 : Nat) 1 (.slice none 0 0) 0 (.slice none 0 0)) (hC : Chg w1 W3 (fun k => k = rp)) (h : Lies w v bs) (hv : ∀ b, v.ownBlock = some b → b ≠ rp) (hk : k ≠ rp) {W5 : World}
    (hW : W5 = ((W3.setCell ⟨rp, 7, none⟩ (.int .i64 (wAt bs 1 : Nat))).setCell ⟨rp, 6, none⟩ (.slice (some ⟨k, 2, none⟩) 1 1)).setCell ⟨rp, 8, none⟩ v) :
    RAt W5.drew rp f 3 (wAt bs 0 : Nat) 1 (wAt bs 0 : Nat) 1 (.slice (some ⟨k, 2, none⟩) 1 1) (wAt bs 1 : Nat) v ∧ LiesI W5.drew (.slice (some ⟨k, 2, none⟩) 1 1) [(wAt bs 2 : Int)] ∧ Lies W5.drew v bs ∧ Chg w W5.drew (fun k => k = rp) := by
  subst hW
  have c1 := (((hC.put rp 7 (.int .i64 (wAt bs 1 : Nat)) rfl).put rp 6 (.slice (some ⟨k, 2, none⟩) 1 1) rfl).put rp 8 v rfl).drew
  have c2 := (Chg.of_below hs.bel (fun k => k = rp)).trans c1 (fun _ e _ => e)
  refine ⟨⟨(((hR.s7 _).s6 _).s8 _).row⟩, ?_, h.chg c2 (fun b e => hv b e), c2⟩
  exact lies_chgI (rowI_lies hs.row 2 1 1 (by simp [unpackW_len])) c1 (fun b e => by simp [Value.ownBlock] at e; subst e; exact hk)
set_option maxRecDepth 10000 in
set_option maxHeartbeats 1000000 in
theorem parse22_any (rp : Nat) (f : Int) (v : Value) (bs : List Int) (w : World) (hr : QNew w rp f) (h : Lies w v bs) (hx : Bys bs) (hl : bs.length ≤ 252) (hv : ∀ b, v.ownBlock = some b → b ≠ rp) :
    Calls Tryz.prog 206 #[.pointer (some ⟨rp, 0, none⟩), v] w fun e w' => PPost w rp f v (parse22 f bs) e w' := by
  obtain ⟨av, cv, rfl⟩ := h.slice
  by_cases h4 : bs.length < 6
  · have HR : Hid (parse22 f bs = .inl 3) := by
      show _ = _
      unfold parse22
      rw [if_neg (by omega)]
    have HS := hide (split_no _ bs 3 w h (by omega) h4)
    rw [show ((3 : Nat) : Int) = 3 from rfl] at HS
    have HW := hide (wrongSize_any rp _ _ _ _ _ _ _ _ _ w hr)
    clear h hr hx
    go_enter Tryz.func206, Tryz.ntmps206
    go_wp2_with fail
    refine (unhide HS).mono ?_
    rintro e w ⟨rfl, rfl⟩
    clear HS
    go_wp2_with fail
    refine (unhide HW).mono ?_
    rintro e w1 ⟨n, v', rfl, he, hb⟩
    obtain ⟨T, p, rfl⟩ := he.iface
    have HE := hide he
    clear he HW
    go_wp2
    go_ret
    exact PPost.err (unhide HR) (unhide HE) hb
  · have HS := hide (split_yes _ bs 3 w h hx (by omega) (by omega) (by omega) (by omega))
    rw [show ((3 : Nat) : Int) = 3 from rfl] at HS
    have HR0 := hide hr
    have H := hide h
    have HX := hide hx
    clear h hr hx
    by_cases h5 : bs.length = 6
    · have HQ : Hid (parse22 f bs = .inr ⟨f, 3, wAt bs 0, 1, wAt bs 0, 1, [(wAt bs 2 : Int)], wAt bs 1, bs⟩) := by
        show _ = _
        unfold parse22
        rw [if_pos h5]
      have H5 := hide h5
      have HVV := hide hv
      clear h5 hv
      go_enter Tryz.func206, Tryz.ntmps206
      go_wp2_with fail
      refine (unhide HS).mono ?_
      rintro e w1 ⟨k, a, m, c, rfl, hs⟩
      have hm : m = 0 := by
        have := hs.rest.len
        have h5 := unhide H5
        simp at this
        omega
      have hr1 := (unhide HR0).below hs.bel
      have q0 := unpW_at bs 3 0 w1 k hs.row (by omega)
      have q1 := unpW_at bs 3 1 w1 k hs.row (by omega)
      have q2 := unpW_at bs 3 2 w1 k hs.row (by omega)
      have c1 := cell_of_row _ _ 1 _ _ _ hr1.row
      have f1 := frozen_of_row _ _ 1 _ _ hr1.row
      have c2 := cell_of_row _ _ 2 _ _ _ hr1.row
      have f2 := frozen_of_row _ _ 2 _ _ hr1.row
      have c3 := cell_of_row _ _ 3 _ _ _ hr1.row
      have f3 := frozen_of_row _ _ 3 _ _ hr1.row
      have c4 := cell_of_row _ _ 4 _ _ _ hr1.row
      have f4 := frozen_of_row _ _ 4 _ _ hr1.row
      have c5 := cell_of_row _ _ 5 _ _ _ hr1.row
      have f5 := frozen_of_row _ _ 5 _ _ hr1.row
      simp [rrow] at c1 c2 c3 c4 c5
      have HS1 := hide hs
      have HR1 := hide hr1
      subst hm
      clear hs hr1 HS
      have hlr : rp < w.heap.size := (Array.getElem?_eq_some_iff.1 (unhide HR0).row).1
      have hlk := (unhide HS1).lo
      have hne : k ≠ rp := by omega
      have hne' : rp ≠ k := by omega
      go_wp2
      have hb2 := rule_new w1 (.cells #[.int .i64 (wAt bs 0 : Nat), .int .i64 1] 271)
      have R2 := hide ((unhide HR1).below hb2)
      have S2 := hide ((unhide HS1).below hb2)
      have rh : (w1.alloc (.cells #[.int .i64 (wAt bs 0 : Nat), .int .i64 1] 271)).heap[w1.heap.size]? = some (.cells #[.int .i64 (wAt bs 0 : Nat), .int .i64 1] 271 (0, 0)) := heap_alloc_new w1 _
      have hnr : w1.heap.size ≠ rp := by have := (unhide HR1).lt; omega
      generalize w1.alloc (.cells #[.int .i64 (wAt bs 0 : Nat), .int .i64 1] 271) = w2 at hb2 R2 S2 rh ⊢
      clear c1 f1 c2 f2 c3 f3 c4 f4 c5 f5 q0 q1 q2 HS1 HR1 hb2
      generalize w1.heap.size = hp at rh hnr ⊢
      have h0 := cell_of_row _ _ 0 _ _ _ rh
      have h1 := cell_of_row _ _ 1 _ _ _ rh
      simp at h0 h1
      clear rh
      have c1 := cell_of_row _ _ 1 _ _ _ (unhide R2).row
      have f1 := frozen_of_row _ _ 1 _ _ (unhide R2).row
      have c2 := cell_of_row _ _ 2 _ _ _ (unhide R2).row
      have f2 := frozen_of_row _ _ 2 _ _ (unhide R2).row
      have c3 := cell_of_row _ _ 3 _ _ _ (unhide R2).row
      have f3 := frozen_of_row _ _ 3 _ _ (unhide R2).row
      have c4 := cell_of_row _ _ 4 _ _ _ (unhide R2).row
      have f4 := frozen_of_row _ _ 4 _ _ (unhide R2).row
      have c5 := cell_of_row _ _ 5 _ _ _ (unhide R2).row
      have f5 := frozen_of_row _ _ 5 _ _ (unhide R2).row
      simp [rrow] at c1 c2 c3 c4 c5
      go_region
      have C3 := hide ((((((Chg.refl w2 (fun k => k = rp)).put rp 1 (.int .i64 3) rfl).put rp 2 (.int .i64 (wAt bs 0 : Nat)) rfl).put rp 3 (.int .i64 1) rfl).put rp 4 (.int .i64 (wAt bs 0 : Nat)) rfl).put rp 5 (.int .i64 1) rfl).drew
      have R3 : Hid (RAt (((((w2.setCell ⟨rp, 1, none⟩ (.int .i64 3)).setCell ⟨rp, 2, none⟩ (.int .i64 (wAt bs 0 : Nat))).setCell ⟨rp, 3, none⟩ (.int .i64 1)).setCell ⟨rp, 4, none⟩ (.int .i64 (wAt bs 0 : Nat))).setCell ⟨rp, 5, none⟩ (.int .i64 1)).drew rp f 3 (wAt bs 0 : Nat) 1 (wAt bs 0 : Nat) 1 (.slice none 0 0) 0 (.slice none 0 0)) := ⟨((((((unhide R2).s1 3).s2 (wAt bs 0 : Nat)).s3 1).s4 (wAt bs 0 : Nat)).s5 1).row⟩
      generalize (((((w2.setCell ⟨rp, 1, none⟩ (.int .i64 3)).setCell ⟨rp, 2, none⟩ (.int .i64 (wAt bs 0 : Nat))).setCell ⟨rp, 3, none⟩ (.int .i64 1)).setCell ⟨rp, 4, none⟩ (.int .i64 (wAt bs 0 : Nat))).setCell ⟨rp, 5, none⟩ (.int .i64 1)).drew = W3 at R3 C3 ⊢
      clear c1 f1 c2 f2 c3 f3 c4 f4 c5 f5 h0 h1
      have r3 := ((unhide C3).block k (Array.getElem?_eq_some_iff.1 (unhide S2).row).1 hne).trans (unhide S2).row
      have q1 := unpW_at bs 3 1 W3 k r3 (by omega)
      clear r3
      have c6 := cell_of_row _ _ 6 _ _ _ (unhide R3).row
      have f6 := frozen_of_row _ _ 6 _ _ (unhide R3).row
      have c7 := cell_of_row _ _ 7 _ _ _ (unhide R3).row
      have f7 := frozen_of_row _ _ 7 _ _ (unhide R3).row
      have c8 := cell_of_row _ _ 8 _ _ _ (unhide R3).row
      have f8 := frozen_of_row _ _ 8 _ _ (unhide R3).row
      simp only [rrow] at c6 c7 c8
      have HEnd := hide (fun W5 hW => parse_end3 (W5 := W5) (unhide S2) (unhide R3) (unhide C3) (unhide H) (unhide HVV) hne hW)
      go_wp2
      go_region
      go_wp2
      go_ret
      have hend := unhide HEnd _ rfl
      refine ⟨hend.2.2.2, ?_⟩
      rw [unhide HQ]
      exact ⟨_, _, rfl, hend.1, hend.2.1, hend.2.2.1, fun b e => by simp [Value.ownBlock] at e; omega, fun b e => e⟩
    · have h5' : 6 < bs.length := by omega
      have HR : Hid (parse22 f bs = .inl 3) := by
        show _ = _
        unfold parse22
        rw [if_neg (by omega)]
      go_enter Tryz.func206, Tryz.ntmps206
      go_wp2_with fail
      refine (unhide HS).mono ?_
      rintro e w1 ⟨k, a, m, c, rfl, hs⟩
      have hm : (0 : Int) < (m : Int) := by
        have := hs.rest.len
        simp at this
        omega
      have HW := hide (wrongSize_any rp _ _ _ _ _ _ _ _ _ w1 ((unhide HR0).below hs.bel))
      have HS1 := hide hs
      clear hs HS
      go_wp2_with fail
      refine (unhide HW).mono ?_
      rintro e w2 ⟨n, v', rfl, he, hb⟩
      obtain ⟨T, p, rfl⟩ := he.iface
      have HE := hide he
      clear he HW
      go_wp2
      go_ret
      exact PPost.err (unhide HR) (unhide HE) (bl_trans (unhide HS1).bel hb)

end Go.Proofs.YtfekelmldebplaaGreatDoor
