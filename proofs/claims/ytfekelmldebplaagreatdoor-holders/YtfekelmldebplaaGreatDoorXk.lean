import Derived.Test.YtfekelmldebplaaGreatDoorUi
import Derived.Test.YtfekelmldebplaaGreatDoorZc
import Derived.Test.YtfekelmldebplaaGreatDoorTr
namespace Go.Proofs.YtfekelmldebplaaGreatDoor
open Go.RowKit

theorem cutKey {G : Prop} {S : Prop} (main : S → G) (key : S) : G := main key
/-- The two spans, as they lie. -/
structure Spans (w1 w2 : World) (p2 p3 : Nat) (a b c d : Int) : Prop where
  r2 : w2.heap[p2]? = some (.cells #[.int .i64 a, .int .i64 b] 271 (0, 0))
  r3 : w2.heap[p3]? = some (.cells #[.int .i64 c, .int .i64 d] 271 (0, 0))
  l2 : w1.heap.size ≤ p2
  l3 : w1.heap.size ≤ p3
  bel : Below w1.heap.size w1 w2
theorem spans_one (w1 : World) (a b c d : Int) : Spans w1 ((w1.alloc (.cells #[.int .i64 a, .int .i64 b] 271)).alloc (.cells #[.int .i64 c, .int .i64 d] 271)).drew w1.heap.size (w1.heap.size + 1) a b c d := by
  refine ⟨?_, ?_, Nat.le_refl _, by omega, (bl_trans (rule_new w1 _) (rule_new _ _)).drew⟩
  · exact ((rule_new (w1.alloc (.cells #[.int .i64 a, .int .i64 b] 271)) (.cells #[.int .i64 c, .int .i64 d] 271)).block w1.heap.size (by simp)).trans (heap_alloc_new w1 _)
  · have := heap_alloc_new (w1.alloc (.cells #[.int .i64 a, .int .i64 b] 271)) (.cells #[.int .i64 c, .int .i64 d] 271)
    simp only [World.size_alloc] at this
    exact this
theorem Spans.swap {w1 w2 : World} {p2 p3 : Nat} {a b c d : Int} (h : Spans w1 w2 p2 p3 a b c d) : Spans w1 w2 p3 p2 c d a b := ⟨h.r3, h.r2, h.l3, h.l2, h.bel⟩

set_option maxRecDepth 10000 in
set_option maxHeartbeats 4000000 in
theorem parse23_any (rp : Nat) (f : Int) (v : Value) (bs : List Int) (w : World) (hr : QNew w rp f) (h : Lies w v bs) (hx : Bys bs) (hl : bs.length ≤ 252) (hv : ∀ b, v.ownBlock = some b → b ≠ rp) :
    Calls Tryz.prog 207 #[.pointer (some ⟨rp, 0, none⟩), v] w fun e w' => PPost w rp f v (parse23 f bs) e w' := by
  obtain ⟨av, cv, rfl⟩ := h.slice
  by_cases h4 : bs.length < 8
  · have HR : Hid (parse23 f bs = .inl 3) := by
      show _ = _
      unfold parse23
      rw [if_neg (by omega)]
    have HS := hide (split_no _ bs 4 w h (by omega) h4)
    rw [show ((4 : Nat) : Int) = 4 from rfl] at HS
    have HW := hide (wrongSize_any rp _ _ _ _ _ _ _ _ _ w hr)
    clear h hr hx
    go_enter Tryz.func207, Tryz.ntmps207
    go_wp2_with fail
    refine (unhide HS).mono ?_
    rintro e w ⟨rfl, rfl⟩
    clear HS
    go_wp2_with fail
    refine (unhide HW).mono ?_
    rintro e w1 ⟨n, v', rfl, he, hb⟩
    obtain ⟨T, p, rfl⟩ := he.iface
    have HE := hide he
    clear he HW
    go_wp2
    go_ret
    exact PPost.err (unhide HR) (unhide HE) hb
  · have HS := hide (split_yes _ bs 4 w h hx (by omega) (by omega) (by omega) (by omega))
    rw [show ((4 : Nat) : Int) = 4 from rfl] at HS
    have HR0 := hide hr
    have H := hide h
    have HX := hide hx
    clear h hr hx
    have HVV := hide hv
    have hw1 := wAt_lt bs (unhide HX) 1
    have hw3 := wAt_lt bs (unhide HX) 3
    clear hv
    have HC1 := hide (fun w => isCount_any (wAt bs 1) 125 w)
    have HC3 := hide (fun w => isCount_any (wAt bs 3) 121 w)
    rw [show ((125 : Nat) : Int) = 125 from rfl] at HC1
    rw [show ((121 : Nat) : Int) = 121 from rfl] at HC3
    go_enter Tryz.func207, Tryz.ntmps207
    go_wp2_with fail
    refine (unhide HS).mono ?_
    rintro e w1 ⟨k, a, m, c, rfl, hs⟩
    have q0 := unpW_at bs 4 0 w1 k hs.row (by omega)
    have q1 := unpW_at bs 4 1 w1 k hs.row (by omega)
    have q2 := unpW_at bs 4 2 w1 k hs.row (by omega)
    have q3 := unpW_at bs 4 3 w1 k hs.row (by omega)
    have HS1 := hide hs
    clear hs HS
    have hkl : k < w1.heap.size := (Array.getElem?_eq_some_iff.1 (unhide HS1).row).1
    have hkn : k ≠ w1.heap.size := by omega
    have hkn1 : k ≠ w1.heap.size + 1 := by omega
    have hkn' : w1.heap.size ≠ k := by omega
    have hkn1' : w1.heap.size + 1 ≠ k := by omega
    have hk1 : ∀ (o : Obj) (i : Nat), (w1.alloc o).cell? ⟨k, i, none⟩ = w1.cell? ⟨k, i, none⟩ := fun o i => World.cell?_alloc_lt _ _ _ hkl
    have hk2 : ∀ (o o2 : Obj) (i : Nat), ((w1.alloc o).alloc o2).cell? ⟨k, i, none⟩ = w1.cell? ⟨k, i, none⟩ := fun o o2 i => by rw [World.cell?_alloc_lt _ _ _ (by simp; omega)]; exact hk1 o i
    go_wp2_with fail
    apply cutKey
    case main =>
      intro key
      go_region
      · have hF := spans_one w1 (wAt bs 0 : Nat) (wAt bs 1 : Nat) (wAt bs 2 : Nat) (wAt bs 3 : Nat)
        generalize ((w1.alloc (.cells #[.int .i64 (wAt bs 0 : Nat), .int .i64 (wAt bs 1 : Nat)] 271)).alloc (.cells #[.int .i64 (wAt bs 2 : Nat), .int .i64 (wAt bs 3 : Nat)] 271)).drew = w2 at hF ⊢
        generalize w1.heap.size + 1 = p3 at hF ⊢
        generalize w1.heap.size = p2 at hF ⊢
        revert hF
        revert w2 p2 p3
        exact key
      all_goals
        first
          | exact key _ _ _ (spans_one w1 (wAt bs 0 : Nat) (wAt bs 1 : Nat) (wAt bs 2 : Nat) (wAt bs 3 : Nat))
          | exact key _ _ _ (spans_one w1 (wAt bs 2 : Nat) (wAt bs 3 : Nat) (wAt bs 0 : Nat) (wAt bs 1 : Nat)).swap
    case key =>
      intro w2 p2 p3 hF
      have hs2 := (unhide HS1).below2 hF.bel
      have hr2 := (unhide HR0).below hs2.bel
      have HS2 := hide hs2
      have HR2 := hide hr2
      have HF := hide hF
      have x1 := cell_of_row _ _ 1 _ _ _ hF.r2
      have y1 := cell_of_row _ _ 1 _ _ _ hF.r3
      simp at x1 y1
      clear hs2 hr2 hF hkl hkn hkn1 hkn' hkn1' hk1 hk2 q0 q1 q2 q3
      cases hc1 : countB (wAt bs 1) 125 with
      | false =>
        have HR : Hid (parse23 f bs = .inl 3) := by
          show _ = _
          unfold parse23
          rw [if_neg (by rw [hc1]; simp)]
        have HW := hide (wrongCount_any rp _ _ _ _ _ _ _ _ _ w2 (unhide HR2))
        rw [hc1] at HC1
        clear hc1
        go_wp2_with (go_at_call 217; refine (unhide HC1 _).mono ?_; rintro e w2 ⟨rfl, rfl⟩)
        refine (unhide HW).mono ?_
        rintro e w3 ⟨n, v', rfl, he, hb⟩
        obtain ⟨T, p, rfl⟩ := he.iface
        have HE := hide he
        clear he HW
        go_wp2
        go_ret
        exact PPost.err (unhide HR) (unhide HE) (bl_trans (unhide HS2).bel hb)
      | true =>
        rw [hc1] at HC1
        cases hc3 : countB (wAt bs 3) 121 with
        | false =>
          have HR : Hid (parse23 f bs = .inl 3) := by
            show _ = _
            unfold parse23
            rw [if_neg (by rw [hc3]; simp)]
          have HW := hide (wrongCount_any rp _ _ _ _ _ _ _ _ _ w2 (unhide HR2))
          rw [hc3] at HC3
          clear hc1 hc3
          go_wp2_with fail
          refine (unhide HC1 _).mono ?_
          rintro e w2 ⟨rfl, rfl⟩
          go_wp2_with fail
          refine (unhide HC3 _).mono ?_
          rintro e w2 ⟨rfl, rfl⟩
          go_wp2_with fail
          refine (unhide HW).mono ?_
          rintro e w3 ⟨n, v', rfl, he, hb⟩
          obtain ⟨T, p, rfl⟩ := he.iface
          have HE := hide he
          clear he HW
          go_wp2
          go_ret
          exact PPost.err (unhide HR) (unhide HE) (bl_trans (unhide HS2).bel hb)
        | true =>
          rw [hc3] at HC3
          have hn3 : 1 ≤ wAt bs 3 ∧ wAt bs 3 ≤ 121 := by simp [countB] at hc3; exact hc3
          have HSz := hide (fun w => wsize_n (wAt bs 3) (2 * wAt bs 3) w (by omega) rfl)
          cases hz : sizedB (bs.drop 8) (2 * wAt bs 3) with
          | false =>
            have HR : Hid (parse23 f bs = .inl 3) := by
              show _ = _
              unfold parse23
              rw [if_neg (fun e => by
                obtain ⟨e1, _, _, e2, e3⟩ := e
                have : sizedB (bs.drop 8) (2 * wAt bs 3) = true := by
                  simp only [sizedB, List.length_drop, drop_getD, Bool.and_eq_true, decide_eq_true_eq]
                  exact ⟨by omega, by simpa using e3⟩
                rw [hz] at this
                cases this)]
            have HZ1 := hide (sized_no _ _ (2 * wAt bs 3) w2 (unhide HS2).rest ((unhide HX).drop 8) (by simp; omega) (by omega) hz)
            have HW := hide (fun w3 (hb : Below w2.heap.size w2 w3) => wrongSize_any rp _ _ _ _ _ _ _ _ _ w3 ((unhide HR2).below hb))
            clear hc1 hc3 hz
            generalize ((2 * wAt bs 3 : Nat) : Int) = sz at HSz HZ1
            go_wp2_with fail
            refine (unhide HC1 _).mono ?_
            rintro e w2 ⟨rfl, rfl⟩
            go_wp2_with fail
            refine (unhide HC3 _).mono ?_
            rintro e w2 ⟨rfl, rfl⟩
            go_wp2_with fail
            refine (unhide HSz _).mono ?_
            rintro e w2 ⟨rfl, rfl⟩
            go_wp2_with fail
            refine (unhide HZ1).mono ?_
            rintro e w3 ⟨rfl, hb3⟩
            have HW2 := hide (unhide HW w3 hb3)
            have HB3 := hide hb3
            clear HW hb3 HZ1
            go_wp2_with fail
            refine (unhide HW2).mono ?_
            rintro e w4 ⟨n, v', rfl, he, hb⟩
            obtain ⟨T, p, rfl⟩ := he.iface
            have HE := hide he
            clear he HW2
            go_wp2
            go_ret
            exact PPost.err (unhide HR) (unhide HE) (bl_trans (bl_trans (unhide HS2).bel (unhide HB3)) hb)
          | true =>
            have hz2 : (bs.drop 8).length = 1 + 2 * wAt bs 3 ∧ (bs.drop 8).getD 0 0 = ((2 * wAt bs 3 : Nat) : Int) := by
              simp only [sizedB, Bool.and_eq_true, decide_eq_true_eq] at hz
              exact hz
            have HQ : Hid (parse23 f bs = .inr ⟨f, 3, wAt bs 0, wAt bs 1, wAt bs 2, wAt bs 3, unpackW (bs.drop 9) (wAt bs 3), 0, []⟩) := by
              show _ = _
              unfold parse23
              rw [if_pos ⟨by omega, hc1, hc3, by have := hz2.1; simp at this; omega, by have := hz2.2; rw [drop_getD] at this; exact this⟩]
            have HLn : Hid (2 * wAt bs 3 ≤ (bs.drop 9).length) := by
              have := hz2.1
              simp at this
              show 2 * wAt bs 3 ≤ (bs.drop 9).length
              simp
              omega
            clear hz2
            have HZ1 := hide (sized_yes _ _ (2 * wAt bs 3) w2 (unhide HS2).rest ((unhide HX).drop 8) (by simp; omega) (by omega) hz)
            generalize hszn : ((2 * wAt bs 3 : Nat) : Int) = sz at HSz HZ1
            clear hszn
            go_wp2_with fail
            refine (unhide HC1 _).mono ?_
            rintro e w2 ⟨rfl, rfl⟩
            go_wp2_with fail
            refine (unhide HC3 _).mono ?_
            rintro e w2 ⟨rfl, rfl⟩
            go_wp2_with fail
            refine (unhide HSz _).mono ?_
            rintro e w2 ⟨rfl, rfl⟩
            go_wp2_with fail
            refine (unhide HZ1).mono ?_
            rintro e w3 ⟨a9, m9, c9, rfl, hp3, hpo, hb3⟩
            have hF := unhide HF
            have r2 := (hb3.block _ (Array.getElem?_eq_some_iff.1 hF.r2).1).trans hF.r2
            have r3 := (hb3.block _ (Array.getElem?_eq_some_iff.1 hF.r3).1).trans hF.r3
            have hlw1 := (unhide HS1).bel.size
            have hlr : rp < w.heap.size := (unhide HR0).lt
            have n2 := hF.l2
            have n3 := hF.l3
            have ne2 : p2 ≠ rp := by omega
            have ne3 : p3 ≠ rp := by omega
            have ne2' : rp ≠ p2 := by omega
            have ne3' : rp ≠ p3 := by omega
            have hr3 := (unhide HR2).below hb3
            have X0 := cell_of_row _ _ 0 _ _ _ r2
            have X1 := cell_of_row _ _ 1 _ _ _ r2
            have Y0 := cell_of_row _ _ 0 _ _ _ r3
            have Y1 := cell_of_row _ _ 1 _ _ _ r3
            simp at X0 X1 Y0 Y1
            have c1 := cell_of_row _ _ 1 _ _ _ hr3.row
            have f1 := frozen_of_row _ _ 1 _ _ hr3.row
            have c2 := cell_of_row _ _ 2 _ _ _ hr3.row
            have f2 := frozen_of_row _ _ 2 _ _ hr3.row
            have c3 := cell_of_row _ _ 3 _ _ _ hr3.row
            have f3 := frozen_of_row _ _ 3 _ _ hr3.row
            have c4 := cell_of_row _ _ 4 _ _ _ hr3.row
            have f4 := frozen_of_row _ _ 4 _ _ hr3.row
            have c5 := cell_of_row _ _ 5 _ _ _ hr3.row
            have f5 := frozen_of_row _ _ 5 _ _ hr3.row
            simp [rrow] at c1 c2 c3 c4 c5
            have HB3 := hide hb3
            have HP3 := hide hp3
            have HPO := hide hpo
            have HR3 := hide hr3
            have HRW3 := hide r3
            clear r2 r3 hr3 hb3 hp3 hpo hF n2 n3 hlw1 hc1 hc3 hz x1 y1 HZ1 HSz
            go_wp2
            go_region
            have C4 := hide ((((((Chg.refl w3 (fun k => k = rp)).put rp 1 (.int .i64 3) rfl).put rp 2 (.int .i64 (wAt bs 0 : Nat)) rfl).put rp 3 (.int .i64 (wAt bs 1 : Nat)) rfl).put rp 4 (.int .i64 (wAt bs 2 : Nat)) rfl).put rp 5 (.int .i64 (wAt bs 3 : Nat)) rfl).drew
            have R4 : Hid (RAt (((((w3.setCell ⟨rp, 1, none⟩ (.int .i64 3)).setCell ⟨rp, 2, none⟩ (.int .i64 (wAt bs 0 : Nat))).setCell ⟨rp, 3, none⟩ (.int .i64 (wAt bs 1 : Nat))).setCell ⟨rp, 4, none⟩ (.int .i64 (wAt bs 2 : Nat))).setCell ⟨rp, 5, none⟩ (.int .i64 (wAt bs 3 : Nat))).drew rp f 3 (wAt bs 0 : Nat) (wAt bs 1 : Nat) (wAt bs 2 : Nat) (wAt bs 3 : Nat) (.slice none 0 0) 0 (.slice none 0 0)) := ⟨((((((unhide HR3).s1 3).s2 (wAt bs 0 : Nat)).s3 (wAt bs 1 : Nat)).s4 (wAt bs 2 : Nat)).s5 (wAt bs 3 : Nat)).row⟩
            generalize (((((w3.setCell ⟨rp, 1, none⟩ (.int .i64 3)).setCell ⟨rp, 2, none⟩ (.int .i64 (wAt bs 0 : Nat))).setCell ⟨rp, 3, none⟩ (.int .i64 (wAt bs 1 : Nat))).setCell ⟨rp, 4, none⟩ (.int .i64 (wAt bs 2 : Nat))).setCell ⟨rp, 5, none⟩ (.int .i64 (wAt bs 3 : Nat))).drew = W4 at R4 C4 ⊢
            clear c1 f1 c2 f2 c3 f3 c4 f4 c5 f5 X0 X1 Y0 Y1
            have r4 := ((unhide C4).block _ (Array.getElem?_eq_some_iff.1 (unhide HRW3)).1 ne2).trans (unhide HRW3)
            have Y1 := cell_of_row _ _ 1 _ _ _ r4
            simp at Y1
            have hp4 := unhide HP3
            rw [List.drop_drop, show 2 * 4 + 1 = 9 from rfl] at hp4
            have HU := hide (unpW (.slice a9 m9 c9) (bs.drop 9) (wAt bs 3) W4 W4 (hp4.chg (unhide C4) (fun b e => unhide HVV b (by rw [← (unhide HS2).own, ← unhide HPO]; exact e))) ((unhide HX).drop 9) (unhide HLn) (by omega) (Below.refl _ _))
            clear r4 hp4
            go_wp2_with fail
            refine (unhide HU).mono ?_
            rintro e w5 ⟨g, rfl, hU⟩
            have hr5 := (unhide R4).below hU.bel
            have c6 := cell_of_row _ _ 6 _ _ _ hr5.row
            have f6 := frozen_of_row _ _ 6 _ _ hr5.row
            simp only [rrow] at c6
            have hlg := hU.lo
            have hl4 := (unhide C4).size
            have hl3 := (unhide HB3).size
            have hl2 := (unhide HS2).bel.size
            have hgr : g ≠ rp := by omega
            have cc : Chg w5 (w5.setCell ⟨rp, 6, none⟩ (.slice (some ⟨g, 0, none⟩) (wAt bs 3) (wAt bs 3))) (fun k => k = rp) := (Chg.refl w5 (fun k => k = rp)).put rp 6 _ rfl
            have CF := hide ((((Chg.of_below (bl_trans (unhide HS2).bel (unhide HB3)) (fun k => k = rp)).trans (unhide C4) (fun _ e _ => e)).trans (Chg.of_below hU.bel (fun _ => False)) (fun _ e _ => e.elim)).trans cc (fun _ e _ => e))
            have RF := hide (hr5.s6 (.slice (some ⟨g, 0, none⟩) (wAt bs 3) (wAt bs 3)))
            have LF : Hid (LiesI (w5.setCell ⟨rp, 6, none⟩ (.slice (some ⟨g, 0, none⟩) (wAt bs 3) (wAt bs 3))) (.slice (some ⟨g, 0, none⟩) (wAt bs 3) (wAt bs 3)) (unpackW (bs.drop 9) (wAt bs 3))) := by
              have q := lies_chgI (rowI_lies hU.row 0 (wAt bs 3) (wAt bs 3) (by rw [unpackW_len]; omega)) cc (fun b e => by simp [Value.ownBlock] at e; subst e; exact hgr)
              rw [List.drop_zero, List.take_of_length_le (by rw [unpackW_len]; omega)] at q
              exact q
            have GF : Hid (∀ b, (Value.slice (some ⟨g, 0, none⟩) (wAt bs 3) (wAt bs 3)).ownBlock = some b → w.heap.size ≤ b) := fun b e => by simp [Value.ownBlock] at e; omega
            clear hU hr5 cc HU hgr hlg hl4 hl3 hl2 Y1
            go_wp2
            go_ret
            exact PPost.mkR (unhide HQ) (unhide CF) (unhide RF) (unhide LF) (.inl ⟨none, 0, rfl, rfl⟩) (unhide GF) (fun b e => by simp [Value.ownBlock] at e)
end Go.Proofs.YtfekelmldebplaaGreatDoor

namespace Go.Proofs.YtfekelmldebplaaGreatDoor
open Go.RowKit

set_option maxRecDepth 10000 in
set_option maxHeartbeats 1000000 in
theorem parse_23 (rp : Nat) (v : Value) (bs : List Int) (w : World) (hr : QNew w rp 23) (h : Lies w v bs) (hx : Bys bs) (hl : bs.length ≤ 252) (hv : ∀ b, v.ownBlock = some b → b ≠ rp) :
    Calls Tryz.prog 188 #[.pointer (some ⟨rp, 0, none⟩), v] w fun e w' => PPost w rp 23 v (parseL 23 bs) e w' := by
  have c0 := cell_of_row _ _ 0 _ _ _ hr.row
  simp [rrow] at c0
  have HP := hide (parse23_any rp 23 v bs w hr h hx hl hv)
  have hq : parseL 23 bs = parse23 23 bs := rfl
  rw [hq]
  obtain ⟨av, cv, rfl⟩ := h.slice
  clear hr h hx hq hv
  go_enter Tryz.func188, Tryz.ntmps188
  go_wp2_with fail
  refine (unhide HP).mono ?_
  rintro e w2 ⟨hc, hm⟩
  cases hq : parse23 23 bs with
  | inl x =>
    rw [hq] at hm
    obtain ⟨n, T, p, rfl, he⟩ := hm
    have HE := hide he
    have HC := hide hc
    have HQ := hide hq
    clear he hc HP hq c0
    go_wp2
    go_ret
    exact PPost.mkL (unhide HQ) (unhide HC) (unhide HE)
  | inr q =>
    rw [hq] at hm
    obtain ⟨vv, ve, rfl, h1, h2, h3, h4, h5⟩ := hm
    have H1 := hide h1
    have H2 := hide h2
    have H3 := hide h3
    have H4 := hide h4
    have H5 := hide h5
    have HC := hide hc
    have HQ := hide hq
    clear h1 h2 h3 h4 h5 hc HP hq c0
    go_wp2
    go_ret
    exact PPost.mkR (unhide HQ) (unhide HC) (unhide H1) (unhide H2) (unhide H3) (unhide H4) (unhide H5)

end Go.Proofs.YtfekelmldebplaaGreatDoor

namespace Go.Proofs.YtfekelmldebplaaGreatDoor
open Go.RowKit Go.MuLone

theorem wAt_cons (a b : Int) (l : List Int) (i : Nat) : wAt (a :: b :: l) (i + 1) = wAt l i := by
  unfold wAt
  rw [show 2 * (i + 1) = 2 * i + 1 + 1 by omega, show 2 * i + 1 + 1 + 1 = (2 * i + 1) + 1 + 1 by omega]
  rfl
theorem wAt_words : ∀ (xs : List Int), (∀ x ∈ xs, 0 ≤ x ∧ x ≤ 65535) → ∀ i, i < xs.length → ((wAt (wordsL xs) i : Nat) : Int) = xs.getD i 0
  | [], _, i, hi => absurd hi (by simp)
  | x :: xs, h, 0, _ => by
    have := h x (List.mem_cons_self ..)
    show (((256 * (x / 256) + x % 256).toNat : Nat) : Int) = x
    omega
  | x :: xs, h, i + 1, hi => by
    have e : wordsL (x :: xs) = (x / 256) :: (x % 256) :: wordsL xs := rfl
    rw [e, wAt_cons, wAt_words xs (fun y hy => h y (List.mem_cons_of_mem _ hy)) i (by simpa using hi)]
    rfl
theorem unpack_words (xs : List Int) (h : ∀ x ∈ xs, 0 ≤ x ∧ x ≤ 65535) : unpackW (wordsL xs) xs.length = xs := by
  unfold unpackW
  refine getD_ext _ _ (by simp) fun i hi => ?_
  have hi' : i < xs.length := by simpa using hi
  rw [← wAt_words xs h i hi']
  simp [List.getD_eq_getElem?_getD, hi']
theorem words_bys (xs : List Int) (h : ∀ x ∈ xs, 0 ≤ x ∧ x ≤ 65535) : Bys (wordsL xs) := fun y hy => by
  obtain ⟨x, hx, hy⟩ := List.mem_flatMap.1 hy
  exact Bys.wd (h x hx).1 (h x hx).2 y hy
theorem bys_cons {x : Int} {l : List Int} (h0 : 0 ≤ x ∧ x < 256) (h : Bys l) : Bys (x :: l) := fun y hy => by
  rcases List.mem_cons.1 hy with rfl | hy
  · exact h0
  · exact h y hy
theorem wd_at' (n : Int) (h0 : 0 ≤ n) (h1 : n ≤ 65535) : (256 * (n / 256) + n % 256).toNat = n.toNat := by omega

/-! ### Many -/
def b16 (a : Nat) (xs : List Int) : List Int := wd (a : Int) ++ wd (xs.length : Int) ++ ((2 * xs.length : Nat) : Int) :: wordsL xs
def q16 (a : Nat) (xs : List Int) : Req := ⟨16, 3, 0, 0, a, xs.length, xs, 0, wd (a : Int) ++ wd (xs.length : Int)⟩
theorem b16_len (a : Nat) (xs : List Int) : (b16 a xs).length = 5 + 2 * xs.length := by
  simp [b16, wd, wordsL_len]
  omega
theorem b16_bys (a : Nat) (xs : List Int) (ha : a ≤ 65535) (hn : xs.length ≤ 123) (hx : ∀ x ∈ xs, 0 ≤ x ∧ x ≤ 65535) : Bys (b16 a xs) :=
  ((Bys.wd (by omega) (by omega)).append (Bys.wd (by omega) (by omega))).append (bys_cons (by omega) (words_bys xs hx))
theorem parse_q16 (a : Nat) (xs : List Int) (ha : a ≤ 65535) (h1 : 1 ≤ xs.length) (h2 : xs.length ≤ 123) (hx : ∀ x ∈ xs, 0 ≤ x ∧ x ≤ 65535) : parseL 16 (b16 a xs) = .inr (q16 a xs) := by
  have w0 : wAt (b16 a xs) 0 = a := wd_at a ha
  have w1 : wAt (b16 a xs) 1 = xs.length := wd_at xs.length (by omega)
  have hc : countB xs.length 123 = true := by simp [countB]; omega
  have hd : (b16 a xs).drop 5 = wordsL xs := rfl
  have ht : (b16 a xs).take 4 = wd (a : Int) ++ wd (xs.length : Int) := rfl
  have h4 : (b16 a xs).getD 4 0 = ((2 * xs.length : Nat) : Int) := rfl
  show parse16 16 _ = _
  unfold parse16
  rw [if_pos ⟨by rw [b16_len]; omega, by rw [w1]; exact hc, by rw [b16_len, w1], by rw [h4, w1]⟩, w0, w1, hd, unpack_words xs hx, ht]
  rfl
/-! ### One -/
def b6 (a : Nat) (y : Int) : List Int := wd (a : Int) ++ wd y
def q6 (a : Nat) (y : Int) : Req := ⟨6, 3, 0, 0, a, 1, [y], 0, b6 a y⟩
theorem b6_bys (a : Nat) (y : Int) (ha : a ≤ 65535) (hy : 0 ≤ y ∧ y ≤ 65535) : Bys (b6 a y) := (Bys.wd (by omega) (by omega)).append (Bys.wd hy.1 hy.2)
theorem parse_q6 (a : Nat) (y : Int) (ha : a ≤ 65535) (hy : 0 ≤ y ∧ y ≤ 65535) : parseL 6 (b6 a y) = .inr (q6 a y) := by
  have w0 : wAt (b6 a y) 0 = a := wd_at a ha
  have w1 : wAt (b6 a y) 1 = y.toNat := wd_at' y hy.1 hy.2
  show parse6 6 (b6 a y) = _
  unfold parse6
  rw [if_pos (show (b6 a y).length = 4 from rfl), w0, w1, Int.toNat_of_nonneg hy.1]
  rfl
/-! ### By a mask -/
def b22 (a : Nat) (m n : Int) : List Int := wd (a : Int) ++ (wd m ++ wd n)
def q22 (a : Nat) (m n : Int) : Req := ⟨22, 3, a, 1, a, 1, [n], m.toNat, b22 a m n⟩
theorem b22_bys (a : Nat) (m n : Int) (ha : a ≤ 65535) (hm : 0 ≤ m ∧ m ≤ 65535) (hn : 0 ≤ n ∧ n ≤ 65535) : Bys (b22 a m n) := (Bys.wd (by omega) (by omega)).append ((Bys.wd hm.1 hm.2).append (Bys.wd hn.1 hn.2))
theorem parse_q22 (a : Nat) (m n : Int) (ha : a ≤ 65535) (hm : 0 ≤ m ∧ m ≤ 65535) (hn : 0 ≤ n ∧ n ≤ 65535) : parseL 22 (b22 a m n) = .inr (q22 a m n) := by
  have w0 : wAt (b22 a m n) 0 = a := wd_at a ha
  have w1 : wAt (b22 a m n) 1 = m.toNat := wd_at' m hm.1 hm.2
  have w2 : wAt (b22 a m n) 2 = n.toNat := wd_at' n hn.1 hn.2
  show parse22 22 (b22 a m n) = _
  unfold parse22
  rw [if_pos (show (b22 a m n).length = 6 from rfl), w0, w1, w2, Int.toNat_of_nonneg hn.1]
  rfl
/-! ### Both -/
def b23 (a n c : Nat) (xs : List Int) : List Int := wd (a : Int) ++ wd (n : Int) ++ (wd (c : Int) ++ (wd (xs.length : Int) ++ ((2 * xs.length : Nat) : Int) :: wordsL xs))
def q23 (a n c : Nat) (xs : List Int) : Req := ⟨23, 3, a, n, c, xs.length, xs, 0, []⟩
theorem b23_len (a n c : Nat) (xs : List Int) : (b23 a n c xs).length = 9 + 2 * xs.length := by
  simp [b23, wd, wordsL_len]
  omega
theorem b23_bys (a n c : Nat) (xs : List Int) (ha : a ≤ 65535) (hn : n ≤ 65535) (hc : c ≤ 65535) (hl : xs.length ≤ 121) (hx : ∀ x ∈ xs, 0 ≤ x ∧ x ≤ 65535) : Bys (b23 a n c xs) :=
  ((Bys.wd (by omega) (by omega)).append (Bys.wd (by omega) (by omega))).append ((Bys.wd (by omega) (by omega)).append ((Bys.wd (by omega) (by omega)).append (bys_cons (by omega) (words_bys xs hx))))
theorem parse_q23 (a n c : Nat) (xs : List Int) (ha : a ≤ 65535) (hn1 : 1 ≤ n) (hn : n ≤ 125) (hc : c ≤ 65535) (h1 : 1 ≤ xs.length) (h2 : xs.length ≤ 121) (hx : ∀ x ∈ xs, 0 ≤ x ∧ x ≤ 65535) : parseL 23 (b23 a n c xs) = .inr (q23 a n c xs) := by
  have w0 : wAt (b23 a n c xs) 0 = a := wd_at a ha
  have w1 : wAt (b23 a n c xs) 1 = n := wd_at n (by omega)
  have w2 : wAt (b23 a n c xs) 2 = c := wd_at c hc
  have w3 : wAt (b23 a n c xs) 3 = xs.length := wd_at xs.length (by omega)
  have hc1 : countB n 125 = true := by simp [countB]; omega
  have hc2 : countB xs.length 121 = true := by simp [countB]; omega
  have hd : (b23 a n c xs).drop 9 = wordsL xs := rfl
  have h8 : (b23 a n c xs).getD 8 0 = ((2 * xs.length : Nat) : Int) := rfl
  show parse23 23 _ = _
  unfold parse23
  rw [if_pos ⟨by rw [b23_len]; omega, by rw [w1]; exact hc1, by rw [w3]; exact hc2, by rw [b23_len, w3], by rw [h8, w3]⟩, w0, w1, w2, w3, hd, unpack_words xs hx]
  rfl
theorem top3 : topOf 3 = 65535 := rfl
/-! ### They are done -/
theorem done_16 (B rb sb tb kb : Nat) (t : T4) (us : List Value) (a : Nat) (xs : List Int) (v x : Value) (L : List Int) (w : World) (Bv Bx : Nat) (h : BankAt w B rb sb tb kb t [allRules, []] us) (hLe : (t.at 3).L = L) (hN : L.length ≤ 200) (h1 : 1 ≤ xs.length) (h2 : xs.length ≤ 123) (han : a + xs.length ≤ L.length) (hL : ∀ y ∈ L, 0 ≤ y ∧ y ≤ 65535) (hxs : ∀ y ∈ xs, 0 ≤ y ∧ y ≤ 65535)
    (hv : Owns w Bv v (16 :: b16 a xs)) (hx : Owns w Bx x (16 :: (wd (a : Int) ++ wd (xs.length : Int)))) :
    Calls Tryz.prog 23 #[.pointer (some ⟨rb, 0, none⟩), .int .i64 0, v, x] w fun r w' => r = .returned (.bool true) ∧ BankAt w' B rb sb tb kb (t.put 3 (setL L a xs)) [allRules, []] us ∧ Chg w w' (fun k => k = sb ∨ k = (t.at 3).g) := by
  have hbys := b16_bys a xs (by omega) h2 hxs
  have hws : Bys (16 :: (wd (a : Int) ++ wd (xs.length : Int))) := bys_cons (by omega) ((Bys.wd (by omega) (by omega)).append (Bys.wd (by omega) (by omega)))
  have := done_t B rb sb tb kb t us 16 v x _ _ (q16 a xs) w Bv Bx h hv hx hws (by simp [b16, wd]) (by rw [b16_len]; omega) hbys (parse_q16 a xs (by omega) h1 h2 hxs) L.length (by rw [show (q16 a xs).t = 3 from rfl, hLe]) hN (Nat.zero_le _) han (by rw [show (q16 a xs).t = 3 from rfl, hLe]; exact hL) (by
    unfold ansL
    rw [echo_told _ _ (by simp [q16, wd])]
    rfl) (fun rp v W hr hl hd => parse_16 rp v _ W hr hl hbys (by rw [b16_len]; omega) hd)
  rw [show (q16 a xs).t = 3 from rfl, hLe, carry_write L (q16 a xs) rfl rfl han hL hxs] at this
  exact this
theorem done_6 (B rb sb tb kb : Nat) (t : T4) (us : List Value) (a : Nat) (y : Int) (v x : Value) (L : List Int) (w : World) (Bv Bx : Nat) (h : BankAt w B rb sb tb kb t [allRules, []] us) (hLe : (t.at 3).L = L) (hN : L.length ≤ 200) (han : a + 1 ≤ L.length) (hL : ∀ y ∈ L, 0 ≤ y ∧ y ≤ 65535) (hy : 0 ≤ y ∧ y ≤ 65535)
    (hv : Owns w Bv v (6 :: b6 a y)) (hx : Owns w Bx x (6 :: b6 a y)) :
    Calls Tryz.prog 23 #[.pointer (some ⟨rb, 0, none⟩), .int .i64 0, v, x] w fun r w' => r = .returned (.bool true) ∧ BankAt w' B rb sb tb kb (t.put 3 (setL L a [y])) [allRules, []] us ∧ Chg w w' (fun k => k = sb ∨ k = (t.at 3).g) := by
  have hbys := b6_bys a y (by omega) hy
  have := done_t B rb sb tb kb t us 6 v x _ _ (q6 a y) w Bv Bx h hv hx (bys_cons (by omega) hbys) (by simp [b6, wd]) (by simp [b6, wd]) hbys (parse_q6 a y (by omega) hy) L.length (by rw [show (q6 a y).t = 3 from rfl, hLe]) hN (Nat.zero_le _) han (by rw [show (q6 a y).t = 3 from rfl, hLe]; exact hL) (by
    unfold ansL
    rw [echo_told _ _ (by simp [q6, b6, wd])]
    rfl) (fun rp v W hr hl hd => parse_6 rp v _ W hr hl hbys (by simp [b6, wd]) hd)
  rw [show (q6 a y).t = 3 from rfl, hLe, carry_write L (q6 a y) rfl rfl han hL (fun z hz => by
    rcases List.mem_singleton.1 hz with rfl
    exact hy)] at this
  exact this
theorem carry_mask (L : List Int) (a : Nat) (m n : Int) (h : a + 1 ≤ L.length) (hm : 0 ≤ m) : carryL L (q22 a m n) = setL L a [maskI m (L.getD a 0) n] := by
  have e : spanL L a 1 = [L.getD a 0] := by
    unfold spanL
    have hl : a < L.length := by omega
    rw [List.drop_eq_getElem_cons hl, List.take_succ_cons, List.take_zero, List.getD_eq_getElem?_getD, List.getElem?_eq_getElem hl]
    rfl
  show setL L a (writtenL (spanL L a 1) [n] m.toNat) = _
  rw [e]
  show setL L a [maskI ((m.toNat : Nat) : Int) (L.getD a 0) n] = _
  rw [Int.toNat_of_nonneg hm]
theorem done_22 (B rb sb tb kb : Nat) (t : T4) (us : List Value) (a : Nat) (m n : Int) (v x : Value) (L : List Int) (w : World) (Bv Bx : Nat) (h : BankAt w B rb sb tb kb t [allRules, []] us) (hLe : (t.at 3).L = L) (hN : L.length ≤ 200) (han : a + 1 ≤ L.length) (hL : ∀ y ∈ L, 0 ≤ y ∧ y ≤ 65535) (hm : 0 ≤ m ∧ m ≤ 65535) (hn : 0 ≤ n ∧ n ≤ 65535)
    (hv : Owns w Bv v (22 :: b22 a m n)) (hx : Owns w Bx x (22 :: b22 a m n)) :
    Calls Tryz.prog 23 #[.pointer (some ⟨rb, 0, none⟩), .int .i64 0, v, x] w fun r w' => r = .returned (.bool true) ∧ BankAt w' B rb sb tb kb (t.put 3 (setL L a [maskI m (L.getD a 0) n])) [allRules, []] us ∧ Chg w w' (fun k => k = sb ∨ k = (t.at 3).g) := by
  have hbys := b22_bys a m n (by omega) hm hn
  have := done_t B rb sb tb kb t us 22 v x _ _ (q22 a m n) w Bv Bx h hv hx (bys_cons (by omega) hbys) (by simp [b22, wd]) (by simp [b22, wd]) hbys (parse_q22 a m n (by omega) hm hn) L.length (by rw [show (q22 a m n).t = 3 from rfl, hLe]) hN han han (by rw [show (q22 a m n).t = 3 from rfl, hLe]; exact hL) (by
    unfold ansL
    rw [echo_told _ _ (by simp [q22, b22, wd])]
    rfl) (fun rp v W hr hl hd => parse_22 rp v _ W hr hl hbys (by simp [b22, wd]) hd)
  rw [show (q22 a m n).t = 3 from rfl, hLe, carry_mask L a m n han hm.1] at this
  exact this
theorem done_23 (B rb sb tb kb : Nat) (t : T4) (us : List Value) (a n c : Nat) (xs : List Int) (v x : Value) (L : List Int) (w : World) (Bv Bx : Nat) (h : BankAt w B rb sb tb kb t [allRules, []] us) (hLe : (t.at 3).L = L) (hN : L.length ≤ 200) (hn1 : 1 ≤ n) (hn : n ≤ 125) (h1 : 1 ≤ xs.length) (h2 : xs.length ≤ 121) (han : a + n ≤ L.length) (hcx : c + xs.length ≤ L.length) (hL : ∀ y ∈ L, 0 ≤ y ∧ y ≤ 65535) (hxs : ∀ y ∈ xs, 0 ≤ y ∧ y ≤ 65535)
    (hv : Owns w Bv v (23 :: b23 a n c xs)) (hx : Owns w Bx x (23 :: ((2 * n : Nat) : Int) :: wordsL (spanL (setL L c xs) a n))) :
    Calls Tryz.prog 23 #[.pointer (some ⟨rb, 0, none⟩), .int .i64 0, v, x] w fun r w' => r = .returned (.bool true) ∧ BankAt w' B rb sb tb kb (t.put 3 (setL L c xs)) [allRules, []] us ∧ Chg w w' (fun k => k = sb ∨ k = (t.at 3).g) := by
  have hbys := b23_bys a n c xs (by omega) (by omega) (by omega) h2 hxs
  have hcw := carry_write L (q23 a n c xs) rfl rfl hcx hL hxs
  have hcw' : carryL L (q23 a n c xs) = setL L c xs := hcw
  have hsl : (setL L c xs).length = L.length := setL_len L c xs hcx
  have hin : ∀ y ∈ spanL (setL L c xs) a n, 0 ≤ y ∧ y ≤ 65535 := fun y hy => by
    rcases span_set_in L xs c y (spanL_in hy) with hy | hy
    · exact hL y hy
    · exact hxs y hy
  have := done_t B rb sb tb kb t us 23 v x _ _ (q23 a n c xs) w Bv Bx h hv hx (bys_cons (by omega) (bys_cons (by omega) (words_bys _ hin))) (by simp [b23, wd]) (by rw [b23_len]; omega) hbys (parse_q23 a n c xs (by omega) hn1 hn (by omega) h1 h2 hxs) L.length (by rw [show (q23 a n c xs).t = 3 from rfl, hLe]) hN han hcx (by rw [show (q23 a n c xs).t = 3 from rfl, hLe]; exact hL) (by
    unfold ansL toldL
    rw [if_pos (show (q23 a n c xs).echo = [] from rfl), show (q23 a n c xs).t = 3 from rfl, hLe, hcw']
    have e : packT 3 (spanL (setL L c xs) a n) = wordsL (spanL (setL L c xs) a n) := rfl
    show (23 : Int) :: ((packT 3 (spanL (setL L c xs) a n)).length : Int) :: packT 3 (spanL (setL L c xs) a n) = _
    rw [e, wordsL_len, spanL_len _ _ _ (by rw [hsl]; exact han)]) (fun rp v W hr hl hd => parse_23 rp v _ W hr hl hbys (by rw [b23_len]; omega) hd)
  rw [show (q23 a n c xs).t = 3 from rfl, hLe, hcw'] at this
  exact this
end Go.Proofs.YtfekelmldebplaaGreatDoor

namespace Go.Proofs.YtfekelmldebplaaGreatDoor
open Go.RowKit Go.MuLone

/-! ### What a slot holds -/
inductive Fact where
  | val (v : Value)
  | bytes (xs : List Int)
  | row (xss : List (List Int))
  | any
def Fact.ok (B : Nat) : Fact → Value → World → Prop
  | .val x, v, _ => v = x
  | .bytes xs, v, w => (∃ a n c, v = .slice a n c) ∧ Owns w B v xs
  | .row xss, v, w => ∃ (J : Nat) (vs : List Value), v = .slice (some ⟨J, 0, none⟩) xss.length xss.length ∧ vs.length = xss.length ∧ w.heap[J]? = some (.cells vs.toArray 37 (0, 0)) ∧ ∀ i, i < xss.length → Owns w B (vs.getD i undef) (xss.getD i [])
  | .any, _, _ => True
theorem Fact.keep {B : Nat} : ∀ (f : Fact) (v : Value) (w w' : World), f.ok B v w → LeB w w' → f.ok B v w'
  | .val _, _, _, _, h, _ => h
  | .bytes _, _, _, _, h, l => ⟨h.1, h.2.leB l⟩
  | .row _, _, _, _, ⟨J, vs, e, hl, q, o⟩, l => ⟨J, vs, e, hl, l J _ _ _ (.inr rfl) q, fun i hi => (o i hi).leB l⟩
  | .any, _, _, _, h, _ => h
def RF (B : Nat) (fs : List Fact) (i : Nat) (v : Value) (w : World) : Prop := (fs.getD i .any).ok B v w
theorem RF.keep {B : Nat} {fs : List Fact} (i : Nat) (v : Value) (w w' : World) (h : RF B fs i v w) (l : LeB w w') : RF B fs i v w' := Fact.keep _ v w w' h l
theorem Fact.fresh (W : World) (xs : List Int) (B : Nat) (hB : B ≤ W.heap.size) (hn : xs.length ≤ 1000000) : Fact.ok B (.bytes xs) (.slice (some ⟨W.heap.size, 0, none⟩) xs.length xs.length) (W.alloc (.cells (xs.map (Value.int .u8)).toArray 5)) := ⟨⟨_, _, _, rfl⟩, owns_fresh W xs B hB hn⟩
/-- A row that was just laid. -/
theorem Fact.newRow (W : World) (vs : List Value) (xss : List (List Int)) (B : Nat) (hl : vs.length = xss.length) (h : ∀ i, i < xss.length → Owns W B (vs.getD i undef) (xss.getD i [])) : Fact.ok B (.row xss) (.slice (some ⟨W.heap.size, 0, none⟩) xss.length xss.length) (W.alloc (.cells vs.toArray 37)) :=
  ⟨W.heap.size, vs, rfl, hl, heap_alloc_new W _, fun i hi => (h i hi).leB (LeB.new _ _)⟩

section
variable {A : Act} {W : World} {S : World → Prop} {Q : Exit → Act → World → Prop} {B : Nat} {R : Value → World → Prop} {d : Nat} {T : TypeId} {p : String} {af : Array Edge} {g : Option (Nat × Bool)}

/-- 'join' of the lists of a row. -/
theorem step_join (x : Operand) (ts : Array TypeId) (xss : List (List Int)) (out : List Int) (hS : S W) (hB : B ≤ W.heap.size) (hSb : ∀ W W', S W → Below W.heap.size W W' → S W') (hx : Fact.ok B (.row xss) (A.eval x) W) (hne : ∀ i, i < xss.length → xss.getD i [] ≠ []) (hn : xss.length ≤ 1000) (ht : xss.flatten.length ≤ 1000000) (ho : xss.flatten = out)
    (hR : ∀ v w', Fact.ok B (.bytes out) v w' → R v w') : Does Tryz.prog { dst := some d, op := .call { callee := .value (.func 24), args := #[x], argTypes := ts }, type := T, pos := p, after := af, guard := g } A W R LeB S Q := by
  obtain ⟨J, vs, e, hl, q, o⟩ := hx
  have hj := join_row J xss.length vs xss _ W W (Below.refl _ _) q hl rfl (fun i hi => ⟨(o i hi).lies, hne i hi⟩) hn ht
  rw [← e] at hj
  refine step_enter d rfl (run_call1 _ _ _ (by simp [Act.eval]) callf_join) _ hj ?_
  rintro e' w' ⟨a', m', c', rfl, ho', hb⟩
  rw [ho] at ho'
  exact ⟨_, rfl, hR _ _ ⟨⟨_, _, _, rfl⟩, ho'.weak hB⟩, LeB.of_below hb, hSb _ _ hS hb⟩
theorem callf_word (args : Array Value) (w : World) : (callFunc 25 args).run Tryz.prog w = .ok (.enter 25 args) w := by
  simp [go_sem]
theorem callf_wordy (args : Array Value) (w : World) : (callFunc 22 args).run Tryz.prog w = .ok (.enter 22 args) w := by
  simp [go_sem]
/-- 'word'. -/
theorem step_word (x : Operand) (ts : Array TypeId) (n : Int) (hS : S W) (hB : B ≤ W.heap.size) (hSb : ∀ W W', S W → Below W.heap.size W W' → S W') (hx : A.eval x = .int .i64 n) (h0 : 0 ≤ n) (h1 : n ≤ 65535)
    (hR : ∀ v w', Fact.ok B (.bytes (wd n)) v w' → R v w') : Does Tryz.prog { dst := some d, op := .call { callee := .value (.func 25), args := #[x], argTypes := ts }, type := T, pos := p, after := af, guard := g } A W R LeB S Q := by
  have hj := word_any n W h0 h1
  rw [← hx] at hj
  refine step_enter d rfl (run_call1 _ _ _ (by simp [Act.eval]) callf_word) _ hj ?_
  rintro e' w' ⟨rfl, rfl⟩
  exact ⟨_, rfl, hR _ _ (Fact.fresh W (wd n) B hB (by simp [wd])), LeB.new _ _, hSb _ _ hS (rule_new _ _)⟩
/-- 'wordy'. -/
theorem step_wordy (x : Operand) (ts : Array TypeId) (a : Option Addr) (c : Nat) (xs : List Int) (hS : S W) (hB : B ≤ W.heap.size) (hSb : ∀ W W', S W → Below W.heap.size W W' → S W') (hx : A.eval x = .slice a xs.length c) (hxs : xs = [] ∨ ∃ b o, a = some ⟨b, o, none⟩ ∧ b < W.heap.size ∧ ∀ i, i < xs.length → W.cell? ⟨b, o + i, none⟩ = some (.int .i64 (xs.getD i 0))) (hin : ∀ x ∈ xs, 0 ≤ x ∧ x ≤ 65535) (hn : xs.length ≤ 1000)
    (hR : ∀ v w', Fact.ok B (.bytes (wordsL xs)) v w' → R v w') : Does Tryz.prog { dst := some d, op := .call { callee := .value (.func 22), args := #[x], argTypes := ts }, type := T, pos := p, after := af, guard := g } A W R LeB S Q := by
  have hj := wordy_lies a c xs W hxs hin hn
  rw [← hx] at hj
  refine step_enter d rfl (run_call1 _ _ _ (by simp [Act.eval]) callf_wordy) _ hj ?_
  rintro e' w' ⟨v', rfl, ho, hb⟩
  obtain ⟨a', n', c', rfl⟩ := own_shape ho
  exact ⟨_, rfl, hR _ _ ⟨⟨_, _, _, rfl⟩, ho.weak hB⟩, LeB.of_below hb, hSb _ _ hS hb⟩
end
section
variable {ev : Operand → Value} {w : World} {dst : Option Tmp} {T : TypeId} {p : String} {af : Array Edge} {g : Option (Nat × Bool)}
theorem run_mul2 (x : Operand) (n : Int) (hc : ∀ v, ev (.const v) = v) (hx : ev x = .int .i64 n) (h0 : 0 ≤ n) (h1 : n ≤ 1000000) : (execOp ev { dst := dst, op := .binOp .mul 3 (.const (.int .i64 2)) x 3, type := T, pos := p, after := af, guard := g }).run Tryz.prog w = .ok (.value (.int .i64 (2 * n))) w := by
  have hw : IntKind.i64.wrap (2 * n) = 2 * n := by
    rw [IntKind.wrap_i64]
    omega
  simp [go_sem, hc, hx, hw]
theorem run_add (x y : Operand) (n m : Int) (hx : ev x = .int .i64 n) (hy : ev y = .int .i64 m) (h0 : 0 ≤ n) (h1 : n ≤ 1000000) (h2 : 0 ≤ m) (h3 : m ≤ 1000000) : (execOp ev { dst := dst, op := .binOp .add 3 x y 3, type := T, pos := p, after := af, guard := g }).run Tryz.prog w = .ok (.value (.int .i64 (n + m))) w := by
  have hw : IntKind.i64.wrap (n + m) = n + m := by
    rw [IntKind.wrap_i64]
    omega
  simp [go_sem, hx, hy, hw]
theorem run_lenI (x : Operand) (a : Option Addr) (n c : Nat) (hx : ev x = .slice a n c) : (execOp ev { dst := dst, op := .call { callee := .builtin .len, args := #[x], argTypes := #[24] }, type := 3, pos := p, after := af, guard := g }).run Tryz.prog w = .ok (.value (.int .i64 n)) w := by
  simp [go_sem, hx]
theorem run_row3 (x y z : Operand) (a1 a2 a3 : Option Addr) (n1 c1 n2 c2 n3 c3 : Nat) (hx : ev x = .slice a1 n1 c1) (hy : ev y = .slice a2 n2 c2) (hz : ev z = .slice a3 n3 c3) : (execOp ev { dst := dst, op := .buildSlice 45 3 #[(0, x), (1, y), (2, z)], type := T, pos := p, after := af, guard := g }).run Tryz.prog w = .ok (.value (.slice (some ⟨w.heap.size, 0, none⟩) 3 3)) (w.alloc (.cells #[.slice a1 n1 c1, .slice a2 n2 c2, .slice a3 n3 c3] 37)) := by
  simp [go_sem, hx, hy, hz]
theorem run_row6 (x1 x2 x3 x4 x5 x6 : Operand) (a1 a2 a3 a4 a5 a6 : Option Addr) (n1 c1 n2 c2 n3 c3 n4 c4 n5 c5 n6 c6 : Nat) (h1 : ev x1 = .slice a1 n1 c1) (h2 : ev x2 = .slice a2 n2 c2) (h3 : ev x3 = .slice a3 n3 c3) (h4 : ev x4 = .slice a4 n4 c4) (h5 : ev x5 = .slice a5 n5 c5) (h6 : ev x6 = .slice a6 n6 c6) : (execOp ev { dst := dst, op := .buildSlice 45 6 #[(0, x1), (1, x2), (2, x3), (3, x4), (4, x5), (5, x6)], type := T, pos := p, after := af, guard := g }).run Tryz.prog w = .ok (.value (.slice (some ⟨w.heap.size, 0, none⟩) 6 6)) (w.alloc (.cells #[.slice a1 n1 c1, .slice a2 n2 c2, .slice a3 n3 c3, .slice a4 n4 c4, .slice a5 n5 c5, .slice a6 n6 c6] 37)) := by
  simp [go_sem, h1, h2, h3, h4, h5, h6]
theorem run_index (x y : Operand) (b n c k : Nat) (hx : ev x = .slice (some ⟨b, 0, none⟩) n c) (hy : ev y = .int .i64 (k : Int)) (hk : k < n) : (execOp ev { dst := dst, op := .indexAddr 24 x y, type := T, pos := p, after := af, guard := g }).run Tryz.prog w = .ok (.value (.pointer (some ⟨b, k, none⟩))) w := by
  simp [go_sem, hx, hy]
  exact fun h => absurd h (by omega)
theorem run_loadI (x : Operand) (b k : Nat) (n : Int) (hx : ev x = .pointer (some ⟨b, k, none⟩)) (hc : w.cell? ⟨b, k, none⟩ = some (.int .i64 n)) : (execOp ev { dst := dst, op := .load 3 x, type := T, pos := p, after := af, guard := g }).run Tryz.prog w = .ok (.value (.int .i64 n)) w := by
  simp [go_sem, hx, hc]
theorem run_slice (x y z : Operand) (b n c i j : Nat) (hx : ev x = .slice (some ⟨b, 0, none⟩) n c) (hy : ev y = .int .i64 (i : Int)) (hz : ev z = .int .i64 (j : Int)) (hij : i ≤ j) (hj : j ≤ c) (hi : i < c) : (execOp ev { dst := dst, op := .slice 24 x (some y) (some z) none, type := T, pos := p, after := af, guard := g }).run Tryz.prog w = .ok (.value (.slice (some ⟨b, i, none⟩) (j - i) (c - i))) w := by
  have h3 : c ≠ i := by omega
  simp [go_sem, hx, hy, hz, hij, hj, h3]
end
end Go.Proofs.YtfekelmldebplaaGreatDoor

namespace Go.Proofs.YtfekelmldebplaaGreatDoor
open Go.RowKit

/-! ### The same, where one operation turns what holds -/
/-- Each operation does its part; the operation n turns the flag. -/
def StepAll2 (P : Program) (Q : Exit → Act → World → Prop) (a : Act) (ds : List (Option Nat)) (n : Nat) (S : Bool → World → Prop) (Le : World → World → Prop) (R : Nat → Value → World → Prop) : Nat → List Oper → Prop
  | _, [] => True
  | i, o :: l => (o.guard = none ∧ o.dst = ds.getD i none ∧ (∀ b u w, (i = n → b = false) → S b w → Deps ds R u w o.after.toList → Does P o (over a ds u) w (R i) Le (S (if i = n then true else b)) Q)) ∧ StepAll2 P Q a ds n S Le R (i + 1) l
theorem StepAll2.at {P : Program} {Q : Exit → Act → World → Prop} {a : Act} {ds : List (Option Nat)} {n : Nat} {S : Bool → World → Prop} {Le : World → World → Prop} {R : Nat → Value → World → Prop} : ∀ (l : List Oper) (k i : Nat) (o : Oper), StepAll2 P Q a ds n S Le R k l → l[i]? = some o → (o.guard = none ∧ o.dst = ds.getD (k + i) none ∧ (∀ b u w, (k + i = n → b = false) → S b w → Deps ds R u w o.after.toList → Does P o (over a ds u) w (R (k + i)) Le (S (if k + i = n then true else b)) Q))
  | [], _, _, _, _, e => by simp at e
  | x :: l, k, 0, o, h, e => by
    simp at e
    subst e
    exact h.1
  | x :: l, k, i + 1, o, h, e => by
    have := StepAll2.at l (k + 1) i o h.2 (by simpa using e)
    rw [show k + 1 + i = k + (i + 1) by omega] at this
    exact this
theorem wpAny_facts2 {P : Program} {Q : Exit → Act → World → Prop} {a : Act} {ds : List (Option Nat)} {n : Nat} {S : Bool → World → Prop} {Le : World → World → Prop} {R : Nat → Value → World → Prop} {ops : List Oper}
    (nd : ∀ (i j k : Nat), ds[i]? = some (some k) → ds[j]? = some (some k) → i = j) (hlen : ds.length = ops.length)
    (hback : BackAll 0 ops = true) (hst : ∀ i v w w', R i v w → Le w w' → R i v w') (hstep : StepAll2 P Q a ds n S Le R 0 ops)
    (hn : n < ops.length) (hend : ∀ u w, S true w → (∀ i, i < ops.length → R i (valOf u (ds.getD i none)) w) → Q .normal (over a ds u) w) :
    ∀ (fuel : Nat) (listed : Array Bool) (u : Nat → Value) (w : World), S (listed.getD n false) w → listed.size = ops.length → (List.range ops.length).countP (fun i => !listed.getD i true) ≤ fuel → (∀ i, listed.getD i false = true → R i (valOf u (ds.getD i none)) w) →
      wpAny P .any ops.toArray Q fuel listed (over a ds u) w := by
  -- where nothing is ready, all are listed
  have hall : ∀ (listed : Array Bool), listed.size = ops.length → Region.ready .any ops.toArray listed = [] → ∀ i, i < ops.length → listed.getD i false = true := by
    intro listed hs hr i
    induction i using Nat.strongRecOn with
    | _ i ih =>
      intro hi
      cases hb : listed.getD i false with
      | true => rfl
      | false =>
        exfalso
        have hlt : i < listed.size := by omega
        have hb' : listed.getD i true = false := by
          simp only [Array.getD, hlt, dite_true] at hb ⊢
          exact hb
        have : i ∈ Region.ready .any ops.toArray listed := by
          unfold Region.ready
          rw [List.mem_filter]
          refine ⟨by simpa using hi, ?_⟩
          have ho : ops.toArray[i]? = some ops[i] := by simp [hi]
          rw [hb', ho]
          simp only [Bool.not_false, Option.map_some, Option.getD_some, Bool.true_and]
          rw [Array.all_eq_true]
          intro k hk
          have he := BackAll.at ops 0 i ops[i] hback (by simp [hi]) _ (Array.getElem_mem hk)
          rw [he.2, ih _ (by omega) (by omega)]
          rfl
        rw [hr] at this
        simp at this
  have hnorm : ∀ (listed : Array Bool) (u : Nat → Value) (w : World), S (listed.getD n false) w → listed.size = ops.length → Region.ready .any ops.toArray listed = [] → (∀ i, listed.getD i false = true → R i (valOf u (ds.getD i none)) w) → Q .normal (over a ds u) w := fun listed u w hS hs hr hf => hend u w (by rw [hall listed hs hr n hn] at hS; exact hS) (fun i hi => hf i (hall listed hs hr i hi))
  intro fuel
  induction fuel with
  | zero =>
    intro listed u w hS hs hc hf
    have hr : Region.ready .any ops.toArray listed = [] := by
      unfold Region.ready
      rw [List.filter_eq_nil_iff]
      intro i hi
      have h0 : (List.range ops.length).countP (fun i => !listed.getD i true) = 0 := by omega
      rw [List.countP_eq_zero] at h0
      have := h0 i (by simpa using hi)
      simp only [Bool.and_eq_true, _root_.not_and]
      intro h
      exact absurd h this
    exact ⟨hr, hnorm listed u w hS hs hr hf⟩
  | succ fuel ih =>
    intro listed u w hS hs hc hf
    refine ⟨fun hr => hnorm listed u w hS hs hr hf, fun i hi => ?_⟩
    unfold Region.ready at hi
    rw [List.mem_filter] at hi
    obtain ⟨hi, hp⟩ := hi
    have hi' : i < ops.length := by simpa using hi
    have ho : ops.toArray[i]? = some ops[i] := by simp [hi']
    have hol : ops[i]? = some ops[i] := by simp [hi']
    rw [ho] at hp
    simp only [Option.map_some, Option.getD_some, Bool.and_eq_true, Bool.not_eq_true'] at hp
    obtain ⟨hpl, hpa⟩ := hp
    rw [Array.all_eq_true] at hpa
    obtain ⟨s1, s2, s3⟩ := StepAll2.at ops 0 i ops[i] hstep hol
    rw [Nat.zero_add] at s2 s3
    have hdi : ds[i]? = some (ds.getD i none) := by
      have : i < ds.length := by omega
      simp [List.getD, List.getElem?_eq_getElem this]
    have hdm : (ops[i]).dst = none ∨ (ops[i]).dst ∈ ds := by
      rw [s2]
      exact .inr (List.mem_of_getElem? hdi)
    have hdeps : Deps ds R u w (ops[i]).after.toList := by
      have : ∀ l : List Edge, (∀ e ∈ l, e ∈ (ops[i]).after) → Deps ds R u w l := by
        intro l
        induction l with
        | nil => intro _; trivial
        | cons e l ihl =>
          intro h
          have he := h e (List.mem_cons_self ..)
          obtain ⟨k, hk, rfl⟩ := Array.getElem_of_mem he
          have hb := (BackAll.at ops 0 i ops[i] hback hol _ he).2
          have := hpa k hk
          rw [hb] at this
          refine ⟨hf _ (by simpa using this), ihl (fun e he => h e (List.mem_cons_of_mem _ he))⟩
      exact this _ (fun e he => by simpa using he)
    have hw : Region.wanted ops[i] (yielded ops.toArray (over a ds u).tmps) = true := by
      unfold Region.wanted
      rw [s1]
    unfold wpOp
    rw [ho]
    simp only [hw, if_true]
    refine .inl (Oper.wp_mono ?_ (s3 _ u w (fun e => by
      subst e
      have hil : i < listed.size := by omega
      simp only [Array.getD, hil, dite_true] at hpl ⊢
      exact hpl) hS hdeps).go)
    rintro a' w' ⟨v, rfl, hR, hLe, hS'⟩
    rw [over_put a ds u _ v hdm]
    have hil : i < listed.size := by omega
    have hS2 : S ((listed.setIfInBounds i true).getD n false) w' := by
      have e : (listed.setIfInBounds i true).getD n false = (if i = n then true else listed.getD n false) := by
        by_cases e : i = n
        · subst e
          simp [Array.getD, hil]
        · by_cases hnl : n < listed.size
          · simp only [Array.getD, Array.size_setIfInBounds, hnl, dite_true, Array.getInternal_eq_getElem, Array.getElem_setIfInBounds_ne hnl e]
            simp [e]
          · simp [Array.getD, hnl, e]
      rw [e]
      exact hS'
    refine ih _ _ _ hS2 (by simpa using hs) ?_ ?_
    · have := count_less (p := fun x => !listed.getD x true) (q := fun x => !(listed.setIfInBounds i true).getD x true) (i := i) (fun x hx => by
        by_cases e : x = i
        · subst e
          simp [Array.getD, hil] at hx
        · have e' : i ≠ x := fun h => e h.symm
          by_cases hxl : x < listed.size
          · simp only [Array.getD, Array.size_setIfInBounds, hxl, dite_true, Array.getInternal_eq_getElem, Array.getElem_setIfInBounds_ne hxl e'] at hx ⊢
            exact hx
          · simp [Array.getD, hxl] at hx) (by rw [hpl]; rfl) (by simp [Array.getD, hil]) (List.range ops.length) (by simpa using hi')
      omega
    · intro j hj
      by_cases e : j = i
      · subst e
        rw [← s2]
        have hv : valOf (upd u (ops[j]).dst v) (ops[j]).dst = wrote (ops[j]).dst v := by
          cases (ops[j]).dst with
          | none => rfl
          | some k => simp [valOf, upd, wrote]
        rw [hv]
        exact hR
      · have e' : i ≠ j := fun h => e h.symm
        have hj' : listed.getD j false = true := by
          by_cases hxl : j < listed.size
          · simp only [Array.getD, Array.size_setIfInBounds, hxl, dite_true, Array.getInternal_eq_getElem, Array.getElem_setIfInBounds_ne hxl e'] at hj ⊢
            exact hj
          · simp [Array.getD, hxl] at hj
        have h1 := hst _ _ _ _ (hf j hj') hLe
        have hv : valOf (upd u (ops[i]).dst v) (ds.getD j none) = valOf u (ds.getD j none) := by
          cases hdj : ds.getD j none with
          | none => rfl
          | some k =>
            cases hdi2 : (ops[i]).dst with
            | none => rfl
            | some k2 =>
              have hne : k ≠ k2 := by
                intro hk
                subst hk
                refine e (nd j i k ?_ ?_)
                · have hjl : j < ds.length := by
                    by_cases hjl : j < ds.length
                    · exact hjl
                    · simp [List.getD, List.getElem?_eq_none (Nat.le_of_not_lt hjl)] at hdj
                  simp [List.getD, List.getElem?_eq_getElem hjl] at hdj
                  rw [List.getElem?_eq_getElem hjl, hdj]
                · rw [hdi, ← s2, hdi2]
              simp [valOf, upd, hne]
        rw [hv]
        exact h1

theorem wp_region_facts2 {P : Program} {Q : Exit → Act → World → Prop} {a : Act} {w : World} {id : Nat} {ops : List Oper} (ds : List (Option Nat)) (n : Nat) (S : Bool → World → Prop) (Le : World → World → Prop) (R : Nat → Value → World → Prop)
    (hm : P.follows .mixedOrders = true) (nd : ndB ds = true) (hlen : ds.length = ops.length)
    (hback : BackAll 0 ops = true) (hst : ∀ i v w w', R i v w → Le w w' → R i v w') (hn : n < ops.length) (hS : S false w.drew) (hstep : StepAll2 P Q a ds n S Le R 0 ops)
    (hend : ∀ u w, S true w → (∀ i, i < ops.length → R i (valOf u (ds.getD i none)) w) → Q .normal (over a ds u) w) : (Code.region id ops.toArray true).wp P Q a w := by
  refine wp_region_any hm ?_
  have := wpAny_facts2 (ndB.spec ds nd) hlen hback hst hstep hn hend ops.length (Array.replicate ops.length false) (fun k => a.tmps.getD k undef) w.drew (by
    have e : (Array.replicate ops.length false).getD n false = false := by simp [Array.getD, hn]
    rw [e]
    exact hS) (by simp) (by
    refine Nat.le_trans List.countP_le_length ?_
    simp) (fun i hi => by
    exfalso
    by_cases h : i < ops.length
    · simp [Array.getD, h] at hi
    · simp [Array.getD, h] at hi)
  rw [over_self] at this
  simpa using this
theorem StepAll2.cons {P : Program} {Q : Exit → Act → World → Prop} {a : Act} {ds : List (Option Nat)} {n : Nat} {S : Bool → World → Prop} {Le : World → World → Prop} {R : Nat → Value → World → Prop} {i : Nat} {o : Oper} {l : List Oper} (h1 : o.guard = none) (h2 : o.dst = ds.getD i none)
    (h3 : ∀ b u w, (i = n → b = false) → S b w → Deps ds R u w o.after.toList → Does P o (over a ds u) w (R i) Le (S (if i = n then true else b)) Q) (h4 : StepAll2 P Q a ds n S Le R (i + 1) l) : StepAll2 P Q a ds n S Le R i (o :: l) := ⟨⟨h1, h2, h3⟩, h4⟩
end Go.Proofs.YtfekelmldebplaaGreatDoor

namespace Go.Proofs.YtfekelmldebplaaGreatDoor
open Go.RowKit Go.MuLone

theorem words_ne (xs : List Int) (h : 1 ≤ xs.length) : wordsL xs ≠ [] := fun e => by
  have := wordsL_len xs
  rw [e] at this
  simp at this
  omega
/-! ### Holders: one word -/
def opsH13 : List Oper := [
  { dst := some 111, op := Op.buildSlice 37 1 #[(0, Operand.const (Value.int IntKind.u8 6))], type := 37, pos := "keeps.go:222", after := #[], guard := none },
  { dst := some 112, op := Op.move (Operand.tmp 16), type := 3, pos := "keeps.go:222", after := #[], guard := none },
  { dst := some 113, op := Op.move (Operand.tmp 22), type := 3, pos := "keeps.go:222", after := #[], guard := none },
  { dst := some 114, op := Op.binOp BinOp.add 3 (Operand.tmp 112) (Operand.tmp 113) 3, type := 3, pos := "keeps.go:222", after := #[{ on := 1, ground := Ground.data }, { on := 2, ground := Ground.data }], guard := none },
  { dst := some 115, op := Op.call { callee := Callee.value (Operand.func 25), args := #[Operand.tmp 114], argTypes := #[3] }, type := 37, pos := "keeps.go:222", after := #[{ on := 3, ground := Ground.data }], guard := none },
  { dst := some 116, op := Op.move (Operand.tmp 15), type := 24, pos := "keeps.go:222", after := #[], guard := none },
  { dst := some 117, op := Op.move (Operand.tmp 22), type := 3, pos := "keeps.go:222", after := #[], guard := none },
  { dst := some 118, op := Op.indexAddr 24 (Operand.tmp 116) (Operand.tmp 117), type := 0, pos := "keeps.go:222", after := #[{ on := 5, ground := Ground.data }, { on := 6, ground := Ground.data }], guard := none },
  { dst := some 119, op := Op.load 3 (Operand.tmp 118), type := 3, pos := "keeps.go:222", after := #[{ on := 7, ground := Ground.data }], guard := none },
  { dst := some 120, op := Op.call { callee := Callee.value (Operand.func 25), args := #[Operand.tmp 119], argTypes := #[3] }, type := 37, pos := "keeps.go:222", after := #[{ on := 8, ground := Ground.data }, { on := 4, ground := Ground.chain }], guard := none },
  { dst := some 121, op := Op.buildSlice 45 3 #[(0, Operand.tmp 111), (1, Operand.tmp 115), (2, Operand.tmp 120)], type := 45, pos := "keeps.go:222", after := #[{ on := 0, ground := Ground.data }, { on := 4, ground := Ground.data }, { on := 9, ground := Ground.data }], guard := none },
  { dst := some 122, op := Op.call { callee := Callee.value (Operand.func 24), args := #[Operand.tmp 121], argTypes := #[45] }, type := 37, pos := "keeps.go:222", after := #[{ on := 10, ground := Ground.data }, { on := 9, ground := Ground.chain }], guard := none },
  { dst := some 23, op := Op.assign (Operand.tmp 122), type := 37, pos := "keeps.go:222", after := #[{ on := 11, ground := Ground.data }, { on := 11, ground := Ground.chain }, { on := 0, ground := Ground.phase }, { on := 1, ground := Ground.phase }, { on := 2, ground := Ground.phase }, { on := 3, ground := Ground.phase }, { on := 4, ground := Ground.phase }, { on := 5, ground := Ground.phase }, { on := 6, ground := Ground.phase }, { on := 7, ground := Ground.phase }, { on := 8, ground := Ground.phase }, { on := 9, ground := Ground.phase }, { on := 10, ground := Ground.phase }, { on := 11, ground := Ground.phase }], guard := none }]
def dsH13 : List (Option Nat) := [some 111, some 112, some 113, some 114, some 115, some 116, some 117, some 118, some 119, some 120, some 121, some 122, some 23]
def fH13 (p k bb nx cv : Nat) (y : Int) : List Fact := [.bytes [6],
  .val (.int .i64 (p : Int)),
  .val (.int .i64 (k : Int)),
  .val (.int .i64 ((p : Int) + (k : Int))),
  .bytes (wd ((p : Int) + (k : Int))),
  .val (.slice (some ⟨bb, 0, none⟩) nx cv),
  .val (.int .i64 (k : Int)),
  .val (.pointer (some ⟨bb, k, none⟩)),
  .val (.int .i64 y),
  .bytes (wd y),
  .row [[6], wd ((p : Int) + (k : Int)), wd y],
  .bytes (6 :: b6 (p + k) y),
  .bytes (6 :: b6 (p + k) y)]

set_option maxRecDepth 10000 in
set_option maxHeartbeats 1000000 in
theorem holders_r13 (a : Act) (Q : Exit → Act → World → Prop) (w : World) (B id : Nat) (S : World → Prop) (p k bb nx cv : Nat) (y : Int) (hsz : 123 ≤ a.tmps.size) (hp : p ≤ 200) (hk : k < nx) (hn : nx ≤ 200) (hy : 0 ≤ y ∧ y ≤ 65535)
    (h16 : a.eval (.tmp 16) = .int .i64 (p : Int)) (h22 : a.eval (.tmp 22) = .int .i64 (k : Int)) (h15 : a.eval (.tmp 15) = .slice (some ⟨bb, 0, none⟩) nx cv)
    (hS0 : S w.drew) (hSb : ∀ W W', S W → Below W.heap.size W W' → S W') (hSz : ∀ W, S W → B ≤ W.heap.size) (hSy : ∀ W, S W → W.cell? ⟨bb, k, none⟩ = some (.int .i64 y))
    (hend : ∀ u W, S W → Fact.ok B (.bytes (6 :: b6 (p + k) y)) (u 23) W → Q .normal (over a dsH13 u) W) : (Code.region id opsH13.toArray true).wp Tryz.prog Q a w := by
  have ein : ∀ u k, some k ∈ dsH13 → k < 123 → (over a dsH13 u).eval (.tmp k) = u k := fun u k h1 h2 => eval_in a dsH13 u k h1 (by omega)
  have eout : ∀ u k, some k ∉ dsH13 → k < 123 → (over a dsH13 u).eval (.tmp k) = a.eval (.tmp k) := fun u k h1 h2 => eval_out a dsH13 u k h1 (by omega)
  have e6 : [[6], wd ((p : Int) + (k : Int)), wd y].flatten = 6 :: b6 (p + k) y := by
    unfold b6
    rw [Int.natCast_add]
    simp
  refine wp_region_facts dsH13 S LeB (RF B (fH13 p k bb nx cv y)) (by kernel_rfl) (by decide) rfl (by decide) RF.keep hS0 ?_ (fun u W hS hR => hend u W hS (hR 12 (by decide)))
  unfold opsH13
  refine StepAll.cons rfl rfl (fun u W hS hd => ?_) (StepAll.cons rfl rfl (fun u W hS hd => ?_) (StepAll.cons rfl rfl (fun u W hS hd => ?_) (StepAll.cons rfl rfl (fun u W hS hd => ?_) (StepAll.cons rfl rfl (fun u W hS hd => ?_) (StepAll.cons rfl rfl (fun u W hS hd => ?_) (StepAll.cons rfl rfl (fun u W hS hd => ?_) (StepAll.cons rfl rfl (fun u W hS hd => ?_) (StepAll.cons rfl rfl (fun u W hS hd => ?_) (StepAll.cons rfl rfl (fun u W hS hd => ?_) (StepAll.cons rfl rfl (fun u W hS hd => ?_) (StepAll.cons rfl rfl (fun u W hS hd => ?_) (StepAll.cons rfl rfl (fun u W hS hd => ?_) (trivial)))))))))))))
  · exact step_value _ rfl (run_bytes1 _ 6 rfl) (Fact.fresh W [6] B (hSz W hS) (by simp)) (LeB.new _ _) (hSb _ _ hS (rule_new _ _))
  · exact step_value _ rfl (run_move _) ((eout u 16 (by decide) (by omega)).trans h16) (LeB.refl _) hS
  · exact step_value _ rfl (run_move _) ((eout u 22 (by decide) (by omega)).trans h22) (LeB.refl _) hS
  · have e1 : u 112 = (.int .i64 (p : Int)) := hd.1
    have e2 : u 113 = (.int .i64 (k : Int)) := hd.2.1
    exact step_value _ rfl (run_add _ _ _ _ ((ein u 112 (by decide) (by omega)).trans e1) ((ein u 113 (by decide) (by omega)).trans e2) (by omega) (by omega) (by omega) (by omega)) rfl (LeB.refl _) hS
  · have e3 : u 114 = (.int .i64 ((p : Int) + (k : Int))) := hd.1
    exact step_word _ _ _ hS (hSz W hS) hSb ((ein u 114 (by decide) (by omega)).trans e3) (by omega) (by omega) (fun _ _ h => h)
  · exact step_value _ rfl (run_move _) ((eout u 15 (by decide) (by omega)).trans h15) (LeB.refl _) hS
  · exact step_value _ rfl (run_move _) ((eout u 22 (by decide) (by omega)).trans h22) (LeB.refl _) hS
  · have e5 : u 116 = (.slice (some ⟨bb, 0, none⟩) nx cv) := hd.1
    have e6 : u 117 = (.int .i64 (k : Int)) := hd.2.1
    exact step_value _ rfl (run_index _ _ _ _ _ _ ((ein u 116 (by decide) (by omega)).trans e5) ((ein u 117 (by decide) (by omega)).trans e6) (by omega)) rfl (LeB.refl _) hS
  · have e7 : u 118 = (.pointer (some ⟨bb, k, none⟩)) := hd.1
    exact step_value _ rfl (run_loadI _ _ _ _ ((ein u 118 (by decide) (by omega)).trans e7) (hSy W hS)) rfl (LeB.refl _) hS
  · have e8 : u 119 = (.int .i64 y) := hd.1
    exact step_word _ _ _ hS (hSz W hS) hSb ((ein u 119 (by decide) (by omega)).trans e8) (by omega) (by omega) (fun _ _ h => h)
  · have e0 : Fact.ok B (.bytes [6]) (u 111) W := hd.1
    obtain ⟨⟨a0, n0, c0, q0⟩, o0⟩ := e0
    rw [q0] at o0
    have e4 : Fact.ok B (.bytes (wd ((p : Int) + (k : Int)))) (u 115) W := hd.2.1
    obtain ⟨⟨a1, n1, c1, q1⟩, o1⟩ := e4
    rw [q1] at o1
    have e9 : Fact.ok B (.bytes (wd y)) (u 120) W := hd.2.2.1
    obtain ⟨⟨a2, n2, c2, q2⟩, o2⟩ := e9
    rw [q2] at o2
    exact step_value _ rfl (run_row3 _ _ _ a0 a1 a2 n0 c0 n1 c1 n2 c2 ((ein u 111 (by decide) (by omega)).trans q0) ((ein u 115 (by decide) (by omega)).trans q1) ((ein u 120 (by decide) (by omega)).trans q2)) (Fact.newRow W [.slice a0 n0 c0, .slice a1 n1 c1, .slice a2 n2 c2] [[6], wd ((p : Int) + (k : Int)), wd y] B rfl (fun i hi => by
      match i, hi with
      | 0, _ => exact o0
      | 1, _ => exact o1
      | 2, _ => exact o2)) (LeB.new _ _) (hSb _ _ hS (rule_new _ _))
  · have e10 : Fact.ok B (.row [[6], wd ((p : Int) + (k : Int)), wd y]) (u 121) W := hd.1
    exact step_join _ _ [[6], wd ((p : Int) + (k : Int)), wd y] _ hS (hSz W hS) hSb (by rw [ein u 121 (by decide) (by omega)]; exact e10) (fun i hi => by
      match i, hi with
      | 0, _ => exact (by simp)
      | 1, _ => exact (by simp [wd])
      | 2, _ => exact (by simp [wd])) (by simp) (by simp [wd]) e6 (fun _ _ h => h)
  · have e11 : Fact.ok B (.bytes (6 :: b6 (p + k) y)) (u 122) W := hd.1
    exact step_value _ rfl (run_assign _) (show Fact.ok B (.bytes (6 :: b6 (p + k) y)) _ W by rw [ein u 122 (by decide) (by omega)]; exact e11) (LeB.refl _) hS

/-! ### Holders: both at once -/
def opsH34 : List Oper := [
  { dst := some 213, op := Op.move (Operand.tmp 17), type := 28, pos := "keeps.go:242", after := #[], guard := none },
  { dst := some 214, op := Op.buildSlice 37 1 #[(0, Operand.const (Value.int IntKind.u8 23))], type := 37, pos := "keeps.go:242", after := #[], guard := none },
  { dst := some 215, op := Op.move (Operand.tmp 19), type := 37, pos := "keeps.go:242", after := #[], guard := none },
  { dst := some 216, op := Op.move (Operand.tmp 29), type := 3, pos := "keeps.go:242", after := #[], guard := none },
  { dst := some 217, op := Op.call { callee := Callee.value (Operand.func 25), args := #[Operand.tmp 216], argTypes := #[3] }, type := 37, pos := "keeps.go:242", after := #[{ on := 3, ground := Ground.data }], guard := none },
  { dst := some 218, op := Op.move (Operand.tmp 28), type := 24, pos := "keeps.go:242", after := #[], guard := none },
  { dst := some 219, op := Op.call { callee := Callee.builtin Builtin.len, args := #[Operand.tmp 218], argTypes := #[24] }, type := 3, pos := "keeps.go:242", after := #[{ on := 5, ground := Ground.data }], guard := none },
  { dst := some 220, op := Op.call { callee := Callee.value (Operand.func 25), args := #[Operand.tmp 219], argTypes := #[3] }, type := 37, pos := "keeps.go:242", after := #[{ on := 6, ground := Ground.data }, { on := 4, ground := Ground.chain }], guard := none },
  { dst := some 221, op := Op.move (Operand.tmp 28), type := 24, pos := "keeps.go:242", after := #[], guard := none },
  { dst := some 222, op := Op.call { callee := Callee.builtin Builtin.len, args := #[Operand.tmp 221], argTypes := #[24] }, type := 3, pos := "keeps.go:242", after := #[{ on := 8, ground := Ground.data }], guard := none },
  { dst := some 223, op := Op.binOp BinOp.mul 3 (Operand.const (Value.int IntKind.i64 2)) (Operand.tmp 222) 3, type := 3, pos := "keeps.go:242", after := #[{ on := 9, ground := Ground.data }], guard := none },
  { dst := some 224, op := Op.convert 3 5 (Operand.tmp 223), type := 5, pos := "keeps.go:242", after := #[{ on := 10, ground := Ground.data }], guard := none },
  { dst := some 225, op := Op.buildSlice 37 1 #[(0, Operand.tmp 224)], type := 37, pos := "keeps.go:242", after := #[{ on := 11, ground := Ground.data }], guard := none },
  { dst := some 226, op := Op.move (Operand.tmp 28), type := 24, pos := "keeps.go:242", after := #[], guard := none },
  { dst := some 227, op := Op.call { callee := Callee.value (Operand.func 22), args := #[Operand.tmp 226], argTypes := #[24] }, type := 37, pos := "keeps.go:242", after := #[{ on := 13, ground := Ground.data }, { on := 7, ground := Ground.chain }], guard := none },
  { dst := some 228, op := Op.buildSlice 45 6 #[(0, Operand.tmp 214), (1, Operand.tmp 215), (2, Operand.tmp 217), (3, Operand.tmp 220), (4, Operand.tmp 225), (5, Operand.tmp 227)], type := 45, pos := "keeps.go:242", after := #[{ on := 1, ground := Ground.data }, { on := 2, ground := Ground.data }, { on := 4, ground := Ground.data }, { on := 7, ground := Ground.data }, { on := 12, ground := Ground.data }, { on := 14, ground := Ground.data }], guard := none },
  { dst := some 229, op := Op.call { callee := Callee.value (Operand.func 24), args := #[Operand.tmp 228], argTypes := #[45] }, type := 37, pos := "keeps.go:242", after := #[{ on := 15, ground := Ground.data }, { on := 14, ground := Ground.chain }], guard := none },
  { dst := some 230, op := Op.move (Operand.tmp 15), type := 24, pos := "keeps.go:242", after := #[], guard := none },
  { dst := some 231, op := Op.call { callee := Callee.builtin Builtin.len, args := #[Operand.tmp 230], argTypes := #[24] }, type := 3, pos := "keeps.go:242", after := #[{ on := 17, ground := Ground.data }], guard := none },
  { dst := some 232, op := Op.binOp BinOp.mul 3 (Operand.const (Value.int IntKind.i64 2)) (Operand.tmp 231) 3, type := 3, pos := "keeps.go:242", after := #[{ on := 18, ground := Ground.data }], guard := none },
  { dst := some 233, op := Op.convert 3 5 (Operand.tmp 232), type := 5, pos := "keeps.go:242", after := #[{ on := 19, ground := Ground.data }], guard := none },
  { dst := some 234, op := Op.buildSlice 37 2 #[(0, Operand.const (Value.int IntKind.u8 23)), (1, Operand.tmp 233)], type := 37, pos := "keeps.go:242", after := #[{ on := 20, ground := Ground.data }], guard := none },
  { dst := some 235, op := Op.move (Operand.tmp 30), type := 24, pos := "keeps.go:242", after := #[], guard := none },
  { dst := some 236, op := Op.move (Operand.tmp 16), type := 3, pos := "keeps.go:242", after := #[], guard := none },
  { dst := some 237, op := Op.move (Operand.tmp 16), type := 3, pos := "keeps.go:242", after := #[], guard := none },
  { dst := some 238, op := Op.move (Operand.tmp 15), type := 24, pos := "keeps.go:242", after := #[], guard := none },
  { dst := some 239, op := Op.call { callee := Callee.builtin Builtin.len, args := #[Operand.tmp 238], argTypes := #[24] }, type := 3, pos := "keeps.go:242", after := #[{ on := 25, ground := Ground.data }], guard := none },
  { dst := some 240, op := Op.binOp BinOp.add 3 (Operand.tmp 237) (Operand.tmp 239) 3, type := 3, pos := "keeps.go:242", after := #[{ on := 24, ground := Ground.data }, { on := 26, ground := Ground.data }], guard := none },
  { dst := some 241, op := Op.slice 24 (Operand.tmp 235) (some (Operand.tmp 236)) (some (Operand.tmp 240)) none, type := 24, pos := "keeps.go:242", after := #[{ on := 22, ground := Ground.data }, { on := 23, ground := Ground.data }, { on := 27, ground := Ground.data }], guard := none },
  { dst := some 242, op := Op.call { callee := Callee.value (Operand.func 22), args := #[Operand.tmp 241], argTypes := #[24] }, type := 37, pos := "keeps.go:242", after := #[{ on := 28, ground := Ground.data }, { on := 16, ground := Ground.chain }], guard := none },
  { dst := some 243, op := Op.buildSlice 45 2 #[(0, Operand.tmp 234), (1, Operand.tmp 242)], type := 45, pos := "keeps.go:242", after := #[{ on := 21, ground := Ground.data }, { on := 29, ground := Ground.data }], guard := none },
  { dst := some 244, op := Op.call { callee := Callee.value (Operand.func 24), args := #[Operand.tmp 243], argTypes := #[45] }, type := 37, pos := "keeps.go:242", after := #[{ on := 30, ground := Ground.data }, { on := 29, ground := Ground.chain }], guard := none },
  { dst := some 245, op := Op.call { callee := Callee.value (Operand.func 23), args := #[Operand.tmp 213, Operand.const (Value.int IntKind.i64 0), Operand.tmp 229, Operand.tmp 244], argTypes := #[28, 3, 37, 37] }, type := 4, pos := "keeps.go:242", after := #[{ on := 0, ground := Ground.data }, { on := 16, ground := Ground.data }, { on := 31, ground := Ground.data }, { on := 31, ground := Ground.chain }], guard := none },
  { dst := some 20, op := Op.assign (Operand.tmp 245), type := 4, pos := "keeps.go:242", after := #[{ on := 32, ground := Ground.data }, { on := 32, ground := Ground.chain }, { on := 0, ground := Ground.phase }, { on := 1, ground := Ground.phase }, { on := 2, ground := Ground.phase }, { on := 3, ground := Ground.phase }, { on := 4, ground := Ground.phase }, { on := 5, ground := Ground.phase }, { on := 6, ground := Ground.phase }, { on := 7, ground := Ground.phase }, { on := 8, ground := Ground.phase }, { on := 9, ground := Ground.phase }, { on := 10, ground := Ground.phase }, { on := 11, ground := Ground.phase }, { on := 12, ground := Ground.phase }, { on := 13, ground := Ground.phase }, { on := 14, ground := Ground.phase }, { on := 15, ground := Ground.phase }, { on := 16, ground := Ground.phase }, { on := 17, ground := Ground.phase }, { on := 18, ground := Ground.phase }, { on := 19, ground := Ground.phase }, { on := 20, ground := Ground.phase }, { on := 21, ground := Ground.phase }, { on := 22, ground := Ground.phase }, { on := 23, ground := Ground.phase }, { on := 24, ground := Ground.phase }, { on := 25, ground := Ground.phase }, { on := 26, ground := Ground.phase }, { on := 27, ground := Ground.phase }, { on := 28, ground := Ground.phase }, { on := 29, ground := Ground.phase }, { on := 30, ground := Ground.phase }, { on := 31, ground := Ground.phase }, { on := 32, ground := Ground.phase }], guard := none }]
def dsH34 : List (Option Nat) := [some 213, some 214, some 215, some 216, some 217, some 218, some 219, some 220, some 221, some 222, some 223, some 224, some 225, some 226, some 227, some 228, some 229, some 230, some 231, some 232, some 233, some 234, some 235, some 236, some 237, some 238, some 239, some 240, some 241, some 242, some 243, some 244, some 245, some 20]
def fH34 (rb p cc bb nx cv ob co wb : Nat) (hs os ws q : List Int) : List Fact := [.val (.pointer (some ⟨rb, 0, none⟩)),
  .bytes [23],
  .bytes hs,
  .val (.int .i64 (cc : Int)),
  .bytes (wd (cc : Int)),
  .val (.slice (some ⟨ob, 0, none⟩) os.length co),
  .val (.int .i64 (os.length : Int)),
  .bytes (wd (os.length : Int)),
  .val (.slice (some ⟨ob, 0, none⟩) os.length co),
  .val (.int .i64 (os.length : Int)),
  .val (.int .i64 (2 * (os.length : Int))),
  .val (.int .u8 (2 * (os.length : Int))),
  .bytes [2 * (os.length : Int)],
  .val (.slice (some ⟨ob, 0, none⟩) os.length co),
  .bytes (wordsL os),
  .row [[23], hs, wd (cc : Int), wd (os.length : Int), [2 * (os.length : Int)], wordsL os],
  .bytes q,
  .val (.slice (some ⟨bb, 0, none⟩) nx cv),
  .val (.int .i64 (nx : Int)),
  .val (.int .i64 (2 * (nx : Int))),
  .val (.int .u8 (2 * (nx : Int))),
  .bytes [23, 2 * (nx : Int)],
  .val (.slice (some ⟨wb, 0, none⟩) 200 200),
  .val (.int .i64 (p : Int)),
  .val (.int .i64 (p : Int)),
  .val (.slice (some ⟨bb, 0, none⟩) nx cv),
  .val (.int .i64 (nx : Int)),
  .val (.int .i64 ((p : Int) + (nx : Int))),
  .val (.slice (some ⟨wb, p, none⟩) nx (200 - p)),
  .bytes (wordsL ws),
  .row [[23, 2 * (nx : Int)], wordsL ws],
  .bytes (23 :: 2 * (nx : Int) :: wordsL ws),
  .val (.bool true),
  .val (.bool true)]

set_option maxRecDepth 10000 in
set_option maxHeartbeats 1000000 in
theorem holders_r34 (a : Act) (Q : Exit → Act → World → Prop) (w : World) (B id : Nat) (S : Bool → World → Prop) (rb p cc bb nx cv ob co wb : Nat) (ah : Option Addr) (nh ch : Nat) (hs os ws q : List Int) (hsz : 246 ≤ a.tmps.size) (hpn : p + nx ≤ 200) (hn1 : 1 ≤ nx) (hn : nx ≤ 123) (hcc : cc ≤ 200) (ho1 : 1 ≤ os.length) (ho : os.length ≤ 121) (hws : ws.length = nx)
    (hoi : ∀ x ∈ os, 0 ≤ x ∧ x ≤ 65535) (hwi : ∀ x ∈ ws, 0 ≤ x ∧ x ≤ 65535) (hs0 : hs ≠ []) (hsl : hs.length ≤ 1000)
    (h17 : a.eval (.tmp 17) = .pointer (some ⟨rb, 0, none⟩)) (h19 : a.eval (.tmp 19) = .slice ah nh ch) (h29 : a.eval (.tmp 29) = .int .i64 (cc : Int)) (h28 : a.eval (.tmp 28) = .slice (some ⟨ob, 0, none⟩) os.length co) (h15 : a.eval (.tmp 15) = .slice (some ⟨bb, 0, none⟩) nx cv) (h30 : a.eval (.tmp 30) = .slice (some ⟨wb, 0, none⟩) 200 200) (h16 : a.eval (.tmp 16) = .int .i64 (p : Int))
    (eq : [[23], hs, wd (cc : Int), wd (os.length : Int), [2 * (os.length : Int)], wordsL os].flatten = q)
    (hS0 : S false w.drew) (hSb' : ∀ b W W', S b W → Below W.heap.size W W' → S b W') (hSz' : ∀ b W, S b W → B ≤ W.heap.size) (hSh' : ∀ b W, S b W → Fact.ok B (.bytes hs) (.slice ah nh ch) W)
    (hSo' : ∀ b W, S b W → os = [] ∨ ∃ b o, some (⟨ob, 0, none⟩ : Addr) = some ⟨b, o, none⟩ ∧ b < W.heap.size ∧ ∀ i, i < os.length → W.cell? ⟨b, o + i, none⟩ = some (.int .i64 (os.getD i 0)))
    (hSw' : ∀ b W, S b W → ws = [] ∨ ∃ b o, some (⟨wb, p, none⟩ : Addr) = some ⟨b, o, none⟩ ∧ b < W.heap.size ∧ ∀ i, i < ws.length → W.cell? ⟨b, o + i, none⟩ = some (.int .i64 (ws.getD i 0)))
    (hdone : ∀ W v x, S false W → Owns W B v q → Owns W B x (23 :: 2 * (nx : Int) :: wordsL ws) → Calls Tryz.prog 23 #[.pointer (some ⟨rb, 0, none⟩), .int .i64 0, v, x] W fun r w' => r = .returned (.bool true) ∧ S true w' ∧ LeB W w')
    (hend : ∀ u W, S true W → u 20 = .bool true → Q .normal (over a dsH34 u) W) : (Code.region id opsH34.toArray true).wp Tryz.prog Q a w := by
  have ein : ∀ u k, some k ∈ dsH34 → k < 246 → (over a dsH34 u).eval (.tmp k) = u k := fun u k h1 h2 => eval_in a dsH34 u k h1 (by omega)
  have eout : ∀ u k, some k ∉ dsH34 → k < 246 → (over a dsH34 u).eval (.tmp k) = a.eval (.tmp k) := fun u k h1 h2 => eval_out a dsH34 u k h1 (by omega)
  have ef : ∀ u f, (over a dsH34 u).eval (.func f) = .func (.func f) #[] #[] := fun u f => by simp [Act.eval]
  refine wp_region_facts2 dsH34 32 S LeB (RF B (fH34 rb p cc bb nx cv ob co wb hs os ws q)) (by kernel_rfl) (by decide) rfl (by decide) RF.keep (by decide) hS0 ?_ (fun u W hS hR => hend u W hS (hR 33 (by decide)))
  unfold opsH34
  refine StepAll2.cons rfl rfl (fun b u W hb hS hd => ?_) (StepAll2.cons rfl rfl (fun b u W hb hS hd => ?_) (StepAll2.cons rfl rfl (fun b u W hb hS hd => ?_) (StepAll2.cons rfl rfl (fun b u W hb hS hd => ?_) (StepAll2.cons rfl rfl (fun b u W hb hS hd => ?_) (StepAll2.cons rfl rfl (fun b u W hb hS hd => ?_) (StepAll2.cons rfl rfl (fun b u W hb hS hd => ?_) (StepAll2.cons rfl rfl (fun b u W hb hS hd => ?_) (StepAll2.cons rfl rfl (fun b u W hb hS hd => ?_) (StepAll2.cons rfl rfl (fun b u W hb hS hd => ?_) (StepAll2.cons rfl rfl (fun b u W hb hS hd => ?_) (StepAll2.cons rfl rfl (fun b u W hb hS hd => ?_) (StepAll2.cons rfl rfl (fun b u W hb hS hd => ?_) (StepAll2.cons rfl rfl (fun b u W hb hS hd => ?_) (StepAll2.cons rfl rfl (fun b u W hb hS hd => ?_) (StepAll2.cons rfl rfl (fun b u W hb hS hd => ?_) (StepAll2.cons rfl rfl (fun b u W hb hS hd => ?_) (StepAll2.cons rfl rfl (fun b u W hb hS hd => ?_) (StepAll2.cons rfl rfl (fun b u W hb hS hd => ?_) (StepAll2.cons rfl rfl (fun b u W hb hS hd => ?_) (StepAll2.cons rfl rfl (fun b u W hb hS hd => ?_) (StepAll2.cons rfl rfl (fun b u W hb hS hd => ?_) (StepAll2.cons rfl rfl (fun b u W hb hS hd => ?_) (StepAll2.cons rfl rfl (fun b u W hb hS hd => ?_) (StepAll2.cons rfl rfl (fun b u W hb hS hd => ?_) (StepAll2.cons rfl rfl (fun b u W hb hS hd => ?_) (StepAll2.cons rfl rfl (fun b u W hb hS hd => ?_) (StepAll2.cons rfl rfl (fun b u W hb hS hd => ?_) (StepAll2.cons rfl rfl (fun b u W hb hS hd => ?_) (StepAll2.cons rfl rfl (fun b u W hb hS hd => ?_) (StepAll2.cons rfl rfl (fun b u W hb hS hd => ?_) (StepAll2.cons rfl rfl (fun b u W hb hS hd => ?_) (StepAll2.cons rfl rfl (fun b u W hb hS hd => ?_) (StepAll2.cons rfl rfl (fun b u W hb hS hd => ?_) (trivial))))))))))))))))))))))))))))))))))
  · exact step_value _ rfl (run_move _) ((eout u 17 (by decide) (by omega)).trans h17) (LeB.refl _) hS
  · exact step_value _ rfl (run_bytes1 _ 23 rfl) (Fact.fresh W [23] B (hSz' b W hS) (by simp)) (LeB.new _ _) (hSb' b _ _ hS (rule_new _ _))
  · exact step_value _ rfl (run_move _) (show Fact.ok B (.bytes hs) _ W by rw [eout u 19 (by decide) (by omega), h19]; exact hSh' b W hS) (LeB.refl _) hS
  · exact step_value _ rfl (run_move _) ((eout u 29 (by decide) (by omega)).trans h29) (LeB.refl _) hS
  · have e3 : u 216 = (.int .i64 (cc : Int)) := hd.1
    exact step_word _ _ _ hS (hSz' b W hS) (hSb' b) ((ein u 216 (by decide) (by omega)).trans e3) (by omega) (by omega) (fun _ _ h => h)
  · exact step_value _ rfl (run_move _) ((eout u 28 (by decide) (by omega)).trans h28) (LeB.refl _) hS
  · have e5 : u 218 = (.slice (some ⟨ob, 0, none⟩) os.length co) := hd.1
    exact step_value _ rfl (run_lenI _ _ _ _ ((ein u 218 (by decide) (by omega)).trans e5)) rfl (LeB.refl _) hS
  · have e6 : u 219 = (.int .i64 (os.length : Int)) := hd.1
    exact step_word _ _ _ hS (hSz' b W hS) (hSb' b) ((ein u 219 (by decide) (by omega)).trans e6) (by omega) (by omega) (fun _ _ h => h)
  · exact step_value _ rfl (run_move _) ((eout u 28 (by decide) (by omega)).trans h28) (LeB.refl _) hS
  · have e8 : u 221 = (.slice (some ⟨ob, 0, none⟩) os.length co) := hd.1
    exact step_value _ rfl (run_lenI _ _ _ _ ((ein u 221 (by decide) (by omega)).trans e8)) rfl (LeB.refl _) hS
  · have e9 : u 222 = (.int .i64 (os.length : Int)) := hd.1
    exact step_value _ rfl (run_mul2 _ _ (fun _ => by simp [Act.eval]) ((ein u 222 (by decide) (by omega)).trans e9) (by omega) (by omega)) rfl (LeB.refl _) hS
  · have e10 : u 223 = (.int .i64 (2 * (os.length : Int))) := hd.1
    exact step_value _ rfl (run_byte _ _ ((ein u 223 (by decide) (by omega)).trans e10) (by omega) (by omega)) rfl (LeB.refl _) hS
  · have e11 : u 224 = (.int .u8 (2 * (os.length : Int))) := hd.1
    exact step_value _ rfl (run_bytes1 _ _ ((ein u 224 (by decide) (by omega)).trans e11)) (Fact.fresh W [2 * (os.length : Int)] B (hSz' b W hS) (by simp)) (LeB.new _ _) (hSb' b _ _ hS (rule_new _ _))
  · exact step_value _ rfl (run_move _) ((eout u 28 (by decide) (by omega)).trans h28) (LeB.refl _) hS
  · have e13 : u 226 = (.slice (some ⟨ob, 0, none⟩) os.length co) := hd.1
    exact step_wordy _ _ _ _ os hS (hSz' b W hS) (hSb' b) ((ein u 226 (by decide) (by omega)).trans e13) (hSo' b W hS) hoi (by omega) (fun _ _ h => h)
  · have e1 : Fact.ok B (.bytes [23]) (u 214) W := hd.1
    obtain ⟨⟨a0, n0, c0, q0⟩, o0⟩ := e1
    rw [q0] at o0
    have e2 : Fact.ok B (.bytes hs) (u 215) W := hd.2.1
    obtain ⟨⟨a1, n1, c1, q1⟩, o1⟩ := e2
    rw [q1] at o1
    have e4 : Fact.ok B (.bytes (wd (cc : Int))) (u 217) W := hd.2.2.1
    obtain ⟨⟨a2, n2, c2, q2⟩, o2⟩ := e4
    rw [q2] at o2
    have e7 : Fact.ok B (.bytes (wd (os.length : Int))) (u 220) W := hd.2.2.2.1
    obtain ⟨⟨a3, n3, c3, q3⟩, o3⟩ := e7
    rw [q3] at o3
    have e12 : Fact.ok B (.bytes [2 * (os.length : Int)]) (u 225) W := hd.2.2.2.2.1
    obtain ⟨⟨a4, n4, c4, q4⟩, o4⟩ := e12
    rw [q4] at o4
    have e14 : Fact.ok B (.bytes (wordsL os)) (u 227) W := hd.2.2.2.2.2.1
    obtain ⟨⟨a5, n5, c5, q5⟩, o5⟩ := e14
    rw [q5] at o5
    exact step_value _ rfl (run_row6 _ _ _ _ _ _ a0 a1 a2 a3 a4 a5 n0 c0 n1 c1 n2 c2 n3 c3 n4 c4 n5 c5 ((ein u 214 (by decide) (by omega)).trans q0) ((ein u 215 (by decide) (by omega)).trans q1) ((ein u 217 (by decide) (by omega)).trans q2) ((ein u 220 (by decide) (by omega)).trans q3) ((ein u 225 (by decide) (by omega)).trans q4) ((ein u 227 (by decide) (by omega)).trans q5)) (Fact.newRow W [.slice a0 n0 c0, .slice a1 n1 c1, .slice a2 n2 c2, .slice a3 n3 c3, .slice a4 n4 c4, .slice a5 n5 c5] [[23], hs, wd (cc : Int), wd (os.length : Int), [2 * (os.length : Int)], wordsL os] B rfl (fun i hi => by
      match i, hi with
      | 0, _ => exact o0
      | 1, _ => exact o1
      | 2, _ => exact o2
      | 3, _ => exact o3
      | 4, _ => exact o4
      | 5, _ => exact o5)) (LeB.new _ _) (hSb' b _ _ hS (rule_new _ _))
  · have e15 : Fact.ok B (.row [[23], hs, wd (cc : Int), wd (os.length : Int), [2 * (os.length : Int)], wordsL os]) (u 228) W := hd.1
    exact step_join _ _ [[23], hs, wd (cc : Int), wd (os.length : Int), [2 * (os.length : Int)], wordsL os] _ hS (hSz' b W hS) (hSb' b) (by rw [ein u 228 (by decide) (by omega)]; exact e15) (fun i hi => by
      match i, hi with
      | 0, _ => exact (by simp)
      | 1, _ => exact hs0
      | 2, _ => exact (by simp [wd])
      | 3, _ => exact (by simp [wd])
      | 4, _ => exact (by simp)
      | 5, _ => exact (words_ne os ho1)) (by simp) (by (simp [wd, wordsL_len]; omega)) eq (fun _ _ h => h)
  · exact step_value _ rfl (run_move _) ((eout u 15 (by decide) (by omega)).trans h15) (LeB.refl _) hS
  · have e17 : u 230 = (.slice (some ⟨bb, 0, none⟩) nx cv) := hd.1
    exact step_value _ rfl (run_lenI _ _ _ _ ((ein u 230 (by decide) (by omega)).trans e17)) rfl (LeB.refl _) hS
  · have e18 : u 231 = (.int .i64 (nx : Int)) := hd.1
    exact step_value _ rfl (run_mul2 _ _ (fun _ => by simp [Act.eval]) ((ein u 231 (by decide) (by omega)).trans e18) (by omega) (by omega)) rfl (LeB.refl _) hS
  · have e19 : u 232 = (.int .i64 (2 * (nx : Int))) := hd.1
    exact step_value _ rfl (run_byte _ _ ((ein u 232 (by decide) (by omega)).trans e19) (by omega) (by omega)) rfl (LeB.refl _) hS
  · have e20 : u 233 = (.int .u8 (2 * (nx : Int))) := hd.1
    exact step_value _ rfl (run_bytes2 _ _ 23 _ rfl ((ein u 233 (by decide) (by omega)).trans e20)) (Fact.fresh W [23, 2 * (nx : Int)] B (hSz' b W hS) (by simp)) (LeB.new _ _) (hSb' b _ _ hS (rule_new _ _))
  · exact step_value _ rfl (run_move _) ((eout u 30 (by decide) (by omega)).trans h30) (LeB.refl _) hS
  · exact step_value _ rfl (run_move _) ((eout u 16 (by decide) (by omega)).trans h16) (LeB.refl _) hS
  · exact step_value _ rfl (run_move _) ((eout u 16 (by decide) (by omega)).trans h16) (LeB.refl _) hS
  · exact step_value _ rfl (run_move _) ((eout u 15 (by decide) (by omega)).trans h15) (LeB.refl _) hS
  · have e25 : u 238 = (.slice (some ⟨bb, 0, none⟩) nx cv) := hd.1
    exact step_value _ rfl (run_lenI _ _ _ _ ((ein u 238 (by decide) (by omega)).trans e25)) rfl (LeB.refl _) hS
  · have e24 : u 237 = (.int .i64 (p : Int)) := hd.1
    have e26 : u 239 = (.int .i64 (nx : Int)) := hd.2.1
    exact step_value _ rfl (run_add _ _ _ _ ((ein u 237 (by decide) (by omega)).trans e24) ((ein u 239 (by decide) (by omega)).trans e26) (by omega) (by omega) (by omega) (by omega)) rfl (LeB.refl _) hS
  · have e22 : u 235 = (.slice (some ⟨wb, 0, none⟩) 200 200) := hd.1
    have e23 : u 236 = (.int .i64 (p : Int)) := hd.2.1
    have e27 : u 240 = (.int .i64 ((p : Int) + (nx : Int))) := hd.2.2.1
    exact step_value _ rfl (run_slice _ _ _ _ _ _ _ _ ((ein u 235 (by decide) (by omega)).trans e22) ((ein u 236 (by decide) (by omega)).trans e23) ((ein u 240 (by decide) (by omega)).trans (e27.trans (show Value.int .i64 ((p : Int) + (nx : Int)) = .int .i64 ((p + nx : Nat) : Int) by rw [Int.natCast_add]))) (by omega) (by omega) (by omega)) (show Value.slice _ _ _ = _ by rw [Nat.add_sub_cancel_left]) (LeB.refl _) hS
  · have e28 : u 241 = (.slice (some ⟨wb, p, none⟩) nx (200 - p)) := hd.1
    exact step_wordy _ _ _ _ ws hS (hSz' b W hS) (hSb' b) ((ein u 241 (by decide) (by omega)).trans (e28.trans (by rw [hws]))) (hSw' b W hS) hwi (by omega) (fun _ _ h => h)
  · have e21 : Fact.ok B (.bytes [23, 2 * (nx : Int)]) (u 234) W := hd.1
    obtain ⟨⟨a0, n0, c0, q0⟩, o0⟩ := e21
    rw [q0] at o0
    have e29 : Fact.ok B (.bytes (wordsL ws)) (u 242) W := hd.2.1
    obtain ⟨⟨a1, n1, c1, q1⟩, o1⟩ := e29
    rw [q1] at o1
    exact step_value _ rfl (run_row2 _ _ a0 a1 n0 c0 n1 c1 ((ein u 234 (by decide) (by omega)).trans q0) ((ein u 242 (by decide) (by omega)).trans q1)) (Fact.newRow W [.slice a0 n0 c0, .slice a1 n1 c1] [[23, 2 * (nx : Int)], wordsL ws] B rfl (fun i hi => by
      match i, hi with
      | 0, _ => exact o0
      | 1, _ => exact o1)) (LeB.new _ _) (hSb' b _ _ hS (rule_new _ _))
  · have e30 : Fact.ok B (.row [[23, 2 * (nx : Int)], wordsL ws]) (u 243) W := hd.1
    exact step_join _ _ [[23, 2 * (nx : Int)], wordsL ws] _ hS (hSz' b W hS) (hSb' b) (by rw [ein u 243 (by decide) (by omega)]; exact e30) (fun i hi => by
      match i, hi with
      | 0, _ => exact (by simp)
      | 1, _ => exact (words_ne ws (by omega))) (by simp) (by (simp [wordsL_len]; omega)) (by simp) (fun _ _ h => h)
  · have e0 : u 213 = (.pointer (some ⟨rb, 0, none⟩)) := hd.1
    have e16 : Fact.ok B (.bytes q) (u 229) W := hd.2.1
    have e31 : Fact.ok B (.bytes (23 :: 2 * (nx : Int) :: wordsL ws)) (u 244) W := hd.2.2.1
    obtain rfl := hb rfl
    have hj := hdone W (u 229) (u 244) hS e16.2 e31.2
    have e0' : u 213 = .pointer (some ⟨rb, 0, none⟩) := e0
    rw [← e0', ← ein u 213 (by decide) (by omega), ← ein u 229 (by decide) (by omega), ← ein u 244 (by decide) (by omega)] at hj
    refine step_enter _ rfl (run_call4 _ _ _ _ _ _ (ef u _) callf_done) _ hj ?_
    rintro e w' ⟨rfl, hS', hL⟩
    exact ⟨_, rfl, rfl, hL, hS'⟩
  · have e32 : u 245 = (.bool true) := hd.1
    exact step_value _ rfl (run_assign _) (show Fact.ok B (.val (.bool true)) _ W by rw [ein u 245 (by decide) (by omega)]; exact e32) (LeB.refl _) hS
end Go.Proofs.YtfekelmldebplaaGreatDoor

namespace Go.Proofs.YtfekelmldebplaaGreatDoor
open Go.RowKit Go.MuLone

theorem maskI_twice (m o n : Int) (hm : 0 ≤ m ∧ m ≤ 65535) (ho : 0 ≤ o ∧ o ≤ 65535) (hn : 0 ≤ n ∧ n ≤ 65535) : maskI m (maskI m o n) n = maskI m o n := by
  obtain ⟨m, rfl⟩ := Int.eq_ofNat_of_zero_le hm.1
  obtain ⟨o, rfl⟩ := Int.eq_ofNat_of_zero_le ho.1
  obtain ⟨n, rfl⟩ := Int.eq_ofNat_of_zero_le hn.1
  rw [maskI_nat m o n (by omega) (by omega) (by omega), maskI_nat m _ n (by omega) (maskN_lt m o n (by omega) (by omega)) (by omega), maskN_twice m o n (by omega)]
theorem mask_and (m o n : Int) (hm : 0 ≤ m ∧ m ≤ 65535) (ho : 0 ≤ o ∧ o ≤ 65535) (hn : 0 ≤ n ∧ n ≤ 65535) : bits BinOp.or IntKind.i64 (bits BinOp.and IntKind.i64 o m) (bits BinOp.and IntKind.i64 n (65535 - m)) = maskI m o n := by
  obtain ⟨m, rfl⟩ := Int.eq_ofNat_of_zero_le hm.1
  obtain ⟨o, rfl⟩ := Int.eq_ofNat_of_zero_le ho.1
  obtain ⟨n, rfl⟩ := Int.eq_ofNat_of_zero_le hn.1
  have h1 : (65535 : Int) - (m : Int) = ((65535 - m : Nat) : Int) := by omega
  rw [maskI_nat m o n (by omega) (by omega) (by omega), h1, and_i64 o m (by omega) (by omega), and_i64 n (65535 - m) (by omega) (by omega)]
  rw [or_i64 _ _ (Nat.lt_of_le_of_lt Nat.and_le_left (by omega)) (Nat.lt_of_le_of_lt Nat.and_le_left (by omega))]
  rfl
/-- One number more. -/
theorem set_next (Z l : List Int) (p j : Nat) (hj : j < l.length) (h : p + l.length ≤ Z.length) : (setL Z p (l.take j)).set (p + j) (l.getD j 0) = setL Z p (l.take (j + 1)) := by
  have h1 : (l.take j).length = j := by simp; omega
  have h2 : (l.take (j + 1)).length = j + 1 := by simp; omega
  have l1 : (setL Z p (l.take j)).length = Z.length := setL_len _ _ _ (by rw [h1]; omega)
  have l2 : (setL Z p (l.take (j + 1))).length = Z.length := setL_len _ _ _ (by rw [h2]; omega)
  refine getD_ext _ _ (by rw [List.length_set, l1, l2]) fun i hi => ?_
  rw [setL_get _ _ _ (by rw [h2]; omega), h2]
  by_cases e : i = p + j
  · subst e
    rw [if_pos (by omega), show p + j - p = j by omega]
    have hlt : p + j < (setL Z p (l.take j)).length := by rw [l1]; omega
    rw [List.getD_eq_getElem?_getD, List.getElem?_set_self hlt]
    simp only [List.getD_eq_getElem?_getD, List.getElem?_take]
    rw [if_pos (by omega)]
    rfl
  · rw [List.getD_eq_getElem?_getD, List.getElem?_set_ne (by omega), ← List.getD_eq_getElem?_getD, setL_get _ _ _ (by rw [h1]; omega), h1]
    by_cases e2 : p ≤ i ∧ i < p + j
    · rw [if_pos e2, if_pos (by omega)]
      simp only [List.getD_eq_getElem?_getD, List.getElem?_take]
      rw [if_pos (by omega), if_pos (by omega)]
    · rw [if_neg e2, if_neg (by omega)]
theorem setL_nil (Z : List Int) (p : Nat) : setL Z p [] = Z := by simp [setL]
theorem IntsAt.below {w w' : World} {cb co : Nat} {cs : List Int} (h : IntsAt w cb co cs) (hb : Below w.heap.size w w') : IntsAt w' cb co cs :=
  ⟨fun hne => Nat.lt_of_lt_of_le (h.lt hne) hb.size, fun i hi => (hb.cell (by exact h.lt (fun e => by simp [e] at hi))).trans (h.c i hi), h.lo, h.hi⟩
theorem CS.store {w W : World} {B rb sb tb kb : Nat} {t : T4} {us : List Value} {bb cv : Nat} {xs : List Int} {hv : Value} {hs : List Int} (h : CS w W B rb sb tb kb t us bb cv xs hv hs) (hbw : w.heap.size ≤ bb) (k : Nat) (y : Int) : CS w (W.setCell ⟨bb, k, none⟩ (.int .i64 y)) B rb sb tb kb t us bb cv (xs.set k y) hv hs := by
  have hc : Chg W (W.setCell ⟨bb, k, none⟩ (.int .i64 y)) (fun j => j = bb) := Chg.set W bb k _
  have hbB := h.bb
  refine ⟨below_chg h.bel hc (fun j e => by have e2 : j = bb := e; omega), h.bk.keep hc (fun j l e => by have e2 : j = bb := e; omega), h.own.store k y, ownsRow_keep h.head (fun j _ h2 e => hc.block j h2 (fun e2 => ?_)), h.lo, h.bb⟩
  have e3 : j = bb := e2
  subst e3
  obtain ⟨cs, fr, q5⟩ := own_cells h.head e
  obtain ⟨cs2, fr2, q3⟩ := own3 h.own j rfl
  exact rows_ne q5 q3 (by decide) rfl
theorem set_get (xs : List Int) (k : Nat) (y : Int) (h : k < xs.length) : (xs.set k y).getD k 0 = y := by
  rw [List.getD_eq_getElem?_getD, List.getElem?_set_self h]
  rfl
theorem set_twice (xs : List Int) (k : Nat) (y : Int) : (xs.set k y).set k y = xs.set k y := by simp
theorem set_in (xs : List Int) (k : Nat) (y lo hi : Int) (h : ∀ x ∈ xs, lo ≤ x ∧ x ≤ hi) (hy : lo ≤ y ∧ y ≤ hi) : ∀ x ∈ xs.set k y, lo ≤ x ∧ x ≤ hi := fun x hx => by
  rcases List.mem_or_eq_of_mem_set hx with hx | rfl
  · exact h x hx
  · exact hy
theorem want_at (wr : World) (wb n : Nat) (l : List Int) (h : OwnsI wr wb (.slice (some ⟨wb, 0, none⟩) n n) l) (hl : l.length = n) (i : Nat) (hi : i < n) : wr.cell? ⟨wb, i, none⟩ = some (.int .i64 (l.getD i 0)) ∧ wr.frozen? ⟨wb, i, none⟩ = false ∧ ∀ y, OwnsI (wr.setCell ⟨wb, i, none⟩ (.int .i64 y)) wb (.slice (some ⟨wb, 0, none⟩) n n) (l.set i y) := by
  subst hl
  refine ⟨h.cells i hi, own_unfrozen h rfl i, fun y => ?_⟩
  have := h.store i y
  rw [show (l.set i y).length = l.length by simp] at this
  exact this
theorem OwnsI.part {w : World} {B b n c : Nat} {xs : List Int} (h : OwnsI w B (.slice (some ⟨b, 0, none⟩) n c) xs) : xs = [] ∨ ∃ b' o, some (⟨b, 0, none⟩ : Addr) = some ⟨b', o, none⟩ ∧ b' < w.heap.size ∧ ∀ i, i < xs.length → w.cell? ⟨b', o + i, none⟩ = some (.int .i64 (xs.getD i 0)) := by
  obtain ⟨a', c', e, hh⟩ := h.lies
  cases e
  exact hh
/-- A bank's blocks are elder than a list that was made behind it. -/
theorem OwnsI.later {w w' : World} {B0 B b n c0 N : Nat} {xs : List Int} {rb sb tb kb : Nat} {t : T4} {LL : List (List Rule)} {us : List Value} (h : OwnsI w B0 (.slice (some ⟨b, 0, none⟩) n c0) xs) (i : Nat) (hs : sb < N) (hg : (t.at i).g < N) (hb : N ≤ b) (c : Chg w w' (fun k => k = sb ∨ k = (t.at i).g)) (_ : BankAt w B rb sb tb kb t LL us) : OwnsI w' B0 (.slice (some ⟨b, 0, none⟩) n c0) xs :=
  OwnsI.keep h c (fun k e => by simp [Value.ownBlock] at e; subst e; intro e2; rcases e2 with e2 | e2 <;> omega)
theorem join_mask (f p m n : Int) (w : World) :
    Calls Tryz.prog 24 #[.slice (some ⟨w.heap.size + 1 + 1 + 1 + 1, 0, none⟩) 4 4]
      (((((w.alloc (.cells #[.int .u8 f] 5)).alloc (.cells #[.int .u8 (p / 256), .int .u8 (p % 256)] 5)).alloc (.cells #[.int .u8 (m / 256), .int .u8 (m % 256)] 5)).alloc (.cells #[.int .u8 (n / 256), .int .u8 (n % 256)] 5)).alloc
        (.cells #[.slice (some ⟨w.heap.size, 0, none⟩) 1 1, .slice (some ⟨w.heap.size + 1, 0, none⟩) 2 2, .slice (some ⟨w.heap.size + 1 + 1, 0, none⟩) 2 2, .slice (some ⟨w.heap.size + 1 + 1 + 1, 0, none⟩) 2 2] 37))
      fun e w' => ∃ a m' c, e = .returned (.slice a m' c) ∧ Owns w' w.heap.size (.slice a m' c) (f :: (wd p ++ (wd m ++ wd n))) ∧ Below w.heap.size w w' := by
  have h1 := lies_fresh w [f]
  have h2 := lies_fresh (w.alloc (.cells #[.int .u8 f] 5)) (wd p)
  have h3 := lies_fresh ((w.alloc (.cells #[.int .u8 f] 5)).alloc (.cells #[.int .u8 (p / 256), .int .u8 (p % 256)] 5)) (wd m)
  have h4 := lies_fresh (((w.alloc (.cells #[.int .u8 f] 5)).alloc (.cells #[.int .u8 (p / 256), .int .u8 (p % 256)] 5)).alloc (.cells #[.int .u8 (m / 256), .int .u8 (m % 256)] 5)) (wd n)
  simp only [World.size_alloc] at h2 h3 h4
  exact join_last w _ [.slice (some ⟨w.heap.size, 0, none⟩) 1 1, .slice (some ⟨w.heap.size + 1, 0, none⟩) 2 2, .slice (some ⟨w.heap.size + 1 + 1, 0, none⟩) 2 2, .slice (some ⟨w.heap.size + 1 + 1 + 1, 0, none⟩) 2 2] [[f], wd p, wd m, wd n] _ _ 4 (by simp) (bl_trans (bl_trans (bl_trans (rule_new _ _) (rule_new _ _)) (rule_new _ _)) (rule_new _ _)) rfl rfl (fun i hi => by
    match i, hi with
    | 0, _ => exact ⟨((h1.below (rule_new _ _)).below (rule_new _ _)).below (rule_new _ _), by simp⟩
    | 1, _ => exact ⟨(h2.below (rule_new _ _)).below (rule_new _ _), by simp [wd]⟩
    | 2, _ => exact ⟨h3.below (rule_new _ _), by simp [wd]⟩
    | 3, _ => exact ⟨h4, by simp [wd]⟩) (by omega) (by simp [wd]) _ (by simp)
end Go.Proofs.YtfekelmldebplaaGreatDoor

namespace Go.Proofs.YtfekelmldebplaaGreatDoor
open Go.RowKit Go.MuLone

set_option maxRecDepth 10000 in
set_option maxHeartbeats 4000000 in
theorem holders_any (cb co c : Nat) (a : Option Addr) (raw : List Int) (cb2 co2 c2 : Nat) (a2 : Option Addr) (raw2 : List Int) (fr on xm xn pl : Int) (w : World) (ha : a = some ⟨cb, co, none⟩ ∨ raw = []) (h : IntsAt w cb co raw) (hr : raw.length ≤ 1152921504606846976) (ha2 : a2 = some ⟨cb2, co2, none⟩ ∨ raw2 = []) (h2 : IntsAt w cb2 co2 raw2) (hr2 : raw2.length ≤ 1152921504606846976)
    (f0 : -9223372036854775808 ≤ fr ∧ fr ≤ 9223372036854775807) (o0 : -9223372036854775808 ≤ on ∧ on ≤ 9223372036854775807) (m0 : -9223372036854775808 ≤ xm ∧ xm ≤ 9223372036854775807) (n0 : -9223372036854775808 ≤ xn ∧ xn ≤ 9223372036854775807) (p0 : -9223372036854775808 ≤ pl ∧ pl ≤ 9223372036854775807) :
    Calls Tryz.prog 10 #[.slice a raw.length c, .int .i64 fr, .int .i64 on, .int .i64 xm, .int .i64 xn, .slice a2 raw2.length c2, .int .i64 pl] w fun e w' => e = .returned (.bool true) ∧ Below w.heap.size w w' := by
  have HVal := hide (values_any cb co c a raw 65536 123 w ha h (by omega) (by omega) hr (by omega))
  rw [show ((123 : Nat) : Int) = 123 from rfl] at HVal
  have hvl := valuesL_len raw 65536 123 (by omega)
  have HVin := hide (valuesL_in raw 65536 123 (by omega))
  generalize valuesL raw 65536 123 = xs at HVal hvl HVin
  clear h
  have H2 := hide h2
  have HA2 := hide ha2
  clear h2 ha2
  have hXin : ∀ x ∈ xs, 0 ≤ x ∧ x ≤ 65535 := fun x hx => by have := unhide HVin x hx; omega
  have HP2 := hide (fun w => pick_any fr (200 - (xs.length : Int) + 1) w (by omega) (by omega) f0.1 f0.2)
  have hpb := pickI_bd fr (200 - (xs.length : Int) + 1) (by omega)
  obtain ⟨p, hp⟩ : ∃ p : Nat, pickI fr (200 - (xs.length : Int) + 1) = (p : Int) := ⟨(pickI fr (200 - (xs.length : Int) + 1)).toNat, by omega⟩
  rw [hp] at HP2 hpb
  have hp1 : p + xs.length ≤ 200 := by omega
  clear hp hpb
  go_enter Tryz.func10, Tryz.ntmps10
  go_wp2_with fail
  refine (unhide HVal).mono ?_
  rintro e w1 ⟨v1, rfl, hO1, hb1⟩
  obtain ⟨av, cv, rfl, hav1, hav2⟩ := ownsRow_opt hO1
  obtain ⟨y0, rfl⟩ : ∃ y, av = some y := by
    cases av with
    | none => have := hav1 rfl; omega
    | some y => exact ⟨y, rfl⟩
  obtain ⟨bb, rfl, hcv⟩ := hav2 y0 rfl
  have hbb := World.ownsRow.lt hO1 bb rfl
  have HO1 := hide hO1
  have HB1 := hide hb1
  clear hO1 hb1 hav1 hav2 HVal ha
  go_wp2_with fail
  refine (unhide HP2 w1).mono ?_
  rintro e w1 ⟨rfl, rfl⟩
  have HOp := hide (open200 0 0 200 200 w1 (by omega) (by omega) (by omega) (by omega))
  rw [show ((200 : Nat) : Int) = 200 from rfl, show ((0 : Nat) : Int) = 0 from rfl] at HOp
  clear HP2
  go_wp2_with fail
  refine (unhide HOp).mono ?_
  rintro e w2 ⟨B, rb, sb, tb, kb, t4, us, rfl, hB2, hlB, hb2, _, _, hL2, hL3⟩
  have HO2 := hide (OwnsI.keep (unhide HO1) (Chg.of_below hb2 (fun _ => False)) (fun _ _ e => e))
  have HB2 := hide (bl_trans (unhide HB1) hb2)
  have hBw : w.heap.size ≤ B := Nat.le_trans (unhide HB1).size hlB
  have hbbB : bb < B := Nat.lt_of_lt_of_le hbb.2 hlB
  have HBk2 := hide hB2
  have HLs2 := hide hL2
  have HLs3 := hide hL3
  clear HOp HO1 HB1 hb2 hB2 hL2 hL3
  have HJ := hide (join_head (p : Int) (xs.length : Int) w2)
  go_wp2_with (go_at_call 25; refine (word_any _ _ (by omega) (by omega)).mono ?_; rintro e w' ⟨rfl, rfl⟩)
  refine (unhide HJ).mono ?_
  rintro e w3 ⟨ah, nh, ch, rfl, hoh, hbh⟩
  have HC3 : Hid (CS w w3 B rb sb tb kb t4 us bb cv xs (.slice ah nh ch) (readB p xs.length)) := ⟨bl_trans (unhide HB2) hbh, (unhide HBk2).below hbh, OwnsI.keep (unhide HO2) (Chg.of_below hbh (fun _ => False)) (fun _ _ e => e), hoh.weak (unhide HB2).size, hBw, hbbB⟩
  clear hoh hbh HO2 HB2 HBk2 HJ
  have hr0 : readB p xs.length ≠ [] := by simp [readB, wd]
  have hb4 := bl_trans (rule_new w3 (.cells #[.int .u8 16] 5)) (rule_new (w3.alloc (.cells #[.int .u8 16] 5)) (.cells #[.int .u8 (2 * (xs.length : Int))] 5))
  have HC4 := hide ((unhide HC3).below hb4)
  have HWy := hide (wordy_any _ xs w.heap.size _ (unhide HC4).own hXin (by omega))
  have hf1 := (lies_fresh w3 [16]).below (rule_new _ (.cells #[.int .u8 (2 * (xs.length : Int))] 5))
  have hf2 := lies_fresh (w3.alloc (.cells #[.int .u8 16] 5)) [2 * (xs.length : Int)]
  rw [World.size_alloc] at hf2
  have HF1 : Hid (Lies ((w3.alloc (.cells #[.int .u8 16] 5)).alloc (.cells #[.int .u8 (2 * (xs.length : Int))] 5)) (.slice (some ⟨w3.heap.size, 0, none⟩) 1 1) [16]) := hf1
  have HF2 : Hid (Lies ((w3.alloc (.cells #[.int .u8 16] 5)).alloc (.cells #[.int .u8 (2 * (xs.length : Int))] 5)) (.slice (some ⟨w3.heap.size + 1, 0, none⟩) 1 1) [2 * (xs.length : Int)]) := hf2
  have HB4 := hide hb4
  have HR0 := hide hr0
  clear hf1 hf2 hb4 hr0
  go_wp2_with fail
  refine (unhide HWy).mono ?_
  rintro e w5 ⟨v5, rfl, ho5, hb5⟩
  obtain ⟨a5, c5, rfl, _, _⟩ := ownsRow_opt ho5
  have hw0 : wordsL xs ≠ [] := words_ne xs hvl.1
  have hb35 := bl_trans (unhide HB4) hb5
  have HJ := hide (join_last w3 w5 [.slice (some ⟨w3.heap.size, 0, none⟩) 1 1, .slice ah nh ch, .slice (some ⟨w3.heap.size + 1, 0, none⟩) 1 1, .slice a5 (wordsL xs).length c5] [[16], readB p xs.length, [2 * (xs.length : Int)], wordsL xs] 37 w5.heap.size 4 rfl hb35 rfl rfl (fun i hi => by
    match i, hi with
    | 0, _ => exact ⟨(unhide HF1).below hb5, by simp⟩
    | 1, _ => exact ⟨((unhide HC4).below hb5).head.lies, unhide HR0⟩
    | 2, _ => exact ⟨(unhide HF2).below hb5, by simp⟩
    | 3, _ => exact ⟨ho5.lies, hw0⟩) (by omega) (by simp [readB, wd, wordsL_len]; omega) (16 :: b16 p xs) (by simp [readB, b16]))
  have HWL : Hid ((wordsL xs).length = 2 * xs.length) := wordsL_len xs
  have HW0 := hide hw0
  clear hw0 hb35 ho5 hb5 HWy HF1 HF2 HB4 HC4
  go_wp2_with fail
  refine (unhide HJ).mono ?_
  rintro e w6 ⟨a6, n6, c6, rfl, ho6, hb6⟩
  have HC6 := hide ((unhide HC3).below hb6)
  have HR6 := hide ho6
  clear ho6 hb6 HC3 HJ
  have HJ := hide (join_cons 16 ah nh ch _ w6 (unhide HC6).head.lies (unhide HR0) (by rw [readB_len]; omega))
  go_wp2_with fail
  refine (unhide HJ).mono ?_
  rintro e w7 ⟨a7, n7, c7, rfl, ho7, hb7⟩
  have HC7 := hide ((unhide HC6).below hb7)
  have HR7 := hide ((unhide HR6).kept hb7)
  have hz : ∀ y ∈ List.replicate 200 (0 : Int), 0 ≤ y ∧ y ≤ 65535 := fun y hy => by have := List.eq_of_mem_replicate hy; omega
  have HD := hide (done_16 B rb sb tb kb t4 us p xs _ _ (List.replicate 200 0) w7 _ _ (unhide HC7).bk (unhide HLs3) (by simp) hvl.1 hvl.2 (by simp; omega) hz hXin (unhide HR7) ho7)
  clear ho7 hb7 HR6 HC6 HJ
  go_wp2_with fail
  refine (unhide HD).mono ?_
  rintro e w8 ⟨rfl, hB8, hc8⟩
  have HC8 := hide ((unhide HC7).done 3 (by omega) hc8 hB8)
  obtain ⟨L5, hL5⟩ : ∃ L, L = setL (List.replicate 200 0) p xs := ⟨_, rfl⟩
  have hat5 := put_at t4 3 (by omega) L5
  have hl5 : L5.length = 200 := by rw [hL5, setL_len _ _ _ (by simp; omega)]; simp
  have hsp5 : spanL L5 p xs.length = xs := by rw [hL5]; exact span_set _ _ _ (by simp; omega)
  have hin5 : ∀ y ∈ L5, 0 ≤ y ∧ y ≤ 65535 := fun y hy => by
    rw [hL5] at hy
    rcases span_set_in _ _ _ y hy with hy | hy
    · exact hz y hy
    · exact hXin y hy
  rw [← hL5] at HC8
  have hb8 : (((t4.put 3 L5).at 2).L) = List.replicate 200 0 := unhide HLs2
  generalize t4.put 3 L5 = t5 at HC8 hat5 hb8
  have HL5 := hide hL5
  have HA5 := hide hat5
  have HI5 := hide hin5
  have HS5 := hide hsp5
  have HZ5 := hide hl5
  have HU5 := hide hb8
  have HZz := hide hz
  clear hc8 hB8 HD HR7 HC7 hz hL5 hat5 hin5 hsp5 hl5 hb8 HLs2 HLs3
  -- reading
  have HJ := hide (join_cons 3 ah nh ch _ w8 (unhide HC8).head.lies (unhide HR0) (by rw [readB_len]; omega))
  go_wp2_with fail
  refine (unhide HJ).mono ?_
  rintro e w9 ⟨a9, n9, c9, rfl, ho9, hb9⟩
  have HC9 := hide ((unhide HC8).below hb9)
  have HR9 := hide ho9
  have hb10 := rule_new w9 (.cells #[.int .u8 3, .int .u8 (2 * (xs.length : Int))] 5)
  have HC10 := hide ((unhide HC9).below hb10)
  have HWy := hide (wordy_any _ xs w.heap.size _ (unhide HC10).own hXin (by omega))
  have HF1 : Hid (Lies (w9.alloc (.cells #[.int .u8 3, .int .u8 (2 * (xs.length : Int))] 5)) (.slice (some ⟨w9.heap.size, 0, none⟩) 2 2) [3, 2 * (xs.length : Int)]) := lies_fresh w9 [3, 2 * (xs.length : Int)]
  have HB10 := hide hb10
  clear ho9 hb9 hb10 HC8 HJ
  go_wp2_with fail
  refine (unhide HWy).mono ?_
  rintro e w11 ⟨v11, rfl, ho11, hb11⟩
  obtain ⟨a11, c11, rfl, _, _⟩ := ownsRow_opt ho11
  have hb911 := bl_trans (unhide HB10) hb11
  have HJ := hide (join_last w9 w11 [.slice (some ⟨w9.heap.size, 0, none⟩) 2 2, .slice a11 (wordsL xs).length c11] [[3, 2 * (xs.length : Int)], wordsL xs] 37 w11.heap.size 2 rfl hb911 rfl rfl (fun i hi => by
    match i, hi with
    | 0, _ => exact ⟨(unhide HF1).below hb11, by simp⟩
    | 1, _ => exact ⟨ho11.lies, unhide HW0⟩) (by omega) (by simp [wordsL_len]; omega) (3 :: 2 * (xs.length : Int) :: wordsL xs) (by simp))
  clear hb911 ho11 hb11 HWy HF1 HB10 HC10
  go_wp2_with fail
  refine (unhide HJ).mono ?_
  rintro e w12 ⟨a12, n12, c12, rfl, ho12, hb12⟩
  have HC12 := hide ((unhide HC9).below hb12)
  have HR12 := hide ((unhide HR9).kept hb12)
  have e12 : (3 : Int) :: 2 * (xs.length : Int) :: wordsL xs = fnOf 3 :: ((packT 3 (spanL L5 p xs.length)).length : Int) :: packT 3 (spanL L5 p xs.length) := by
    rw [unhide HS5, show packT 3 xs = wordsL xs from rfl, unhide HWL, show ((2 * xs.length : Nat) : Int) = 2 * (xs.length : Int) by omega]
    rfl
  rw [e12] at ho12
  have hbys : Bys (fnOf 3 :: ((packT 3 (spanL L5 p xs.length)).length : Int) :: packT 3 (spanL L5 p xs.length)) := by
    rw [← e12]
    exact bys_cons (by omega) (bys_cons (by omega) (words_bys xs hXin))
  have HD := hide (done_read B rb sb tb kb t5 us 3 p xs.length _ _ L5 w12 _ _ (unhide HC12).bk (by omega) (unhide HA5).1 (by rw [unhide HZ5]; omega) hvl.1 (by omega) (by rw [unhide HZ5]; omega) (unhide HI5) (unhide HR12) ho12 hbys)
  clear e12 ho12 hb12 HR9 HC9 HJ hbys
  go_wp2_with fail
  refine (unhide HD).mono ?_
  rintro e w13 ⟨rfl, hB13, hc13⟩
  have HC13 := hide ((unhide HC12).done 3 (by omega) hc13 hB13)
  clear hc13 hB13 HD HC12 HR12
  have HPi := hide (fun w => pick_any on (xs.length : Int) w (by omega) (by omega) o0.1 o0.2)
  have hkb := pickI_bd on (xs.length : Int) (by omega)
  obtain ⟨k, hk⟩ : ∃ k : Nat, pickI on (xs.length : Int) = (k : Int) := ⟨(pickI on (xs.length : Int)).toNat, by omega⟩
  rw [hk] at HPi hkb
  have hk1 : k < xs.length := by omega
  clear hk hkb
  go_wp2_with fail
  refine (unhide HPi _).mono ?_
  rintro e w13 ⟨rfl, rfl⟩
  clear HPi
  have zc := (unhide HC13).own.cells k hk1
  have zf := own_unfrozen (unhide HC13).own rfl k
  have hxk := hXin (xs.getD k 0) (by rw [List.getD_eq_getElem?_getD, List.getElem?_eq_getElem hk1]; exact List.getElem_mem hk1)
  have hkl : (k : Int) < (xs.length : Int) := by omega
  generalize xs.getD k 0 = xk at zc hxk
  obtain ⟨y, hy⟩ : ∃ y : Int, 65535 - xk = y := ⟨_, rfl⟩
  have hyb : 0 ≤ y ∧ y ≤ 65535 := by omega
  go_upto_region 13 with fail
  have hC14 := (unhide HC13).store hbb.1 k y
  obtain ⟨ys, hys⟩ : ∃ ys, xs.set k y = ys := ⟨_, rfl⟩
  have hyl : ys.length = xs.length := by rw [← hys]; simp
  have hyk : ys.getD k 0 = y := by rw [← hys]; exact set_get xs k y hk1
  have hYin : ∀ x ∈ ys, 0 ≤ x ∧ x ≤ 65535 := by rw [← hys]; exact set_in xs k y 0 65535 hXin hyb
  rw [hys] at hC14
  have HC14 := hide hC14
  have HYL := hide hyl
  have HYK := hide hyk
  have HYI := hide hYin
  have hL6 : setL L5 (p + k) [y] = setL (List.replicate 200 0) p ys := by
    rw [unhide HL5, set_set _ _ _ _ _ (by simp; omega) hk1, hys]
  have HL6e := hide hL6
  clear hC14 HC13 zc zf hL6 hyl hyk hYin hys
  generalize w13.setCell ⟨bb, k, none⟩ (.int .i64 y) = w14 at HC14 ⊢
  refine holders_r13 _ _ w14 w.heap.size 13 (fun W => CS w W B rb sb tb kb t5 us bb cv ys (.slice ah nh ch) (readB p xs.length)) p k bb xs.length cv y (by simp) (by omega) hk1 (by omega) hyb rfl rfl rfl ((unhide HC14).below (Below.refl _ _).drew) (fun W W' h hb => h.below hb) (fun W h => h.bel.size) (fun W h => by have := h.own.cells k (by rw [unhide HYL]; exact hk1); rw [unhide HYK] at this; exact this) ?_
  rintro u w15 hC15 ⟨⟨a15, n15, c15, e15⟩, ho15⟩
  rw [e15] at ho15
  have HC15 := hide hC15
  have HD := hide (done_6 B rb sb tb kb t5 us (p + k) y _ _ L5 w15 _ _ hC15.bk (unhide HA5).1 (by rw [unhide HZ5]; omega) (by rw [unhide HZ5]; omega) (unhide HI5) hyb ho15 ho15)
  clear hC15 ho15 HC14
  simp only [over, dsH13]
  rw [e15]
  clear e15
  go_wp2_with fail
  refine (unhide HD).mono ?_
  rintro e w16 ⟨rfl, hB16, hc16⟩
  have hC16 := (unhide HC15).done 3 (by omega) hc16 hB16
  rw [unhide HL6e] at hC16
  obtain ⟨L6, hL6⟩ : ∃ L, L = setL (List.replicate 200 0) p ys := ⟨_, rfl⟩
  rw [← hL6] at hC16
  have hat6 := put_at t5 3 (by omega) L6
  have hl6 : L6.length = 200 := by rw [hL6, setL_len _ _ _ (by simp; have := unhide HYL; omega)]; simp
  have hin6 : ∀ y ∈ L6, 0 ≤ y ∧ y ≤ 65535 := fun y hy => by
    rw [hL6] at hy
    rcases span_set_in _ _ _ y hy with hy | hy
    · exact unhide HZz y hy
    · exact unhide HYI y hy
  have hg6 : L6.getD (p + k) 0 = y := by
    rw [hL6, setL_get _ _ _ (by simp; have := unhide HYL; omega), if_pos ⟨by omega, by have := unhide HYL; omega⟩, show p + k - p = k by omega]
    exact unhide HYK
  have hb16 : ((t5.put 3 L6).at 2).L = List.replicate 200 0 := unhide HU5
  generalize t5.put 3 L6 = t6 at hC16 hat6 hb16
  have HC16 := hide hC16
  have HL6 := hide hL6
  have HA6 := hide hat6
  have HZ6 := hide hl6
  have HI6 := hide hin6
  have HG6 := hide hg6
  have HU6 := hide hb16
  clear hC16 hL6 hat6 hl6 hin6 hg6 hb16 hB16 hc16 HD HC15 HL6e HU5 HI5 HS5 HZ5 HA5 HL5
  -- the mask
  have HPm := hide (fun w => pick_any xm 65536 w (by omega) (by omega) m0.1 m0.2)
  have HPn := hide (fun w => pick_any xn 65536 w (by omega) (by omega) n0.1 n0.2)
  have hmb := pickI_bd xm 65536 (by omega)
  have hnb := pickI_bd xn 65536 (by omega)
  generalize pickI xm 65536 = mm at HPm hmb
  generalize pickI xn 65536 = nn at HPn hnb
  go_wp2_with fail
  refine (unhide HPm _).mono ?_
  rintro e w16 ⟨rfl, rfl⟩
  go_wp2_with fail
  refine (unhide HPn _).mono ?_
  rintro e w16 ⟨rfl, rfl⟩
  clear HPm HPn
  have HJ := hide (join_mask 22 ((p : Int) + (k : Int)) mm nn w16)
  go_wp2_with (go_at_call 25; refine (word_any _ _ (by omega) (by omega)).mono ?_; rintro e w' ⟨rfl, rfl⟩)
  refine (unhide HJ).mono ?_
  rintro e w17 ⟨a17, n17, c17, rfl, ho17, hb17⟩
  have HC17 := hide ((unhide HC16).below hb17)
  have e17 : (22 : Int) :: (wd ((p : Int) + (k : Int)) ++ (wd mm ++ wd nn)) = 22 :: b22 (p + k) mm nn := by
    unfold b22
    rw [Int.natCast_add]
  rw [e17] at ho17
  have HR17 := hide ho17
  have HD := hide (done_22 B rb sb tb kb t6 us (p + k) mm nn _ _ L6 w17 _ _ (unhide HC17).bk (unhide HA6).1 (by rw [unhide HZ6]; omega) (by rw [unhide HZ6]; omega) (unhide HI6) (by omega) (by omega) ho17 ho17)
  rw [unhide HG6] at HD
  clear e17 ho17 hb17 HC16 HJ
  go_wp2_with fail
  refine (unhide HD).mono ?_
  rintro e w18 ⟨rfl, hB18, hc18⟩
  have hC18 := (unhide HC17).done 3 (by omega) hc18 hB18
  have HR18 := hide ((unhide HR17).bank (unhide HC17).bk 3 (by omega) hc18)
  obtain ⟨z, hz⟩ : ∃ z : Int, maskI mm y nn = z := ⟨_, rfl⟩
  have hzb : 0 ≤ z ∧ z ≤ 65535 := by rw [← hz]; exact maskI_bd mm y nn (by omega) hyb (by omega)
  have hzz : maskI mm z nn = z := by rw [← hz]; exact maskI_twice mm y nn (by omega) hyb (by omega)
  have hza : bits BinOp.or IntKind.i64 (bits BinOp.and IntKind.i64 y mm) (bits BinOp.and IntKind.i64 nn (65535 - mm)) = z := by rw [← hz]; exact mask_and mm y nn (by omega) hyb (by omega)
  obtain ⟨zs, hzs⟩ : ∃ zs, ys.set k z = zs := ⟨_, rfl⟩
  have hzl : zs.length = xs.length := by rw [← hzs]; simpa using unhide HYL
  have hzk : zs.getD k 0 = z := by rw [← hzs]; exact set_get ys k z (by rw [unhide HYL]; exact hk1)
  have hZin : ∀ x ∈ zs, 0 ≤ x ∧ x ≤ 65535 := by rw [← hzs]; exact set_in ys k z 0 65535 (unhide HYI) hzb
  have hzz2 : zs.set k z = zs := by rw [← hzs]; exact set_twice ys k z
  have hL7 : setL L6 (p + k) [z] = setL (List.replicate 200 0) p zs := by
    rw [unhide HL6, set_set _ _ _ _ _ (by simp; have := unhide HYL; omega) (by rw [unhide HYL]; exact hk1), hzs]
  rw [hz, hL7] at hC18
  obtain ⟨L7, hL7'⟩ : ∃ L, L = setL (List.replicate 200 0) p zs := ⟨_, rfl⟩
  rw [← hL7'] at hC18
  have hat7 := put_at t6 3 (by omega) L7
  have hl7 : L7.length = 200 := by rw [hL7', setL_len _ _ _ (by simp; omega)]; simp
  have hin7 : ∀ y ∈ L7, 0 ≤ y ∧ y ≤ 65535 := fun y hy => by
    rw [hL7'] at hy
    rcases span_set_in _ _ _ y hy with hy | hy
    · exact unhide HZz y hy
    · exact hZin y hy
  have hg7 : L7.getD (p + k) 0 = z := by
    rw [hL7', setL_get _ _ _ (by simp; omega), if_pos ⟨by omega, by omega⟩, show p + k - p = k by omega]
    exact hzk
  have hL77 : setL L7 (p + k) [z] = L7 := by
    rw [hL7', set_set _ _ _ _ _ (by simp; omega) (by omega), hzz2]
  have hb18 : ((t6.put 3 L7).at 2).L = List.replicate 200 0 := unhide HU6
  generalize t6.put 3 L7 = t7 at hC18 hat7 hb18
  have HC18 := hide hC18
  have HL7 := hide hL7'
  have HA7 := hide hat7
  have HZ7 := hide hl7
  have HI7 := hide hin7
  have HU7 := hide hb18
  have HL77 := hide hL77
  have HZL := hide hzl
  have HZI := hide hZin
  have HZS := hide hzs
  have HZA := hide hza
  have HD2 := hide (done_22 B rb sb tb kb t7 us (p + k) mm nn _ _ L7 w18 _ _ hC18.bk hat7.1 (by rw [hl7]; omega) (by rw [hl7]; omega) hin7 (by omega) (by omega) (unhide HR18) (unhide HR18))
  rw [hg7, hzz, hL77] at HD2
  clear hC18 hL7' hat7 hl7 hin7 hb18 hL77 hzl hZin hzs hza hzk hzz2 hL7 hg7 hzz hz hB18 hc18 HD HC17 HR17 HU6 HG6 HI6 HZ6 HA6 HL6
  go_wp2_with fail
  refine (unhide HD2).mono ?_
  rintro e w19 ⟨rfl, hB19, hc19⟩
  have hC19 := (unhide HC18).done 3 (by omega) hc19 hB19
  have hat8 := put_at t7 3 (by omega) L7
  have hb19 : ((t7.put 3 L7).at 2).L = List.replicate 200 0 := unhide HU7
  generalize t7.put 3 L7 = t8 at hC19 hat8 hb19
  have HC19 := hide hC19
  have HA8 := hide hat8
  have HU8 := hide hb19
  have zc := hC19.own.cells k (by rw [unhide HYL]; exact hk1)
  have zf := own_unfrozen hC19.own rfl k
  rw [unhide HYK] at zc
  have hC20 := hC19.store hbb.1 k z
  rw [unhide HZS] at hC20
  have HC20 := hide hC20
  have hza := unhide HZA
  have HV2 : Hid (∀ W, Below w.heap.size w W → Calls Tryz.prog 16 #[.slice a2 raw2.length c2, .int .i64 65536, .int .i64 121] W fun e w' => ∃ v, e = .returned v ∧ OwnsI w' W.heap.size v (valuesL raw2 65536 121) ∧ Below W.heap.size W w') := fun W hb => values_any cb2 co2 c2 a2 raw2 65536 121 W (unhide HA2) ((unhide H2).below hb) (by omega) (by omega) hr2 (by omega)
  have hol := valuesL_len raw2 65536 121 (by omega)
  have HOin := hide (valuesL_in raw2 65536 121 (by omega))
  generalize valuesL raw2 65536 121 = os at HV2 hol HOin
  clear hC19 hat8 hb19 hC20 hB19 hc19 HD2 HC18 HR18 HU7 HA7
  go_wp2_with fail
  generalize w19.setCell ⟨bb, k, none⟩ (.int .i64 z) = w20 at HC20 ⊢
  have hsb20 := (Array.getElem?_eq_some_iff.1 (unhide HC20).bk.st.row).1
  have hg20 := (Array.getElem?_eq_some_iff.1 ((unhide HC20).bk.tab 3 (by omega)).2.1.ent).1
  refine (unhide HV2 w20 (unhide HC20).bel).mono ?_
  rintro e w21 ⟨v21, rfl, hO21, hb21⟩
  obtain ⟨av, co', rfl, hav1, hav2⟩ := ownsRow_opt hO21
  obtain ⟨y1, rfl⟩ : ∃ y, av = some y := by
    cases av with
    | none => have := hav1 rfl; omega
    | some y => exact ⟨y, rfl⟩
  obtain ⟨ob, rfl, hco⟩ := hav2 y1 rfl
  have hob := World.ownsRow.lt hO21 ob rfl
  have HC21 := hide ((unhide HC20).below hb21)
  have HOO := hide hO21
  have hOin : ∀ x ∈ os, 0 ≤ x ∧ x ≤ 65535 := fun x hx => by have := unhide HOin x hx; omega
  have HOi := hide hOin
  have HPp := hide (fun w => pick_any pl (200 - (os.length : Int) + 1) w (by omega) (by omega) p0.1 p0.2)
  have hcb := pickI_bd pl (200 - (os.length : Int) + 1) (by omega)
  obtain ⟨cc, hcc⟩ : ∃ cc : Nat, pickI pl (200 - (os.length : Int) + 1) = (cc : Int) := ⟨(pickI pl (200 - (os.length : Int) + 1)).toNat, by omega⟩
  rw [hcc] at HPp hcb
  have hc1 : cc + os.length ≤ 200 := by omega
  clear hO21 hb21 hav1 hav2 HV2 HC20 hcc hcb zc zf hza hOin HOin HC19 HA2 H2
  go_wp2_with fail
  refine (unhide HPp w21).mono ?_
  rintro e w21 ⟨rfl, rfl⟩
  clear HPp
  have hmk := makesL 200 (by omega)
  rw [show ((200 : Nat) : Int) = 200 from rfl] at hmk
  have hO22 : OwnsI (w21.alloc (.cells ((List.replicate 200 (0 : Int)).map (Value.int .i64)).toArray 3)) w21.heap.size (.slice (some ⟨w21.heap.size, 0, none⟩) 200 200) (List.replicate 200 0) := by
    refine ⟨by simp, .inr ⟨w21.heap.size, 200, ((List.replicate 200 (0 : Int)).map (Value.int .i64)).toArray, rfl, Nat.le_refl _, heap_alloc_new w21 _, Nat.le_refl _, by unfold maxLen; omega, by simp, ?_⟩⟩
    simp
  obtain ⟨Z, hZ⟩ : ∃ Z, ((List.replicate 200 (0 : Int)).map (Value.int .i64)).toArray = Z := ⟨_, rfl⟩
  rw [hZ] at hmk hO22
  have HB22 := hide (rule_new w21 (.cells Z 3))
  have HO22 := hide hO22
  clear hO22 hZ
  go_wp2_with fail
  generalize w21.alloc (.cells Z 3) = w22 at HB22 HO22 ⊢
  obtain ⟨wb, hwb⟩ : ∃ wb, w21.heap.size = wb := ⟨_, rfl⟩
  rw [hwb] at HO22 ⊢
  have HWB := hide hwb
  have HCo := hide hco
  clear hmk hwb hco
  have hzl := unhide HZL
  have HWant : Hid (∀ wr l, OwnsI wr wb (.slice (some ⟨wb, 0, none⟩) 200 200) l → l.length = 200 → ∀ i, i < 200 → wr.cell? ⟨wb, i, none⟩ = some (.int .i64 (l.getD i 0)) ∧ wr.frozen? ⟨wb, i, none⟩ = false ∧ ∀ y, OwnsI (wr.setCell ⟨wb, i, none⟩ (.int .i64 y)) wb (.slice (some ⟨wb, 0, none⟩) 200 200) (l.set i y)) := fun wr l h hl i hi => want_at wr wb 200 l h hl i hi
  have hzl' : (zs.length : Int) = (xs.length : Int) := by omega
  go_loopw [31] (fun i wr => ∃ j : Nat, j ≤ xs.length ∧ i = .int .i64 j ∧ Hid (Below w21.heap.size w21 wr ∧ OwnsI wr wb (.slice (some ⟨wb, 0, none⟩) 200 200) (setL (List.replicate 200 0) p (zs.take j)))) (fun i _ => xs.length - (intOf i).toNat)
  case atStart => exact ⟨0, by omega, rfl, unhide HB22, by rw [List.take_zero, setL_nil]; exact unhide HO22⟩
  case round =>
    obtain ⟨j, hj, rfl, HI⟩ := hrel
    have hlw : (setL (List.replicate 200 (0 : Int)) p (zs.take j)).length = 200 := by rw [setL_len _ _ _ (by simp; omega)]; simp
    by_cases hlt : j < xs.length
    · have hlt' : (j : Int) < (xs.length : Int) := by omega
      have hpj : (p : Int) + (j : Int) < 200 := by omega
      have hpj2 : p + j < 200 := by omega
      have hzc := ((unhide HC21).below (unhide HI).1).own.cells j (by omega)
      obtain ⟨hwc, hwf, hws⟩ := unhide HWant wr _ (unhide HI).2 hlw (p + j) hpj2
      have HNx : Hid (OwnsI (wr.setCell ⟨wb, p + j, none⟩ (.int .i64 (zs.getD j 0))) wb (.slice (some ⟨wb, 0, none⟩) 200 200) (setL (List.replicate 200 0) p (zs.take (j + 1)))) := by
        have := hws (zs.getD j 0)
        rw [set_next _ _ _ _ (by omega) (by simp; omega)] at this
        exact this
      have HBn : Hid (Below w21.heap.size w21 (wr.setCell ⟨wb, p + j, none⟩ (.int .i64 (zs.getD j 0)))) := below_set (unhide HI).1 (Nat.le_of_eq (unhide HWB))
      generalize zs.getD j 0 = zj at hzc HNx HBn
      clear hws HI
      go_wp2
      go_roundw
      case rel => exact ⟨j + 1, by omega, by simp, unhide HBn, unhide HNx⟩
      case measure => simp [intOf]; omega
    · obtain rfl : j = xs.length := by omega
      have hzt : zs.take xs.length = zs := by rw [← hzl]; exact List.take_length
      have HI2 : Hid (Below w21.heap.size w21 wr ∧ OwnsI wr wb (.slice (some ⟨wb, 0, none⟩) 200 200) L7) := by
        have := unhide HI
        rw [hzt, ← unhide HL7] at this
        exact this
      clear HI hlw hzt
      generalize wr = w23 at *
      go_wp2_with fail
      go_loopw [32] (fun i wr => ∃ j : Nat, j ≤ os.length ∧ i = .int .i64 j ∧ Hid (Below w21.heap.size w21 wr ∧ OwnsI wr wb (.slice (some ⟨wb, 0, none⟩) 200 200) (setL L7 cc (os.take j)))) (fun i _ => os.length - (intOf i).toNat)
      case atStart => exact ⟨0, by omega, rfl, (unhide HI2).1, by rw [List.take_zero, setL_nil]; exact (unhide HI2).2⟩
      case round =>
        obtain ⟨j, hj, rfl, HI⟩ := hrel
        have hlw : (setL L7 cc (os.take j)).length = 200 := by rw [setL_len _ _ _ (by rw [unhide HZ7]; simp; omega)]; exact unhide HZ7
        by_cases hlt : j < os.length
        · have hlt' : (j : Int) < (os.length : Int) := by omega
          have hpj : (cc : Int) + (j : Int) < 200 := by omega
          have hpj2 : cc + j < 200 := by omega
          have hzc := (OwnsI.keep (unhide HOO) (Chg.of_below (unhide HI).1 (fun _ => False)) (fun _ _ e => e)).cells j hlt
          obtain ⟨hwc, hwf, hws⟩ := unhide HWant wr _ (unhide HI).2 hlw (cc + j) hpj2
          have HNx : Hid (OwnsI (wr.setCell ⟨wb, cc + j, none⟩ (.int .i64 (os.getD j 0))) wb (.slice (some ⟨wb, 0, none⟩) 200 200) (setL L7 cc (os.take (j + 1)))) := by
            have := hws (os.getD j 0)
            rw [set_next _ _ _ _ (by omega) (by rw [unhide HZ7]; omega)] at this
            exact this
          have HBn : Hid (Below w21.heap.size w21 (wr.setCell ⟨wb, cc + j, none⟩ (.int .i64 (os.getD j 0)))) := below_set (unhide HI).1 (Nat.le_of_eq (unhide HWB))
          generalize os.getD j 0 = zj at hzc HNx HBn
          clear hws HI
          go_wp2
          go_roundw
          case rel => exact ⟨j + 1, by omega, by simp, unhide HBn, unhide HNx⟩
          case measure => simp [intOf]; omega
        · obtain rfl : j = os.length := by omega
          obtain ⟨L9, hL9⟩ : ∃ L, setL L7 cc os = L := ⟨_, rfl⟩
          have HI3 : Hid (Below w21.heap.size w21 wr ∧ OwnsI wr wb (.slice (some ⟨wb, 0, none⟩) 200 200) L9) := by
            have := unhide HI
            rw [List.take_length, hL9] at this
            exact this
          have hl9 : L9.length = 200 := by rw [← hL9, setL_len _ _ _ (by rw [unhide HZ7]; omega)]; exact unhide HZ7
          have hin9 : ∀ y ∈ L9, 0 ≤ y ∧ y ≤ 65535 := fun y hy => by
            rw [← hL9] at hy
            rcases span_set_in _ _ _ y hy with hy | hy
            · exact unhide HI7 y hy
            · exact unhide HOi y hy
          have HL9 := hide hL9
          have HZ9 := hide hl9
          clear HI hlw hL9 hl9 HI2
          generalize wr = w24 at *
          have hC24 : CS w w24 B rb sb tb kb t8 us bb cv zs (.slice ah nh ch) (readB p xs.length) := (unhide HC21).below (unhide HI3).1
          have hO24 := OwnsI.keep (unhide HOO) (Chg.of_below (unhide HI3).1 (fun _ => False)) (fun _ _ e => e)
          have hobN : w20.heap.size ≤ ob := hob.1
          have hwbN : w20.heap.size ≤ wb := by have := unhide HWB; omega
          have hat9 := put_at t8 3 (by omega) L9
          have hb9 : ((t8.put 3 L9).at 2).L = List.replicate 200 0 := unhide HU8
          have hsw : (spanL L9 p xs.length).length = xs.length := spanL_len L9 _ _ (by rw [unhide HZ9]; omega)
          have hqe : [[23], readB p xs.length, wd (cc : Int), wd (os.length : Int), [2 * (os.length : Int)], wordsL os].flatten = 23 :: b23 p xs.length cc os := by
            unfold readB b23
            rw [show ((2 * os.length : Nat) : Int) = 2 * (os.length : Int) by omega]
            simp
          have HDn : Hid (∀ W v x, (CS w W B rb sb tb kb t8 us bb cv zs (.slice ah nh ch) (readB p xs.length) ∧ OwnsI W w20.heap.size (.slice (some ⟨ob, 0, none⟩) os.length co') os ∧ OwnsI W wb (.slice (some ⟨wb, 0, none⟩) 200 200) L9) → Owns W w.heap.size v (23 :: b23 p xs.length cc os) → Owns W w.heap.size x (23 :: 2 * (xs.length : Int) :: wordsL (spanL L9 p xs.length)) → Calls Tryz.prog 23 #[.pointer (some ⟨rb, 0, none⟩), .int .i64 0, v, x] W fun r w' => r = .returned (.bool true) ∧ (CS w w' B rb sb tb kb (t8.put 3 L9) us bb cv zs (.slice ah nh ch) (readB p xs.length) ∧ OwnsI w' w20.heap.size (.slice (some ⟨ob, 0, none⟩) os.length co') os ∧ OwnsI w' wb (.slice (some ⟨wb, 0, none⟩) 200 200) L9) ∧ LeB W w') := by
            rintro W v x ⟨hC, hO, hW⟩ hv hx
            rw [show (2 : Int) * (xs.length : Int) = ((2 * xs.length : Nat) : Int) by omega, ← unhide HL9] at hx
            refine (done_23 B rb sb tb kb t8 us p xs.length cc os v x L7 W _ _ hC.bk (unhide HA8).1 (by rw [unhide HZ7]; omega) hvl.1 (by omega) hol.1 hol.2 (by rw [unhide HZ7]; omega) (by rw [unhide HZ7]; omega) (unhide HI7) (unhide HOi) hv hx).mono ?_
            rintro r w' ⟨rfl, hb, hc⟩
            rw [unhide HL9] at hb
            exact ⟨rfl, ⟨hC.done 3 (by omega) hc hb, hO.later 3 hsb20 hg20 hobN hc hC.bk, hW.later 3 hsb20 hg20 hwbN hc hC.bk⟩, LeB.bank hC.bk 3 (by omega) hc⟩
          have HC24 := hide hC24
          have HO24 := hide hO24
          clear hC24 hO24 HC21 HOO
          go_upto_region 34 with fail
          refine holders_r34 _ _ w24 w.heap.size 34 (fun b W => CS w W B rb sb tb kb (if b then t8.put 3 L9 else t8) us bb cv zs (.slice ah nh ch) (readB p xs.length) ∧ OwnsI W w20.heap.size (.slice (some ⟨ob, 0, none⟩) os.length co') os ∧ OwnsI W wb (.slice (some ⟨wb, 0, none⟩) 200 200) L9) rb p cc bb xs.length cv ob co' wb ah nh ch (readB p xs.length) os (spanL L9 p xs.length) (23 :: b23 p xs.length cc os) (by simp) hp1 hvl.1 hvl.2 (by omega) hol.1 hol.2 hsw (unhide HOi) (fun x hx => hin9 x (spanL_in hx)) (unhide HR0) (by rw [readB_len]; omega) rfl rfl rfl rfl rfl rfl rfl hqe ⟨(unhide HC24).below (Below.refl _ _).drew, unhide HO24, (unhide HI3).2⟩
            (fun b W W' h hb => ⟨h.1.below hb, OwnsI.keep h.2.1 (Chg.of_below hb (fun _ => False)) (fun _ _ e => e), OwnsI.keep h.2.2 (Chg.of_below hb (fun _ => False)) (fun _ _ e => e)⟩) (fun b W h => h.1.bel.size) (fun b W h => ⟨⟨_, _, _, rfl⟩, h.1.head⟩) (fun b W h => h.2.1.part) (fun b W h => ?_) (unhide HDn) ?_
          · refine .inr ⟨wb, p, rfl, ?_, fun i hi => ?_⟩
            · exact (World.ownsRow.lt h.2.2 wb rfl).2
            · have := (want_at W wb 200 L9 h.2.2 (unhide HZ9) (p + i) (by omega)).1
              rw [this]
              congr 2
              unfold spanL
              simp only [List.getD_eq_getElem?_getD, List.getElem?_take, List.getElem?_drop]
              rw [if_pos (by omega)]
          · rintro u w25 ⟨hC25, hO25, hW25⟩ hu20
            have HC25 : Hid (CS w w25 B rb sb tb kb (t8.put 3 L9) us bb cv zs (.slice ah nh ch) (readB p xs.length)) := hC25
            have HW25 := hide hW25
            have HA9 := hide hat9
            have HU9 := hide hb9
            clear hC25 hO25 hW25 HDn HC24 HO24 HI3 hat9 hb9 hqe hsw
            generalize t8.put 3 L9 = t9 at HC25 HA9 HU9
            have HG := hide (relayGet_any B rb sb tb kb t9 _ us 3 (by omega) (0 : Int) (200 : Int) w25 (unhide HC25).bk (by omega))
            simp only [over, dsH34]
            rw [hu20]
            go_wp2_with fail
            refine (unhide HG).mono ?_
            rintro e w26 ⟨v26, rfl, hg26, hB26, hc26⟩
            have HC26 := hide ((unhide HC25).got hc26 hB26)
            have hW26 := OwnsI.keep (unhide HW25) hc26 (fun b e => by simp [Value.ownBlock] at e; intro e2; have e3 : b = sb := e2; omega)
            have hge := getErr_ok (t9.at 3).L.length 0 200 (by rw [(unhide HA9).1, unhide HZ9]; omega)
            have hge' : getErr (t9.at 3).L.length (0 : Int) (200 : Int) = 0 := hge
            rw [hge'] at hg26 ⊢
            obtain ⟨hl26, _⟩ := hg26.1 rfl
            rw [(unhide HA9).1, show ((0 : Int)).toNat = 0 from rfl, show ((200 : Int)).toNat = 200 from rfl, List.drop_zero, List.take_of_length_le (by rw [unhide HZ9]; omega)] at hl26
            have HSm := hide (sameInts_any v26 _ L9 L9 w26 hl26 (OwnsI.lies hW26) (by rw [unhide HZ9]; omega))
            obtain ⟨a26, c26, rfl, _⟩ := hl26
            clear hg26 hB26 hc26 hge hge' HG HC25 hu20 hW26 HW25
            go_wp2_with fail
            refine (unhide HSm).mono ?_
            rintro e w27 ⟨rfl, hb27⟩
            have HC27 := hide ((unhide HC26).below hb27)
            have HG := hide (relayGet_any B rb sb tb kb t9 _ us 2 (by omega) (0 : Int) (200 : Int) w27 (unhide HC27).bk (by omega))
            clear hb27 HSm HC26
            go_wp2_with fail
            refine (unhide HG).mono ?_
            rintro e w28 ⟨v28, rfl, hg28, hB28, hc28⟩
            have HC28 := hide ((unhide HC27).got hc28 hB28)
            have hge := getErr_ok (t9.at 2).L.length 0 200 (by rw [unhide HU9]; simp)
            have hge' : getErr (t9.at 2).L.length (0 : Int) (200 : Int) = 0 := hge
            rw [hge'] at hg28 ⊢
            obtain ⟨hl28, _⟩ := hg28.1 rfl
            rw [unhide HU9, show ((0 : Int)).toNat = 0 from rfl, show ((200 : Int)).toNat = 200 from rfl, List.drop_zero, List.take_of_length_le (by simp)] at hl28
            have hmk := makesL 200 (by omega)
            rw [show ((200 : Nat) : Int) = 200 from rfl] at hmk
            have hr29 : (w28.alloc (.cells ((List.replicate 200 (0 : Int)).map (Value.int .i64)).toArray 3)).heap[w28.heap.size]? = some (.cells ((List.replicate 200 (0 : Int)).map (Value.int .i64)).toArray 3 (0, 0)) := heap_alloc_new w28 _
            have hl29 := rowI_lies hr29 0 200 200 (by simp)
            have hb29 := rule_new w28 (.cells ((List.replicate 200 (0 : Int)).map (Value.int .i64)).toArray 3)
            have hl28' := LiesI.below hl28 hb29
            rw [List.drop_zero, List.take_of_length_le (by simp)] at hl29
            have HSm := hide (sameInts_any v28 _ _ _ _ hl28' hl29 (by simp))
            obtain ⟨a28, c28, e28, _⟩ := hl28
            rw [List.length_replicate] at e28
            subst e28
            have HB29 := hide hb29
            obtain ⟨Z, hZ⟩ : ∃ Z, ((List.replicate 200 (0 : Int)).map (Value.int .i64)).toArray = Z := ⟨_, rfl⟩
            rw [hZ] at hmk HSm HB29
            rw [show decide (List.replicate 200 (0 : Int) = List.replicate 200 0) = true by simp] at HSm
            clear hg28 hB28 hc28 hge hge' HG HC27 hl28' hl29 hb29 hr29 hZ
            go_wp2_with fail
            refine (unhide HSm).mono ?_
            rintro e w30 ⟨rfl, hb30⟩
            have HBE := hide (bl_trans (bl_trans (unhide HC28).bel (unhide HB29)) hb30)
            clear HSm hb30 HB29 HC28
            go_wp2
            go_ret
            exact ⟨rfl, unhide HBE⟩
end Go.Proofs.YtfekelmldebplaaGreatDoor
