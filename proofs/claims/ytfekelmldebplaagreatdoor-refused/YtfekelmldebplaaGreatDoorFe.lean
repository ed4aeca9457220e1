import Derived.Test.YtfekelmldebplaaGreatDoorUi
import Derived.Test.YtfekelmldebplaaGreatDoorZc
import Derived.Test.YtfekelmldebplaaGreatDoorUd
import Derived.Test.YtfekelmldebplaaGreatDoorTj
import Derived.Stop.Asserts
import Derived.LaidEql
import Derived.RowKitTokens
import Derived.Deep.LoopGhost
import Derived.Test.YtfekelmldebplaaGreatDoorVh
import Derived.Test.YtfekelmldebplaaGreatDoorUl
import Derived.Test.YtfekelmldebplaaGreatDoorWd
namespace Go.Proofs.YtfekelmldebplaaGreatDoor
open Go.RowKit

theorem cutKey {G : Prop} {S : Prop} (main : S → G) (key : S) : G := main key
/-- The two spans, as they lie. -/
structure Spans (w1 w2 : World) (p2 p3 : Nat) (a b c d : Int) : Prop where
  r2 : w2.heap[p2]? = some (.cells #[.int .i64 a, .int .i64 b] 271 (0, 0))
  r3 : w2.heap[p3]? = some (.cells #[.int .i64 c, .int .i64 d] 271 (0, 0))
  l2 : w1.heap.size ≤ p2
  l3 : w1.heap.size ≤ p3
  bel : Below w1.heap.size w1 w2
theorem spans_one (w1 : World) (a b c d : Int) : Spans w1 ((w1.alloc (.cells #[.int .i64 a, .int .i64 b] 271)).alloc (.cells #[.int .i64 c, .int .i64 d] 271)).drew w1.heap.size (w1.heap.size + 1) a b c d := by
  refine ⟨?_, ?_, Nat.le_refl _, by omega, (bl_trans (rule_new w1 _) (rule_new _ _)).drew⟩
  · exact ((rule_new (w1.alloc (.cells #[.int .i64 a, .int .i64 b] 271)) (.cells #[.int .i64 c, .int .i64 d] 271)).block w1.heap.size (by simp)).trans (heap_alloc_new w1 _)
  · have := heap_alloc_new (w1.alloc (.cells #[.int .i64 a, .int .i64 b] 271)) (.cells #[.int .i64 c, .int .i64 d] 271)
    simp only [World.size_alloc] at this
    exact this
theorem Spans.swap {w1 w2 : World} {p2 p3 : Nat} {a b c d : Int} (h : Spans w1 w2 p2 p3 a b c d) : Spans w1 w2 p3 p2 c d a b := ⟨h.r3, h.r2, h.l3, h.l2, h.bel⟩

set_option maxRecDepth 10000 in
set_option maxHeartbeats 4000000 in
theorem parse23_any (rp : Nat) (f : Int) (v : Value) (bs : List Int) (w : World) (hr : QNew w rp f) (h : Lies w v bs) (hx : Bys bs) (hl : bs.length ≤ 252) (hv : ∀ b, v.ownBlock = some b → b ≠ rp) :
    Calls Tryz.prog 207 #[.pointer (some ⟨rp, 0, none⟩), v] w fun e w' => PPost w rp f v (parse23 f bs) e w' := by
  obtain ⟨av, cv, rfl⟩ := h.slice
  by_cases h4 : bs.length < 8
  · have HR : Hid (parse23 f bs = .inl 3) := by
      show _ = _
      unfold parse23
      rw [if_neg (by omega)]
    have HS := hide (split_no _ bs 4 w h (by omega) h4)
    rw [show ((4 : Nat) : Int) = 4 from rfl] at HS
    have HW := hide (wrongSize_any rp _ _ _ _ _ _ _ _ _ w hr)
    clear h hr hx
    go_enter Tryz.func207, Tryz.ntmps207
    go_wp2_with fail
    refine (unhide HS).mono ?_
    rintro e w ⟨rfl, rfl⟩
    clear HS
    go_wp2_with fail
    refine (unhide HW).mono ?_
    rintro e w1 ⟨n, v', rfl, he, hb⟩
    obtain ⟨T, p, rfl⟩ := he.iface
    have HE := hide he
    clear he HW
    go_wp2
    go_ret
    exact PPost.err (unhide HR) (unhide HE) hb
  · have HS := hide (split_yes _ bs 4 w h hx (by omega) (by omega) (by omega) (by omega))
    rw [show ((4 : Nat) : Int) = 4 from rfl] at HS
    have HR0 := hide hr
    have H := hide h
    have HX := hide hx
    clear h hr hx
    have HVV := hide hv
    have hw1 := wAt_lt bs (unhide HX) 1
    have hw3 := wAt_lt bs (unhide HX) 3
    clear hv
    have HC1 := hide (fun w => isCount_any (wAt bs 1) 125 w)
    have HC3 := hide (fun w => isCount_any (wAt bs 3) 121 w)
    rw [show ((125 : Nat) : Int) = 125 from rfl] at HC1
    rw [show ((121 : Nat) : Int) = 121 from rfl] at HC3
    go_enter Tryz.func207, Tryz.ntmps207
    go_wp2_with fail
    refine (unhide HS).mono ?_
    rintro e w1 ⟨k, a, m, c, rfl, hs⟩
    have q0 := unpW_at bs 4 0 w1 k hs.row (by omega)
    have q1 := unpW_at bs 4 1 w1 k hs.row (by omega)
    have q2 := unpW_at bs 4 2 w1 k hs.row (by omega)
    have q3 := unpW_at bs 4 3 w1 k hs.row (by omega)
    have HS1 := hide hs
    clear hs HS
    have hkl : k < w1.heap.size := (Array.getElem?_eq_some_iff.1 (unhide HS1).row).1
    have hkn : k ≠ w1.heap.size := by omega
    have hkn1 : k ≠ w1.heap.size + 1 := by omega
    have hkn' : w1.heap.size ≠ k := by omega
    have hkn1' : w1.heap.size + 1 ≠ k := by omega
    have hk1 : ∀ (o : Obj) (i : Nat), (w1.alloc o).cell? ⟨k, i, none⟩ = w1.cell? ⟨k, i, none⟩ := fun o i => World.cell?_alloc_lt _ _ _ hkl
    have hk2 : ∀ (o o2 : Obj) (i : Nat), ((w1.alloc o).alloc o2).cell? ⟨k, i, none⟩ = w1.cell? ⟨k, i, none⟩ := fun o o2 i => by rw [World.cell?_alloc_lt _ _ _ (by simp; omega)]; exact hk1 o i
    go_wp2_with fail
    apply cutKey
    case main =>
      intro key
      go_region
      · have hF := spans_one w1 (wAt bs 0 : Nat) (wAt bs 1 : Nat) (wAt bs 2 : Nat) (wAt bs 3 : Nat)
        generalize ((w1.alloc (.cells #[.int .i64 (wAt bs 0 : Nat), .int .i64 (wAt bs 1 : Nat)] 271)).alloc (.cells #[.int .i64 (wAt bs 2 : Nat), .int .i64 (wAt bs 3 : Nat)] 271)).drew = w2 at hF ⊢
        generalize w1.heap.size + 1 = p3 at hF ⊢
        generalize w1.heap.size = p2 at hF ⊢
        revert hF
        revert w2 p2 p3
        exact key
      all_goals
        first
          | exact key _ _ _ (spans_one w1 (wAt bs 0 : Nat) (wAt bs 1 : Nat) (wAt bs 2 : Nat) (wAt bs 3 : Nat))
          | exact key _ _ _ (spans_one w1 (wAt bs 2 : Nat) (wAt bs 3 : Nat) (wAt bs 0 : Nat) (wAt bs 1 : Nat)).swap
    case key =>
      intro w2 p2 p3 hF
      have hs2 := (unhide HS1).below2 hF.bel
      have hr2 := (unhide HR0).below hs2.bel
      have HS2 := hide hs2
      have HR2 := hide hr2
      have HF := hide hF
      have x1 := cell_of_row _ _ 1 _ _ _ hF.r2
      have y1 := cell_of_row _ _ 1 _ _ _ hF.r3
      simp at x1 y1
      clear hs2 hr2 hF hkl hkn hkn1 hkn' hkn1' hk1 hk2 q0 q1 q2 q3
      cases hc1 : countB (wAt bs 1) 125 with
      | false =>
        have HR : Hid (parse23 f bs = .inl 3) := by
          show _ = _
          unfold parse23
          rw [if_neg (by rw [hc1]; simp)]
        have HW := hide (wrongCount_any rp _ _ _ _ _ _ _ _ _ w2 (unhide HR2))
        rw [hc1] at HC1
        clear hc1
        go_wp2_with (go_at_call 217; refine (unhide HC1 _).mono ?_; rintro e w2 ⟨rfl, rfl⟩)
        refine (unhide HW).mono ?_
        rintro e w3 ⟨n, v', rfl, he, hb⟩
        obtain ⟨T, p, rfl⟩ := he.iface
        have HE := hide he
        clear he HW
        go_wp2
        go_ret
        exact PPost.err (unhide HR) (unhide HE) (bl_trans (unhide HS2).bel hb)
      | true =>
        rw [hc1] at HC1
        cases hc3 : countB (wAt bs 3) 121 with
        | false =>
          have HR : Hid (parse23 f bs = .inl 3) := by
            show _ = _
            unfold parse23
            rw [if_neg (by rw [hc3]; simp)]
          have HW := hide (wrongCount_any rp _ _ _ _ _ _ _ _ _ w2 (unhide HR2))
          rw [hc3] at HC3
          clear hc1 hc3
          go_wp2_with fail
          refine (unhide HC1 _).mono ?_
          rintro e w2 ⟨rfl, rfl⟩
          go_wp2_with fail
          refine (unhide HC3 _).mono ?_
          rintro e w2 ⟨rfl, rfl⟩
          go_wp2_with fail
          refine (unhide HW).mono ?_
          rintro e w3 ⟨n, v', rfl, he, hb⟩
          obtain ⟨T, p, rfl⟩ := he.iface
          have HE := hide he
          clear he HW
          go_wp2
          go_ret
          exact PPost.err (unhide HR) (unhide HE) (bl_trans (unhide HS2).bel hb)
        | true =>
          rw [hc3] at HC3
          have hn3 : 1 ≤ wAt bs 3 ∧ wAt bs 3 ≤ 121 := by simp [countB] at hc3; exact hc3
          have HSz := hide (fun w => wsize_n (wAt bs 3) (2 * wAt bs 3) w (by omega) rfl)
          cases hz : sizedB (bs.drop 8) (2 * wAt bs 3) with
          | false =>
            have HR : Hid (parse23 f bs = .inl 3) := by
              show _ = _
              unfold parse23
              rw [if_neg (fun e => by
                obtain ⟨e1, _, _, e2, e3⟩ := e
                have : sizedB (bs.drop 8) (2 * wAt bs 3) = true := by
                  simp only [sizedB, List.length_drop, drop_getD, Bool.and_eq_true, decide_eq_true_eq]
                  exact ⟨by omega, by simpa using e3⟩
                rw [hz] at this
                cases this)]
            have HZ1 := hide (sized_no _ _ (2 * wAt bs 3) w2 (unhide HS2).rest ((unhide HX).drop 8) (by simp; omega) (by omega) hz)
            have HW := hide (fun w3 (hb : Below w2.heap.size w2 w3) => wrongSize_any rp _ _ _ _ _ _ _ _ _ w3 ((unhide HR2).below hb))
            clear hc1 hc3 hz
            generalize ((2 * wAt bs 3 : Nat) : Int) = sz at HSz HZ1
            go_wp2_with fail
            refine (unhide HC1 _).mono ?_
            rintro e w2 ⟨rfl, rfl⟩
            go_wp2_with fail
            refine (unhide HC3 _).mono ?_
            rintro e w2 ⟨rfl, rfl⟩
            go_wp2_with fail
            refine (unhide HSz _).mono ?_
            rintro e w2 ⟨rfl, rfl⟩
            go_wp2_with fail
            refine (unhide HZ1).mono ?_
            rintro e w3 ⟨rfl, hb3⟩
            have HW2 := hide (unhide HW w3 hb3)
            have HB3 := hide hb3
            clear HW hb3 HZ1
            go_wp2_with fail
            refine (unhide HW2).mono ?_
            rintro e w4 ⟨n, v', rfl, he, hb⟩
            obtain ⟨T, p, rfl⟩ := he.iface
            have HE := hide he
            clear he HW2
            go_wp2
            go_ret
            exact PPost.err (unhide HR) (unhide HE) (bl_trans (bl_trans (unhide HS2).bel (unhide HB3)) hb)
          | true =>
            have hz2 : (bs.drop 8).length = 1 + 2 * wAt bs 3 ∧ (bs.drop 8).getD 0 0 = ((2 * wAt bs 3 : Nat) : Int) := by
              simp only [sizedB, Bool.and_eq_true, decide_eq_true_eq] at hz
              exact hz
            have HQ : Hid (parse23 f bs = .inr ⟨f, 3, wAt bs 0, wAt bs 1, wAt bs 2, wAt bs 3, unpackW (bs.drop 9) (wAt bs 3), 0, []⟩) := by
              show _ = _
              unfold parse23
              rw [if_pos ⟨by omega, hc1, hc3, by have := hz2.1; simp at this; omega, by have := hz2.2; rw [drop_getD] at this; exact this⟩]
            have HLn : Hid (2 * wAt bs 3 ≤ (bs.drop 9).length) := by
              have := hz2.1
              simp at this
              show 2 * wAt bs 3 ≤ (bs.drop 9).length
              simp
              omega
            clear hz2
            have HZ1 := hide (sized_yes _ _ (2 * wAt bs 3) w2 (unhide HS2).rest ((unhide HX).drop 8) (by simp; omega) (by omega) hz)
            generalize hszn : ((2 * wAt bs 3 : Nat) : Int) = sz at HSz HZ1
            clear hszn
            go_wp2_with fail
            refine (unhide HC1 _).mono ?_
            rintro e w2 ⟨rfl, rfl⟩
            go_wp2_with fail
            refine (unhide HC3 _).mono ?_
            rintro e w2 ⟨rfl, rfl⟩
            go_wp2_with fail
            refine (unhide HSz _).mono ?_
            rintro e w2 ⟨rfl, rfl⟩
            go_wp2_with fail
            refine (unhide HZ1).mono ?_
            rintro e w3 ⟨a9, m9, c9, rfl, hp3, hpo, hb3⟩
            have hF := unhide HF
            have r2 := (hb3.block _ (Array.getElem?_eq_some_iff.1 hF.r2).1).trans hF.r2
            have r3 := (hb3.block _ (Array.getElem?_eq_some_iff.1 hF.r3).1).trans hF.r3
            have hlw1 := (unhide HS1).bel.size
            have hlr : rp < w.heap.size := (unhide HR0).lt
            have n2 := hF.l2
            have n3 := hF.l3
            have ne2 : p2 ≠ rp := by omega
            have ne3 : p3 ≠ rp := by omega
            have ne2' : rp ≠ p2 := by omega
            have ne3' : rp ≠ p3 := by omega
            have hr3 := (unhide HR2).below hb3
            have X0 := cell_of_row _ _ 0 _ _ _ r2
            have X1 := cell_of_row _ _ 1 _ _ _ r2
            have Y0 := cell_of_row _ _ 0 _ _ _ r3
            have Y1 := cell_of_row _ _ 1 _ _ _ r3
            simp at X0 X1 Y0 Y1
            have c1 := cell_of_row _ _ 1 _ _ _ hr3.row
            have f1 := frozen_of_row _ _ 1 _ _ hr3.row
            have c2 := cell_of_row _ _ 2 _ _ _ hr3.row
            have f2 := frozen_of_row _ _ 2 _ _ hr3.row
            have c3 := cell_of_row _ _ 3 _ _ _ hr3.row
            have f3 := frozen_of_row _ _ 3 _ _ hr3.row
            have c4 := cell_of_row _ _ 4 _ _ _ hr3.row
            have f4 := frozen_of_row _ _ 4 _ _ hr3.row
            have c5 := cell_of_row _ _ 5 _ _ _ hr3.row
            have f5 := frozen_of_row _ _ 5 _ _ hr3.row
            simp [rrow] at c1 c2 c3 c4 c5
            have HB3 := hide hb3
            have HP3 := hide hp3
            have HPO := hide hpo
            have HR3 := hide hr3
            have HRW3 := hide r3
            clear r2 r3 hr3 hb3 hp3 hpo hF n2 n3 hlw1 hc1 hc3 hz x1 y1 HZ1 HSz
            go_wp2
            go_region
            have C4 := hide ((((((Chg.refl w3 (fun k => k = rp)).put rp 1 (.int .i64 3) rfl).put rp 2 (.int .i64 (wAt bs 0 : Nat)) rfl).put rp 3 (.int .i64 (wAt bs 1 : Nat)) rfl).put rp 4 (.int .i64 (wAt bs 2 : Nat)) rfl).put rp 5 (.int .i64 (wAt bs 3 : Nat)) rfl).drew
            have R4 : Hid (RAt (((((w3.setCell ⟨rp, 1, none⟩ (.int .i64 3)).setCell ⟨rp, 2, none⟩ (.int .i64 (wAt bs 0 : Nat))).setCell ⟨rp, 3, none⟩ (.int .i64 (wAt bs 1 : Nat))).setCell ⟨rp, 4, none⟩ (.int .i64 (wAt bs 2 : Nat))).setCell ⟨rp, 5, none⟩ (.int .i64 (wAt bs 3 : Nat))).drew rp f 3 (wAt bs 0 : Nat) (wAt bs 1 : Nat) (wAt bs 2 : Nat) (wAt bs 3 : Nat) (.slice none 0 0) 0 (.slice none 0 0)) := ⟨((((((unhide HR3).s1 3).s2 (wAt bs 0 : Nat)).s3 (wAt bs 1 : Nat)).s4 (wAt bs 2 : Nat)).s5 (wAt bs 3 : Nat)).row⟩
            generalize (((((w3.setCell ⟨rp, 1, none⟩ (.int .i64 3)).setCell ⟨rp, 2, none⟩ (.int .i64 (wAt bs 0 : Nat))).setCell ⟨rp, 3, none⟩ (.int .i64 (wAt bs 1 : Nat))).setCell ⟨rp, 4, none⟩ (.int .i64 (wAt bs 2 : Nat))).setCell ⟨rp, 5, none⟩ (.int .i64 (wAt bs 3 : Nat))).drew = W4 at R4 C4 ⊢
            clear c1 f1 c2 f2 c3 f3 c4 f4 c5 f5 X0 X1 Y0 Y1
            have r4 := ((unhide C4).block _ (Array.getElem?_eq_some_iff.1 (unhide HRW3)).1 ne2).trans (unhide HRW3)
            have Y1 := cell_of_row _ _ 1 _ _ _ r4
            simp at Y1
            have hp4 := unhide HP3
            rw [List.drop_drop, show 2 * 4 + 1 = 9 from rfl] at hp4
            have HU := hide (unpW (.slice a9 m9 c9) (bs.drop 9) (wAt bs 3) W4 W4 (hp4.chg (unhide C4) (fun b e => unhide HVV b (by rw [← (unhide HS2).own, ← unhide HPO]; exact e))) ((unhide HX).drop 9) (unhide HLn) (by omega) (Below.refl _ _))
            clear r4 hp4
            go_wp2_with fail
            refine (unhide HU).mono ?_
            rintro e w5 ⟨g, rfl, hU⟩
            have hr5 := (unhide R4).below hU.bel
            have c6 := cell_of_row _ _ 6 _ _ _ hr5.row
            have f6 := frozen_of_row _ _ 6 _ _ hr5.row
            simp only [rrow] at c6
            have hlg := hU.lo
            have hl4 := (unhide C4).size
            have hl3 := (unhide HB3).size
            have hl2 := (unhide HS2).bel.size
            have hgr : g ≠ rp := by omega
            have cc : Chg w5 (w5.setCell ⟨rp, 6, none⟩ (.slice (some ⟨g, 0, none⟩) (wAt bs 3) (wAt bs 3))) (fun k => k = rp) := (Chg.refl w5 (fun k => k = rp)).put rp 6 _ rfl
            have CF := hide ((((Chg.of_below (bl_trans (unhide HS2).bel (unhide HB3)) (fun k => k = rp)).trans (unhide C4) (fun _ e _ => e)).trans (Chg.of_below hU.bel (fun _ => False)) (fun _ e _ => e.elim)).trans cc (fun _ e _ => e))
            have RF := hide (hr5.s6 (.slice (some ⟨g, 0, none⟩) (wAt bs 3) (wAt bs 3)))
            have LF : Hid (LiesI (w5.setCell ⟨rp, 6, none⟩ (.slice (some ⟨g, 0, none⟩) (wAt bs 3) (wAt bs 3))) (.slice (some ⟨g, 0, none⟩) (wAt bs 3) (wAt bs 3)) (unpackW (bs.drop 9) (wAt bs 3))) := by
              have q := lies_chgI (rowI_lies hU.row 0 (wAt bs 3) (wAt bs 3) (by rw [unpackW_len]; omega)) cc (fun b e => by simp [Value.ownBlock] at e; subst e; exact hgr)
              rw [List.drop_zero, List.take_of_length_le (by rw [unpackW_len]; omega)] at q
              exact q
            have GF : Hid (∀ b, (Value.slice (some ⟨g, 0, none⟩) (wAt bs 3) (wAt bs 3)).ownBlock = some b → w.heap.size ≤ b) := fun b e => by simp [Value.ownBlock] at e; omega
            clear hU hr5 cc HU hgr hlg hl4 hl3 hl2 Y1
            go_wp2
            go_ret
            exact PPost.mkR (unhide HQ) (unhide CF) (unhide RF) (unhide LF) (.inl ⟨none, 0, rfl, rfl⟩) (unhide GF) (fun b e => by simp [Value.ownBlock] at e)
end Go.Proofs.YtfekelmldebplaaGreatDoor

namespace Go.Proofs.YtfekelmldebplaaGreatDoor
open Go.RowKit

set_option maxRecDepth 10000 in
set_option maxHeartbeats 1000000 in
theorem parse_23 (rp : Nat) (v : Value) (bs : List Int) (w : World) (hr : QNew w rp 23) (h : Lies w v bs) (hx : Bys bs) (hl : bs.length ≤ 252) (hv : ∀ b, v.ownBlock = some b → b ≠ rp) :
    Calls Tryz.prog 188 #[.pointer (some ⟨rp, 0, none⟩), v] w fun e w' => PPost w rp 23 v (parseL 23 bs) e w' := by
  have c0 := cell_of_row _ _ 0 _ _ _ hr.row
  simp [rrow] at c0
  have HP := hide (parse23_any rp 23 v bs w hr h hx hl hv)
  have hq : parseL 23 bs = parse23 23 bs := rfl
  rw [hq]
  obtain ⟨av, cv, rfl⟩ := h.slice
  clear hr h hx hq hv
  go_enter Tryz.func188, Tryz.ntmps188
  go_wp2_with fail
  refine (unhide HP).mono ?_
  rintro e w2 ⟨hc, hm⟩
  cases hq : parse23 23 bs with
  | inl x =>
    rw [hq] at hm
    obtain ⟨n, T, p, rfl, he⟩ := hm
    have HE := hide he
    have HC := hide hc
    have HQ := hide hq
    clear he hc HP hq c0
    go_wp2
    go_ret
    exact PPost.mkL (unhide HQ) (unhide HC) (unhide HE)
  | inr q =>
    rw [hq] at hm
    obtain ⟨vv, ve, rfl, h1, h2, h3, h4, h5⟩ := hm
    have H1 := hide h1
    have H2 := hide h2
    have H3 := hide h3
    have H4 := hide h4
    have H5 := hide h5
    have HC := hide hc
    have HQ := hide hq
    clear h1 h2 h3 h4 h5 hc HP hq c0
    go_wp2
    go_ret
    exact PPost.mkR (unhide HQ) (unhide HC) (unhide H1) (unhide H2) (unhide H3) (unhide H4) (unhide H5)

end Go.Proofs.YtfekelmldebplaaGreatDoor

namespace Go.Proofs.YtfekelmldebplaaGreatDoor
open Go.RowKit Go.MuLone

theorem wAt_cons (a b : Int) (l : List Int) (i : Nat) : wAt (a :: b :: l) (i + 1) = wAt l i := by
  unfold wAt
  rw [show 2 * (i + 1) = 2 * i + 1 + 1 by omega, show 2 * i + 1 + 1 + 1 = (2 * i + 1) + 1 + 1 by omega]
  rfl
theorem wAt_words : ∀ (xs : List Int), (∀ x ∈ xs, 0 ≤ x ∧ x ≤ 65535) → ∀ i, i < xs.length → ((wAt (wordsL xs) i : Nat) : Int) = xs.getD i 0
  | [], _, i, hi => absurd hi (by simp)
  | x :: xs, h, 0, _ => by
    have := h x (List.mem_cons_self ..)
    show (((256 * (x / 256) + x % 256).toNat : Nat) : Int) = x
    omega
  | x :: xs, h, i + 1, hi => by
    have e : wordsL (x :: xs) = (x / 256) :: (x % 256) :: wordsL xs := rfl
    rw [e, wAt_cons, wAt_words xs (fun y hy => h y (List.mem_cons_of_mem _ hy)) i (by simpa using hi)]
    rfl
theorem unpack_words (xs : List Int) (h : ∀ x ∈ xs, 0 ≤ x ∧ x ≤ 65535) : unpackW (wordsL xs) xs.length = xs := by
  unfold unpackW
  refine getD_ext _ _ (by simp) fun i hi => ?_
  have hi' : i < xs.length := by simpa using hi
  rw [← wAt_words xs h i hi']
  simp [List.getD_eq_getElem?_getD, hi']
theorem words_bys (xs : List Int) (h : ∀ x ∈ xs, 0 ≤ x ∧ x ≤ 65535) : Bys (wordsL xs) := fun y hy => by
  obtain ⟨x, hx, hy⟩ := List.mem_flatMap.1 hy
  exact Bys.wd (h x hx).1 (h x hx).2 y hy
theorem bys_cons {x : Int} {l : List Int} (h0 : 0 ≤ x ∧ x < 256) (h : Bys l) : Bys (x :: l) := fun y hy => by
  rcases List.mem_cons.1 hy with rfl | hy
  · exact h0
  · exact h y hy
theorem wd_at' (n : Int) (h0 : 0 ≤ n) (h1 : n ≤ 65535) : (256 * (n / 256) + n % 256).toNat = n.toNat := by omega

/-! ### Many -/
def b16 (a : Nat) (xs : List Int) : List Int := wd (a : Int) ++ wd (xs.length : Int) ++ ((2 * xs.length : Nat) : Int) :: wordsL xs
def q16 (a : Nat) (xs : List Int) : Req := ⟨16, 3, 0, 0, a, xs.length, xs, 0, wd (a : Int) ++ wd (xs.length : Int)⟩
theorem b16_len (a : Nat) (xs : List Int) : (b16 a xs).length = 5 + 2 * xs.length := by
  simp [b16, wd, wordsL_len]
  omega
theorem b16_bys (a : Nat) (xs : List Int) (ha : a ≤ 65535) (hn : xs.length ≤ 123) (hx : ∀ x ∈ xs, 0 ≤ x ∧ x ≤ 65535) : Bys (b16 a xs) :=
  ((Bys.wd (by omega) (by omega)).append (Bys.wd (by omega) (by omega))).append (bys_cons (by omega) (words_bys xs hx))
theorem parse_q16 (a : Nat) (xs : List Int) (ha : a ≤ 65535) (h1 : 1 ≤ xs.length) (h2 : xs.length ≤ 123) (hx : ∀ x ∈ xs, 0 ≤ x ∧ x ≤ 65535) : parseL 16 (b16 a xs) = .inr (q16 a xs) := by
  have w0 : wAt (b16 a xs) 0 = a := wd_at a ha
  have w1 : wAt (b16 a xs) 1 = xs.length := wd_at xs.length (by omega)
  have hc : countB xs.length 123 = true := by simp [countB]; omega
  have hd : (b16 a xs).drop 5 = wordsL xs := rfl
  have ht : (b16 a xs).take 4 = wd (a : Int) ++ wd (xs.length : Int) := rfl
  have h4 : (b16 a xs).getD 4 0 = ((2 * xs.length : Nat) : Int) := rfl
  show parse16 16 _ = _
  unfold parse16
  rw [if_pos ⟨by rw [b16_len]; omega, by rw [w1]; exact hc, by rw [b16_len, w1], by rw [h4, w1]⟩, w0, w1, hd, unpack_words xs hx, ht]
  rfl
/-! ### One -/
def b6 (a : Nat) (y : Int) : List Int := wd (a : Int) ++ wd y
def q6 (a : Nat) (y : Int) : Req := ⟨6, 3, 0, 0, a, 1, [y], 0, b6 a y⟩
theorem b6_bys (a : Nat) (y : Int) (ha : a ≤ 65535) (hy : 0 ≤ y ∧ y ≤ 65535) : Bys (b6 a y) := (Bys.wd (by omega) (by omega)).append (Bys.wd hy.1 hy.2)
theorem parse_q6 (a : Nat) (y : Int) (ha : a ≤ 65535) (hy : 0 ≤ y ∧ y ≤ 65535) : parseL 6 (b6 a y) = .inr (q6 a y) := by
  have w0 : wAt (b6 a y) 0 = a := wd_at a ha
  have w1 : wAt (b6 a y) 1 = y.toNat := wd_at' y hy.1 hy.2
  show parse6 6 (b6 a y) = _
  unfold parse6
  rw [if_pos (show (b6 a y).length = 4 from rfl), w0, w1, Int.toNat_of_nonneg hy.1]
  rfl
/-! ### By a mask -/
def b22 (a : Nat) (m n : Int) : List Int := wd (a : Int) ++ (wd m ++ wd n)
def q22 (a : Nat) (m n : Int) : Req := ⟨22, 3, a, 1, a, 1, [n], m.toNat, b22 a m n⟩
theorem b22_bys (a : Nat) (m n : Int) (ha : a ≤ 65535) (hm : 0 ≤ m ∧ m ≤ 65535) (hn : 0 ≤ n ∧ n ≤ 65535) : Bys (b22 a m n) := (Bys.wd (by omega) (by omega)).append ((Bys.wd hm.1 hm.2).append (Bys.wd hn.1 hn.2))
theorem parse_q22 (a : Nat) (m n : Int) (ha : a ≤ 65535) (hm : 0 ≤ m ∧ m ≤ 65535) (hn : 0 ≤ n ∧ n ≤ 65535) : parseL 22 (b22 a m n) = .inr (q22 a m n) := by
  have w0 : wAt (b22 a m n) 0 = a := wd_at a ha
  have w1 : wAt (b22 a m n) 1 = m.toNat := wd_at' m hm.1 hm.2
  have w2 : wAt (b22 a m n) 2 = n.toNat := wd_at' n hn.1 hn.2
  show parse22 22 (b22 a m n) = _
  unfold parse22
  rw [if_pos (show (b22 a m n).length = 6 from rfl), w0, w1, w2, Int.toNat_of_nonneg hn.1]
  rfl
/-! ### Both -/
def b23 (a n c : Nat) (xs : List Int) : List Int := wd (a : Int) ++ wd (n : Int) ++ (wd (c : Int) ++ (wd (xs.length : Int) ++ ((2 * xs.length : Nat) : Int) :: wordsL xs))
def q23 (a n c : Nat) (xs : List Int) : Req := ⟨23, 3, a, n, c, xs.length, xs, 0, []⟩
theorem b23_len (a n c : Nat) (xs : List Int) : (b23 a n c xs).length = 9 + 2 * xs.length := by
  simp [b23, wd, wordsL_len]
  omega
theorem b23_bys (a n c : Nat) (xs : List Int) (ha : a ≤ 65535) (hn : n ≤ 65535) (hc : c ≤ 65535) (hl : xs.length ≤ 121) (hx : ∀ x ∈ xs, 0 ≤ x ∧ x ≤ 65535) : Bys (b23 a n c xs) :=
  ((Bys.wd (by omega) (by omega)).append (Bys.wd (by omega) (by omega))).append ((Bys.wd (by omega) (by omega)).append ((Bys.wd (by omega) (by omega)).append (bys_cons (by omega) (words_bys xs hx))))
theorem parse_q23 (a n c : Nat) (xs : List Int) (ha : a ≤ 65535) (hn1 : 1 ≤ n) (hn : n ≤ 125) (hc : c ≤ 65535) (h1 : 1 ≤ xs.length) (h2 : xs.length ≤ 121) (hx : ∀ x ∈ xs, 0 ≤ x ∧ x ≤ 65535) : parseL 23 (b23 a n c xs) = .inr (q23 a n c xs) := by
  have w0 : wAt (b23 a n c xs) 0 = a := wd_at a ha
  have w1 : wAt (b23 a n c xs) 1 = n := wd_at n (by omega)
  have w2 : wAt (b23 a n c xs) 2 = c := wd_at c hc
  have w3 : wAt (b23 a n c xs) 3 = xs.length := wd_at xs.length (by omega)
  have hc1 : countB n 125 = true := by simp [countB]; omega
  have hc2 : countB xs.length 121 = true := by simp [countB]; omega
  have hd : (b23 a n c xs).drop 9 = wordsL xs := rfl
  have h8 : (b23 a n c xs).getD 8 0 = ((2 * xs.length : Nat) : Int) := rfl
  show parse23 23 _ = _
  unfold parse23
  rw [if_pos ⟨by rw [b23_len]; omega, by rw [w1]; exact hc1, by rw [w3]; exact hc2, by rw [b23_len, w3], by rw [h8, w3]⟩, w0, w1, w2, w3, hd, unpack_words xs hx]
  rfl
theorem top3 : topOf 3 = 65535 := rfl
/-! ### They are done -/
theorem done_16 (B rb sb tb kb : Nat) (t : T4) (us : List Value) (a : Nat) (xs : List Int) (v x : Value) (L : List Int) (w : World) (Bv Bx : Nat) (h : BankAt w B rb sb tb kb t [allRules, []] us) (hLe : (t.at 3).L = L) (hN : L.length ≤ 200) (h1 : 1 ≤ xs.length) (h2 : xs.length ≤ 123) (han : a + xs.length ≤ L.length) (hL : ∀ y ∈ L, 0 ≤ y ∧ y ≤ 65535) (hxs : ∀ y ∈ xs, 0 ≤ y ∧ y ≤ 65535)
    (hv : Owns w Bv v (16 :: b16 a xs)) (hx : Owns w Bx x (16 :: (wd (a : Int) ++ wd (xs.length : Int)))) :
    Calls Tryz.prog 23 #[.pointer (some ⟨rb, 0, none⟩), .int .i64 0, v, x] w fun r w' => r = .returned (.bool true) ∧ BankAt w' B rb sb tb kb (t.put 3 (setL L a xs)) [allRules, []] us ∧ Chg w w' (fun k => k = sb ∨ k = (t.at 3).g) := by
  have hbys := b16_bys a xs (by omega) h2 hxs
  have hws : Bys (16 :: (wd (a : Int) ++ wd (xs.length : Int))) := bys_cons (by omega) ((Bys.wd (by omega) (by omega)).append (Bys.wd (by omega) (by omega)))
  have := done_t B rb sb tb kb t us 16 v x _ _ (q16 a xs) w Bv Bx h hv hx hws (by simp [b16, wd]) (by rw [b16_len]; omega) hbys (parse_q16 a xs (by omega) h1 h2 hxs) L.length (by rw [show (q16 a xs).t = 3 from rfl, hLe]) hN (Nat.zero_le _) han (by rw [show (q16 a xs).t = 3 from rfl, hLe]; exact hL) (by
    unfold ansL
    rw [echo_told _ _ (by simp [q16, wd])]
    rfl) (fun rp v W hr hl hd => parse_16 rp v _ W hr hl hbys (by rw [b16_len]; omega) hd)
  rw [show (q16 a xs).t = 3 from rfl, hLe, carry_write L (q16 a xs) rfl rfl han hL hxs] at this
  exact this
theorem done_6 (B rb sb tb kb : Nat) (t : T4) (us : List Value) (a : Nat) (y : Int) (v x : Value) (L : List Int) (w : World) (Bv Bx : Nat) (h : BankAt w B rb sb tb kb t [allRules, []] us) (hLe : (t.at 3).L = L) (hN : L.length ≤ 200) (han : a + 1 ≤ L.length) (hL : ∀ y ∈ L, 0 ≤ y ∧ y ≤ 65535) (hy : 0 ≤ y ∧ y ≤ 65535)
    (hv : Owns w Bv v (6 :: b6 a y)) (hx : Owns w Bx x (6 :: b6 a y)) :
    Calls Tryz.prog 23 #[.pointer (some ⟨rb, 0, none⟩), .int .i64 0, v, x] w fun r w' => r = .returned (.bool true) ∧ BankAt w' B rb sb tb kb (t.put 3 (setL L a [y])) [allRules, []] us ∧ Chg w w' (fun k => k = sb ∨ k = (t.at 3).g) := by
  have hbys := b6_bys a y (by omega) hy
  have := done_t B rb sb tb kb t us 6 v x _ _ (q6 a y) w Bv Bx h hv hx (bys_cons (by omega) hbys) (by simp [b6, wd]) (by simp [b6, wd]) hbys (parse_q6 a y (by omega) hy) L.length (by rw [show (q6 a y).t = 3 from rfl, hLe]) hN (Nat.zero_le _) han (by rw [show (q6 a y).t = 3 from rfl, hLe]; exact hL) (by
    unfold ansL
    rw [echo_told _ _ (by simp [q6, b6, wd])]
    rfl) (fun rp v W hr hl hd => parse_6 rp v _ W hr hl hbys (by simp [b6, wd]) hd)
  rw [show (q6 a y).t = 3 from rfl, hLe, carry_write L (q6 a y) rfl rfl han hL (fun z hz => by
    rcases List.mem_singleton.1 hz with rfl
    exact hy)] at this
  exact this
theorem carry_mask (L : List Int) (a : Nat) (m n : Int) (h : a + 1 ≤ L.length) (hm : 0 ≤ m) : carryL L (q22 a m n) = setL L a [maskI m (L.getD a 0) n] := by
  have e : spanL L a 1 = [L.getD a 0] := by
    unfold spanL
    have hl : a < L.length := by omega
    rw [List.drop_eq_getElem_cons hl, List.take_succ_cons, List.take_zero, List.getD_eq_getElem?_getD, List.getElem?_eq_getElem hl]
    rfl
  show setL L a (writtenL (spanL L a 1) [n] m.toNat) = _
  rw [e]
  show setL L a [maskI ((m.toNat : Nat) : Int) (L.getD a 0) n] = _
  rw [Int.toNat_of_nonneg hm]
theorem done_22 (B rb sb tb kb : Nat) (t : T4) (us : List Value) (a : Nat) (m n : Int) (v x : Value) (L : List Int) (w : World) (Bv Bx : Nat) (h : BankAt w B rb sb tb kb t [allRules, []] us) (hLe : (t.at 3).L = L) (hN : L.length ≤ 200) (han : a + 1 ≤ L.length) (hL : ∀ y ∈ L, 0 ≤ y ∧ y ≤ 65535) (hm : 0 ≤ m ∧ m ≤ 65535) (hn : 0 ≤ n ∧ n ≤ 65535)
    (hv : Owns w Bv v (22 :: b22 a m n)) (hx : Owns w Bx x (22 :: b22 a m n)) :
    Calls Tryz.prog 23 #[.pointer (some ⟨rb, 0, none⟩), .int .i64 0, v, x] w fun r w' => r = .returned (.bool true) ∧ BankAt w' B rb sb tb kb (t.put 3 (setL L a [maskI m (L.getD a 0) n])) [allRules, []] us ∧ Chg w w' (fun k => k = sb ∨ k = (t.at 3).g) := by
  have hbys := b22_bys a m n (by omega) hm hn
  have := done_t B rb sb tb kb t us 22 v x _ _ (q22 a m n) w Bv Bx h hv hx (bys_cons (by omega) hbys) (by simp [b22, wd]) (by simp [b22, wd]) hbys (parse_q22 a m n (by omega) hm hn) L.length (by rw [show (q22 a m n).t = 3 from rfl, hLe]) hN han han (by rw [show (q22 a m n).t = 3 from rfl, hLe]; exact hL) (by
    unfold ansL
    rw [echo_told _ _ (by simp [q22, b22, wd])]
    rfl) (fun rp v W hr hl hd => parse_22 rp v _ W hr hl hbys (by simp [b22, wd]) hd)
  rw [show (q22 a m n).t = 3 from rfl, hLe, carry_mask L a m n han hm.1] at this
  exact this
theorem done_23 (B rb sb tb kb : Nat) (t : T4) (us : List Value) (a n c : Nat) (xs : List Int) (v x : Value) (L : List Int) (w : World) (Bv Bx : Nat) (h : BankAt w B rb sb tb kb t [allRules, []] us) (hLe : (t.at 3).L = L) (hN : L.length ≤ 200) (hn1 : 1 ≤ n) (hn : n ≤ 125) (h1 : 1 ≤ xs.length) (h2 : xs.length ≤ 121) (han : a + n ≤ L.length) (hcx : c + xs.length ≤ L.length) (hL : ∀ y ∈ L, 0 ≤ y ∧ y ≤ 65535) (hxs : ∀ y ∈ xs, 0 ≤ y ∧ y ≤ 65535)
    (hv : Owns w Bv v (23 :: b23 a n c xs)) (hx : Owns w Bx x (23 :: ((2 * n : Nat) : Int) :: wordsL (spanL (setL L c xs) a n))) :
    Calls Tryz.prog 23 #[.pointer (some ⟨rb, 0, none⟩), .int .i64 0, v, x] w fun r w' => r = .returned (.bool true) ∧ BankAt w' B rb sb tb kb (t.put 3 (setL L c xs)) [allRules, []] us ∧ Chg w w' (fun k => k = sb ∨ k = (t.at 3).g) := by
  have hbys := b23_bys a n c xs (by omega) (by omega) (by omega) h2 hxs
  have hcw := carry_write L (q23 a n c xs) rfl rfl hcx hL hxs
  have hcw' : carryL L (q23 a n c xs) = setL L c xs := hcw
  have hsl : (setL L c xs).length = L.length := setL_len L c xs hcx
  have hin : ∀ y ∈ spanL (setL L c xs) a n, 0 ≤ y ∧ y ≤ 65535 := fun y hy => by
    rcases span_set_in L xs c y (spanL_in hy) with hy | hy
    · exact hL y hy
    · exact hxs y hy
  have := done_t B rb sb tb kb t us 23 v x _ _ (q23 a n c xs) w Bv Bx h hv hx (bys_cons (by omega) (bys_cons (by omega) (words_bys _ hin))) (by simp [b23, wd]) (by rw [b23_len]; omega) hbys (parse_q23 a n c xs (by omega) hn1 hn (by omega) h1 h2 hxs) L.length (by rw [show (q23 a n c xs).t = 3 from rfl, hLe]) hN han hcx (by rw [show (q23 a n c xs).t = 3 from rfl, hLe]; exact hL) (by
    unfold ansL toldL
    rw [if_pos (show (q23 a n c xs).echo = [] from rfl), show (q23 a n c xs).t = 3 from rfl, hLe, hcw']
    have e : packT 3 (spanL (setL L c xs) a n) = wordsL (spanL (setL L c xs) a n) := rfl
    show (23 : Int) :: ((packT 3 (spanL (setL L c xs) a n)).length : Int) :: packT 3 (spanL (setL L c xs) a n) = _
    rw [e, wordsL_len, spanL_len _ _ _ (by rw [hsl]; exact han)]) (fun rp v W hr hl hd => parse_23 rp v _ W hr hl hbys (by rw [b23_len]; omega) hd)
  rw [show (q23 a n c xs).t = 3 from rfl, hLe, hcw'] at this
  exact this
end Go.Proofs.YtfekelmldebplaaGreatDoor

namespace Go.Proofs.YtfekelmldebplaaGreatDoor
open Go.RowKit Go.Extern.Stop Go.Stop Go.Extern

/-! ### errors.As of an error with a refusal in it, under so many layers -/
/-- The handle of a type. -/
abbrev hdl (t : Nat) : Value := .pointer (some ⟨4, t, none⟩)
theorem rv_of (t : Addr) (w : World) : (ReflectliteValue.unpack (.iface 156 (.pointer (some t)))).run Tryz.prog w = .ok (.agg #[hdl 156, .pointer (some ⟨w.heap.size, 0, none⟩), .int .u64 150]) (w.alloc (.cells #[.pointer (some t)] 156)) := by kernel_rfl
theorem rv_type (a : Addr) (w : World) : (ReflectliteValue.methodAny (ReflectliteValue.valueError "reflectlite.Value.Type" 0) (fun t _ _ _ => ReflectliteType.toType t) #[.agg #[hdl 156, .pointer (some a), .int .u64 150]]).run Tryz.prog w = .ok (.iface 282 (.agg #[hdl 156])) w := by kernel_rfl
theorem rt_kindM (h : Value) (w : World) : (Go.method 484 282 (.agg #[h]) "Kind").run Tryz.prog w = .ok (252, h) w := by kernel_rfl
theorem rt_kind2 (w : World) : ((ReflectliteType.abiMethod fun t => (fun a : Nat => Value.int IntKind.u8 (a : Int)) <$> Rtype.kind t) #[hdl 156]).run Tryz.prog w = .ok (.int .u8 22) w := by kernel_rfl
theorem rt_kind1 (w : World) : ((ReflectliteType.abiMethod fun t => (fun a : Nat => Value.int IntKind.u8 (a : Int)) <$> Rtype.kind t) #[hdl 154]).run Tryz.prog w = .ok (.int .u8 22) w := by kernel_rfl
theorem rt_elemM (h : Value) (w : World) : (Go.method 484 282 (.agg #[h]) "Elem").run Tryz.prog w = .ok (272, .agg #[h]) w := by kernel_rfl
theorem rt_implM (h : Value) (w : World) : (Go.method 484 282 (.agg #[h]) "Implements").run Tryz.prog w = .ok (273, .agg #[h]) w := by kernel_rfl
theorem rt_asgnM (h : Value) (w : World) : (Go.method 484 282 (.agg #[h]) "AssignableTo").run Tryz.prog w = .ok (270, .agg #[h]) w := by kernel_rfl
theorem rt_elem (w : World) : (ReflectliteType.method ReflectliteType.elem #[.agg #[hdl 156]]).run Tryz.prog w = .ok (.iface 282 (.agg #[hdl 154])) w := by kernel_rfl
theorem rt_impl (w : World) : (ReflectliteType.relation "Implements" ReflectliteType.implements_ #[.agg #[hdl 154], .iface 282 (.agg #[hdl 151])]).run Tryz.prog w = .ok (.bool true) w := by kernel_rfl
theorem rt_of1 (v : Value) (w : World) : (ReflectliteType.typeOf #[.iface 154 v]).run Tryz.prog w = .ok (.iface 282 (.agg #[hdl 154])) w := by kernel_rfl
theorem rt_ofL (v : Value) (w : World) : (ReflectliteType.typeOf #[.iface 278 v]).run Tryz.prog w = .ok (.iface 282 (.agg #[hdl 278])) w := by kernel_rfl
theorem rt_asgn1 (w : World) : (ReflectliteType.relation "AssignableTo" ReflectliteType.assignableTo #[.agg #[hdl 154], .iface 282 (.agg #[hdl 154])]).run Tryz.prog w = .ok (.bool true) w := by kernel_rfl
theorem rt_asgnL (w : World) : (ReflectliteType.relation "AssignableTo" ReflectliteType.assignableTo #[.agg #[hdl 278], .iface 282 (.agg #[hdl 154])]).run Tryz.prog w = .ok (.bool false) w := by kernel_rfl
theorem rv_of1 (e : Addr) (w : World) : (ReflectliteValue.unpack (.iface 154 (.pointer (some e)))).run Tryz.prog w = .ok (.agg #[hdl 154, .pointer (some ⟨w.heap.size, 0, none⟩), .int .u64 150]) (w.alloc (.cells #[.pointer (some e)] 154)) := by kernel_rfl
theorem layered_noAs (v : Value) (xT : TypeId) (w : World) : (Instr.typeAssert (.iface 278 v) xT 287 true).run Tryz.prog w = .ok (.tuple #[.nilIface, .bool false]) w := run_typeAssert_lacksB Tryz.underlying287 (by kernel_rfl) (by kernel_rfl) v xT w
theorem layered_hasUnwrap (v : Value) (xT : TypeId) (w : World) : (Instr.typeAssert (.iface 278 v) xT 290 true).run Tryz.prog w = .ok (.tuple #[.iface 278 v, .bool true]) w := run_typeAssert_hasB Tryz.underlying290 (by kernel_rfl) v xT w
theorem layered_unwrapM (v : Value) (w : World) : (Go.method 484 278 v "Unwrap").run Tryz.prog w = .ok (268, v) w := by kernel_rfl
end Go.Proofs.YtfekelmldebplaaGreatDoor

namespace Go.Proofs.YtfekelmldebplaaGreatDoor
open Go.RowKit Go.Extern.Stop Go.Stop Go.Extern

/-! The entries that touch memory. -/
theorem rv_method (z : Sem Value) (f : TypeId → Addr → Nat → Nat → Sem Value) (v : Value) : ReflectliteValue.method z f #[v] = (do match ← ReflectliteValue.parts v with | none => z | some (t, a, fl) => f t a fl (fl % 32)) := rfl
theorem rv_parts2 (a : Addr) (w : World) : (ReflectliteValue.parts (.agg #[hdl 156, .pointer (some a), .int .u64 150])).run Tryz.prog w = .ok (some (156, a, 150)) w := by kernel_rfl
theorem rv_isNil (a p : Addr) (W : World) (ha : W.cell? a = some (.pointer (some p))) :
    (ReflectliteValue.method (ReflectliteValue.valueError "reflectlite.Value.IsNil" 0) ReflectliteValue.isNil #[.agg #[hdl 156, .pointer (some a), .int .u64 150]]).run Tryz.prog W = .ok (.bool false) W := by
  rw [rv_method]
  simp only [Sem.run_bind, rv_parts2, Result.andThen]
  simp [ReflectliteValue.isNil, loadVar, isAgg, underlying, Tryz.underlying156, ha, Result.andThen]
theorem rt_elemOf (w : World) : (Rtype.elem? 156).run Tryz.prog w = .ok (some 154) w := by kernel_rfl
theorem rv_mk (p : Addr) (w : World) : (ReflectliteValue.mk 154 p ReflectliteValue.flagAddr).run Tryz.prog w = .ok (.agg #[hdl 154, .pointer (some p), .int .u64 406]) w := by kernel_rfl
theorem rv_elem (a p : Addr) (W : World) (ha : W.cell? a = some (.pointer (some p))) :
    (ReflectliteValue.method (ReflectliteValue.valueError "reflectlite.Value.Elem" 0) ReflectliteValue.elem #[.agg #[hdl 156, .pointer (some a), .int .u64 150]]).run Tryz.prog W = .ok (.agg #[hdl 154, .pointer (some p), .int .u64 406]) W := by
  rw [rv_method]
  simp only [Sem.run_bind, rv_parts2, Result.andThen]
  simp [ReflectliteValue.elem, loadVar, isAgg, underlying, Tryz.underlying156, ha, Result.andThen, rt_elemOf, rv_mk]
theorem rv_parts1a (a : Addr) (w : World) : (ReflectliteValue.parts (.agg #[hdl 154, .pointer (some a), .int .u64 406])).run Tryz.prog w = .ok (some (154, a, 406)) w := by kernel_rfl
theorem rv_parts1 (a : Addr) (w : World) : (ReflectliteValue.parts (.agg #[hdl 154, .pointer (some a), .int .u64 150])).run Tryz.prog w = .ok (some (154, a, 150)) w := by kernel_rfl
theorem rt_direct (w : World) : (Rtype.directlyAssignable 154 154).run Tryz.prog w = .ok true w := by kernel_rfl
theorem rv_set (ta b e : Addr) (old : Value) (W : World) (hb : W.cell? b = some (.pointer (some e))) (ht : W.cell? ta = some old) (hf : W.frozen? ta = false) :
    (ReflectliteValue.set #[.agg #[hdl 154, .pointer (some ta), .int .u64 406], .agg #[hdl 154, .pointer (some b), .int .u64 150]]).run Tryz.prog W = .ok (.tuple #[]) (W.setCell ta (.pointer (some e))) := by
  change Sem.run Tryz.prog (ReflectliteValue.parts (.agg #[hdl 154, .pointer (some ta), .int .u64 406]) >>= fun p => ReflectliteValue.parts (.agg #[hdl 154, .pointer (some b), .int .u64 150]) >>= fun q => _) W = _
  simp only [Sem.run_bind, rv_parts1a, rv_parts1, Result.andThen]
  simp [ReflectliteValue.flagAddr, loadVar, isAgg, underlying, Tryz.underlying154, hb, Result.andThen, rt_direct, storeVar, Value.cells, storeCells, Addr.add]
  rw [run_store Tryz.prog W ta _ _ (by rfl)]
  simp [ht, hf]
end Go.Proofs.YtfekelmldebplaaGreatDoor

namespace Go.Proofs.YtfekelmldebplaaGreatDoor
open Go.RowKit Go.Extern.Stop Go.Stop Go.Extern

theorem new_alloc (w : World) (o : Obj) : Below w.heap.size w (w.alloc o) := (Below.refl _ _).alloc (Nat.le_refl _) _
theorem unwrap_any (l : Nat) (s : ByteArray) (u : Value) (w : World) (h : w.heap[l]? = some (.cells #[.string s, u] 280 (0, 0))) :
    Calls Tryz.prog 268 #[.pointer (some ⟨l, 0, none⟩)] w fun e w' => e = .returned u ∧ w' = w := by
  have q := cell_of_row _ _ 1 _ _ _ h
  simp at q
  clear h
  go_enter Tryz.func268, Tryz.ntmps268
  go_wp2
  go_ret
  exact ⟨rfl, rfl⟩

set_option maxRecDepth 10000 in
set_option maxHeartbeats 4000000 in
theorem as_find (n : Nat) (err : Value) (f x : Int) (tb : Nat) (a : Addr) (old : Value) (w : World) (he : ErrAt w f x n err) (ha : w.cell? a = some (.pointer (some ⟨tb, 0, none⟩))) (ht : w.heap[tb]? = some (.cells #[old] 154 (0, 0))) :
    Calls Tryz.prog 111 #[err, .iface 156 (.pointer (some ⟨tb, 0, none⟩)), .agg #[hdl 156, .pointer (some a), .int .u64 150], .iface 282 (.agg #[hdl 154])] w fun e w' => e = .returned (.bool true) ∧ ∃ r, w'.heap[tb]? = some (.cells #[.pointer (some ⟨r, 0, none⟩)] 154 (0, 0)) ∧ w'.heap[r]? = some (.cells #[.int .u8 f, .int .u8 x] 216 (0, 0)) ∧ Chg w w' (fun k => k = tb) := by
  have x1 := @run_callFunc_extern Tryz.prog 160 _ ReflectliteType.typeOf Tryz.func160 (by kernel_rfl) (by kernel_rfl) (by kernel_rfl) (by kernel_rfl)
  have x2 := @run_callFunc_extern Tryz.prog 270 _ (ReflectliteType.relation "AssignableTo" ReflectliteType.assignableTo) Tryz.func270 (by kernel_rfl) (by kernel_rfl) (by kernel_rfl) (by kernel_rfl)
  have x3 := @run_callFunc_extern Tryz.prog 161 _ (ReflectliteValue.method (ReflectliteValue.valueError "reflectlite.Value.Elem" 0) ReflectliteValue.elem) Tryz.func161 (by kernel_rfl) (by kernel_rfl) (by kernel_rfl) (by kernel_rfl)
  have x4 := @run_callFunc_extern Tryz.prog 108 _ (fun args => ReflectliteValue.unpack (args.getD 0 (.tuple #[]))) Tryz.func108 (by kernel_rfl) (by kernel_rfl) (by kernel_rfl) (by kernel_rfl)
  have x5 := @run_callFunc_extern Tryz.prog 162 _ ReflectliteValue.set Tryz.func162 (by kernel_rfl) (by kernel_rfl) (by kernel_rfl) (by kernel_rfl)
  obtain ⟨T, p, rfl⟩ := he.iface
  have HE := hide he
  have HT := hide ht
  have HA := hide ha
  have hal : a.block < w.heap.size := World.block_lt_of_cell? w a ha
  have htl := (Array.getElem?_eq_some_iff.1 ht).1
  clear he ht ha
  go_enter Tryz.func111, Tryz.ntmps111
  go_wp2_with fail
  have hb0 := new_alloc w (.cells #[hdl 156, .pointer (some a), .int .u64 150] 206)
  have HB0 := hide hb0
  have HR0 := hide (heap_alloc_new w (.cells #[hdl 156, .pointer (some a), .int .u64 150] 206))
  have HE0 := hide ((unhide HE).below hb0)
  have HT0 := hide ((hb0.block tb htl).trans (unhide HT))
  have HA0 := hide ((hb0.cell hal).trans (unhide HA))
  clear hb0 HE
  generalize w.alloc (.cells #[hdl 156, .pointer (some a), .int .u64 150] 206) = w0 at HB0 HR0 HE0 HT0 HA0 ⊢
  have hv0 := cell_of_row _ _ 0 _ _ _ (unhide HR0)
  have hv1 := cell_of_row _ _ 1 _ _ _ (unhide HR0)
  have hv2 := cell_of_row _ _ 2 _ _ _ (unhide HR0)
  simp at hv0 hv1 hv2
  go_loopg [0] n (fun k v wr => wr = w0 ∧ Hid (ErrAt w0 f x k v))
  case atStart => exact ⟨rfl, unhide HE0⟩
  case round =>
    obtain ⟨hwr, HEk⟩ := hrel
    subst hwr
    cases gk with
    | zero =>
      obtain ⟨r, rfl, hr⟩ := unhide HEk
      have t1 := rt_of1
      have t2 := rt_asgnM
      have t3 := rt_asgn1
      have t4 := rv_elem a ⟨tb, 0, none⟩ wr (unhide HA0)
      have t5 := rv_of1
      have hbn := new_alloc wr (.cells #[.pointer (some ⟨r, 0, none⟩)] 154)
      have hT1 := (hbn.block tb (Array.getElem?_eq_some_iff.1 (unhide HT0)).1).trans (unhide HT0)
      have hc1 := cell_of_row _ _ 0 _ _ _ hT1
      have hf1 := frozen_of_row _ _ 0 _ _ hT1
      simp at hc1
      have hn1 : (wr.alloc (.cells #[.pointer (some ⟨r, 0, none⟩)] 154)).cell? ⟨wr.heap.size, 0, none⟩ = some (.pointer (some ⟨r, 0, none⟩)) := cell_of_row _ _ 0 _ _ _ (heap_alloc_new wr (.cells #[.pointer (some ⟨r, 0, none⟩)] 154))
      have t6 := rv_set ⟨tb, 0, none⟩ ⟨wr.heap.size, 0, none⟩ ⟨r, 0, none⟩ old _ hn1 hc1 hf1
      have hcs : Chg (wr.alloc (.cells #[.pointer (some ⟨r, 0, none⟩)] 154)) ((wr.alloc (.cells #[.pointer (some ⟨r, 0, none⟩)] 154)).setCell ⟨tb, 0, none⟩ (.pointer (some ⟨r, 0, none⟩))) (fun k => k = tb) := Chg.set _ tb 0 _
      have hset : ((wr.alloc (.cells #[.pointer (some ⟨r, 0, none⟩)] 154)).setCell ⟨tb, 0, none⟩ (.pointer (some ⟨r, 0, none⟩))).heap[tb]? = some (.cells (#[old].setIfInBounds 0 (.pointer (some ⟨r, 0, none⟩))) 154 (0, 0)) := heap_setCell_same _ tb 0 _ _ _ hT1
      have hrn : r ≠ tb := rows_ne hr (unhide HT0) (by decide)
      have hr1 := (hbn.block r (Array.getElem?_eq_some_iff.1 hr).1).trans hr
      have HRr := hide ((hcs.block r (Array.getElem?_eq_some_iff.1 hr1).1 hrn).trans hr1)
      have HSet := hide hset
      have HC := hide ((Chg.of_below (bl_trans (unhide HB0) hbn) (fun k => k = tb)).trans hcs (fun _ e _ => e))
      clear hr HEk HE0 hbn hT1 hc1 hf1 hn1 hcs hset hr1
      go_wp2
      go_ret
      exact ⟨rfl, r, by simpa using unhide HSet, unhide HRr, unhide HC⟩
    | succ k =>
      obtain ⟨l, s, u, rfl, hl, hu⟩ := unhide HEk
      obtain ⟨T', p', rfl⟩ := hu.iface
      have t1 := rt_ofL
      have t2 := rt_asgnM
      have t3 := rt_asgnL
      have t4 := layered_noAs
      have t5 := layered_hasUnwrap
      have t6 := layered_unwrapM
      have HU := hide (unwrap_any l s _ wr hl)
      have HEu := hide hu
      clear hl hu HEk HE0
      go_wp2_with fail
      refine (unhide HU).mono ?_
      rintro e wr ⟨rfl, rfl⟩
      clear HU
      go_wp2
      go_roundg k
      case measure => omega
      case rel => exact ⟨rfl, unhide HEu⟩
end Go.Proofs.YtfekelmldebplaaGreatDoor

namespace Go.Proofs.YtfekelmldebplaaGreatDoor
open Go.RowKit Go.Extern.Stop Go.Stop Go.Extern

/-- The type 'error', as errors keeps it. -/
def ErrVar (w : World) : Prop := w.cell? ⟨0, 0, none⟩ = some (.iface 282 (.agg #[hdl 151]))
theorem ErrVar.below {w w' : World} (h : ErrVar w) (hb : Below w.heap.size w w') : ErrVar w' := (hb.cell (World.block_lt_of_cell? w _ h)).trans h

set_option maxRecDepth 10000 in
set_option maxHeartbeats 4000000 in
theorem As_find (n : Nat) (err : Value) (f x : Int) (tb : Nat) (old : Value) (w : World) (he : ErrAt w f x n err) (ht : w.heap[tb]? = some (.cells #[old] 154 (0, 0))) (hg : ErrVar w) :
    Calls Tryz.prog 68 #[err, .iface 156 (.pointer (some ⟨tb, 0, none⟩))] w fun e w' => e = .returned (.bool true) ∧ ∃ r, w'.heap[tb]? = some (.cells #[.pointer (some ⟨r, 0, none⟩)] 154 (0, 0)) ∧ w'.heap[r]? = some (.cells #[.int .u8 f, .int .u8 x] 216 (0, 0)) ∧ Chg w w' (fun k => k = tb) := by
  have x1 := @run_callFunc_extern Tryz.prog 108 _ (fun args => ReflectliteValue.unpack (args.getD 0 (.tuple #[]))) Tryz.func108 (by kernel_rfl) (by kernel_rfl) (by kernel_rfl) (by kernel_rfl)
  have x2 := @run_callFunc_extern Tryz.prog 109 _ (ReflectliteValue.methodAny (ReflectliteValue.valueError "reflectlite.Value.Type" 0) (fun t _ _ _ => ReflectliteType.toType t)) Tryz.func109 (by kernel_rfl) (by kernel_rfl) (by kernel_rfl) (by kernel_rfl)
  have x3 := @run_callFunc_extern Tryz.prog 110 _ (ReflectliteValue.method (ReflectliteValue.valueError "reflectlite.Value.IsNil" 0) ReflectliteValue.isNil) Tryz.func110 (by kernel_rfl) (by kernel_rfl) (by kernel_rfl) (by kernel_rfl)
  have x4 := @run_callFunc_extern Tryz.prog 252 _ (ReflectliteType.abiMethod fun t => do pure (.int .u8 (← Rtype.kind t))) Tryz.func252 (by kernel_rfl) (by kernel_rfl) (by kernel_rfl) (by kernel_rfl)
  have x5 := @run_callFunc_extern Tryz.prog 272 _ (ReflectliteType.method ReflectliteType.elem) Tryz.func272 (by kernel_rfl) (by kernel_rfl) (by kernel_rfl) (by kernel_rfl)
  have x6 := @run_callFunc_extern Tryz.prog 273 _ (ReflectliteType.relation "Implements" ReflectliteType.implements_) Tryz.func273 (by kernel_rfl) (by kernel_rfl) (by kernel_rfl) (by kernel_rfl)
  have hb1 := new_alloc w (.cells #[.pointer (some ⟨tb, 0, none⟩)] 156)
  have hb2 := bl_trans hb1 (new_alloc _ (.cells #[hdl 156, .pointer (some ⟨w.heap.size, 0, none⟩), .int .u64 150] 206))
  have hrow := heap_alloc_new (w.alloc (.cells #[.pointer (some ⟨tb, 0, none⟩)] 156)) (.cells #[hdl 156, .pointer (some ⟨w.heap.size, 0, none⟩), .int .u64 150] 206)
  have hcell : ((w.alloc (.cells #[.pointer (some ⟨tb, 0, none⟩)] 156)).alloc (.cells #[hdl 156, .pointer (some ⟨w.heap.size, 0, none⟩), .int .u64 150] 206)).cell? ⟨w.heap.size, 0, none⟩ = some (.pointer (some ⟨tb, 0, none⟩)) :=
    ((new_alloc (w.alloc (.cells #[.pointer (some ⟨tb, 0, none⟩)] 156)) _).cell (by simp)).trans (cell_of_row _ _ 0 _ _ _ (heap_alloc_new w (.cells #[.pointer (some ⟨tb, 0, none⟩)] 156)))
  have s1 := rv_of
  have s2 := rv_type
  have s3 := rt_kindM
  have s4 := rt_kind2
  have s5 := rt_kind1
  have s6 := rt_elemM
  have s7 := rt_elem
  have s8 := rt_implM
  have s9 := rt_impl
  have s10 := rv_isNil ⟨w.heap.size, 0, none⟩ ⟨tb, 0, none⟩ _ hcell
  have hg2 := (hg.below hb2)
  unfold ErrVar at hg2
  have HAs := hide (as_find n err f x tb ⟨w.heap.size, 0, none⟩ old _ (he.below hb2) hcell ((hb2.block tb (Array.getElem?_eq_some_iff.1 ht).1).trans ht))
  have HB2 := hide hb2
  obtain ⟨T, p, rfl⟩ := he.iface
  clear he ht hg hb1 hb2 hcell hrow
  go_enter Tryz.func68, Tryz.ntmps68
  go_wp2_with fail
  refine (unhide HAs).mono ?_
  rintro e w3 ⟨rfl, r, h1, h2, h3⟩
  have H1 := hide h1
  have H2 := hide h2
  have H3 := hide ((Chg.of_below (unhide HB2) (fun k => k = tb)).trans h3 (fun _ e _ => e))
  clear h1 h2 h3 HAs
  go_wp2
  go_ret
  exact ⟨rfl, r, unhide H1, unhide H2, unhide H3⟩
end Go.Proofs.YtfekelmldebplaaGreatDoor

namespace Go.Proofs.YtfekelmldebplaaGreatDoor
open Go.RowKit Go.MuLone

/-- A number of one digit, as a text. -/
def AText (w : World) (e : Ending) (w' : World) : Prop := ∃ s : ByteArray, e = .returned (.string s) ∧ s.size ≤ 5 ∧ Below w.heap.size w w'
set_option maxRecDepth 10000 in
set_option maxHeartbeats 2000000 in
theorem small_any (k : Nat) (hk : k ≤ 5) (w : World) : Calls Tryz.prog 211 #[.int .i64 (k : Int)] w fun e w' => AText w e w' := by
  have hk6 : k = 0 ∨ k = 1 ∨ k = 2 ∨ k = 3 ∨ k = 4 ∨ k = 5 := by omega
  rcases hk6 with rfl | rfl | rfl | rfl | rfl | rfl
  all_goals
    go_enter Tryz.func211, Tryz.ntmps211
    go_wp2
    go_ret
    exact ⟨_, rfl, by decide, Below.refl _ _⟩
set_option maxRecDepth 10000 in
set_option maxHeartbeats 2000000 in
theorem formatInt_any (k : Nat) (hk : k ≤ 5) (w : World) : Calls Tryz.prog 194 #[.int .i64 (k : Int), .int .i64 10] w fun e w' => AText w e w' := by
  have HS := hide (fun w => small_any k hk w)
  have h1 : (k : Int) < 100 := by omega
  go_enter Tryz.func194, Tryz.ntmps194
  go_wp2_with fail
  refine (unhide HS _).mono ?_
  rintro e w2 ⟨s, rfl, hs, hb⟩
  go_wp2
  go_ret
  exact ⟨_, rfl, hs, hb⟩
theorem iitoa_any (k : Nat) (hk : k ≤ 5) (w : World) : Calls Tryz.prog 159 #[.int .i64 (k : Int)] w fun e w' => AText w e w' := by
  have HS := hide (fun w => formatInt_any k hk w)
  go_enter Tryz.func159, Tryz.ntmps159
  go_wp2_with fail
  refine (unhide HS _).mono ?_
  rintro e w2 ⟨s, rfl, hs, hb⟩
  go_wp2
  go_ret
  exact ⟨_, rfl, hs, hb⟩
theorem itoa_any (k : Nat) (hk : k ≤ 5) (w : World) : Calls Tryz.prog 107 #[.int .i64 (k : Int)] w fun e w' => AText w e w' := by
  have HS := hide (fun w => iitoa_any k hk w)
  go_enter Tryz.func107, Tryz.ntmps107
  go_wp2_with fail
  refine (unhide HS _).mono ?_
  rintro e w2 ⟨s, rfl, hs, hb⟩
  go_wp2
  go_ret
  exact ⟨_, rfl, hs, hb⟩

theorem ErrAt.chg {w w' : World} {f x : Int} {D : Nat → Prop} (c : Chg w w' D) (hD : ∀ k cs T fr, w.heap[k]? = some (.cells cs T fr) → T = 216 ∨ T = 280 → ¬ D k) : ∀ {n : Nat} {v : Value}, ErrAt w f x n v → ErrAt w' f x n v
  | 0, _, ⟨r, e, h⟩ => ⟨r, e, (c.block _ (Array.getElem?_eq_some_iff.1 h).1 (hD r _ _ _ h (.inl rfl))).trans h⟩
  | _ + 1, _, ⟨l, s, u, e, h, k⟩ => ⟨l, s, u, e, (c.block _ (Array.getElem?_eq_some_iff.1 h).1 (hD l _ _ _ h (.inr rfl))).trans h, ErrAt.chg c hD k⟩
/-- What is told of a request that is not done. -/
def Told (w : World) (f x : Int) (D : Nat → Prop) (r : Ending) (w' : World) : Prop := ∃ n T p, r = .returned (.tuple #[.slice none 0 0, .iface T (.pointer (some ⟨p, 0, none⟩))]) ∧ ErrAt w' f x n (.iface T (.pointer (some ⟨p, 0, none⟩))) ∧ Chg w w' D

set_option maxRecDepth 10000 in
set_option maxHeartbeats 2000000 in
theorem do_perr (sb : Nat) (cl f x : Int) (a : Option Addr) (m c : Nat) (w : World)
    (HP : Calls Tryz.prog 156 #[.int .u8 f, .slice a m c] w fun r w' => Below w.heap.size w w' ∧ ∃ n T p, r = .returned (.tuple #[.agg (rrow 0 0 0 0 0 0 (.slice none 0 0) 0 (.slice none 0 0)), .iface T (.pointer (some ⟨p, 0, none⟩))]) ∧ ErrAt w' f x n (.iface T (.pointer (some ⟨p, 0, none⟩)))) :
    Calls Tryz.prog 105 #[.pointer (some ⟨sb, 0, none⟩), .int .i64 cl, .int .u8 f, .slice a m c] w fun r w' => Told w f x (fun _ => False) r w' := by
  have H := hide HP
  clear HP
  go_enter_defers Tryz.func105, Tryz.ntmps105
  go_wp2_with fail
  refine (unhide H).mono ?_
  rintro r w1 ⟨hb1, n, T, p, rfl, he⟩
  have HB1 := hide (bl_trans hb1 (rule_new w1 (.cells #[.int .u8 0, .int .i64 0, .int .i64 0, .int .i64 0, .int .i64 0, .int .i64 0, .slice none 0 0, .int .i64 0, .slice none 0 0] 273)))
  have HE := hide (he.below (rule_new w1 (.cells #[.int .u8 0, .int .i64 0, .int .i64 0, .int .i64 0, .int .i64 0, .int .i64 0, .slice none 0 0, .int .i64 0, .slice none 0 0] 273)))
  clear hb1 he H
  unfold rrow
  go_wp2_with fail
  refine (wrap_some _ _ f x n _ (unhide HE)).mono ?_
  rintro r w2 ⟨v2, rfl, he2, hb2⟩
  obtain ⟨T2, p2, rfl⟩ := he2.iface
  have HE2 := hide he2
  have HB2 := hide (bl_trans (unhide HB1) hb2)
  clear he2 hb2 HE HB1
  go_wp2
  exact ⟨_, results_tmp2 rfl _ _ _, _, T2, p2, rfl, unhide HE2, Chg.of_below (unhide HB2) _⟩

set_option maxRecDepth 10000 in
set_option maxHeartbeats 4000000 in
theorem do_cerr (sb tb kb e g cl : Nat) (lm : Int) (X T : TypeId) (hi : Int) (L : List Int) (us : List Value) (u : Value) (rs : List Rule) (f : Int) (v : Value) (bs : List Int) (q : Req) (w : World) (h : Sees w sb tb kb e g cl 0 lm X T hi L q.t us u rs) 
    (hq : q.Ok) (hv : Lies w v bs) (hvb : ∀ b, v.ownBlock = some b → ∃ cs fr, w.heap[b]? = some (.cells cs 5 fr)) (hx : excL L.length rs q ≠ 0) (hqf : q.f = f) (hub : ∀ b, u.ownBlock = some b → ∃ cs fr, w.heap[b]? = some (.cells cs 52 fr))
    (HP : Calls Tryz.prog 156 #[.int .u8 f, v] w fun r w' => Below w.heap.size w w' ∧ ∃ vv ve, r = .returned (.tuple #[.agg (rrow q.f q.t q.ra q.rc q.wa q.wc vv q.keep ve), .nilIface]) ∧ LiesI w' vv q.vals ∧ Lies w' ve q.echo ∧ (∀ b, vv.ownBlock = some b → w.heap.size ≤ b) ∧ (∀ b, ve.ownBlock = some b → v.ownBlock = some b)) :
    Calls Tryz.prog 105 #[.pointer (some ⟨sb, 0, none⟩), .int .i64 cl, .int .u8 f, v] w fun r w' => Told w f (excL L.length rs q) (fun k => k = sb) r w' ∧ w'.heap[sb]? = w.heap[sb]? := by
  have HPP := hide HP
  have HS := hide h
  have HQF := hide hqf
  have HX := hide hx
  clear hqf hx
  obtain ⟨av, cv, rfl⟩ := hv.slice
  have lsb := (Array.getElem?_eq_some_iff.1 h.row).1
  have ltg := (Array.getElem?_eq_some_iff.1 h.tab.ent).1
  clear HP h
  go_enter_defers Tryz.func105, Tryz.ntmps105
  go_wp2_with fail
  refine (unhide HPP).mono ?_
  rintro r w1 ⟨hb1, vv, ve, rfl, h2, h3, h4, h5⟩
  obtain ⟨a6, c6, rfl, _⟩ := id h2
  obtain ⟨a8, c8, rfl⟩ := h3.slice
  have H2 := hide h2
  have H3 := hide h3
  have H4 := hide h4
  have H5 := hide h5
  have HB1 := hide hb1
  clear h2 h3 h4 h5 hb1 HPP
  unfold rrow
  go_wp2_with fail
  have HB2 := hide (bl_trans (unhide HB1) (rule_new w1 (.cells #[.int .u8 q.f, .int .i64 q.t, .int .i64 q.ra, .int .i64 q.rc, .int .i64 q.wa, .int .i64 q.wc, .slice a6 q.vals.length c6, .int .i64 q.keep, .slice a8 q.echo.length c8] 273)))
  have HA2 : Hid ((w1.alloc (.cells #[.int .u8 q.f, .int .i64 q.t, .int .i64 q.ra, .int .i64 q.rc, .int .i64 q.wa, .int .i64 q.wc, .slice a6 q.vals.length c6, .int .i64 q.keep, .slice a8 q.echo.length c8] 273)).heap[w1.heap.size]? = some (.cells #[.int .u8 q.f, .int .i64 q.t, .int .i64 q.ra, .int .i64 q.rc, .int .i64 q.wa, .int .i64 q.wc, .slice a6 q.vals.length c6, .int .i64 q.keep, .slice a8 q.echo.length c8] 273 (0, 0))) := heap_alloc_new w1 _
  have HV2 := hide ((unhide H2).below (rule_new w1 (.cells #[.int .u8 q.f, .int .i64 q.t, .int .i64 q.ra, .int .i64 q.rc, .int .i64 q.wa, .int .i64 q.wc, .slice a6 q.vals.length c6, .int .i64 q.keep, .slice a8 q.echo.length c8] 273)))
  have HE2 := hide ((unhide H3).below (rule_new w1 (.cells #[.int .u8 q.f, .int .i64 q.t, .int .i64 q.ra, .int .i64 q.rc, .int .i64 q.wa, .int .i64 q.wc, .slice a6 q.vals.length c6, .int .i64 q.keep, .slice a8 q.echo.length c8] 273)))
  have hrq : w.heap.size ≤ w1.heap.size := (unhide HB1).size
  generalize w1.alloc (.cells #[.int .u8 q.f, .int .i64 q.t, .int .i64 q.ra, .int .i64 q.rc, .int .i64 q.wa, .int .i64 q.wc, .slice a6 q.vals.length c6, .int .i64 q.keep, .slice a8 q.echo.length c8] 273) = w2 at HB2 HA2 HV2 HE2 ⊢
  generalize w1.heap.size = rq at HA2 hrq ⊢
  clear H2 H3 HB1
  have HS2 := hide ((unhide HS).below (unhide HB2))
  have q0 := cell_of_row _ _ 0 _ _ _ (unhide HS2).row
  have f0 := frozen_of_row _ _ 0 _ _ (unhide HS2).row
  simp [srow] at q0
  refine (lock_free Tryz.muLib ⟨sb, 0, none⟩ _ q0 f0).mono ?_
  rintro r w' ⟨rfl, rfl⟩
  have hub2 : ∀ b, u.ownBlock = some b → ∃ cs fr, w2.heap[b]? = some (.cells cs 52 fr) := fun b e => by
    obtain ⟨cs, fr, q⟩ := hub b e
    exact ⟨cs, fr, ((unhide HB2).block b (Array.getElem?_eq_some_iff.1 q).1).trans q⟩
  have HS3 := hide ((unhide HS2).lock hub2 1)
  have hc3 : Chg w2 (w2.setCell ⟨sb, 0, none⟩ (.int .i32 1)) (fun k => k = sb) := Chg.set w2 sb 0 _
  have HC3 := hide ((Chg.of_below (unhide HB2) (fun k => k = sb)).trans hc3 (fun _ e _ => e))
  have HA3 := hide ((hc3.block rq (Array.getElem?_eq_some_iff.1 (unhide HA2)).1 (fun e => by have e' : rq = sb := e; omega)).trans (unhide HA2))
  have HV3 := hide (lies_chgI (unhide HV2) hc3 (fun b e e2 => by have := unhide H4 b e; have e3 : b = sb := e2; omega))
  have nve : ∀ b, (Value.slice a8 q.echo.length c8).ownBlock = some b → b ≠ sb ∧ b ≠ g := fun b e => by
    obtain ⟨cs, fr, qq⟩ := hvb b (unhide H5 b e)
    exact ⟨rows_ne qq (unhide HS).row (by decide), rows_ne qq (unhide HS).tab.ent (by decide)⟩
  have HE3 := hide ((unhide HE2).chg hc3 (fun b e => (nve b e).1))
  clear hub2 hc3 q0 f0 HV2 HE2 HA2 HS2 H4 H5
  generalize w2.setCell ⟨sb, 0, none⟩ (.int .i32 1) = w3 at HS3 HC3 HA3 HV3 HE3 ⊢
  clear HB2
  have HCk := hide (check_any sb tb kb e g cl 1 lm X T hi L us u rs q (.slice a6 q.vals.length c6) (.slice a8 q.echo.length c8) w3 (unhide HS3) hq)
  unfold rrow at HCk
  have z0 := cell_of_row _ _ 0 _ _ _ (unhide HA3)
  have z1 := cell_of_row _ _ 1 _ _ _ (unhide HA3)
  have z2 := cell_of_row _ _ 2 _ _ _ (unhide HA3)
  have z3 := cell_of_row _ _ 3 _ _ _ (unhide HA3)
  have z4 := cell_of_row _ _ 4 _ _ _ (unhide HA3)
  have z5 := cell_of_row _ _ 5 _ _ _ (unhide HA3)
  have z6 := cell_of_row _ _ 6 _ _ _ (unhide HA3)
  have z7 := cell_of_row _ _ 7 _ _ _ (unhide HA3)
  have z8 := cell_of_row _ _ 8 _ _ _ (unhide HA3)
  simp at z0 z1 z2 z3 z4 z5 z6 z7 z8
  go_wp2_with fail
  refine (unhide HCk).mono ?_
  rintro r w4 ⟨hb4, hr4⟩
  rw [if_neg (unhide HX)] at hr4
  obtain ⟨n4, T4, p4, rfl, he4⟩ := hr4
  have HE4 := hide he4
  have HC4 := hide ((unhide HC3).trans (Chg.of_below hb4 (fun _ => False)) (fun _ e _ => e.elim))
  have HS4 := hide ((hb4.block sb (Array.getElem?_eq_some_iff.1 (unhide HS3).row).1).trans (unhide HS3).row)
  have HA4 := hide ((hb4.block rq (Array.getElem?_eq_some_iff.1 (unhide HA3)).1).trans (unhide HA3))
  have ht3 : q.t ≤ 5 := by have := (unhide HS3).t4; omega
  clear hb4 he4 HCk z0 z1 z2 z3 z4 z5 z6 z7 z8 HC3 HA3 HV3 HE3
  have z1 := cell_of_row _ _ 1 _ _ _ (unhide HA4)
  simp at z1
  go_wp2_with fail
  refine (itoa_any q.t ht3 w4).mono ?_
  rintro r w5 ⟨s5, rfl, hs5, hb5⟩
  have hs5' : ¬ 9223372036854775807 < 6 + s5.size := by omega
  have HE5 := hide ((unhide HE4).below hb5)
  have HC5 := hide ((unhide HC4).trans (Chg.of_below hb5 (fun _ => False)) (fun _ e _ => e.elim))
  have HS5 := hide ((hb5.block sb (Array.getElem?_eq_some_iff.1 (unhide HS4)).1).trans (unhide HS4))
  clear hb5 HE4 HC4 HS4 HA4 z1
  go_wp2_with fail
  refine (wrap_some _ _ q.f _ n4 w5 (unhide HE5)).mono ?_
  rintro r w6 ⟨v6, rfl, he6, hb6⟩
  obtain ⟨T6, p6, rfl⟩ := he6.iface
  have HE6 := hide he6
  have HC6 := hide ((unhide HC5).trans (Chg.of_below hb6 (fun _ => False)) (fun _ e _ => e.elim))
  have hS6 := (hb6.block sb (Array.getElem?_eq_some_iff.1 (unhide HS5)).1).trans (unhide HS5)
  have lk := cell_of_row _ _ 0 _ _ _ hS6
  have fk := frozen_of_row _ _ 0 _ _ hS6
  simp [srow] at lk
  have HS6 := hide hS6
  clear he6 hb6 hS6 HE5 HC5 HS5
  go_wp2_with fail
  refine leaves_cons (f := 65) (args := #[.pointer (some ⟨sb, 0, none⟩)]) (by simp) (by simp [go_sem]) ?_
  refine (unlock_deferred Tryz.muLib ⟨sb, 0, none⟩ .returning _ lk fk).mono ?_
  rintro r u' w'' ⟨rfl, rfl, rfl⟩
  have cS : Chg w6 (w6.setCell ⟨sb, 0, none⟩ (.int .i32 0)) (fun k => k = sb) := Chg.set w6 sb 0 _
  refine ⟨_, results_tmp2 rfl _ _ _, ⟨n4 + 1, T6, p6, rfl, ?_, (unhide HC6).trans cS (fun _ e _ => e)⟩, (srow_set (unhide HS6)).trans (unhide HS).row.symm⟩
  rw [← unhide HQF]
  refine ErrAt.chg cS (fun k cs T fr hk hT e => ?_) (unhide HE6)
  have e2 : k = sb := e
  rcases hT with rfl | rfl
  · exact rows_ne hk (unhide HS6) (by decide) e2
  · exact rows_ne hk (unhide HS6) (by decide) e2
end Go.Proofs.YtfekelmldebplaaGreatDoor

namespace Go.Proofs.YtfekelmldebplaaGreatDoor
open Go.RowKit Go.MuLone

set_option maxRecDepth 10000 in
set_option maxHeartbeats 2000000 in
theorem Do_err (sb cl : Nat) (hcl : cl ≤ 5) (f x : Int) (a : Option Addr) (m c : Nat) (w : World) (D : Nat → Prop) (Q : World → Prop) (hQ : ∀ w1 w2, Q w1 → Below w1.heap.size w1 w2 → Q w2)
    (HD : Calls Tryz.prog 105 #[.pointer (some ⟨sb, 0, none⟩), .int .i64 (cl : Int), .int .u8 f, .slice a m c] w fun r w' => Told w f x D r w' ∧ Q w') :
    Calls Tryz.prog 67 #[.pointer (some ⟨sb, 0, none⟩), .int .i64 (cl : Int), .int .u8 f, .slice a m c] w fun r w' => Told w f x D r w' ∧ Q w' := by
  have H := hide HD
  have HQQ := hide hQ
  clear HD hQ
  go_enter Tryz.func67, Tryz.ntmps67
  go_wp2_with fail
  refine (unhide H).mono ?_
  rintro r w1 ⟨⟨n, T, p, rfl, he, hc⟩, hq⟩
  have HE := hide he
  have HC := hide hc
  have HQ := hide hq
  clear he hc hq H
  go_wp2_with fail
  refine (itoa_any cl hcl w1).mono ?_
  rintro r w2 ⟨s2, rfl, hs2, hb2⟩
  have hs2' : ¬ 9223372036854775807 < 7 + s2.size := by omega
  have HE2 := hide ((unhide HE).below hb2)
  have HB2 := hide hb2
  clear hb2 HE
  go_wp2_with fail
  refine (wrap_some _ _ f x n w2 (unhide HE2)).mono ?_
  rintro r w3 ⟨v3, rfl, he3, hb3⟩
  obtain ⟨T3, p3, rfl⟩ := he3.iface
  have HE3 := hide he3
  have HB3 := hide (bl_trans (unhide HB2) hb3)
  clear he3 hb3 HE2
  go_wp2
  exact bodyPost_ret (by simp [results, Tryz.results67]) rfl ⟨⟨n + 1, T3, p3, rfl, unhide HE3, (unhide HC).trans (Chg.of_below (unhide HB3) (fun _ => False)) (fun _ e _ => e.elim)⟩, unhide HQQ _ _ (unhide HQ) (unhide HB3)⟩

set_option maxRecDepth 10000 in
set_option maxHeartbeats 2000000 in
theorem Do_okc (sb cl : Nat) (hcl : cl ≤ 5) (f : Int) (v : Value) (w : World) (hv : ∃ a n c, v = .slice a n c) (Q : World → Value → Prop)
    (HD : Calls Tryz.prog 105 #[.pointer (some ⟨sb, 0, none⟩), .int .i64 (cl : Int), .int .u8 f, v] w fun r w' => ∃ a n c, r = .returned (.tuple #[.slice a n c, .nilIface]) ∧ Q w' (.slice a n c) ∧ (∀ k, v.ownBlock = some k → k < w'.heap.size ∧ w'.heap[k]? = w.heap[k]?)) :
    Calls Tryz.prog 67 #[.pointer (some ⟨sb, 0, none⟩), .int .i64 (cl : Int), .int .u8 f, v] w fun r w' => ∃ a n c w1, r = .returned (.tuple #[.slice a n c, .nilIface]) ∧ Q w1 (.slice a n c) ∧ Below w1.heap.size w1 w' ∧ ∀ k, v.ownBlock = some k → w'.heap[k]? = w.heap[k]? := by
  have H := hide HD
  clear HD
  obtain ⟨a, n, c, rfl⟩ := hv
  go_enter Tryz.func67, Tryz.ntmps67
  go_wp2_with fail
  refine (unhide H).mono ?_
  rintro r w1 ⟨a1, n1, c1, rfl, hq, hk⟩
  have HQ := hide hq
  have HKK := hide hk
  clear hq H hk
  go_wp2_with fail
  refine (itoa_any cl hcl w1).mono ?_
  rintro r w2 ⟨s2, rfl, hs2, hb2⟩
  have hs2' : ¬ 9223372036854775807 < 7 + s2.size := by omega
  go_wp2_with fail
  refine (wrap_nil _ w2).mono ?_
  rintro r w3 ⟨rfl, hb3⟩
  have HB := hide (bl_trans hb2 hb3)
  clear hb2 hb3
  go_wp2
  exact bodyPost_ret (by simp [results, Tryz.results67]) rfl ⟨a1, n1, c1, w1, rfl, unhide HQ, unhide HB, fun k e => ((unhide HB).block k (unhide HKK k e).1).trans (unhide HKK k e).2⟩

/-- The bytes of an exception. -/
def excB (f x : Int) : List Int := [bits BinOp.or IntKind.u8 f 128, x]
set_option maxRecDepth 10000 in
set_option maxHeartbeats 1000000 in
theorem refusalAnswer_any (r : Nat) (f x : Int) (w : World) (h : w.heap[r]? = some (.cells #[.int .u8 f, .int .u8 x] 216 (0, 0))) :
    Calls Tryz.prog 69 #[.pointer (some ⟨r, 0, none⟩)] w fun e w' => ∃ a n c, e = .returned (.slice a n c) ∧ Owns w' w.heap.size (.slice a n c) (excB f x) ∧ Below w.heap.size w w' := by
  have q0 := cell_of_row _ _ 0 _ _ _ h
  have q1 := cell_of_row _ _ 1 _ _ _ h
  simp at q0 q1
  clear h
  go_enter Tryz.func69, Tryz.ntmps69
  go_wp2
  go_region
  go_wp2
  go_ret
  have hb := (Below.refl w.heap.size w).drew
  refine ⟨_, _, _, rfl, ?_, bl_trans hb (rule_new w.drew (.cells #[.int .u8 (bits BinOp.or IntKind.u8 f 128), .int .u8 x] 5))⟩
  refine ⟨by simp [excB], .inr ⟨w.heap.size, 2, #[.int .u8 (bits BinOp.or IntKind.u8 f 128), .int .u8 x], rfl, Nat.le_refl _, heap_alloc_new w.drew _, Nat.le_refl _, by unfold maxLen; omega, rfl, rfl⟩⟩

theorem below_made {w W W' : World} {D : Nat → Prop} (hb : Below w.heap.size w W) (hc : Chg W W' D) (hD : ∀ k, D k → w.heap.size ≤ k) : Below w.heap.size w W' :=
  ⟨hc.os.trans hb.os, hc.tape.trans hb.tape, hc.output.trans hb.output, Nat.le_trans hb.size hc.size, fun k p => (hc.block k (Nat.lt_of_lt_of_le p hb.size) (fun e => by have := hD k e; omega)).trans (hb.block k p)⟩

set_option maxRecDepth 10000 in
set_option maxHeartbeats 1000000 in
theorem relayans_err (rb sb cl : Nat) (f x : Int) (v : Value) (bs : List Int) (w : World) (D : Nat → Prop) (Q : World → Prop) (hrow : w.heap[rb]? = some (.cells #[.pointer (some ⟨sb, 0, none⟩)] 106 (0, 0))) (hv : Lies w v (f :: bs)) (hg : ErrVar w) (hD0 : ¬ D 0) (hDk : ∀ k cs fr, w.heap[k]? = some (.cells cs 5 fr) → ¬ D k) (hvb : ∀ b, v.ownBlock = some b → ∃ cs fr, w.heap[b]? = some (.cells cs 5 fr)) (hQ : ∀ w1 w2, Q w1 → Below w1.heap.size w1 w2 → Q w2)
    (HD : ∀ w1 a m c, Below w.heap.size w w1 → Lies w1 (.slice a m c) bs → (∀ b, (Value.slice a m c).ownBlock = some b → v.ownBlock = some b) → Calls Tryz.prog 67 #[.pointer (some ⟨sb, 0, none⟩), .int .i64 (cl : Int), .int .u8 f, .slice a m c] w1 fun r w' => Told w1 f x D r w' ∧ Q w') :
    Calls Tryz.prog 46 #[.pointer (some ⟨rb, 0, none⟩), .int .i64 (cl : Int), v] w fun r w' => ∃ a n c, r = .returned (.slice a n c) ∧ Owns w' w.heap.size (.slice a n c) (excB f x) ∧ Chg w w' D ∧ Q w' := by
  obtain ⟨b, o, c1, rfl, hlc, hbl, hcc⟩ := hv.shape (by simp)
  have hx0 := hcc 0 (by simp)
  rw [Nat.add_zero] at hx0
  simp at hx0
  have hl1 : (f :: bs).length = bs.length + 1 := by simp
  rw [hl1] at hv hlc hvb ⊢
  have HLi := hide hv
  have HD' := hide HD
  have HK := hide (kept_any rb sb)
  have HR := hide hrow
  have HV := hide hvb
  have HQQ := hide hQ
  have HG := hide hg
  have HDK := hide hDk
  have hrbl := (Array.getElem?_eq_some_iff.1 hrow).1
  clear hrow HD hv hcc hl1 hvb hQ hg hDk
  have hlc' : (bs.length : Int) + 1 ≤ (c1 : Int) := by omega
  have hl1' : (1 : Int) ≤ (bs.length : Int) + 1 := by omega
  obtain ⟨cs0, fr0, hb5⟩ := unhide HV b rfl
  have hnD : ¬ D b := unhide HDK b _ _ hb5
  have HKd : Hid (Calls Tryz.prog 42 #[.pointer (some ⟨rb, 0, none⟩)] w.drew fun e w' => e = .returned (.pointer (some ⟨sb, 0, none⟩)) ∧ Below w.heap.size w w') := by
    refine (unhide HK w.drew (unhide HR)).mono ?_
    rintro r w' ⟨rfl, h3⟩
    exact ⟨rfl, ⟨h3.os, h3.tape, h3.output, h3.size, h3.block⟩⟩
  have HZ3 : Hid (∀ w3, Below w.heap.size w w3 → w3.cell? ⟨b, o, none⟩ = some (.int .u8 f)) := fun w3 h => (h.cell (by exact hbl)).trans hx0
  have HZ4 : Hid (∀ w3 w4 : World, Below w.heap.size w w3 → Chg w3 w4 D → w4.cell? ⟨b, o, none⟩ = some (.int .u8 f)) := fun w3 w4 h h2 => (World.cell?_of_block (h2.block b (Nat.lt_of_lt_of_le hbl h.size) hnD)).trans (unhide HZ3 w3 h)
  have hv1 : ∃ ao co, Hid (∀ w3, Below w.heap.size w w3 → Calls Tryz.prog 67 #[.pointer (some ⟨sb, 0, none⟩), .int .i64 (cl : Int), .int .u8 f, .slice ao bs.length co] w3 fun r w' => Told w3 f x D r w' ∧ Q w') ∧ ((c1 = 1 ∧ bs.length = 0 ∧ ao = some ⟨b, o, none⟩ ∧ co = 0) ∨ (1 < c1 ∧ ao = some ⟨b, o + 1, none⟩ ∧ co = c1 - 1)) := by
    by_cases hc : c1 = 1
    · have hb0 : bs = [] := List.eq_nil_of_length_eq_zero (by omega)
      refine ⟨some ⟨b, o, none⟩, 0, fun w3 hb3 => ?_, .inl ⟨hc, by omega, rfl, rfl⟩⟩
      subst hb0
      exact unhide HD' w3 _ _ _ hb3 (.inl ⟨_, _, rfl, rfl⟩) (fun b' e => e)
    · refine ⟨some ⟨b, o + 1, none⟩, c1 - 1, fun w3 hb3 => ?_, .inr ⟨by omega, rfl, rfl⟩⟩
      have hl := lies_drop (n := 1) (bs := f :: bs) (o := o) (c := c1) ((unhide HLi).below hb3) (by simp) (by omega)
      simp at hl
      exact unhide HD' w3 _ _ _ hb3 hl (fun b' e => e)
  obtain ⟨ao, co, HDo, hcase⟩ := hv1
  clear HD' HLi HV HK
  rcases hcase with ⟨rfl, hb0, rfl, rfl⟩ | ⟨h1c, rfl, rfl⟩
  · obtain rfl : bs = [] := List.eq_nil_of_length_eq_zero hb0
    have HDo' : Hid (∀ w3, Below w.heap.size w w3 → Calls Tryz.prog 67 #[.pointer (some ⟨sb, 0, none⟩), .int .i64 (cl : Int), .int .u8 f, .slice (some ⟨b, o, none⟩) 0 0] w3 fun r w' => Told w3 f x D r w' ∧ Q w') := HDo
    clear HDo hb0 hlc' hl1' hlc
    rw [show ([] : List Int).length + 1 = 1 from rfl]
    go_enter Tryz.func46, Tryz.ntmps46
    go_wp2_with fail
    go_region_held3 (fun w' => w'.cell? ⟨b, o, none⟩ = some (.int .u8 f))
      (first
        | exact hx0
        | exact unhide HZ3 _ (by assumption)
        | exact unhide HZ4 _ _ (by assumption) (by assumption))
      (first
        | (go_at_call 42; refine (unhide HKd).mono ?_; rintro r w3 ⟨rfl, hb3⟩)
        | (go_at_call 67; refine (unhide HDo' _ (by assumption)).mono ?_; rintro r w4 ⟨⟨n4, T4, p4, rfl, he4, hc4⟩, hq4⟩)
        | fail)
    all_goals
      have hlt3 := hb3.size
      have hg4 : ErrVar w4 := (World.cell?_of_block (hc4.block 0 (World.block_lt_of_cell? w3 _ ((unhide HG).below hb3)) hD0)).trans ((unhide HG).below hb3)
      have HG4 := hide hg4
      have HE4 := hide he4
      have HC4 := hide ((Chg.of_below hb3 D).trans hc4 (fun _ e _ => e))
      have HQ4 := hide hq4
      clear hg4 he4 hc4 hq4 hb3
      have hbn := rule_new w4 (.cells #[.pointer none] 154)
      have hAs := As_find n4 _ f x w4.heap.size (.pointer none) _ ((unhide HE4).below hbn) (heap_alloc_new w4 _) ((unhide HG4).below hbn)
      have HAs := hide hAs
      have HBn := hide hbn
      clear hAs hbn
      go_wp2_with fail
      refine (unhide HAs).mono ?_
      rintro r w5 ⟨rfl, rr, h51, h52, h53⟩
      have hcr := cell_of_row _ _ 0 _ _ _ h51
      simp at hcr
      have HAn := hide (refusalAnswer_any rr f x w5 h52)
      have HB5 := hide (below_made (unhide HBn) h53 (fun k e => by have e2 : k = w4.heap.size := e; omega))
      clear h51 h52 h53 HAs
      go_wp2_with fail
      refine (unhide HAn).mono ?_
      rintro r w6 ⟨a6, n6, c6, rfl, ho6, hb6⟩
      have HO6 := hide ho6
      have HB6 := hide (bl_trans (unhide HB5) hb6)
      have hz5 := (unhide HB5).size
      have hz4 := (unhide HC4).size
      clear ho6 hb6 HAn
      go_wp2
      go_ret
      exact ⟨a6, n6, c6, rfl, (unhide HO6).weak (by omega), (unhide HC4).trans (Chg.of_below (unhide HB6) (fun _ => False)) (fun _ e _ => e.elim), unhide HQQ _ _ (unhide HQ4) (unhide HB6)⟩
  · have h1c' : (1 : Int) < (c1 : Int) := by omega
    go_enter Tryz.func46, Tryz.ntmps46
    go_wp2_with fail
    go_region_held3 (fun w' => w'.cell? ⟨b, o, none⟩ = some (.int .u8 f))
      (first
        | exact hx0
        | exact unhide HZ3 _ (by assumption)
        | exact unhide HZ4 _ _ (by assumption) (by assumption))
      (first
        | (go_at_call 42; refine (unhide HKd).mono ?_; rintro r w3 ⟨rfl, hb3⟩)
        | (go_at_call 67; refine (unhide HDo _ (by assumption)).mono ?_; rintro r w4 ⟨⟨n4, T4, p4, rfl, he4, hc4⟩, hq4⟩)
        | fail)
    all_goals
      have hlt3 := hb3.size
      have hg4 : ErrVar w4 := (World.cell?_of_block (hc4.block 0 (World.block_lt_of_cell? w3 _ ((unhide HG).below hb3)) hD0)).trans ((unhide HG).below hb3)
      have HG4 := hide hg4
      have HE4 := hide he4
      have HC4 := hide ((Chg.of_below hb3 D).trans hc4 (fun _ e _ => e))
      have HQ4 := hide hq4
      clear hg4 he4 hc4 hq4 hb3
      have hbn := rule_new w4 (.cells #[.pointer none] 154)
      have hAs := As_find n4 _ f x w4.heap.size (.pointer none) _ ((unhide HE4).below hbn) (heap_alloc_new w4 _) ((unhide HG4).below hbn)
      have HAs := hide hAs
      have HBn := hide hbn
      clear hAs hbn
      go_wp2_with fail
      refine (unhide HAs).mono ?_
      rintro r w5 ⟨rfl, rr, h51, h52, h53⟩
      have hcr := cell_of_row _ _ 0 _ _ _ h51
      simp at hcr
      have HAn := hide (refusalAnswer_any rr f x w5 h52)
      have HB5 := hide (below_made (unhide HBn) h53 (fun k e => by have e2 : k = w4.heap.size := e; omega))
      clear h51 h52 h53 HAs
      go_wp2_with fail
      refine (unhide HAn).mono ?_
      rintro r w6 ⟨a6, n6, c6, rfl, ho6, hb6⟩
      have HO6 := hide ho6
      have HB6 := hide (bl_trans (unhide HB5) hb6)
      have hz5 := (unhide HB5).size
      have hz4 := (unhide HC4).size
      clear ho6 hb6 HAn
      go_wp2
      go_ret
      exact ⟨a6, n6, c6, rfl, (unhide HO6).weak (by omega), (unhide HC4).trans (Chg.of_below (unhide HB6) (fun _ => False)) (fun _ e _ => e.elim), unhide HQQ _ _ (unhide HQ4) (unhide HB6)⟩
end Go.Proofs.YtfekelmldebplaaGreatDoor

namespace Go.Proofs.YtfekelmldebplaaGreatDoor
open Go.RowKit Go.MuLone

/-- What a request comes to: the exception, or what is to be done. -/
def judge (t : T4) (rs : List Rule) (f : Int) (bs : List Int) : Int ⊕ Req := match parseL f bs with
  | .inl x => .inl x
  | .inr q => if excL (t.at q.t).L.length rs q = 0 then .inr q else .inl (excL (t.at q.t).L.length rs q)

theorem parseL_f (f : Int) (bs : List Int) (q : Req) (h : parseL f bs = .inr q) : q.f = f := by
  have hR : ∀ t m, parseRead f bs t m = .inr q → q.f = f := fun t m h => by
    unfold parseRead at h
    split at h
    · cases h; rfl
    · cases h
  have h5 : parse5 f bs = .inr q → q.f = f := fun h => by
    unfold parse5 at h
    split at h
    · cases h; rfl
    · cases h
  have h6 : parse6 f bs = .inr q → q.f = f := fun h => by
    unfold parse6 at h
    split at h
    · cases h; rfl
    · cases h
  have h15 : parse15 f bs = .inr q → q.f = f := fun h => by
    unfold parse15 at h
    split at h
    · cases h; rfl
    · cases h
  have h16 : parse16 f bs = .inr q → q.f = f := fun h => by
    unfold parse16 at h
    split at h
    · cases h; rfl
    · cases h
  have h22 : parse22 f bs = .inr q → q.f = f := fun h => by
    unfold parse22 at h
    split at h
    · cases h; rfl
    · cases h
  have h23 : parse23 f bs = .inr q → q.f = f := fun h => by
    unfold parse23 at h
    split at h
    · cases h; rfl
    · cases h
  unfold parseL at h
  split at h
  · exact hR _ _ h
  split at h
  · exact hR _ _ h
  split at h
  · exact hR _ _ h
  split at h
  · exact hR _ _ h
  split at h
  · exact h5 h
  split at h
  · exact h6 h
  split at h
  · exact h15 h
  split at h
  · exact h16 h
  split at h
  · exact h22 h
  split at h
  · exact h23 h
  · cases h
/-- What Answer leaves of a request that is not done. -/
def Denied (w : World) (B rb sb tb kb : Nat) (t : T4) (LL : List (List Rule)) (us : List Value) (f x : Int) (r : Ending) (w' : World) : Prop :=
  ∃ a n c, r = .returned (.tuple #[.slice a n c, .int .i64 0]) ∧ Owns w' w.heap.size (.slice a n c) (excB f x) ∧ BankAt w' B rb sb tb kb t LL us ∧ Chg w w' (fun k => k = sb)

set_option maxHeartbeats 1000000 in
theorem answer_err (B rb sb tb kb : Nat) (t : T4) (LL : List (List Rule)) (us : List Value) (cl : Nat) (rs : List Rule) (u : Value) (f x : Int) (v : Value) (bs : List Int) (w : World) (h : BankAt w B rb sb tb kb t LL us) (hcl : cl ≤ 5) (h1 : LL[cl]? = some rs) (h2 : us[cl]? = some u) (h8 : rs.length ≤ 8)
    (hv : Lies w v (f :: bs)) (hvb : ∀ b, v.ownBlock = some b → ∃ cs fr, w.heap[b]? = some (.cells cs 5 fr)) (hlen : bs.length ≤ 252) (hbs : Bys bs) (hj : judge t rs f bs = .inl x) (hg : ErrVar w) (hB : 0 < B)
    (HPf : ∀ rp v W, QNew W rp f → Lies W v bs → (∀ b, v.ownBlock = some b → b ≠ rp) → Calls Tryz.prog 188 #[.pointer (some ⟨rp, 0, none⟩), v] W fun e w' => PPost W rp f v (parseL f bs) e w') :
    Calls Tryz.prog 28 #[.pointer (some ⟨rb, 0, none⟩), .int .i64 (cl : Int), v] w fun r w' => Denied w B rb sb tb kb t LL us f x r w' := by
  have hn : cl < LL.length := (List.getElem?_eq_some_iff.1 h1).1
  have lsb := (Array.getElem?_eq_some_iff.1 h.st.row).1
  have hc3 := cell_of_row _ _ 3 _ _ _ h.st.row
  simp at hc3
  have hlo := h.st.lo
  refine (relayAnswer_go rb sb cl v (f :: bs) _ _ _ w h.row hc3 lsb hn hv.slice (by simp) (by simp; omega) (fun w1 w' y => Owns w' w1.heap.size y (excB f x) ∧ Chg w1 w' (fun k => k = sb) ∧ w'.heap[sb]? = w.heap[sb]?) ?_).mono ?_
  · intro w1 hb1
    have hB1 := h.below hb1
    have hvb1 : ∀ b, v.ownBlock = some b → ∃ cs fr, w1.heap[b]? = some (.cells cs 5 fr) := fun b e => by
      obtain ⟨cs, fr, qq⟩ := hvb b e
      exact ⟨cs, fr, (hb1.block b (Array.getElem?_eq_some_iff.1 qq).1).trans qq⟩
    refine (relayans_err rb sb cl f x v bs w1 (fun k => k = sb) (fun w' => w'.heap[sb]? = w.heap[sb]?) hB1.row (hv.below hb1) (hg.below hb1) (fun e => by have e2 : 0 = sb := e; omega) (fun k cs fr q e => rows_ne q hB1.st.row (by decide) e) hvb1 (fun a b q hb => by
      have hla : sb < a.heap.size := by
        have := q.trans h.st.row
        exact (Array.getElem?_eq_some_iff.1 this).1
      exact (hb.block sb hla).trans q) ?_).mono ?_
    · intro w2 a m c hb2 hl2 hob
      have hB2 := hB1.below hb2
      have hvb2 : ∀ b, (Value.slice a m c).ownBlock = some b → ∃ cs fr, w2.heap[b]? = some (.cells cs 5 fr) := fun b e => by
        obtain ⟨cs, fr, qq⟩ := hvb1 b (hob b e)
        exact ⟨cs, fr, (hb2.block b (Array.getElem?_eq_some_iff.1 qq).1).trans qq⟩
      have hs2 : w2.heap[sb]? = w.heap[sb]? := hB2.st.row.trans h.st.row.symm
      refine Do_err sb cl hcl f x a m c w2 _ _ (fun a b q hb => by
        have hla : sb < a.heap.size := (Array.getElem?_eq_some_iff.1 (q.trans h.st.row)).1
        exact (hb.block sb hla).trans q) ?_
      have hpar := parseP2_any f (.slice a m c) bs w2 hl2 (fun b e => by obtain ⟨cs, fr, qq⟩ := hvb2 b e; exact (Array.getElem?_eq_some_iff.1 qq).1) (fun rp W x y z => HPf rp _ W x y z)
      unfold judge at hj
      cases hpp : parseL f bs with
      | inl x' =>
        rw [hpp] at hj hpar
        obtain rfl : x' = x := by simpa using hj
        refine (do_perr sb (cl : Int) f x' a m c w2 (hpar.mono (fun r w' hh => hh))).mono ?_
        rintro r w' ⟨n, T, p, rfl, he, hc⟩
        exact ⟨⟨n, T, p, rfl, he, hc.mono (fun _ _ e => e.elim)⟩, (hc.block sb (Array.getElem?_eq_some_iff.1 hB2.st.row).1 (fun e => e)).trans hs2⟩
      | inr q =>
        rw [hpp] at hj hpar
        have hq := parseL_ok f bs hbs hlen q hpp
        have hqf : q.f = f := parseL_f f bs q hpp
        have hS2 := hB2.sees q.t cl hq.t rs u h1 h2 h8
        have hub : ∀ b, u.ownBlock = some b → ∃ cs fr, w2.heap[b]? = some (.cells cs 52 fr) := fun b e => ((hB2.st.cl.at_ cl rs u h1 h2).2 b e).2
        have hex : excL (t.at q.t).L.length rs q ≠ 0 ∧ excL (t.at q.t).L.length rs q = x := by
          by_cases e : excL (t.at q.t).L.length rs q = 0
          · simp [e] at hj
          · simp [e] at hj
            exact ⟨e, hj⟩
        refine (do_cerr sb tb kb _ _ cl t.lim _ _ _ _ us u rs f (.slice a m c) bs q w2 hS2 hq hl2 hvb2 hex.1 hqf hub (hpar.mono (fun r w' hh => hh))).mono ?_
        rintro r w' ⟨ht, hs⟩
        rw [hex.2] at ht
        exact ⟨ht, hs.trans hs2⟩
    · rintro r w' ⟨a, n, c, rfl, ho, hc, hq⟩
      exact ⟨a, n, c, rfl, ho, hc, hq⟩
  · rintro r w' ⟨a, n, c, w1, rfl, hb1, ho, hc, hs⟩
    have C : Chg w w' (fun k => k = sb) := (Chg.of_below hb1 (fun k => k = sb)).trans hc (fun _ e _ => e)
    refine ⟨a, n, c, rfl, ho.weak hb1.size, ?_, C⟩
    have := h.put 0 (by omega) (C.mono (E := fun k => k = sb ∨ k = (t.at 0).g) (fun _ _ e => .inl e)) hs ((h.tab 0 (by omega)).2.1.chg C (rows_ne (h.tab 0 (by omega)).2.1.row h.st.row (by decide)) (rows_ne (h.tab 0 (by omega)).2.1.ent h.st.row (by decide)))
    rw [put_same t 0 (by omega)] at this
    exact this
end Go.Proofs.YtfekelmldebplaaGreatDoor

namespace Go.Proofs.YtfekelmldebplaaGreatDoor
open Go.RowKit Go.MuLone

set_option maxHeartbeats 1000000 in
theorem answer_okc (B rb sb tb kb : Nat) (t : T4) (LL : List (List Rule)) (us : List Value) (cl : Nat) (hcl : cl ≤ 5) (rs : List Rule) (u : Value) (f : Int) (v : Value) (bs : List Int) (q : Req) (w : World) (h : BankAt w B rb sb tb kb t LL us) (h1 : LL[cl]? = some rs) (h2 : us[cl]? = some u) (h8 : rs.length ≤ 8)
    (hv : Lies w v (f :: bs)) (hvb : ∀ b, v.ownBlock = some b → ∃ cs fr, w.heap[b]? = some (.cells cs 5 fr)) (hb0 : bs ≠ []) (hlen : bs.length ≤ 252) (hbs : Bys bs)
    (hp : parseL f bs = .inr q) (hx : excL (t.at q.t).L.length rs q = 0) (hL : ∀ x ∈ (t.at q.t).L, 0 ≤ x ∧ x ≤ topOf q.t)
    (HPf : ∀ rp v W, QNew W rp f → Lies W v bs → (∀ b, v.ownBlock = some b → b ≠ rp) → Calls Tryz.prog 188 #[.pointer (some ⟨rp, 0, none⟩), v] W fun e w' => PPost W rp f v (parseL f bs) e w') :
    Calls Tryz.prog 28 #[.pointer (some ⟨rb, 0, none⟩), .int .i64 (cl : Int), v] w fun r w' => Answered w B rb sb tb kb t LL us q r w' := by
  have hq := parseL_ok f bs hbs hlen q hp
  have hq2 := parseL_ok2 f bs q hp
  have hi := hq.t
  have hn : cl < LL.length := (List.getElem?_eq_some_iff.1 h1).1
  have lsb := (Array.getElem?_eq_some_iff.1 h.st.row).1
  have hc3 := cell_of_row _ _ 3 _ _ _ h.st.row
  simp at hc3
  have hk : (ifOf q.t = 221 ∧ q.t ≤ 1) ∨ (ifOf q.t = 223 ∧ 1 < q.t) := by
    unfold ifOf
    split
    · exact .inl ⟨rfl, by omega⟩
    · exact .inr ⟨rfl, by omega⟩
  have hS0 := h.sees q.t cl hi rs u h1 h2 h8
  refine (relayAnswer_ok rb sb cl f v bs _ _ _ w h.row hc3 lsb hn hv hb0 hlen (fun w1 w2 x => (w2.heap[sb]? = w1.heap[sb]?) ∧ TabAt w2 (t.at q.t).e (t.at q.t).g (tyOf q.t) (hiOf q.t) (carryL (t.at q.t).L q) ∧ Chg w1 w2 (fun k => k = sb ∨ k = (t.at q.t).g) ∧ Owns w2 w1.heap.size x (toldL q (packT q.t (spanL (carryL (t.at q.t).L q) q.ra q.rc)))) ?_).mono ?_
  · intro w1 v1 hb hl ho
    have hS1 := hS0.below hb
    have hvb1 : ∀ b, v1.ownBlock = some b → ∃ cs fr, w1.heap[b]? = some (.cells cs 5 fr) := fun b e => by
      obtain ⟨cs, fr, qq⟩ := hvb b (ho ▸ e)
      exact ⟨cs, fr, (hb.block b (Array.getElem?_eq_some_iff.1 qq).1).trans qq⟩
    have hub : ∀ b, u.ownBlock = some b → ∃ cs fr, w1.heap[b]? = some (.cells cs 52 fr) := fun b e => by
      obtain ⟨cs, fr, qq⟩ := ((h.st.cl.at_ cl rs u h1 h2).2 b e).2
      exact ⟨cs, fr, (hb.block b (Array.getElem?_eq_some_iff.1 qq).1).trans qq⟩
    have hpar : Calls Tryz.prog 156 #[.int .u8 f, v1] w1 fun r w' => Below w1.heap.size w1 w' ∧ ∃ vv ve, r = .returned (.tuple #[.agg (rrow q.f q.t q.ra q.rc q.wa q.wc vv q.keep ve), .nilIface]) ∧ LiesI w' vv q.vals ∧ Lies w' ve q.echo ∧ (∀ b, vv.ownBlock = some b → w1.heap.size ≤ b) ∧ (∀ b, ve.ownBlock = some b → v1.ownBlock = some b) := by
      refine (parseP2_any f v1 bs w1 hl (fun b e => by obtain ⟨cs, fr, qq⟩ := hvb1 b e; exact (Array.getElem?_eq_some_iff.1 qq).1) (fun rp W a b c => HPf rp v1 W a b c)).mono ?_
      rintro r w' ⟨hb', hm⟩
      rw [hp] at hm
      exact ⟨hb', hm⟩
    have hd := do_ok sb tb kb _ _ cl t.lim _ _ _ _ us u rs f v1 bs q w1 hS1 hk hL hq hq2 hl hvb1 hx hub hpar
    obtain ⟨a1, c1, e1⟩ := hl.slice
    refine (Do_okc sb cl hcl f v1 w1 ⟨_, _, _, e1⟩ (fun w2 x => (w2.heap[sb]? = w1.heap[sb]?) ∧ TabAt w2 (t.at q.t).e (t.at q.t).g (tyOf q.t) (hiOf q.t) (carryL (t.at q.t).L q) ∧ Chg w1 w2 (fun k => k = sb ∨ k = (t.at q.t).g) ∧ Owns w2 w1.heap.size x (toldL q (packT q.t (spanL (carryL (t.at q.t).L q) q.ra q.rc)))) ?_)
    refine hd.mono ?_
    rintro r w' D
    obtain ⟨a, n, c, rfl, ho2⟩ := D.ans
    refine ⟨a, n, c, rfl, ⟨D.sbk, D.tab, D.chg, ho2⟩, fun k e => ?_⟩
    obtain ⟨cs, fr, qq⟩ := hvb1 k e
    have hlk := (Array.getElem?_eq_some_iff.1 qq).1
    exact ⟨Nat.lt_of_lt_of_le hlk D.chg.size, D.chg.block k hlk (fun e => e.elim (rows_ne qq hS1.row (by decide)) (rows_ne qq hS1.tab.ent (by decide)))⟩
  · rintro r w' ⟨a, n, c, w1, w2, rfl, hb1, ⟨q1, q2, q3, q4⟩, hb2⟩
    have C2 : Chg w w2 (fun k => k = sb ∨ k = (t.at q.t).g) := (Chg.of_below hb1 (fun k => k = sb ∨ k = (t.at q.t).g)).trans q3 (fun _ e _ => e)
    have hsb : w2.heap[sb]? = w.heap[sb]? := q1.trans (hb1.block sb lsb)
    have hB2 := h.put q.t hi C2 hsb q2
    refine ⟨a, n, c, rfl, ?_, hB2.below hb2, C2.trans (Chg.of_below hb2 (fun _ => False)) (fun _ e _ => e.elim)⟩
    exact (q4.kept hb2).weak hb1.size

set_option maxRecDepth 10000 in
set_option maxHeartbeats 1000000 in
theorem done_okc (rb cl : Nat) (v x : Value) (ws : List Int) (w : World) (hx : Lies w x ws) (hws : Bys ws) (ans : List Int) (hans : Bys ans) (Q : Ending → World → Prop)
    (HA : Calls Tryz.prog 28 #[.pointer (some ⟨rb, 0, none⟩), .int .i64 (cl : Int), v] w fun r w' => Q r w' ∧ ∃ a n c, r = .returned (.tuple #[.slice a n c, .int .i64 0]) ∧ Lies w' (.slice a n c) ans ∧ Lies w' x ws) (hv : ∃ a n c, v = .slice a n c) :
    Calls Tryz.prog 23 #[.pointer (some ⟨rb, 0, none⟩), .int .i64 (cl : Int), v, x] w fun r w' => r = .returned (.bool (decide (ans = ws))) ∧ ∃ r0, Q r0 w' := by
  have H := hide HA
  obtain ⟨a, n, c, rfl⟩ := hv
  obtain ⟨a2, c2, rfl⟩ := hx.slice
  clear HA hx
  go_enter Tryz.func23, Tryz.ntmps23
  go_wp2_with fail
  refine (unhide H).mono ?_
  rintro r w1 ⟨hq, a3, n3, c3, rfl, h3, h4⟩
  have HS := hide (same_any _ _ ans ws w1 h3 h4 hans hws)
  have HQ := hide hq
  clear hq h3 h4 H
  go_wp2_with fail
  refine (unhide HS).mono ?_
  rintro r w1 ⟨rfl, rfl⟩
  clear HS
  cases hd : decide (ans = ws) with
  | false =>
    have HD := hide hd
    clear hd
    go_wp2
    go_ret
    refine ⟨?_, _, unhide HQ⟩
    rw [unhide HD]
    rfl
  | true =>
    have HD := hide hd
    clear hd
    go_wp2
    go_ret
    refine ⟨?_, _, unhide HQ⟩
    rw [unhide HD]
    rfl
end Go.Proofs.YtfekelmldebplaaGreatDoor

namespace Go.Proofs.YtfekelmldebplaaGreatDoor
open Go.RowKit Go.MuLone

theorem parseL_nil (f : Int) (q : Req) (h : parseL f [] = .inr q) : False := by
  unfold parseL at h
  split at h
  · simp [parseRead] at h
  split at h
  · simp [parseRead] at h
  split at h
  · simp [parseRead] at h
  split at h
  · simp [parseRead] at h
  split at h
  · simp [parse5] at h
  split at h
  · simp [parse6] at h
  split at h
  · simp [parse15] at h
  split at h
  · simp [parse16] at h
  split at h
  · simp [parse22] at h
  split at h
  · simp [parse23] at h
  · cases h

set_option maxRecDepth 10000 in
set_option maxHeartbeats 1000000 in
theorem parse_none (f : Int) (rp : Nat) (v : Value) (bs : List Int) (w : World) (hr : QNew w rp f) (h : Lies w v bs) (hf : f ≠ 1 ∧ f ≠ 2 ∧ f ≠ 3 ∧ f ≠ 4 ∧ f ≠ 5 ∧ f ≠ 6 ∧ f ≠ 15 ∧ f ≠ 16 ∧ f ≠ 22 ∧ f ≠ 23) :
    Calls Tryz.prog 188 #[.pointer (some ⟨rp, 0, none⟩), v] w fun e w' => PPost w rp f v (parseL f bs) e w' := by
  obtain ⟨n1, n2, n3, n4, n5, n6, n15, n16, n22, n23⟩ := hf
  have hp : parseL f bs = .inl 1 := by
    unfold parseL
    rw [if_neg n1, if_neg n2, if_neg n3, if_neg n4, if_neg n5, if_neg n6, if_neg n15, if_neg n16, if_neg n22, if_neg n23]
  have c0 := cell_of_row _ _ 0 _ _ _ hr.row
  have c1 := cell_of_row _ _ 1 _ _ _ hr.row
  have c2 := cell_of_row _ _ 2 _ _ _ hr.row
  have c3 := cell_of_row _ _ 3 _ _ _ hr.row
  have c4 := cell_of_row _ _ 4 _ _ _ hr.row
  have c5 := cell_of_row _ _ 5 _ _ _ hr.row
  have c6 := cell_of_row _ _ 6 _ _ _ hr.row
  have c7 := cell_of_row _ _ 7 _ _ _ hr.row
  have c8 := cell_of_row _ _ 8 _ _ _ hr.row
  simp [rrow] at c0 c1 c2 c3 c4 c5 c6 c7 c8
  obtain ⟨a, c, rfl⟩ := h.slice
  have HP := hide hp
  clear hr h hp
  go_enter Tryz.func188, Tryz.ntmps188
  go_wp2_with fail
  refine (refuse_any f 0 0 0 0 0 (.slice none 0 0) 0 (.slice none 0 0) 1 w).mono ?_
  rintro e w1 ⟨v1, rfl, h1, hb1⟩
  obtain ⟨T, p, rfl⟩ := h1.iface
  have H1 := hide h1
  have HB1 := hide hb1
  clear h1 hb1
  go_wp2_with fail
  refine (wrap_some _ _ f 1 0 w1 (unhide H1)).mono ?_
  rintro e w2 ⟨v2, rfl, h2, hb2⟩
  obtain ⟨T2, p2, rfl⟩ := h2.iface
  have H2 := hide h2
  have HB2 := hide (bl_trans (unhide HB1) hb2)
  clear h2 hb2
  go_wp2
  go_ret
  exact PPost.err (unhide HP) (unhide H2) (unhide HB2)
/-- Whatever the function. -/
theorem parse_any (f : Int) (bs : List Int) (hx : Bys bs) (hl : bs.length ≤ 252) (rp : Nat) (v : Value) (w : World) (hr : QNew w rp f) (h : Lies w v bs) (hv : ∀ b, v.ownBlock = some b → b ≠ rp) :
    Calls Tryz.prog 188 #[.pointer (some ⟨rp, 0, none⟩), v] w fun e w' => PPost w rp f v (parseL f bs) e w' := by
  by_cases h1 : f = 1
  · subst h1; exact parse_1 rp v bs w hr h hx hl
  by_cases h2 : f = 2
  · subst h2; exact parse_2 rp v bs w hr h hx hl
  by_cases h3 : f = 3
  · subst h3; exact parse_3 rp v bs w hr h hx hl
  by_cases h4 : f = 4
  · subst h4; exact parse_4 rp v bs w hr h hx hl
  by_cases h5 : f = 5
  · subst h5; exact parse_5 rp v bs w hr h hx hl hv
  by_cases h6 : f = 6
  · subst h6; exact parse_6 rp v bs w hr h hx hl hv
  by_cases h15 : f = 15
  · subst h15; exact parse_15 rp v bs w hr h hx hl hv
  by_cases h16 : f = 16
  · subst h16; exact parse_16 rp v bs w hr h hx hl hv
  by_cases h22 : f = 22
  · subst h22; exact parse_22 rp v bs w hr h hx hl hv
  by_cases h23 : f = 23
  · subst h23; exact parse_23 rp v bs w hr h hx hl hv
  exact parse_none f rp v bs w hr h ⟨h1, h2, h3, h4, h5, h6, h15, h16, h22, h23⟩

/-! ### Answer, whatever is asked -/
/-- What is answered. -/
def replyL (t : T4) (rs : List Rule) (f : Int) (bs : List Int) : List Int := match judge t rs f bs with
  | .inl x => excB f x
  | .inr q => toldL q (packT q.t (spanL (carryL (t.at q.t).L q) q.ra q.rc))
/-- What the tables become. -/
def nextT (t : T4) (rs : List Rule) (f : Int) (bs : List Int) : T4 := match judge t rs f bs with
  | .inl _ => t
  | .inr q => t.put q.t (carryL (t.at q.t).L q)
/-- The blocks that a request may turn. -/
def turned (t : T4) (sb : Nat) (k : Nat) : Prop := k = sb ∨ ∃ i, i < 4 ∧ k = (t.at i).g
def Replied (w : World) (B rb sb tb kb : Nat) (t : T4) (LL : List (List Rule)) (us : List Value) (rs : List Rule) (f : Int) (bs : List Int) (r : Ending) (w' : World) : Prop :=
  ∃ a n c, r = .returned (.tuple #[.slice a n c, .int .i64 0]) ∧ Owns w' w.heap.size (.slice a n c) (replyL t rs f bs) ∧ BankAt w' B rb sb tb kb (nextT t rs f bs) LL us ∧ Chg w w' (turned t sb)

theorem answer_any (B rb sb tb kb : Nat) (t : T4) (LL : List (List Rule)) (us : List Value) (cl : Nat) (rs : List Rule) (u : Value) (f : Int) (v : Value) (bs : List Int) (w : World) (h : BankAt w B rb sb tb kb t LL us) (hcl : cl ≤ 5) (h1 : LL[cl]? = some rs) (h2 : us[cl]? = some u) (h8 : rs.length ≤ 8)
    (hv : Lies w v (f :: bs)) (hvb : ∀ b, v.ownBlock = some b → ∃ cs fr, w.heap[b]? = some (.cells cs 5 fr)) (hlen : bs.length ≤ 252) (hbs : Bys bs) (hg : ErrVar w) (hB : 0 < B) (hL : ∀ i, i < 4 → ∀ x ∈ (t.at i).L, 0 ≤ x ∧ x ≤ topOf i) :
    Calls Tryz.prog 28 #[.pointer (some ⟨rb, 0, none⟩), .int .i64 (cl : Int), v] w fun r w' => Replied w B rb sb tb kb t LL us rs f bs r w' := by
  have HPf := fun rp v W hr hl hd => parse_any f bs hbs hlen rp v W hr hl hd
  cases hj : judge t rs f bs with
  | inl x =>
    refine (answer_err B rb sb tb kb t LL us cl rs u f x v bs w h hcl h1 h2 h8 hv hvb hlen hbs hj hg hB HPf).mono ?_
    rintro r w' ⟨a, n, c, rfl, ho, hb, hc⟩
    refine ⟨a, n, c, rfl, ?_, ?_, hc.mono (fun _ _ e => .inl e)⟩
    · unfold replyL; rw [hj]; exact ho
    · unfold nextT; rw [hj]; exact hb
  | inr q =>
    have hp : parseL f bs = .inr q ∧ excL (t.at q.t).L.length rs q = 0 := by
      unfold judge at hj
      cases hpp : parseL f bs with
      | inl x => rw [hpp] at hj; cases hj
      | inr q' =>
        rw [hpp] at hj
        simp only at hj
        split at hj
        · cases hj; exact ⟨rfl, by assumption⟩
        · cases hj
    have hq := parseL_ok f bs hbs hlen q hp.1
    have hb0 : bs ≠ [] := fun e => by
      subst e
      exact parseL_nil f q hp.1
    refine (answer_okc B rb sb tb kb t LL us cl hcl rs u f v bs q w h h1 h2 h8 hv hvb hb0 hlen hbs hp.1 hp.2 (hL q.t hq.t) HPf).mono ?_
    rintro r w' ⟨a, n, c, rfl, ho, hb, hc⟩
    refine ⟨a, n, c, rfl, ?_, ?_, hc.mono (fun _ _ e => e.elim .inl (fun e => .inr ⟨q.t, hq.t, e⟩))⟩
    · unfold replyL; rw [hj]; exact ho
    · unfold nextT; rw [hj]; exact hb
end Go.Proofs.YtfekelmldebplaaGreatDoor

namespace Go.Proofs.YtfekelmldebplaaGreatDoor
open Go.RowKit Go.MuLone

/-! ### Lists of bytes that are laid one behind the other, and joined -/
def freshW (w : World) : List (List Int) → World
  | [] => w
  | xs :: r => freshW (w.alloc (.cells (xs.map (Value.int .u8)).toArray 5)) r
def freshV (n : Nat) : List (List Int) → List Value
  | [] => []
  | xs :: r => .slice (some ⟨n, 0, none⟩) xs.length xs.length :: freshV (n + 1) r
theorem freshV_len : ∀ (xss : List (List Int)) (n : Nat), (freshV n xss).length = xss.length
  | [], _ => rfl
  | _ :: r, n => by simp [freshV, freshV_len r (n + 1)]
theorem freshW_size : ∀ (xss : List (List Int)) (w : World), (freshW w xss).heap.size = w.heap.size + xss.length
  | [], _ => rfl
  | _ :: r, w => by
    show (freshW (w.alloc _) r).heap.size = _
    rw [freshW_size r, World.size_alloc, List.length_cons]
    omega
theorem freshW_below : ∀ (xss : List (List Int)) (w : World), Below w.heap.size w (freshW w xss)
  | [], _ => Below.refl _ _
  | _ :: r, w => bl_trans (rule_new w _) (freshW_below r _)
theorem freshW_lies : ∀ (xss : List (List Int)) (w : World) (i : Nat), i < xss.length → Lies (freshW w xss) ((freshV w.heap.size xss).getD i undef) (xss.getD i [])
  | [], _, i, hi => by simp at hi
  | xs :: r, w, 0, _ => (lies_fresh w xs).below (freshW_below r _)
  | xs :: r, w, i + 1, hi => by
    have := freshW_lies r (w.alloc (.cells (xs.map (Value.int .u8)).toArray 5)) i (by simpa using hi)
    rw [World.size_alloc] at this
    exact this
theorem join_fresh (w : World) (xss : List (List Int)) (J n : Nat) (hJ : J = w.heap.size + xss.length) (hn : n = xss.length) (hne : ∀ i, i < xss.length → xss.getD i [] ≠ []) (h1 : xss.length ≤ 1000) (h2 : xss.flatten.length ≤ 1000000) (out : List Int) (ho : xss.flatten = out) :
    Calls Tryz.prog 24 #[.slice (some ⟨J, 0, none⟩) n n] ((freshW w xss).alloc (.cells (freshV w.heap.size xss).toArray 37)) fun e w' => ∃ a m c, e = .returned (.slice a m c) ∧ Owns w' w.heap.size (.slice a m c) out ∧ Below w.heap.size w w' := by
  subst hn
  exact join_last w (freshW w xss) (freshV w.heap.size xss) xss _ J xss.length (by rw [freshW_size, hJ]) (freshW_below xss w) (freshV_len xss _) rfl (fun i hi => ⟨freshW_lies xss w i hi, hne i hi⟩) h1 h2 out ho

/-! ### requests -/
def reqL (a : Int) : List (List Int) := [1 :: (wd a ++ wd 2), 2 :: (wd a ++ wd 2), 3 :: (wd a ++ wd 2), 4 :: (wd a ++ wd 2), 5 :: (wd a ++ [255, 0]), 6 :: (wd a ++ [9, 9]), 15 :: (wd a ++ wd 2 ++ [1, 3]), 16 :: (wd a ++ wd 2 ++ [4, 9, 9, 9, 9]), 22 :: (wd a ++ [0, 0, 9, 9]), 23 :: (wd a ++ wd 2 ++ wd a ++ wd 2 ++ [4, 9, 9, 9, 9])]

theorem join_r1 (a : Int) (W : World) : Calls Tryz.prog 24 #[.slice (some ⟨W.heap.size + 1 + 1 + 1, 0, none⟩) 3 3] ((((W.alloc (.cells #[.int .u8 1] 5)).alloc (.cells #[.int .u8 (a / 256), .int .u8 (a % 256)] 5)).alloc (.cells #[.int .u8 0, .int .u8 2] 5)).alloc (.cells #[.slice (some ⟨W.heap.size, 0, none⟩) 1 1, .slice (some ⟨W.heap.size + 1, 0, none⟩) 2 2, .slice (some ⟨W.heap.size + 1 + 1, 0, none⟩) 2 2] 37)) fun e w' => ∃ a' m c, e = .returned (.slice a' m c) ∧ Owns w' W.heap.size (.slice a' m c) (1 :: (wd a ++ wd 2)) ∧ Below W.heap.size W w' :=
  join_fresh W [[1], wd a, wd 2] _ _ rfl rfl (fun i hi => by
    match i, hi with
    | 0, _ => simp
    | 1, _ => simp [wd]
    | 2, _ => simp [wd]) (by simp) (by simp [wd]) _ (by simp)
theorem join_r2 (a : Int) (W : World) : Calls Tryz.prog 24 #[.slice (some ⟨W.heap.size + 1 + 1 + 1, 0, none⟩) 3 3] ((((W.alloc (.cells #[.int .u8 2] 5)).alloc (.cells #[.int .u8 (a / 256), .int .u8 (a % 256)] 5)).alloc (.cells #[.int .u8 0, .int .u8 2] 5)).alloc (.cells #[.slice (some ⟨W.heap.size, 0, none⟩) 1 1, .slice (some ⟨W.heap.size + 1, 0, none⟩) 2 2, .slice (some ⟨W.heap.size + 1 + 1, 0, none⟩) 2 2] 37)) fun e w' => ∃ a' m c, e = .returned (.slice a' m c) ∧ Owns w' W.heap.size (.slice a' m c) (2 :: (wd a ++ wd 2)) ∧ Below W.heap.size W w' :=
  join_fresh W [[2], wd a, wd 2] _ _ rfl rfl (fun i hi => by
    match i, hi with
    | 0, _ => simp
    | 1, _ => simp [wd]
    | 2, _ => simp [wd]) (by simp) (by simp [wd]) _ (by simp)
theorem join_r3 (a : Int) (W : World) : Calls Tryz.prog 24 #[.slice (some ⟨W.heap.size + 1 + 1 + 1, 0, none⟩) 3 3] ((((W.alloc (.cells #[.int .u8 3] 5)).alloc (.cells #[.int .u8 (a / 256), .int .u8 (a % 256)] 5)).alloc (.cells #[.int .u8 0, .int .u8 2] 5)).alloc (.cells #[.slice (some ⟨W.heap.size, 0, none⟩) 1 1, .slice (some ⟨W.heap.size + 1, 0, none⟩) 2 2, .slice (some ⟨W.heap.size + 1 + 1, 0, none⟩) 2 2] 37)) fun e w' => ∃ a' m c, e = .returned (.slice a' m c) ∧ Owns w' W.heap.size (.slice a' m c) (3 :: (wd a ++ wd 2)) ∧ Below W.heap.size W w' :=
  join_fresh W [[3], wd a, wd 2] _ _ rfl rfl (fun i hi => by
    match i, hi with
    | 0, _ => simp
    | 1, _ => simp [wd]
    | 2, _ => simp [wd]) (by simp) (by simp [wd]) _ (by simp)
theorem join_r4 (a : Int) (W : World) : Calls Tryz.prog 24 #[.slice (some ⟨W.heap.size + 1 + 1 + 1, 0, none⟩) 3 3] ((((W.alloc (.cells #[.int .u8 4] 5)).alloc (.cells #[.int .u8 (a / 256), .int .u8 (a % 256)] 5)).alloc (.cells #[.int .u8 0, .int .u8 2] 5)).alloc (.cells #[.slice (some ⟨W.heap.size, 0, none⟩) 1 1, .slice (some ⟨W.heap.size + 1, 0, none⟩) 2 2, .slice (some ⟨W.heap.size + 1 + 1, 0, none⟩) 2 2] 37)) fun e w' => ∃ a' m c, e = .returned (.slice a' m c) ∧ Owns w' W.heap.size (.slice a' m c) (4 :: (wd a ++ wd 2)) ∧ Below W.heap.size W w' :=
  join_fresh W [[4], wd a, wd 2] _ _ rfl rfl (fun i hi => by
    match i, hi with
    | 0, _ => simp
    | 1, _ => simp [wd]
    | 2, _ => simp [wd]) (by simp) (by simp [wd]) _ (by simp)
theorem join_r5 (a : Int) (W : World) : Calls Tryz.prog 24 #[.slice (some ⟨W.heap.size + 1 + 1 + 1, 0, none⟩) 3 3] ((((W.alloc (.cells #[.int .u8 5] 5)).alloc (.cells #[.int .u8 (a / 256), .int .u8 (a % 256)] 5)).alloc (.cells #[.int .u8 255, .int .u8 0] 5)).alloc (.cells #[.slice (some ⟨W.heap.size, 0, none⟩) 1 1, .slice (some ⟨W.heap.size + 1, 0, none⟩) 2 2, .slice (some ⟨W.heap.size + 1 + 1, 0, none⟩) 2 2] 37)) fun e w' => ∃ a' m c, e = .returned (.slice a' m c) ∧ Owns w' W.heap.size (.slice a' m c) (5 :: (wd a ++ [255, 0])) ∧ Below W.heap.size W w' :=
  join_fresh W [[5], wd a, [255, 0]] _ _ rfl rfl (fun i hi => by
    match i, hi with
    | 0, _ => simp
    | 1, _ => simp [wd]
    | 2, _ => simp) (by simp) (by simp [wd]) _ (by simp)
theorem join_r6 (a : Int) (W : World) : Calls Tryz.prog 24 #[.slice (some ⟨W.heap.size + 1 + 1 + 1, 0, none⟩) 3 3] ((((W.alloc (.cells #[.int .u8 6] 5)).alloc (.cells #[.int .u8 (a / 256), .int .u8 (a % 256)] 5)).alloc (.cells #[.int .u8 9, .int .u8 9] 5)).alloc (.cells #[.slice (some ⟨W.heap.size, 0, none⟩) 1 1, .slice (some ⟨W.heap.size + 1, 0, none⟩) 2 2, .slice (some ⟨W.heap.size + 1 + 1, 0, none⟩) 2 2] 37)) fun e w' => ∃ a' m c, e = .returned (.slice a' m c) ∧ Owns w' W.heap.size (.slice a' m c) (6 :: (wd a ++ [9, 9])) ∧ Below W.heap.size W w' :=
  join_fresh W [[6], wd a, [9, 9]] _ _ rfl rfl (fun i hi => by
    match i, hi with
    | 0, _ => simp
    | 1, _ => simp [wd]
    | 2, _ => simp) (by simp) (by simp [wd]) _ (by simp)
theorem join_r15 (a : Int) (W : World) : Calls Tryz.prog 24 #[.slice (some ⟨W.heap.size + 1 + 1 + 1 + 1, 0, none⟩) 4 4] (((((W.alloc (.cells #[.int .u8 15] 5)).alloc (.cells #[.int .u8 (a / 256), .int .u8 (a % 256)] 5)).alloc (.cells #[.int .u8 0, .int .u8 2] 5)).alloc (.cells #[.int .u8 1, .int .u8 3] 5)).alloc (.cells #[.slice (some ⟨W.heap.size, 0, none⟩) 1 1, .slice (some ⟨W.heap.size + 1, 0, none⟩) 2 2, .slice (some ⟨W.heap.size + 1 + 1, 0, none⟩) 2 2, .slice (some ⟨W.heap.size + 1 + 1 + 1, 0, none⟩) 2 2] 37)) fun e w' => ∃ a' m c, e = .returned (.slice a' m c) ∧ Owns w' W.heap.size (.slice a' m c) (15 :: (wd a ++ wd 2 ++ [1, 3])) ∧ Below W.heap.size W w' :=
  join_fresh W [[15], wd a, wd 2, [1, 3]] _ _ rfl rfl (fun i hi => by
    match i, hi with
    | 0, _ => simp
    | 1, _ => simp [wd]
    | 2, _ => simp [wd]
    | 3, _ => simp) (by simp) (by simp [wd]) _ (by simp)
theorem join_r16 (a : Int) (W : World) : Calls Tryz.prog 24 #[.slice (some ⟨W.heap.size + 1 + 1 + 1 + 1, 0, none⟩) 4 4] (((((W.alloc (.cells #[.int .u8 16] 5)).alloc (.cells #[.int .u8 (a / 256), .int .u8 (a % 256)] 5)).alloc (.cells #[.int .u8 0, .int .u8 2] 5)).alloc (.cells #[.int .u8 4, .int .u8 9, .int .u8 9, .int .u8 9, .int .u8 9] 5)).alloc (.cells #[.slice (some ⟨W.heap.size, 0, none⟩) 1 1, .slice (some ⟨W.heap.size + 1, 0, none⟩) 2 2, .slice (some ⟨W.heap.size + 1 + 1, 0, none⟩) 2 2, .slice (some ⟨W.heap.size + 1 + 1 + 1, 0, none⟩) 5 5] 37)) fun e w' => ∃ a' m c, e = .returned (.slice a' m c) ∧ Owns w' W.heap.size (.slice a' m c) (16 :: (wd a ++ wd 2 ++ [4, 9, 9, 9, 9])) ∧ Below W.heap.size W w' :=
  join_fresh W [[16], wd a, wd 2, [4, 9, 9, 9, 9]] _ _ rfl rfl (fun i hi => by
    match i, hi with
    | 0, _ => simp
    | 1, _ => simp [wd]
    | 2, _ => simp [wd]
    | 3, _ => simp) (by simp) (by simp [wd]) _ (by simp)
theorem join_r22 (a : Int) (W : World) : Calls Tryz.prog 24 #[.slice (some ⟨W.heap.size + 1 + 1 + 1, 0, none⟩) 3 3] ((((W.alloc (.cells #[.int .u8 22] 5)).alloc (.cells #[.int .u8 (a / 256), .int .u8 (a % 256)] 5)).alloc (.cells #[.int .u8 0, .int .u8 0, .int .u8 9, .int .u8 9] 5)).alloc (.cells #[.slice (some ⟨W.heap.size, 0, none⟩) 1 1, .slice (some ⟨W.heap.size + 1, 0, none⟩) 2 2, .slice (some ⟨W.heap.size + 1 + 1, 0, none⟩) 4 4] 37)) fun e w' => ∃ a' m c, e = .returned (.slice a' m c) ∧ Owns w' W.heap.size (.slice a' m c) (22 :: (wd a ++ [0, 0, 9, 9])) ∧ Below W.heap.size W w' :=
  join_fresh W [[22], wd a, [0, 0, 9, 9]] _ _ rfl rfl (fun i hi => by
    match i, hi with
    | 0, _ => simp
    | 1, _ => simp [wd]
    | 2, _ => simp) (by simp) (by simp [wd]) _ (by simp)
theorem join_r23 (a : Int) (W : World) : Calls Tryz.prog 24 #[.slice (some ⟨W.heap.size + 1 + 1 + 1 + 1 + 1 + 1, 0, none⟩) 6 6] (((((((W.alloc (.cells #[.int .u8 23] 5)).alloc (.cells #[.int .u8 (a / 256), .int .u8 (a % 256)] 5)).alloc (.cells #[.int .u8 0, .int .u8 2] 5)).alloc (.cells #[.int .u8 (a / 256), .int .u8 (a % 256)] 5)).alloc (.cells #[.int .u8 0, .int .u8 2] 5)).alloc (.cells #[.int .u8 4, .int .u8 9, .int .u8 9, .int .u8 9, .int .u8 9] 5)).alloc (.cells #[.slice (some ⟨W.heap.size, 0, none⟩) 1 1, .slice (some ⟨W.heap.size + 1, 0, none⟩) 2 2, .slice (some ⟨W.heap.size + 1 + 1, 0, none⟩) 2 2, .slice (some ⟨W.heap.size + 1 + 1 + 1, 0, none⟩) 2 2, .slice (some ⟨W.heap.size + 1 + 1 + 1 + 1, 0, none⟩) 2 2, .slice (some ⟨W.heap.size + 1 + 1 + 1 + 1 + 1, 0, none⟩) 5 5] 37)) fun e w' => ∃ a' m c, e = .returned (.slice a' m c) ∧ Owns w' W.heap.size (.slice a' m c) (23 :: (wd a ++ wd 2 ++ wd a ++ wd 2 ++ [4, 9, 9, 9, 9])) ∧ Below W.heap.size W w' :=
  join_fresh W [[23], wd a, wd 2, wd a, wd 2, [4, 9, 9, 9, 9]] _ _ rfl rfl (fun i hi => by
    match i, hi with
    | 0, _ => simp
    | 1, _ => simp [wd]
    | 2, _ => simp [wd]
    | 3, _ => simp [wd]
    | 4, _ => simp [wd]
    | 5, _ => simp) (by simp) (by simp [wd]) _ (by simp)

set_option maxRecDepth 10000 in
set_option maxHeartbeats 4000000 in
theorem requests_any (a : Int) (w : World) (h0 : 0 ≤ a) (h1 : a ≤ 65535) :
    Calls Tryz.prog 26 #[.int .i64 a] w fun e w' => ∃ (R : Nat) (vs : List Value), e = .returned (.slice (some ⟨R, 0, none⟩) 10 10) ∧ vs.length = 10 ∧ w'.heap[R]? = some (.cells vs.toArray 37 (0, 0)) ∧ (∀ i, i < 10 → Owns w' w.heap.size (vs.getD i undef) ((reqL a).getD i [])) ∧ Below w.heap.size w w' := by
  go_enter Tryz.func26, Tryz.ntmps26
  go_wp2_with (go_at_call 25; refine (word_any _ _ (by omega) (by omega)).mono ?_; rintro e w' ⟨rfl, rfl⟩)
  refine (join_r1 a w).mono ?_
  rintro e w1 ⟨a0, n0, c0, rfl, ho0, hb0⟩
  have HO0 := hide ho0
  have HB := hide hb0
  clear ho0 hb0
  go_wp2_with (go_at_call 25; refine (word_any _ _ (by omega) (by omega)).mono ?_; rintro e w' ⟨rfl, rfl⟩)
  refine (join_r2 a w1).mono ?_
  rintro e w2 ⟨a1, n1, c1, rfl, ho1, hb1⟩
  have HO1 := hide (ho1.weak (unhide HB).size)
  replace HO0 := hide ((unhide HO0).kept hb1)
  replace HB := hide (bl_trans (unhide HB) hb1)
  clear ho1 hb1
  go_wp2_with (go_at_call 25; refine (word_any _ _ (by omega) (by omega)).mono ?_; rintro e w' ⟨rfl, rfl⟩)
  refine (join_r3 a w2).mono ?_
  rintro e w3 ⟨a2, n2, c2, rfl, ho2, hb2⟩
  have HO2 := hide (ho2.weak (unhide HB).size)
  replace HO0 := hide ((unhide HO0).kept hb2)
  replace HO1 := hide ((unhide HO1).kept hb2)
  replace HB := hide (bl_trans (unhide HB) hb2)
  clear ho2 hb2
  go_wp2_with (go_at_call 25; refine (word_any _ _ (by omega) (by omega)).mono ?_; rintro e w' ⟨rfl, rfl⟩)
  refine (join_r4 a w3).mono ?_
  rintro e w4 ⟨a3, n3, c3, rfl, ho3, hb3⟩
  have HO3 := hide (ho3.weak (unhide HB).size)
  replace HO0 := hide ((unhide HO0).kept hb3)
  replace HO1 := hide ((unhide HO1).kept hb3)
  replace HO2 := hide ((unhide HO2).kept hb3)
  replace HB := hide (bl_trans (unhide HB) hb3)
  clear ho3 hb3
  go_wp2_with (go_at_call 25; refine (word_any _ _ (by omega) (by omega)).mono ?_; rintro e w' ⟨rfl, rfl⟩)
  refine (join_r5 a w4).mono ?_
  rintro e w5 ⟨a4, n4, c4, rfl, ho4, hb4⟩
  have HO4 := hide (ho4.weak (unhide HB).size)
  replace HO0 := hide ((unhide HO0).kept hb4)
  replace HO1 := hide ((unhide HO1).kept hb4)
  replace HO2 := hide ((unhide HO2).kept hb4)
  replace HO3 := hide ((unhide HO3).kept hb4)
  replace HB := hide (bl_trans (unhide HB) hb4)
  clear ho4 hb4
  go_wp2_with (go_at_call 25; refine (word_any _ _ (by omega) (by omega)).mono ?_; rintro e w' ⟨rfl, rfl⟩)
  refine (join_r6 a w5).mono ?_
  rintro e w6 ⟨a5, n5, c5, rfl, ho5, hb5⟩
  have HO5 := hide (ho5.weak (unhide HB).size)
  replace HO0 := hide ((unhide HO0).kept hb5)
  replace HO1 := hide ((unhide HO1).kept hb5)
  replace HO2 := hide ((unhide HO2).kept hb5)
  replace HO3 := hide ((unhide HO3).kept hb5)
  replace HO4 := hide ((unhide HO4).kept hb5)
  replace HB := hide (bl_trans (unhide HB) hb5)
  clear ho5 hb5
  go_wp2_with (go_at_call 25; refine (word_any _ _ (by omega) (by omega)).mono ?_; rintro e w' ⟨rfl, rfl⟩)
  refine (join_r15 a w6).mono ?_
  rintro e w7 ⟨a6, n6, c6, rfl, ho6, hb6⟩
  have HO6 := hide (ho6.weak (unhide HB).size)
  replace HO0 := hide ((unhide HO0).kept hb6)
  replace HO1 := hide ((unhide HO1).kept hb6)
  replace HO2 := hide ((unhide HO2).kept hb6)
  replace HO3 := hide ((unhide HO3).kept hb6)
  replace HO4 := hide ((unhide HO4).kept hb6)
  replace HO5 := hide ((unhide HO5).kept hb6)
  replace HB := hide (bl_trans (unhide HB) hb6)
  clear ho6 hb6
  go_wp2_with (go_at_call 25; refine (word_any _ _ (by omega) (by omega)).mono ?_; rintro e w' ⟨rfl, rfl⟩)
  refine (join_r16 a w7).mono ?_
  rintro e w8 ⟨a7, n7, c7, rfl, ho7, hb7⟩
  have HO7 := hide (ho7.weak (unhide HB).size)
  replace HO0 := hide ((unhide HO0).kept hb7)
  replace HO1 := hide ((unhide HO1).kept hb7)
  replace HO2 := hide ((unhide HO2).kept hb7)
  replace HO3 := hide ((unhide HO3).kept hb7)
  replace HO4 := hide ((unhide HO4).kept hb7)
  replace HO5 := hide ((unhide HO5).kept hb7)
  replace HO6 := hide ((unhide HO6).kept hb7)
  replace HB := hide (bl_trans (unhide HB) hb7)
  clear ho7 hb7
  go_wp2_with (go_at_call 25; refine (word_any _ _ (by omega) (by omega)).mono ?_; rintro e w' ⟨rfl, rfl⟩)
  refine (join_r22 a w8).mono ?_
  rintro e w9 ⟨a8, n8, c8, rfl, ho8, hb8⟩
  have HO8 := hide (ho8.weak (unhide HB).size)
  replace HO0 := hide ((unhide HO0).kept hb8)
  replace HO1 := hide ((unhide HO1).kept hb8)
  replace HO2 := hide ((unhide HO2).kept hb8)
  replace HO3 := hide ((unhide HO3).kept hb8)
  replace HO4 := hide ((unhide HO4).kept hb8)
  replace HO5 := hide ((unhide HO5).kept hb8)
  replace HO6 := hide ((unhide HO6).kept hb8)
  replace HO7 := hide ((unhide HO7).kept hb8)
  replace HB := hide (bl_trans (unhide HB) hb8)
  clear ho8 hb8
  go_wp2_with (go_at_call 25; refine (word_any _ _ (by omega) (by omega)).mono ?_; rintro e w' ⟨rfl, rfl⟩)
  refine (join_r23 a w9).mono ?_
  rintro e w10 ⟨a9, n9, c9, rfl, ho9, hb9⟩
  have HO9 := hide (ho9.weak (unhide HB).size)
  replace HO0 := hide ((unhide HO0).kept hb9)
  replace HO1 := hide ((unhide HO1).kept hb9)
  replace HO2 := hide ((unhide HO2).kept hb9)
  replace HO3 := hide ((unhide HO3).kept hb9)
  replace HO4 := hide ((unhide HO4).kept hb9)
  replace HO5 := hide ((unhide HO5).kept hb9)
  replace HO6 := hide ((unhide HO6).kept hb9)
  replace HO7 := hide ((unhide HO7).kept hb9)
  replace HO8 := hide ((unhide HO8).kept hb9)
  replace HB := hide (bl_trans (unhide HB) hb9)
  clear ho9 hb9
  go_wp2
  go_ret
  have hbE := rule_new w10 (.cells #[.slice a0 n0 c0, .slice a1 n1 c1, .slice a2 n2 c2, .slice a3 n3 c3, .slice a4 n4 c4, .slice a5 n5 c5, .slice a6 n6 c6, .slice a7 n7 c7, .slice a8 n8 c8, .slice a9 n9 c9] 37)
  refine ⟨w10.heap.size, [.slice a0 n0 c0, .slice a1 n1 c1, .slice a2 n2 c2, .slice a3 n3 c3, .slice a4 n4 c4, .slice a5 n5 c5, .slice a6 n6 c6, .slice a7 n7 c7, .slice a8 n8 c8, .slice a9 n9 c9], rfl, rfl, heap_alloc_new w10 _, fun i hi => ?_, bl_trans (unhide HB) hbE⟩
  match i, hi with
  | 0, _ => exact (unhide HO0).kept hbE
  | 1, _ => exact (unhide HO1).kept hbE
  | 2, _ => exact (unhide HO2).kept hbE
  | 3, _ => exact (unhide HO3).kept hbE
  | 4, _ => exact (unhide HO4).kept hbE
  | 5, _ => exact (unhide HO5).kept hbE
  | 6, _ => exact (unhide HO6).kept hbE
  | 7, _ => exact (unhide HO7).kept hbE
  | 8, _ => exact (unhide HO8).kept hbE
  | 9, _ => exact (unhide HO9).kept hbE
end Go.Proofs.YtfekelmldebplaaGreatDoor

namespace Go.Proofs.YtfekelmldebplaaGreatDoor
open Go.RowKit Go.MuLone

/-! ### What is refused -/
theorem may_none (md : Bool) (t a : Int) (n : Nat) (hn : 1 ≤ n) : mayB md [] t a n = false := by
  unfold mayB
  cases n with
  | zero => omega
  | succ n => simp [List.range_succ]
theorem may_zero (md : Bool) (rs : List Rule) (t a : Int) : mayB md rs t a 0 = true := by simp [mayB]
/-- A client without rules, within the table. -/
theorem exc_denied (N : Nat) (q : Req) (hr : q.ra + q.rc ≤ N) (hw : q.wa + q.wc ≤ N) (h1 : 1 ≤ q.rc ∨ 1 ≤ q.wc) : excL N [] q = 4 := by
  have e1 : hasB N (q.ra : Int) (q.rc : Int) = true := by
    simp only [hasB, Bool.and_eq_true, decide_eq_true_eq]
    omega
  have e2 : hasB N (q.wa : Int) (q.wc : Int) = true := by
    simp only [hasB, Bool.and_eq_true, decide_eq_true_eq]
    omega
  unfold excL
  rw [e1, e2]
  rcases h1 with h1 | h1
  · rw [may_none false _ _ _ h1]
    rfl
  · rw [may_none true _ _ _ h1]
    simp
/-- Beyond the table. -/
theorem exc_far (N : Nat) (rs : List Rule) (q : Req) (h : N < q.ra + q.rc ∨ N < q.wa + q.wc) : excL N rs q = 2 := by
  unfold excL
  rcases h with h | h
  · have e1 : hasB N (q.ra : Int) (q.rc : Int) = false := by
      simp only [hasB, Bool.and_eq_false_iff, decide_eq_false_iff_not]
      omega
    rw [e1]
    rfl
  · have e2 : hasB N (q.wa : Int) (q.wc : Int) = false := by
      simp only [hasB, Bool.and_eq_false_iff, decide_eq_false_iff_not]
      omega
    rw [e2]
    simp
theorem judge_inl (t : T4) (rs : List Rule) (f x : Int) (bs : List Int) (h : parseL f bs = .inl x) : judge t rs f bs = .inl x := by
  unfold judge
  rw [h]
theorem judge_exc (t : T4) (rs : List Rule) (f x : Int) (bs : List Int) (q : Req) (h : parseL f bs = .inr q) (he : excL (t.at q.t).L.length rs q = x) (h0 : x ≠ 0) : judge t rs f bs = .inl x := by
  unfold judge
  rw [h]
  simp only
  rw [he, if_neg h0]
theorem judge_ok (t : T4) (rs : List Rule) (f : Int) (bs : List Int) (q : Req) (h : parseL f bs = .inr q) (he : excL (t.at q.t).L.length rs q = 0) : judge t rs f bs = .inr q := by
  unfold judge
  rw [h]
  simp only
  rw [he, if_pos rfl]

/-- Each of the requests, taken apart. -/
def reqQ (a : Nat) (k : Nat) : Req := [readQ 0 a 2, readQ 1 a 2, readQ 3 a 2, readQ 2 a 2, q5 a 1, q6 a 2313, q15 a [1, 1], q16 a [2313, 2313], q22 a 0 2313, q23 a 2 a [2313, 2313]].getD k (readQ 0 a 2)
def reqF (k : Nat) : Int := [1, 2, 3, 4, 5, 6, 15, 16, 22, 23].getD k 0
def reqB (a : Nat) (k : Nat) : List Int := ((reqL (a : Int)).getD k []).drop 1
theorem reqL_at (a k : Nat) (hk : k < 10) : (reqL (a : Int)).getD k [] = reqF k :: reqB a k := by
  match k, hk with
  | 0, _ => rfl
  | 1, _ => rfl
  | 2, _ => rfl
  | 3, _ => rfl
  | 4, _ => rfl
  | 5, _ => rfl
  | 6, _ => rfl
  | 7, _ => rfl
  | 8, _ => rfl
  | 9, _ => rfl
theorem words_in : ∀ x ∈ ([2313, 2313] : List Int), 0 ≤ x ∧ x ≤ 65535 := fun x hx => by
  rcases List.mem_cons.1 hx with rfl | hx
  · omega
  · rcases List.mem_singleton.1 hx with rfl
    omega
theorem parse_req (a k : Nat) (ha : a ≤ 65535) (hk : k < 10) : parseL (reqF k) (reqB a k) = .inr (reqQ a k) := by
  match k, hk with
  | 0, _ => exact parse_readQ 0 a 2 (by omega) ha (by omega) (by omega)
  | 1, _ => exact parse_readQ 1 a 2 (by omega) ha (by omega) (by omega)
  | 2, _ => exact parse_readQ 3 a 2 (by omega) ha (by omega) (by omega)
  | 3, _ => exact parse_readQ 2 a 2 (by omega) ha (by omega) (by omega)
  | 4, _ => exact parse_q5 a 1 ha (.inr rfl)
  | 5, _ => exact parse_q6 a 2313 ha (by omega)
  | 6, _ => exact parse_q15 a [1, 1] [3] ha (by simp) (by simp) rfl rfl
  | 7, _ => exact parse_q16 a [2313, 2313] ha (by simp) (by simp) words_in
  | 8, _ => exact parse_q22 a 0 2313 ha (by omega) (by omega)
  | 9, _ => exact parse_q23 a 2 a [2313, 2313] ha (by omega) (by omega) ha (by simp) (by simp) words_in
/-- Where it reads and writes. -/
theorem reqQ_span (a k : Nat) (hk : k < 10) : (reqQ a k).t < 4 ∧ (reqQ a k).ra + (reqQ a k).rc ≤ a + 2 ∧ (reqQ a k).wa + (reqQ a k).wc ≤ a + 2 ∧ (1 ≤ (reqQ a k).rc ∨ 1 ≤ (reqQ a k).wc) ∧ (a < (reqQ a k).ra + (reqQ a k).rc ∨ a < (reqQ a k).wa + (reqQ a k).wc) := by
  match k, hk with
  | 0, _ => simp [reqQ, readQ]
  | 1, _ => simp [reqQ, readQ]
  | 2, _ => simp [reqQ, readQ]
  | 3, _ => simp [reqQ, readQ]
  | 4, _ => simp [reqQ, q5]
  | 5, _ => simp [reqQ, q6]
  | 6, _ => simp [reqQ, q15]
  | 7, _ => simp [reqQ, q16]
  | 8, _ => simp [reqQ, q22]
  | 9, _ => simp [reqQ, q23]
end Go.Proofs.YtfekelmldebplaaGreatDoor

namespace Go.Proofs.YtfekelmldebplaaGreatDoor
open Go.RowKit Go.MuLone

theorem reqB_len (a k : Nat) (hk : k < 10) : (reqB a k).length = [4, 4, 4, 4, 4, 4, 6, 9, 6, 13].getD k 0 := by
  match k, hk with
  | 0, _ => rfl
  | 1, _ => rfl
  | 2, _ => rfl
  | 3, _ => rfl
  | 4, _ => rfl
  | 5, _ => rfl
  | 6, _ => rfl
  | 7, _ => rfl
  | 8, _ => rfl
  | 9, _ => rfl
theorem p15_len (bs : List Int) (hw : wAt bs 1 = 2) (hl : bs.length ≠ 6) : parseL 15 bs = .inl 3 := by
  show parse15 15 bs = _
  unfold parse15
  rw [if_neg]
  rintro ⟨_, _, h, _⟩
  rw [hw] at h
  omega
/-- What is cut. -/
theorem parse_cut (a k m : Nat) (hk : k < 10) (hm : m < (reqB a k).length) : parseL (reqF k) ((reqB a k).take m) = .inl 3 := by
  rw [reqB_len a k hk] at hm
  match k, hk with
  | 0, _ =>
    have h : m = 0 ∨ m = 1 ∨ m = 2 ∨ m = 3 := by simp at hm; omega
    rcases h with rfl | rfl | rfl | rfl <;> rfl
  | 1, _ =>
    have h : m = 0 ∨ m = 1 ∨ m = 2 ∨ m = 3 := by simp at hm; omega
    rcases h with rfl | rfl | rfl | rfl <;> rfl
  | 2, _ =>
    have h : m = 0 ∨ m = 1 ∨ m = 2 ∨ m = 3 := by simp at hm; omega
    rcases h with rfl | rfl | rfl | rfl <;> rfl
  | 3, _ =>
    have h : m = 0 ∨ m = 1 ∨ m = 2 ∨ m = 3 := by simp at hm; omega
    rcases h with rfl | rfl | rfl | rfl <;> rfl
  | 4, _ =>
    have h : m = 0 ∨ m = 1 ∨ m = 2 ∨ m = 3 := by simp at hm; omega
    rcases h with rfl | rfl | rfl | rfl <;> rfl
  | 5, _ =>
    have h : m = 0 ∨ m = 1 ∨ m = 2 ∨ m = 3 := by simp at hm; omega
    rcases h with rfl | rfl | rfl | rfl <;> rfl
  | 6, _ =>
    have h : m = 0 ∨ m = 1 ∨ m = 2 ∨ m = 3 ∨ m = 4 ∨ m = 5 := by simp at hm; omega
    rcases h with rfl | rfl | rfl | rfl | rfl | rfl
    · rfl
    · rfl
    · rfl
    · rfl
    · exact p15_len _ rfl (by simp [reqB, reqL, wd])
    · exact p15_len _ rfl (by simp [reqB, reqL, wd])
  | 7, _ =>
    have h : m = 0 ∨ m = 1 ∨ m = 2 ∨ m = 3 ∨ m = 4 ∨ m = 5 ∨ m = 6 ∨ m = 7 ∨ m = 8 := by simp at hm; omega
    rcases h with rfl | rfl | rfl | rfl | rfl | rfl | rfl | rfl | rfl <;> rfl
  | 8, _ =>
    have h : m = 0 ∨ m = 1 ∨ m = 2 ∨ m = 3 ∨ m = 4 ∨ m = 5 := by simp at hm; omega
    rcases h with rfl | rfl | rfl | rfl | rfl | rfl <;> rfl
  | 9, _ =>
    have h : m = 0 ∨ m = 1 ∨ m = 2 ∨ m = 3 ∨ m = 4 ∨ m = 5 ∨ m = 6 ∨ m = 7 ∨ m = 8 ∨ m = 9 ∨ m = 10 ∨ m = 11 ∨ m = 12 := by simp at hm; omega
    rcases h with rfl | rfl | rfl | rfl | rfl | rfl | rfl | rfl | rfl | rfl | rfl | rfl | rfl <;> rfl
/-- What is longer. -/
theorem parse_more (a k : Nat) (hk : k < 10) : parseL (reqF k) (reqB a k ++ [0]) = .inl 3 := by
  match k, hk with
  | 0, _ => rfl
  | 1, _ => rfl
  | 2, _ => rfl
  | 3, _ => rfl
  | 4, _ => rfl
  | 5, _ => rfl
  | 6, _ => exact p15_len _ rfl (by simp [reqB, reqL, wd])
  | 7, _ => rfl
  | 8, _ => rfl
  | 9, _ => rfl
theorem reqB_bys (a k : Nat) (ha : a ≤ 65535) (hk : k < 10) : Bys (reqB a k) := by
  have hw : Bys (wd (a : Int)) := Bys.wd (by omega) (by omega)
  have h2 : Bys (wd 2) := Bys.wd (by omega) (by omega)
  have hl : ∀ l : List Int, (l.all fun x => decide (0 ≤ x) && decide (x < 256)) = true → Bys l := fun l h x hx => by
    have := List.all_eq_true.1 h x hx
    simpa using this
  match k, hk with
  | 0, _ => exact hw.append h2
  | 1, _ => exact hw.append h2
  | 2, _ => exact hw.append h2
  | 3, _ => exact hw.append h2
  | 4, _ => exact hw.append (hl [255, 0] rfl)
  | 5, _ => exact hw.append (hl [9, 9] rfl)
  | 6, _ => exact (hw.append h2).append (hl [1, 3] rfl)
  | 7, _ => exact (hw.append h2).append (hl [4, 9, 9, 9, 9] rfl)
  | 8, _ => exact hw.append (hl [0, 0, 9, 9] rfl)
  | 9, _ => exact (((hw.append h2).append hw).append h2).append (hl [4, 9, 9, 9, 9] rfl)
theorem reqF_bd (k : Nat) (hk : k < 10) : 0 ≤ reqF k ∧ reqF k < 128 := by
  match k, hk with
  | 0, _ => exact ⟨by decide, by decide⟩
  | 1, _ => exact ⟨by decide, by decide⟩
  | 2, _ => exact ⟨by decide, by decide⟩
  | 3, _ => exact ⟨by decide, by decide⟩
  | 4, _ => exact ⟨by decide, by decide⟩
  | 5, _ => exact ⟨by decide, by decide⟩
  | 6, _ => exact ⟨by decide, by decide⟩
  | 7, _ => exact ⟨by decide, by decide⟩
  | 8, _ => exact ⟨by decide, by decide⟩
  | 9, _ => exact ⟨by decide, by decide⟩

/-! ### 'done', of what is refused -/
theorem excB_bys (f x : Int) (hf : 0 ≤ f ∧ f < 256) (hx : 0 ≤ x ∧ x < 256) : Bys (excB f x) := by
  refine bys_cons ?_ (bys_cons hx (fun y hy => by simp at hy))
  exact or_byte f 128 hf (by omega)
theorem done_exc (B rb sb tb kb : Nat) (t : T4) (LL : List (List Rule)) (us : List Value) (cl : Nat) (rs : List Rule) (u : Value) (f x : Int) (v y : Value) (bs : List Int) (w : World) (Bx : Nat) (h : BankAt w B rb sb tb kb t LL us) (hcl : cl ≤ 5) (h1 : LL[cl]? = some rs) (h2 : us[cl]? = some u) (h8 : rs.length ≤ 8)
    (hv : Lies w v (f :: bs)) (hvb : ∀ b, v.ownBlock = some b → ∃ cs fr, w.heap[b]? = some (.cells cs 5 fr)) (hlen : bs.length ≤ 252) (hbs : Bys bs) (hf : 0 ≤ f ∧ f < 256) (hxb : 0 ≤ x ∧ x < 256) (hj : judge t rs f bs = .inl x) (hg : ErrVar w) (hB : 0 < B) (hy : Owns w Bx y (excB f x)) :
    Calls Tryz.prog 23 #[.pointer (some ⟨rb, 0, none⟩), .int .i64 (cl : Int), v, y] w fun r w' => r = .returned (.bool true) ∧ BankAt w' B rb sb tb kb t LL us ∧ Chg w w' (fun k => k = sb) := by
  have hans := answer_err B rb sb tb kb t LL us cl rs u f x v bs w h hcl h1 h2 h8 hv hvb hlen hbs hj hg hB (fun rp v W hr hl hd => parse_any f bs hbs hlen rp v W hr hl hd)
  have hb := excB_bys f x hf hxb
  refine (done_okc rb cl v y (excB f x) w hy.lies hb (excB f x) hb (fun _ w' => BankAt w' B rb sb tb kb t LL us ∧ Chg w w' (fun k => k = sb)) (hans.mono ?_) ?_).mono ?_
  · rintro r w' ⟨a, n, c, rfl, ho, hB', hc⟩
    refine ⟨⟨hB', hc⟩, a, n, c, rfl, ho.lies, hy.lies.chg hc (fun b e => ?_)⟩
    obtain ⟨cs, fr, q5⟩ := own_cells hy e
    exact fun e2 => rows_ne q5 h.st.row (by decide) e2
  · obtain ⟨a, c, e⟩ := hv.slice
    exact ⟨_, _, _, e⟩
  · rintro r w' ⟨rfl, r0, q1, q2⟩
    exact ⟨by simp, q1, q2⟩

/-! ### Answer, of no client and of no bytes -/
set_option maxRecDepth 10000 in
set_option maxHeartbeats 1000000 in
theorem answer_client (B rb sb tb kb : Nat) (t : T4) (LL : List (List Rule)) (us : List Value) (cl : Int) (v : Value) (w : World) (h : BankAt w B rb sb tb kb t LL us) (hc : cl < 0 ∨ (LL.length : Int) ≤ cl) (hv : ∃ a n c, v = .slice a n c) :
    Calls Tryz.prog 28 #[.pointer (some ⟨rb, 0, none⟩), .int .i64 cl, v] w fun r w' => ∃ e, r = .returned (.tuple #[.slice none 0 0, .int .i64 e]) ∧ e = 6 ∧ Below w.heap.size w w' := by
  obtain ⟨a, n, c, rfl⟩ := hv
  have HK := hide (kept_any rb sb w h.row)
  have hc3 := cell_of_row _ _ 3 _ _ _ h.st.row
  simp at hc3
  have lsb := (Array.getElem?_eq_some_iff.1 h.st.row).1
  clear h
  go_enter Tryz.func28, Tryz.ntmps28
  go_wp2_with fail
  refine (unhide HK).mono ?_
  rintro r w1 ⟨rfl, hb1⟩
  have HHC := hide (hasClient_any sb _ _ _ cl w1 ((hb1.cell (by exact lsb)).trans hc3))
  have hd : (decide ((0 : Int) ≤ cl) && decide (cl < (LL.length : Int))) = false := by simp; omega
  rw [hd] at HHC
  have HB1 := hide hb1
  clear hb1 hd HK hc3
  go_wp2_with fail
  refine (unhide HHC).mono ?_
  rintro r w2 ⟨rfl, hb2⟩
  have HB2 := hide (bl_trans (unhide HB1) hb2)
  clear hb2 HHC
  go_wp2
  exact bodyPost_ret (by simp [results, Tryz.results28]) rfl ⟨_, rfl, rfl, unhide HB2⟩
end Go.Proofs.YtfekelmldebplaaGreatDoor

namespace Go.Proofs.YtfekelmldebplaaGreatDoor
open Go.RowKit Go.MuLone

set_option maxRecDepth 10000 in
set_option maxHeartbeats 1000000 in
theorem answer_frame (B rb sb tb kb : Nat) (t : T4) (LL : List (List Rule)) (us : List Value) (cl : Nat) (w : World) (h : BankAt w B rb sb tb kb t LL us) (hc : cl < LL.length) :
    Calls Tryz.prog 28 #[.pointer (some ⟨rb, 0, none⟩), .int .i64 (cl : Int), .slice none 0 0] w fun r w' => r = .returned (.tuple #[.slice none 0 0, .int .i64 1]) ∧ Below w.heap.size w w' := by
  have HK := hide (kept_any rb sb w h.row)
  have hc3 := cell_of_row _ _ 3 _ _ _ h.st.row
  simp at hc3
  have lsb := (Array.getElem?_eq_some_iff.1 h.st.row).1
  clear h
  go_enter Tryz.func28, Tryz.ntmps28
  go_wp2_with fail
  refine (unhide HK).mono ?_
  rintro r w1 ⟨rfl, hb1⟩
  have HHC := hide (hasClient_any sb _ _ _ (cl : Int) w1 ((hb1.cell (by exact lsb)).trans hc3))
  have hd : (decide ((0 : Int) ≤ (cl : Int)) && decide ((cl : Int) < (LL.length : Int))) = true := by simp; omega
  rw [hd] at HHC
  have HB1 := hide hb1
  clear hb1 hd HK hc3
  go_wp2_with fail
  refine (unhide HHC).mono ?_
  rintro r w2 ⟨rfl, hb2⟩
  have HB2 := hide (bl_trans (unhide HB1) hb2)
  clear hb2 HHC
  go_wp2
  exact bodyPost_ret (by simp [results, Tryz.results28]) rfl ⟨rfl, unhide HB2⟩

/-- Are all entries 0? They are. -/
def StillP (w : World) (B rb sb tb kb : Nat) (t : T4) (LL : List (List Rule)) (us : List Value) (wr : World) : Prop := BankAt wr B rb sb tb kb t LL us ∧ Chg w wr (fun k => k = sb)
set_option maxRecDepth 10000 in
set_option maxHeartbeats 4000000 in
theorem still_any (B rb sb tb kb : Nat) (t : T4) (LL : List (List Rule)) (us : List Value) (n : Nat) (w : World) (h : BankAt w B rb sb tb kb t LL us) (hn : n ≤ 200) (hL : ∀ i, i < 4 → (t.at i).L = List.replicate n 0) :
    Calls Tryz.prog 27 #[.pointer (some ⟨rb, 0, none⟩), .agg #[.int .i64 (n : Int), .int .i64 (n : Int), .int .i64 (n : Int), .int .i64 (n : Int)]] w fun r w' => r = .returned (.bool true) ∧ StillP w B rb sb tb kb t LL us w' := by
  have HGt : Hid (∀ (i : Nat) (W : World), i < 4 → BankAt W B rb sb tb kb t LL us → Calls Tryz.prog 19 #[.pointer (some ⟨rb, 0, none⟩), .int .i64 (i : Int), .int .i64 0, .int .i64 (n : Int)] W fun r w' => ∃ a c, r = .returned (.tuple #[.slice a n c, .int .i64 0]) ∧ LiesI w' (.slice a n c) (List.replicate n 0) ∧ BankAt w' B rb sb tb kb t LL us ∧ Chg W w' (fun k => k = sb)) := fun i W hi hB => by
    refine (relayGet_any B rb sb tb kb t LL us i hi 0 (n : Int) W hB (by omega)).mono ?_
    rintro r w' ⟨v, rfl, hg, hB', hc⟩
    have hge : getErr (t.at i).L.length (0 : Int) (n : Int) = 0 := getErr_ok (t.at i).L.length 0 n (by rw [hL i hi]; simp)
    rw [hge] at hg ⊢
    obtain ⟨hl, _⟩ := hg.1 rfl
    rw [hL i hi, show ((0 : Int)).toNat = 0 from rfl, show ((n : Nat) : Int).toNat = n by omega, List.drop_zero, List.take_of_length_le (by simp)] at hl
    obtain ⟨a, c, e, hh⟩ := id hl
    rw [List.length_replicate] at e
    subst e
    exact ⟨a, c, rfl, hl, hB', hc⟩
  have HS := hide h
  have hb0 := rule_new w (.cells #[.int .i64 (n : Int), .int .i64 (n : Int), .int .i64 (n : Int), .int .i64 (n : Int)] 31)
  have HS0 : Hid (StillP w B rb sb tb kb t LL us (w.alloc (.cells #[.int .i64 (n : Int), .int .i64 (n : Int), .int .i64 (n : Int), .int .i64 (n : Int)] 31))) := ⟨h.below hb0, Chg.of_below hb0 _⟩
  have HR0 := hide (heap_alloc_new w (.cells #[.int .i64 (n : Int), .int .i64 (n : Int), .int .i64 (n : Int), .int .i64 (n : Int)] 31))
  clear h hb0 HS
  go_enter Tryz.func27, Tryz.ntmps27
  go_wp2_with fail
  generalize w.alloc (.cells #[.int .i64 (n : Int), .int .i64 (n : Int), .int .i64 (n : Int), .int .i64 (n : Int)] 31) = w0 at HS0 HR0 ⊢
  generalize w.heap.size = zb at HR0 ⊢
  have HN : Hid (∀ (W : World) (j : Nat), j < 4 → W.heap[zb]? = some (.cells #[.int .i64 (n : Int), .int .i64 (n : Int), .int .i64 (n : Int), .int .i64 (n : Int)] 31 (0, 0)) → W.cell? ⟨zb, j, none⟩ = some (.int .i64 (n : Int))) := fun W j hj hr => by
    rw [cell_of_row _ _ _ _ _ _ hr]
    have hk : j = 0 ∨ j = 1 ∨ j = 2 ∨ j = 3 := by omega
    rcases hk with rfl | rfl | rfl | rfl <;> rfl
  go_loopw [5] (fun i wr => ∃ j : Nat, j ≤ 4 ∧ i = .int .i64 j ∧ Hid (StillP w B rb sb tb kb t LL us wr ∧ wr.heap[zb]? = some (.cells #[.int .i64 (n : Int), .int .i64 (n : Int), .int .i64 (n : Int), .int .i64 (n : Int)] 31 (0, 0)))) (fun i _ => 4 - (intOf i).toNat)
  case atStart => exact ⟨0, by omega, rfl, unhide HS0, unhide HR0⟩
  case round =>
    obtain ⟨j, hj, rfl, HI⟩ := hrel
    by_cases hlt : j < 4
    · have hlt' : (j : Int) < 4 := by omega
      have hz := unhide HN wr j hlt (unhide HI).2
      have HG := hide (unhide HGt j wr hlt (unhide HI).1.1)
      go_wp2_with fail
      refine (unhide HG).mono ?_
      rintro r w3 ⟨a3, c3, rfl, hl3, hB3, hc3⟩
      have hr3 := (hc3.block zb (Array.getElem?_eq_some_iff.1 (unhide HI).2).1 (rows_ne (unhide HI).2 (unhide HI).1.1.st.row (by decide))).trans (unhide HI).2
      have HI3 : Hid (StillP w B rb sb tb kb t LL us w3 ∧ w3.heap[zb]? = some (.cells #[.int .i64 (n : Int), .int .i64 (n : Int), .int .i64 (n : Int), .int .i64 (n : Int)] 31 (0, 0))) := ⟨⟨hB3, (unhide HI).1.2.trans hc3 (fun _ e _ => e)⟩, hr3⟩
      have hz3 := unhide HN w3 j hlt hr3
      obtain ⟨a', c', e', hl⟩ := hl3
      rw [List.length_replicate] at e'
      cases e'
      rw [List.length_replicate] at hl
      have HL := hide hl
      clear hl hB3 hc3 hr3 HG HI hz
      go_wp2_with fail
      go_loopw [8] (fun i wr => ∃ k : Nat, k ≤ n ∧ i = .int .i64 k ∧ wr = w3) (fun i _ => n - (intOf i).toNat)
      case atStart => exact ⟨0, by omega, rfl, rfl⟩
      case round =>
        obtain ⟨k, hk, rfl, hwr⟩ := hrel
        subst hwr
        by_cases hkn : k < n
        · have hkn' : (k : Int) < (n : Int) := by omega
          obtain ⟨b, o, rfl, hbl, hcl⟩ := (unhide HL).resolve_left (fun e => by have := congrArg List.length e; simp at this; omega)
          have hc := hcl k hkn
          rw [rep_get] at hc
          clear hcl
          go_wp2
          go_roundw
          case rel => exact ⟨k + 1, by omega, by simp, by trivial⟩
          case measure => simp [intOf]; omega
        · obtain rfl : k = n := by omega
          go_wp2
          go_roundw
          case rel => exact ⟨j + 1, by omega, by simp, unhide HI3⟩
          case measure => simp [intOf]; omega
    · obtain rfl : j = 4 := by omega
      go_wp2
      go_ret
      exact ⟨rfl, (unhide HI).1⟩
end Go.Proofs.YtfekelmldebplaaGreatDoor

namespace Go.Proofs.YtfekelmldebplaaGreatDoor
open Go.RowKit Go.MuLone

/-- In the midst of Refused. -/
structure RS (w W : World) (B rb sb tb kb : Nat) (t : T4) (us : List Value) (vq : Value) (q : List Int) : Prop where
  bel : Below w.heap.size w W
  bk : BankAt W B rb sb tb kb t [allRules, []] us
  own : Owns W w.heap.size vq q
  err : ErrVar W
  lo : w.heap.size ≤ B
  pos : 0 < B
theorem RS.below {w W W' : World} {B rb sb tb kb : Nat} {t : T4} {us : List Value} {vq : Value} {q : List Int} (h : RS w W B rb sb tb kb t us vq q) (hb : Below W.heap.size W W') : RS w W' B rb sb tb kb t us vq q :=
  ⟨bl_trans h.bel hb, h.bk.below hb, h.own.kept hb, h.err.below hb, h.lo, h.pos⟩
theorem RS.done {w W W' : World} {B rb sb tb kb : Nat} {t : T4} {us : List Value} {vq : Value} {q : List Int} (h : RS w W B rb sb tb kb t us vq q) (c : Chg W W' (fun k => k = sb)) (hb : BankAt W' B rb sb tb kb t [allRules, []] us) : RS w W' B rb sb tb kb t us vq q := by
  have hl := h.bk.st.lo
  have hp := h.pos
  have hlo := h.lo
  refine ⟨below_chg h.bel c (fun k e => by have e2 : k = sb := e; omega), hb, ownsRow_keep h.own (fun k _ h2 e => c.block k h2 (fun e2 => ?_)), (World.cell?_of_block (c.block 0 (World.block_lt_of_cell? W _ h.err) (fun e => by have e2 : 0 = sb := e; omega))).trans h.err, h.lo, h.pos⟩
  obtain ⟨cs, fr, q5⟩ := own_cells h.own e
  exact rows_ne q5 h.bk.st.row (by decide) e2
/-- A request that is refused, told as it must be. -/
theorem RS.exc {w W : World} {B rb sb tb kb : Nat} {t : T4} {us : List Value} {vq : Value} {q : List Int} (h : RS w W B rb sb tb kb t us vq q) (cl : Nat) (hcl : cl ≤ 1) (rs : List Rule) (hrs : ([allRules, []] : List (List Rule))[cl]? = some rs) (f x : Int) (v y : Value) (bs : List Int) (Bx : Nat)
    (hv : Lies W v (f :: bs)) (hvb : ∀ b, v.ownBlock = some b → ∃ cs fr, W.heap[b]? = some (.cells cs 5 fr)) (hlen : bs.length ≤ 252) (hbs : Bys bs) (hf : 0 ≤ f ∧ f < 256) (hxb : 0 ≤ x ∧ x < 256) (hj : judge t rs f bs = .inl x) (hy : Owns W Bx y (excB f x)) :
    Calls Tryz.prog 23 #[.pointer (some ⟨rb, 0, none⟩), .int .i64 (cl : Int), v, y] W fun r w' => r = .returned (.bool true) ∧ RS w w' B rb sb tb kb t us vq q ∧ Chg W w' (fun k => k = sb) := by
  have hus : ∃ u, us[cl]? = some u := by
    have hl := h.bk.st.cl.len
    have : cl < us.length := by rw [hl]; simp; omega
    exact ⟨us[cl], List.getElem?_eq_getElem this⟩
  obtain ⟨u, hu⟩ := hus
  have h8 : rs.length ≤ 8 := by
    have hk : cl = 0 ∨ cl = 1 := by omega
    rcases hk with rfl | rfl
    · cases hrs; simp [allRules]
    · cases hrs; simp
  refine (done_exc B rb sb tb kb t _ us cl rs u f x v y bs W Bx h.bk (by omega) hrs hu h8 hv hvb hlen hbs hf hxb hj h.err h.pos hy).mono ?_
  rintro r w' ⟨rfl, hb, hc⟩
  exact ⟨rfl, h.done hc hb, hc⟩
theorem RS.tell {w W : World} {B rb sb tb kb : Nat} {t : T4} {us : List Value} {vq : Value} {q : List Int} (h : RS w W B rb sb tb kb t us vq q) (cl : Nat) (hcl : cl ≤ 1) (rs : List Rule) (hrs : ([allRules, []] : List (List Rule))[cl]? = some rs) (f x : Int) (v : Value) (bs : List Int)
    (hv : Lies W v (f :: bs)) (hvb : ∀ b, v.ownBlock = some b → ∃ cs fr, W.heap[b]? = some (.cells cs 5 fr)) (hlen : bs.length ≤ 252) (hbs : Bys bs) (hf : 0 ≤ f ∧ f < 256) (hxb : 0 ≤ x ∧ x < 256) (hj : judge t rs f bs = .inl x) :
    Calls Tryz.prog 23 #[.pointer (some ⟨rb, 0, none⟩), .int .i64 (cl : Int), v, .slice (some ⟨W.heap.size, 0, none⟩) 2 2] (W.alloc (.cells #[.int .u8 (bits BinOp.or IntKind.u8 f 128), .int .u8 x] 5)) fun r w' => r = .returned (.bool true) ∧ RS w w' B rb sb tb kb t us vq q ∧ Chg W w' (fun k => k = sb) := by
  have hb := rule_new W (.cells #[.int .u8 (bits BinOp.or IntKind.u8 f 128), .int .u8 x] 5)
  refine ((h.below hb).exc cl hcl rs hrs f x v _ bs W.heap.size (hv.below hb) (fun b e => ?_) hlen hbs hf hxb hj (owns_fresh W (excB f x) W.heap.size (Nat.le_refl _) (by simp [excB]))).mono ?_
  · obtain ⟨cs, fr, qq⟩ := hvb b e
    exact ⟨cs, fr, (hb.block b (Array.getElem?_eq_some_iff.1 qq).1).trans qq⟩
  · rintro r w' ⟨rfl, h1, h2⟩
    exact ⟨rfl, h1, (Chg.of_below hb (fun k => k = sb)).trans h2 (fun _ e _ => e)⟩
theorem Owns.cap {w : World} {B g n c : Nat} {xs : List Int} (h : Owns w B (.slice (some ⟨g, 0, none⟩) n c) xs) : n ≤ c := by
  rcases h.2 with ⟨e, _⟩ | ⟨g2, cap, cur, e, _, _, hh, _⟩
  · cases e
  · cases e
    exact hh
theorem lies_cut {w : World} {g n c : Nat} {xs : List Int} (h : Lies w (.slice (some ⟨g, 0, none⟩) xs.length c) xs) (hn : n ≤ xs.length) : Lies w (.slice (some ⟨g, 0, none⟩) n c) (xs.take n) := by
  rcases h with ⟨a, c', e, rfl⟩ | ⟨b, o, c', e, h1, h2, h3⟩
  · obtain rfl : n = 0 := by simpa using hn
    exact .inl ⟨_, _, rfl, rfl⟩
  · cases e
    have hl : (xs.take n).length = n := by simp; omega
    refine .inr ⟨g, 0, c, by rw [hl], by omega, ?_, fun i hi => ?_⟩
    · rcases h2 with rfl | h2
      · exact .inl (by simp)
      · exact .inr h2
    · rw [hl] at hi
      rw [h3 i (by omega)]
      simp [List.getD_eq_getElem?_getD, hi]
theorem told_head (q : Req) (p : List Int) : ∃ l, toldL q p = q.f :: l ∧ l ≠ [] := by
  unfold toldL
  split
  · exact ⟨_, rfl, by simp⟩
  · exact ⟨_, rfl, by assumption⟩
def noneL : List Int := [7, 8, 14, 17, 24, 100, 127, 0, 9, 21]
theorem none_or (j : Nat) (hj : j < 10) : bits BinOp.or IntKind.i64 (noneL.getD j 0) 128 = bits BinOp.or IntKind.u8 (noneL.getD j 0) 128 ∧ 0 ≤ noneL.getD j 0 ∧ noneL.getD j 0 < 128 ∧ ∀ bs, parseL (noneL.getD j 0) bs = .inl 1 := by
  match j, hj with
  | 0, _ => exact ⟨by decide, by decide, by decide, fun _ => rfl⟩
  | 1, _ => exact ⟨by decide, by decide, by decide, fun _ => rfl⟩
  | 2, _ => exact ⟨by decide, by decide, by decide, fun _ => rfl⟩
  | 3, _ => exact ⟨by decide, by decide, by decide, fun _ => rfl⟩
  | 4, _ => exact ⟨by decide, by decide, by decide, fun _ => rfl⟩
  | 5, _ => exact ⟨by decide, by decide, by decide, fun _ => rfl⟩
  | 6, _ => exact ⟨by decide, by decide, by decide, fun _ => rfl⟩
  | 7, _ => exact ⟨by decide, by decide, by decide, fun _ => rfl⟩
  | 8, _ => exact ⟨by decide, by decide, by decide, fun _ => rfl⟩
  | 9, _ => exact ⟨by decide, by decide, by decide, fun _ => rfl⟩
end Go.Proofs.YtfekelmldebplaaGreatDoor
