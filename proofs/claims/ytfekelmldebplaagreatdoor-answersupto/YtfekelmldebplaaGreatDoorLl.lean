import Derived.Test.YtfekelmldebplaaGreatDoorUg
import Derived.Test.YtfekelmldebplaaGreatDoorUc
import Derived.Test.YtfekelmldebplaaGreatDoorSs
set_option maxRecDepth 100000
set_option maxHeartbeats 8000000
namespace Go.Proofs.YtfekelmldebplaaGreatDoor
open Go.RowKit
theorem aHa {G : Prop} {S : Prop} (main : S → G) (key : S) : G := main key
structure Spans (w1 w2 : World) (p2 p3 : Nat) (a b c d : Int) : Prop where
 r2 : w2.heap[p2]? = some (.cells #[.int .i64 a, .int .i64 b] 271 (0, 0))
 r3 : w2.heap[p3]? = some (.cells #[.int .i64 c, .int .i64 d] 271 (0, 0))
 l2 : w1.heap.size ≤ p2
 l3 : w1.heap.size ≤ p3
 bel : Below w1.heap.size w1 w2
theorem lZ (w1 : World) (a b c d : Int) : Spans w1 ((w1.alloc (.cells #[.int .i64 a, .int .i64 b] 271)).alloc (.cells #[.int .i64 c, .int .i64 d] 271)).drew w1.heap.size (w1.heap.size + 1) a b c d := by
 refine ⟨?_, ?_, Nat.le_refl _, by omega, (aD (aZ w1 _) (aZ _ _)).drew⟩
 ·exact ((aZ (w1.alloc (.cells #[.int .i64 a, .int .i64 b] 271)) (.cells #[.int .i64 c, .int .i64 d] 271)).block w1.heap.size (by simp)).trans (heap_alloc_new w1 _)
 ·have := heap_alloc_new (w1.alloc (.cells #[.int .i64 a, .int .i64 b] 271)) (.cells #[.int .i64 c, .int .i64 d] 271)
  simp only [World.size_alloc] at this
  exact this
theorem Spans.swap {w1 w2 : World} {p2 p3 : Nat} {a b c d : Int} (h : Spans w1 w2 p2 p3 a b c d) : Spans w1 w2 p3 p2 c d a b := ⟨h.r3, h.r2, h.l3, h.l2, h.bel⟩
theorem vJ (rp : Nat) (f : Int) (v : Value) (bs : List Int) (w : World) (hr : QNew w rp f) (h : Lies w v bs) (hx : Bys bs) (hl : bs.length ≤ 252) (hv : ∀ b, v.ownBlock = some b → b ≠ rp) :
  Calls Tryz.prog 207 #[.pointer (some ⟨rp, 0, none⟩), v] w fun e w' => bK w rp f v (cM f bs) e w' := by
 obtain ⟨av, cv, rfl⟩ := h.slice
 by_cases h4 : bs.length < 8
 ·have HR : Hid (cM f bs = .inl 3) := by
   show _ = _
   unfold cM
   rw [if_neg (by omega)]
  have HS := hide (gR _ bs 4 w h (by omega) h4)
  rw [show ((4 : Nat) : Int) = 4 from rfl] at HS
  have HW := hide (bW rp _ _ _ _ _ _ _ _ _ w hr)
  clear h hr hx
  go_enter Tryz.func207, Tryz.ntmps207
  go_wp2_with fail
  refine (aA HS).mono ?_
  rintro e w ⟨rfl, rfl⟩
  clear HS
  go_wp2_with fail
  refine (aA HW).mono ?_
  rintro e w1 ⟨n, v', rfl, he, hb⟩
  obtain ⟨T, p, rfl⟩ := he.iface
  have HE := hide he
  clear he HW
  go_wp2
  go_ret
  exact bK.err (aA HR) (aA HE) hb
 ·have HS := hide (fV _ bs 4 w h hx (by omega) (by omega) (by omega) (by omega))
  rw [show ((4 : Nat) : Int) = 4 from rfl] at HS
  have HR0 := hide hr
  have H := hide h
  have HX := hide hx
  clear h hr hx
  have HVV := hide hv
  have hw1 := dU bs (aA HX) 1
  have hw3 := dU bs (aA HX) 3
  clear hv
  have HC1 := hide (fun w => fN (wAt bs 1) 125 w)
  have HC3 := hide (fun w => fN (wAt bs 3) 121 w)
  rw [show ((125 : Nat) : Int) = 125 from rfl] at HC1
  rw [show ((121 : Nat) : Int) = 121 from rfl] at HC3
  go_enter Tryz.func207, Tryz.ntmps207
  go_wp2_with fail
  refine (aA HS).mono ?_
  rintro e w1 ⟨k, a, m, c, rfl, hs⟩
  have q0 := cL bs 4 0 w1 k hs.row (by omega)
  have q1 := cL bs 4 1 w1 k hs.row (by omega)
  have q2 := cL bs 4 2 w1 k hs.row (by omega)
  have q3 := cL bs 4 3 w1 k hs.row (by omega)
  have HS1 := hide hs
  clear hs HS
  have hkl : k < w1.heap.size := (Array.getElem?_eq_some_iff.1 (aA HS1).row).1
  have hkn : k ≠ w1.heap.size := by omega
  have hkn1 : k ≠ w1.heap.size + 1 := by omega
  have hkn' : w1.heap.size ≠ k := by omega
  have hkn1' : w1.heap.size + 1 ≠ k := by omega
  have hk1 : ∀ (o : Obj) (i : Nat), (w1.alloc o).cell? ⟨k, i, none⟩ = w1.cell? ⟨k, i, none⟩ := fun o i => World.cell?_alloc_lt _ _ _ hkl
  have hk2 : ∀ (o o2 : Obj) (i : Nat), ((w1.alloc o).alloc o2).cell? ⟨k, i, none⟩ = w1.cell? ⟨k, i, none⟩ := fun o o2 i => by rw [World.cell?_alloc_lt _ _ _ (by simp; omega)]; exact hk1 o i
  go_wp2_with fail
  apply aHa
  case main =>
   intro key
   go_region
   ·have hF := lZ w1 (wAt bs 0 : Nat) (wAt bs 1 : Nat) (wAt bs 2 : Nat) (wAt bs 3 : Nat)
    generalize ((w1.alloc (.cells #[.int .i64 (wAt bs 0 : Nat), .int .i64 (wAt bs 1 : Nat)] 271)).alloc (.cells #[.int .i64 (wAt bs 2 : Nat), .int .i64 (wAt bs 3 : Nat)] 271)).drew = w2 at hF ⊢
    generalize w1.heap.size + 1 = p3 at hF ⊢
    generalize w1.heap.size = p2 at hF ⊢
    revert hF
    revert w2 p2 p3
    exact key
   all_goals
    first
     | exact key _ _ _ (lZ w1 (wAt bs 0 : Nat) (wAt bs 1 : Nat) (wAt bs 2 : Nat) (wAt bs 3 : Nat))
     | exact key _ _ _ (lZ w1 (wAt bs 2 : Nat) (wAt bs 3 : Nat) (wAt bs 0 : Nat) (wAt bs 1 : Nat)).swap
  case key =>
   intro w2 p2 p3 hF
   have hs2 := (aA HS1).below2 hF.bel
   have hr2 := (aA HR0).below hs2.bel
   have HS2 := hide hs2
   have HR2 := hide hr2
   have HF := hide hF
   have x1 := cell_of_row _ _ 1 _ _ _ hF.r2
   have y1 := cell_of_row _ _ 1 _ _ _ hF.r3
   simp at x1 y1
   clear hs2 hr2 hF hkl hkn hkn1 hkn' hkn1' hk1 hk2 q0 q1 q2 q3
   cases hc1 : bS (wAt bs 1) 125 with
   | false =>
    have HR : Hid (cM f bs = .inl 3) := by
     show _ = _
     unfold cM
     rw [if_neg (by rw [hc1]; simp)]
    have HW := hide (eR rp _ _ _ _ _ _ _ _ _ w2 (aA HR2))
    rw [hc1] at HC1
    clear hc1
    go_wp2_with (go_at_call 217; refine (aA HC1 _).mono ?_; rintro e w2 ⟨rfl, rfl⟩)
    refine (aA HW).mono ?_
    rintro e w3 ⟨n, v', rfl, he, hb⟩
    obtain ⟨T, p, rfl⟩ := he.iface
    have HE := hide he
    clear he HW
    go_wp2
    go_ret
    exact bK.err (aA HR) (aA HE) (aD (aA HS2).bel hb)
   | true =>
    rw [hc1] at HC1
    cases hc3 : bS (wAt bs 3) 121 with
    | false =>
     have HR : Hid (cM f bs = .inl 3) := by
      show _ = _
      unfold cM
      rw [if_neg (by rw [hc3]; simp)]
     have HW := hide (eR rp _ _ _ _ _ _ _ _ _ w2 (aA HR2))
     rw [hc3] at HC3
     clear hc1 hc3
     go_wp2_with fail
     refine (aA HC1 _).mono ?_
     rintro e w2 ⟨rfl, rfl⟩
     go_wp2_with fail
     refine (aA HC3 _).mono ?_
     rintro e w2 ⟨rfl, rfl⟩
     go_wp2_with fail
     refine (aA HW).mono ?_
     rintro e w3 ⟨n, v', rfl, he, hb⟩
     obtain ⟨T, p, rfl⟩ := he.iface
     have HE := hide he
     clear he HW
     go_wp2
     go_ret
     exact bK.err (aA HR) (aA HE) (aD (aA HS2).bel hb)
    | true =>
     rw [hc3] at HC3
     have hn3 : 1 ≤ wAt bs 3 ∧ wAt bs 3 ≤ 121 := by simp [bS] at hc3; exact hc3
     have HSz := hide (fun w => kY (wAt bs 3) (2 * wAt bs 3) w (by omega) rfl)
     cases hz : fD (bs.drop 8) (2 * wAt bs 3) with
     | false =>
      have HR : Hid (cM f bs = .inl 3) := by
       show _ = _
       unfold cM
       rw [if_neg (fun e => by
        obtain ⟨e1, _, _, e2, e3⟩ := e
        have : fD (bs.drop 8) (2 * wAt bs 3) = true := by
         simp only [fD, List.length_drop, gN, Bool.and_eq_true, decide_eq_true_eq]
         exact ⟨by omega, by simpa using e3⟩
        rw [hz] at this
        cases this)]
      have HZ1 := hide (nX _ _ (2 * wAt bs 3) w2 (aA HS2).rest ((aA HX).drop 8) (by simp; omega) (by omega) hz)
      have HW := hide (fun w3 (hb : Below w2.heap.size w2 w3) => bW rp _ _ _ _ _ _ _ _ _ w3 ((aA HR2).below hb))
      clear hc1 hc3 hz
      generalize ((2 * wAt bs 3 : Nat) : Int) = sz at HSz HZ1
      go_wp2_with fail
      refine (aA HC1 _).mono ?_
      rintro e w2 ⟨rfl, rfl⟩
      go_wp2_with fail
      refine (aA HC3 _).mono ?_
      rintro e w2 ⟨rfl, rfl⟩
      go_wp2_with fail
      refine (aA HSz _).mono ?_
      rintro e w2 ⟨rfl, rfl⟩
      go_wp2_with fail
      refine (aA HZ1).mono ?_
      rintro e w3 ⟨rfl, hb3⟩
      have HW2 := hide (aA HW w3 hb3)
      have HB3 := hide hb3
      clear HW hb3 HZ1
      go_wp2_with fail
      refine (aA HW2).mono ?_
      rintro e w4 ⟨n, v', rfl, he, hb⟩
      obtain ⟨T, p, rfl⟩ := he.iface
      have HE := hide he
      clear he HW2
      go_wp2
      go_ret
      exact bK.err (aA HR) (aA HE) (aD (aD (aA HS2).bel (aA HB3)) hb)
     | true =>
      have hz2 : (bs.drop 8).length = 1 + 2 * wAt bs 3 ∧ (bs.drop 8).getD 0 0 = ((2 * wAt bs 3 : Nat) : Int) := by
       simp only [fD, Bool.and_eq_true, decide_eq_true_eq] at hz
       exact hz
      have HQ : Hid (cM f bs = .inr ⟨f, 3, wAt bs 0, wAt bs 1, wAt bs 2, wAt bs 3, bY (bs.drop 9) (wAt bs 3), 0, []⟩) := by
       show _ = _
       unfold cM
       rw [if_pos ⟨by omega, hc1, hc3, by have := hz2.1; simp at this; omega, by have := hz2.2; rw [gN] at this; exact this⟩]
      have HLn : Hid (2 * wAt bs 3 ≤ (bs.drop 9).length) := by
       have := hz2.1
       simp at this
       show 2 * wAt bs 3 ≤ (bs.drop 9).length
       simp
       omega
      clear hz2
      have HZ1 := hide (mA _ _ (2 * wAt bs 3) w2 (aA HS2).rest ((aA HX).drop 8) (by simp; omega) (by omega) hz)
      generalize hszn : ((2 * wAt bs 3 : Nat) : Int) = sz at HSz HZ1
      clear hszn
      go_wp2_with fail
      refine (aA HC1 _).mono ?_
      rintro e w2 ⟨rfl, rfl⟩
      go_wp2_with fail
      refine (aA HC3 _).mono ?_
      rintro e w2 ⟨rfl, rfl⟩
      go_wp2_with fail
      refine (aA HSz _).mono ?_
      rintro e w2 ⟨rfl, rfl⟩
      go_wp2_with fail
      refine (aA HZ1).mono ?_
      rintro e w3 ⟨a9, m9, c9, rfl, hp3, hpo, hb3⟩
      have hF := aA HF
      have r2 := (hb3.block _ (Array.getElem?_eq_some_iff.1 hF.r2).1).trans hF.r2
      have r3 := (hb3.block _ (Array.getElem?_eq_some_iff.1 hF.r3).1).trans hF.r3
      have hlw1 := (aA HS1).bel.size
      have hlr : rp < w.heap.size := (aA HR0).lt
      have n2 := hF.l2
      have n3 := hF.l3
      have ne2 : p2 ≠ rp := by omega
      have ne3 : p3 ≠ rp := by omega
      have ne2' : rp ≠ p2 := by omega
      have ne3' : rp ≠ p3 := by omega
      have hr3 := (aA HR2).below hb3
      have X0 := cell_of_row _ _ 0 _ _ _ r2
      have X1 := cell_of_row _ _ 1 _ _ _ r2
      have Y0 := cell_of_row _ _ 0 _ _ _ r3
      have Y1 := cell_of_row _ _ 1 _ _ _ r3
      simp at X0 X1 Y0 Y1
      have c1 := cell_of_row _ _ 1 _ _ _ hr3.row
      have f1 := frozen_of_row _ _ 1 _ _ hr3.row
      have c2 := cell_of_row _ _ 2 _ _ _ hr3.row
      have f2 := frozen_of_row _ _ 2 _ _ hr3.row
      have c3 := cell_of_row _ _ 3 _ _ _ hr3.row
      have f3 := frozen_of_row _ _ 3 _ _ hr3.row
      have c4 := cell_of_row _ _ 4 _ _ _ hr3.row
      have f4 := frozen_of_row _ _ 4 _ _ hr3.row
      have c5 := cell_of_row _ _ 5 _ _ _ hr3.row
      have f5 := frozen_of_row _ _ 5 _ _ hr3.row
      simp [rrow] at c1 c2 c3 c4 c5
      have HB3 := hide hb3
      have HP3 := hide hp3
      have HPO := hide hpo
      have HR3 := hide hr3
      have HRW3 := hide r3
      clear r2 r3 hr3 hb3 hp3 hpo hF n2 n3 hlw1 hc1 hc3 hz x1 y1 HZ1 HSz
      go_wp2
      go_region
      have C4 := hide ((((((Chg.refl w3 (fun k => k = rp)).put rp 1 (.int .i64 3) rfl).put rp 2 (.int .i64 (wAt bs 0 : Nat)) rfl).put rp 3 (.int .i64 (wAt bs 1 : Nat)) rfl).put rp 4 (.int .i64 (wAt bs 2 : Nat)) rfl).put rp 5 (.int .i64 (wAt bs 3 : Nat)) rfl).drew
      have R4 : Hid (RAt (((((w3.setCell ⟨rp, 1, none⟩ (.int .i64 3)).setCell ⟨rp, 2, none⟩ (.int .i64 (wAt bs 0 : Nat))).setCell ⟨rp, 3, none⟩ (.int .i64 (wAt bs 1 : Nat))).setCell ⟨rp, 4, none⟩ (.int .i64 (wAt bs 2 : Nat))).setCell ⟨rp, 5, none⟩ (.int .i64 (wAt bs 3 : Nat))).drew rp f 3 (wAt bs 0 : Nat) (wAt bs 1 : Nat) (wAt bs 2 : Nat) (wAt bs 3 : Nat) (.slice none 0 0) 0 (.slice none 0 0)) := ⟨((((((aA HR3).s1 3).s2 (wAt bs 0 : Nat)).s3 (wAt bs 1 : Nat)).s4 (wAt bs 2 : Nat)).s5 (wAt bs 3 : Nat)).row⟩
      generalize (((((w3.setCell ⟨rp, 1, none⟩ (.int .i64 3)).setCell ⟨rp, 2, none⟩ (.int .i64 (wAt bs 0 : Nat))).setCell ⟨rp, 3, none⟩ (.int .i64 (wAt bs 1 : Nat))).setCell ⟨rp, 4, none⟩ (.int .i64 (wAt bs 2 : Nat))).setCell ⟨rp, 5, none⟩ (.int .i64 (wAt bs 3 : Nat))).drew = W4 at R4 C4 ⊢
      clear c1 f1 c2 f2 c3 f3 c4 f4 c5 f5 X0 X1 Y0 Y1
      have r4 := ((aA C4).block _ (Array.getElem?_eq_some_iff.1 (aA HRW3)).1 ne2).trans (aA HRW3)
      have Y1 := cell_of_row _ _ 1 _ _ _ r4
      simp at Y1
      have hp4 := aA HP3
      rw [List.drop_drop, show 2 * 4 + 1 = 9 from rfl] at hp4
      have HU := hide (unpW (.slice a9 m9 c9) (bs.drop 9) (wAt bs 3) W4 W4 (hp4.chg (aA C4) (fun b e => aA HVV b (by rw [← (aA HS2).own, ← aA HPO]; exact e))) ((aA HX).drop 9) (aA HLn) (by omega) (Below.refl _ _))
      clear r4 hp4
      go_wp2_with fail
      refine (aA HU).mono ?_
      rintro e w5 ⟨g, rfl, hU⟩
      have hr5 := (aA R4).below hU.bel
      have c6 := cell_of_row _ _ 6 _ _ _ hr5.row
      have f6 := frozen_of_row _ _ 6 _ _ hr5.row
      simp only [rrow] at c6
      have hlg := hU.lo
      have hl4 := (aA C4).size
      have hl3 := (aA HB3).size
      have hl2 := (aA HS2).bel.size
      have hgr : g ≠ rp := by omega
      have cc : Chg w5 (w5.setCell ⟨rp, 6, none⟩ (.slice (some ⟨g, 0, none⟩) (wAt bs 3) (wAt bs 3))) (fun k => k = rp) := (Chg.refl w5 (fun k => k = rp)).put rp 6 _ rfl
      have CF := hide ((((Chg.of_below (aD (aA HS2).bel (aA HB3)) (fun k => k = rp)).trans (aA C4) (fun _ e _ => e)).trans (Chg.of_below hU.bel (fun _ => False)) (fun _ e _ => e.elim)).trans cc (fun _ e _ => e))
      have RF := hide (hr5.s6 (.slice (some ⟨g, 0, none⟩) (wAt bs 3) (wAt bs 3)))
      have LF : Hid (cB (w5.setCell ⟨rp, 6, none⟩ (.slice (some ⟨g, 0, none⟩) (wAt bs 3) (wAt bs 3))) (.slice (some ⟨g, 0, none⟩) (wAt bs 3) (wAt bs 3)) (bY (bs.drop 9) (wAt bs 3))) := by
       have q := fB (eJ hU.row 0 (wAt bs 3) (wAt bs 3) (by rw [dZ]; omega)) cc (fun b e => by simp [Value.ownBlock] at e; subst e; exact hgr)
       rw [List.drop_zero, List.take_of_length_le (by rw [dZ]; omega)] at q
       exact q
      have GF : Hid (∀ b, (Value.slice (some ⟨g, 0, none⟩) (wAt bs 3) (wAt bs 3)).ownBlock = some b → w.heap.size ≤ b) := fun b e => by simp [Value.ownBlock] at e; omega
      clear hU hr5 cc HU hgr hlg hl4 hl3 hl2 Y1
      go_wp2
      go_ret
      exact bK.mkR (aA HQ) (aA CF) (aA RF) (aA LF) (.inl ⟨none, 0, rfl, rfl⟩) (aA GF) (fun b e => by simp [Value.ownBlock] at e)
theorem aDn (rp : Nat) (v : Value) (bs : List Int) (w : World) (hr : QNew w rp 23) (h : Lies w v bs) (hx : Bys bs) (hl : bs.length ≤ 252) (hv : ∀ b, v.ownBlock = some b → b ≠ rp) :
  Calls Tryz.prog 188 #[.pointer (some ⟨rp, 0, none⟩), v] w fun e w' => bK w rp 23 v (aO 23 bs) e w' := by
 have c0 := cell_of_row _ _ 0 _ _ _ hr.row
 simp [rrow] at c0
 have HP := hide (vJ rp 23 v bs w hr h hx hl hv)
 have hq : aO 23 bs = cM 23 bs := rfl
 rw [hq]
 obtain ⟨av, cv, rfl⟩ := h.slice
 clear hr h hx hq hv
 go_enter Tryz.func188, Tryz.ntmps188
 go_wp2_with fail
 refine (aA HP).mono ?_
 rintro e w2 ⟨hc, hm⟩
 cases hq : cM 23 bs with
 | inl x =>
  rw [hq] at hm
  obtain ⟨n, T, p, rfl, he⟩ := hm
  have HE := hide he
  have HC := hide hc
  have HQ := hide hq
  clear he hc HP hq c0
  go_wp2
  go_ret
  exact bK.mkL (aA HQ) (aA HC) (aA HE)
 | inr q =>
  rw [hq] at hm
  obtain ⟨vv, ve, rfl, h1, h2, h3, h4, h5⟩ := hm
  have H1 := hide h1
  have H2 := hide h2
  have H3 := hide h3
  have H4 := hide h4
  have H5 := hide h5
  have HC := hide hc
  have HQ := hide hq
  clear h1 h2 h3 h4 h5 hc HP hq c0
  go_wp2
  go_ret
  exact bK.mkR (aA HQ) (aA HC) (aA H1) (aA H2) (aA H3) (aA H4) (aA H5)
theorem kN (v u : Value) (xs ys : List Int) (w : World) (h : cB w v xs) (k : cB w u ys) (hn : xs.length ≤ 1000000000) :
  Calls Tryz.prog 92 #[v, u] w fun e w' => e = .returned (.bool (decide (xs = ys))) ∧ Below w.heap.size w w' := by
 obtain ⟨a, c, rfl, h⟩ := h
 obtain ⟨b, d, rfl, k⟩ := k
 have H := hide h
 have K := hide k
 clear h k
 by_cases hl : xs.length = ys.length
 ·have HL := hide hl
  clear hl
  have hle : ((xs.length : Int) != (ys.length : Int)) = false := by simp [aA HL]
  go_enter Tryz.func92, Tryz.ntmps92
  go_wp2
  go_loopw [5] (fun i wr => ∃ t : Nat, t ≤ xs.length ∧ i = .int .i64 t ∧ Hid (xs.take t = ys.take t) ∧ Below w.heap.size w wr) (fun i _ => xs.length - (intOf i).toNat)
  case atStart => exact ⟨0, by omega, rfl, rfl, Below.refl _ _⟩
  case round =>
   obtain ⟨t, ht, rfl, HT, hb⟩ := hrel
   by_cases hlt : t < xs.length
   ·obtain ⟨ba, oa, rfl, hla, hca⟩ := (aA H).resolve_left (fun e => by rw [e] at hlt; simp at hlt)
    have hlt2 : t < ys.length := by have := aA HL; omega
    obtain ⟨bb, ob, rfl, hlb, hcb⟩ := (aA K).resolve_left (fun e => by rw [e] at hlt2; simp at hlt2)
    have c1 := (hb.cell (by exact hla)).trans (hca t hlt)
    have c2 := (hb.cell (by exact hlb)).trans (hcb t hlt2)
    have HN : Hid (xs.getD t 0 = ys.getD t 0 ↔ xs.take (t + 1) = ys.take (t + 1)) := rV xs ys t hlt hlt2 (aA HT)
    have HG : Hid (xs.getD t 0 ≠ ys.getD t 0 → xs ≠ ys) := fun h e => h (by rw [e])
    have hlt2' : (t : Int) < (ys.length : Int) := by omega
    clear hca hcb
    generalize xs.getD t 0 = p at c1 HN HG
    generalize ys.getD t 0 = q at c2 HN HG
    by_cases hpq : p = q
    ·have HE := hide ((aA HN).1 hpq)
     subst hpq
     go_wp2
     go_region
     go_wp2
     go_roundw
     case rel => exact ⟨t + 1, by omega, by go_num, HE, by first | exact hb | exact hb.drew⟩
     case measure => simp [intOf]; omega
    ·have HE := hide (aA HG hpq)
     have hpq' : (p != q) = true := by simpa using hpq
     go_wp2
     go_region
     go_wp2
     go_ret
     exact ⟨aV (by simp [aA HE]), by first | exact hb | exact hb.drew⟩
   ·obtain rfl : t = xs.length := by omega
    have HE : Hid (xs = ys) := by
     have := aA HT
     rw [List.take_length, aA HL, List.take_length] at this
     exact this
    go_wp2
    go_ret
    exact ⟨aV (by simp [aA HE]), by first | exact hb | exact hb.drew⟩
 ·have hl' : ((xs.length : Int) != (ys.length : Int)) = true := by simp; omega
  have hne : Hid (xs ≠ ys) := fun e => hl (by rw [e])
  go_enter Tryz.func92, Tryz.ntmps92
  go_wp2
  go_ret
  exact ⟨aV (by simp [aA hne]), Below.refl _ _⟩
theorem kO.lies {w : World} {B : Nat} {v : Value} {xs : List Int} (h : kO w B v xs) : cB w v xs := by
 rcases h with ⟨rfl, rfl⟩ | ⟨g, c, rfl, h⟩
 ·exact ⟨none, 0, rfl, .inl rfl⟩
 ·refine ⟨some ⟨g, 0, none⟩, c, rfl, .inr ⟨g, 0, rfl, (World.ownsRow.lt h g rfl).2, fun i hi => ?_⟩⟩
  rw [Nat.zero_add, World.ownsRow.cellAt h i (by omega), List.getElem?_append_left (by simpa using hi)]
  simp [List.getD, List.getElem?_eq_getElem hi]
theorem tW (v : Value) (a : Option Addr) (c : Nat) (xs : List Int) (B : Nat) (w : World) (h : kO w B v xs) (hu : cB w (.slice a xs.length c) xs) (hnil : v = .slice none 0 0 ↔ a = none) (hn : xs.length ≤ 1000000000) :
  Calls Tryz.prog 89 #[v, .slice a xs.length c] w fun e w' => e = .returned (.bool true) ∧ w.grownBy w' v.ownBlock := by
 have q24 : ∀ (w : World) (a : Option Addr) (n c n' c' : Nat), (binOp .eql 24 (.slice a n c) (.slice none n' c')).run Tryz.prog w = .ok (.bool a.isNone) w := fun w a n c n' c' => Lib.run_eql_slice_nil w _ _ a n c n' c' Tryz.underlying24
 have hs := kN v (.slice a xs.length c) xs xs w h.lies hu hn
 rw [decide_eq_true (rfl : xs = xs)] at hs
 have HS := hide hs
 clear hs
 rcases h with ⟨rfl, rfl⟩ | ⟨g, cap, rfl, h⟩
 ·obtain rfl : a = none := hnil.1 rfl
  clear hu hnil HS
  go_enter Tryz.func89, Tryz.ntmps89
  go_wp2
  go_ret
  exact ⟨rfl, World.grownBy.refl _ _⟩
 ·have H := hide h
  have hcap : xs.length + 1 ≤ cap := by
   obtain ⟨a', c', e, _, h2⟩ := bU h
   cases e
   obtain ⟨_, _, q⟩ := h2 _ rfl
   exact q
  have hcap' : (xs.length : Int) + 1 ≤ (cap : Int) := by omega
  clear hu hnil h
  go_enter Tryz.func89, Tryz.ntmps89
  go_wp2_with fail
  refine (aA HS).mono ?_
  rintro e w1 ⟨rfl, hb1⟩
  have hO1 := aJ (aA H) fun k _ p _ => hb1.block k p
  have cn : w1.cell? ⟨g, xs.length, none⟩ = some (.int .i64 (-77)) := by
   rw [World.ownsRow.cellAt hO1 xs.length (by omega), List.getElem?_append_right (by simp)]
   simp
  have HO1 := hide hO1
  have HG1 : Hid (w.grownBy w1 (Value.slice (some ⟨g, 0, none⟩) xs.length cap).ownBlock) := ⟨hb1.os, hb1.tape, hb1.output, hb1.size, fun k p _ => hb1.block k p⟩
  clear hO1 hb1 HS
  go_wp2
  go_loopw [7] (fun i wr => ∃ k : Nat, ∃ ys, k ≤ xs.length + 1 ∧ i = .int .i64 k ∧ ys.length = xs.length + 1 ∧ Hid (wr.ownsRow B 3 1 (.slice (some ⟨g, 0, none⟩) (xs.length + 1) cap) (xs.length + 1) ys) ∧ Hid (w.grownBy wr (Value.slice (some ⟨g, 0, none⟩) xs.length cap).ownBlock)) (fun i _ => xs.length + 1 - (intOf i).toNat)
  case atStart => exact ⟨0, _, by omega, rfl, by simp, HO1, HG1⟩
  case round =>
   obtain ⟨k, ys, hk, rfl, hys, HO, HG⟩ := hrel
   by_cases hlt : k < xs.length + 1
   ·have c1 := World.ownsRow.cellAt (aA HO) k (by omega)
    have f1 := World.ownsRow.frozenAt (aA HO) k
    have st := World.ownsRow.stored (aA HO) k (.int .i64 (-78))
    obtain ⟨y, d1⟩ : ∃ y, wr.cell? ⟨g, k, none⟩ = some y := by
     rw [c1]
     exact ⟨_, List.getElem?_eq_getElem (by omega)⟩
    have HSt := hide st
    clear c1 st
    have hlt' : (k : Int) < (xs.length : Int) + 1 := by omega
    go_wp2
    go_roundw
    case rel => exact ⟨k + 1, _, by omega, by go_num, by simpa using hys, (aA HSt).1, (aA HG).trans (aA HSt).2⟩
    case measure => simp [intOf]; omega
   ·obtain rfl : k = xs.length + 1 := by omega
    have hlt' : decide (((xs.length + 1 : Nat) : Int) < (xs.length : Int) + 1) = false := by simp
    go_wp2
    go_ret
    exact ⟨rfl, aA HG⟩
end Go.Proofs.YtfekelmldebplaaGreatDoor
