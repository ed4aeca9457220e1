import Derived.BigRegion
import Derived.Test.YtfekelmldebplaaGreatDoorLd
import Derived.Test.YtfekelmldebplaaGreatDoorTi
import Derived.Test.YtfekelmldebplaaGreatDoorBb
import Derived.Test.YtfekelmldebplaaGreatDoorSs
set_option maxRecDepth 100000
set_option maxHeartbeats 8000000
namespace Go.Proofs.YtfekelmldebplaaGreatDoor
open Go.RowKit
theorem uU {w : World} {B g n cap j : Nat} {T : TypeId} {ys : List Value} (h : w.ownsRow B T 5 (.slice (some ⟨g, 0, none⟩) n cap) n ys) (x0 x1 x2 x3 x4 : Value) : ∃ ys', (((((w.setCell ⟨g, j * 5, none⟩ x0).setCell ⟨g, j * 5 + 1, none⟩ x1).setCell ⟨g, j * 5 + 2, none⟩ x2).setCell ⟨g, j * 5 + 3, none⟩ x3).setCell ⟨g, j * 5 + 4, none⟩ x4).ownsRow B T 5 (.slice (some ⟨g, 0, none⟩) n cap) n ys' ∧ w.grownBy (((((w.setCell ⟨g, j * 5, none⟩ x0).setCell ⟨g, j * 5 + 1, none⟩ x1).setCell ⟨g, j * 5 + 2, none⟩ x2).setCell ⟨g, j * 5 + 3, none⟩ x3).setCell ⟨g, j * 5 + 4, none⟩ x4) (some g) := by
 have s0 := h.stored (j * 5) x0
 have s1 := s0.1.stored (j * 5 + 1) x1
 have s2 := s1.1.stored (j * 5 + 2) x2
 have s3 := s2.1.stored (j * 5 + 3) x3
 have s4 := s3.1.stored (j * 5 + 4) x4
 exact ⟨_, s4.1, (((s0.2.trans s1.2).trans s2.2).trans s3.2).trans s4.2⟩
structure BC (W0 : World) (S M g c : Nat) (us : List Value) (LL : List (List Rule)) (k : Nat) (wr : World) : Prop where
 row : ∃ ys, wr.ownsRow S 55 1 (.slice (some ⟨g, 0, none⟩) (LL.length + 1) c) (LL.length + 1) ys ∧ ∀ j, k ≤ j → j < LL.length → ys[j]? = us[j]?
 ls : ∀ (j : Nat) rs u, k ≤ j → LL[j]? = some rs → us[j]? = some u → hY wr S u rs
 chg : Chg W0 wr (fun i => S ≤ i ∧ i < M)
theorem BC.more {W0 wr w2 : World} {S M g c gu cu : Nat} {us : List Value} {LL : List (List Rule)} {k : Nat} {rs : List Rule} (h : BC W0 S M g c us LL k wr) (hrs : LL[k]? = some rs) (hu : us[k]? = some (.slice (some ⟨gu, 0, none⟩) rs.length cu)) (nd : ∀ (j : Nat) u, us[j]? = some u → j ≠ k → u.ownBlock ≠ some gu) (hM : ∀ (j : Nat) u, us[j]? = some u → ∀ i, u.ownBlock = some i → S ≤ i ∧ i < M) (hg : S ≤ g ∧ g < M) (c2 : Chg wr w2 (fun i => i = gu)) (n : Value) : BC W0 S M g c us LL (k + 1) (w2.setCell ⟨g, k, none⟩ n) := by
 obtain ⟨ys, hr, hy⟩ := h.row
 have hgu := hM k _ hu gu rfl
 obtain ⟨gu', cu', e, hR⟩ := h.ls k rs _ (Nat.le_refl _) hrs hu
 cases e
 have ngu : g ≠ gu := fun e => by
  obtain ⟨cs, fr, q1⟩ := bH hr (g := g) rfl
  obtain ⟨cs', fr', q2⟩ := bH hR (g := gu) rfl
  exact bG q1 q2 (by decide) e
 have hr2 : w2.ownsRow S 55 1 (.slice (some ⟨g, 0, none⟩) (LL.length + 1) c) (LL.length + 1) ys := aJ hr fun i _ p q => c2.block i p (fun e => ngu (by
  have : g = i := by simpa [Value.ownBlock] using q
  exact this.trans e))
 have st := hr2.stored k n
 have hyl : ys.length = LL.length + 1 := by have := hr.1; omega
 refine ⟨⟨_, st.1, fun j h1 h2 => ?_⟩, fun j rs' u h1 h2 h3 => ?_, ?_⟩
 ·rw [List.getElem?_set_ne (by omega)]
  exact hy j (by omega) h2
 ·have hL := h.ls j rs' u (by omega) h2 h3
  refine hL.keep fun i e => ?_
  have ni : i ≠ gu := fun q => nd j u h3 (by omega) (by rw [e, q])
  have ng : i ≠ g := fun q => by
   obtain ⟨g', c', rfl, hh⟩ := hL
   obtain ⟨cs, fr, q1⟩ := bH hr (g := g) rfl
   obtain ⟨cs', fr', q2⟩ := bH hh (g := i) (by simpa [Value.ownBlock] using e)
   exact bG q2 q1 (by decide) q
  have hl : i < wr.heap.size := by
   obtain ⟨g', c', rfl, hh⟩ := hL
   exact (World.ownsRow.lt hh i (by simpa [Value.ownBlock] using e)).2
  exact (heap_setCell_other _ _ _ _ ng).trans (c2.block i hl ni)
 ·exact (h.chg.trans c2 (fun i e _ => by rw [e]; exact hgu)).trans (Chg.set w2 g k n) (fun i e _ => by rw [e]; exact hg)
theorem nI (z0 z1 z2 z3 lim y0 y1 y2 y3 ylim : Int) (v : Value) (ad : Addr) (c0 : Nat) (LL : List (List Rule)) (w0 w1 w : World) (h0 : bZ w0 (.slice (some ad) LL.length c0) LL) (hb1 : Below w0.heap.size w0 w1) (hL : wO w1 w0.heap.size v LL) (hb2 : Below w1.heap.size w1 w) (hn : LL.length ≤ 100000000) (hr : ∀ rs ∈ LL, rs.length ≤ 100000000) :
  Calls Tryz.prog 86 #[.agg #[.int .i64 z0, .int .i64 z1, .int .i64 z2, .int .i64 z3, .int .i64 lim, v], .agg #[.int .i64 y0, .int .i64 y1, .int .i64 y2, .int .i64 y3, .int .i64 ylim, .slice (some ad) LL.length c0]] w fun e w' => e = .returned (.bool true) ∧ Chg w w' (fun i => w0.heap.size ≤ i ∧ i < w1.heap.size) := by
 have q56 : ∀ (w : World) (a : Option Addr) (n c n' c' : Nat), (binOp .eql 56 (.slice a n c) (.slice none n' c')).run Tryz.prog w = .ok (.bool a.isNone) w := fun w a n c n' c' => Lib.run_eql_slice_nil w _ _ a n c n' c' Tryz.underlying56
 obtain ⟨g, c, us, x, gx, cx, rfl, hrow, rfl, hx, hls⟩ := hL
 have hcap : LL.length + 1 ≤ c := iE hrow
 have hg := World.ownsRow.lt hrow g rfl
 have hz1 := hb1.size
 have hz2 := hb2.size
 obtain ⟨W0, hW0⟩ : ∃ W0, W0 = (w.alloc (.cells #[.int .i64 z0, .int .i64 z1, .int .i64 z2, .int .i64 z3, .int .i64 lim, .slice (some ⟨g, 0, none⟩) LL.length c] 58)).alloc (.cells #[.int .i64 y0, .int .i64 y1, .int .i64 y2, .int .i64 y3, .int .i64 ylim, .slice (some ad) LL.length c0] 58) := ⟨_, rfl⟩
 have hbW : Below w1.heap.size w1 W0 := by rw [hW0]; exact aD hb2 (bL (bL (Below.refl _ _) _) _)
 have hzW : W0.heap.size = w.heap.size + 2 := by rw [hW0]; simp
 have B0 : W0.heap[w.heap.size]? = some (.cells #[.int .i64 z0, .int .i64 z1, .int .i64 z2, .int .i64 z3, .int .i64 lim, .slice (some ⟨g, 0, none⟩) LL.length c] 58 (0, 0)) := by
  rw [hW0]
  exact (Below.heap_alloc _ _ _ (by simp)).trans (heap_alloc_new w _)
 have B1 : W0.heap[w.heap.size + 1]? = some (.cells #[.int .i64 y0, .int .i64 y1, .int .i64 y2, .int .i64 y3, .int .i64 ylim, .slice (some ad) LL.length c0] 58 (0, 0)) := by
  have e1 := heap_alloc_new (w.alloc (.cells #[.int .i64 z0, .int .i64 z1, .int .i64 z2, .int .i64 z3, .int .i64 lim, .slice (some ⟨g, 0, none⟩) LL.length c] 58)) (.cells #[.int .i64 y0, .int .i64 y1, .int .i64 y2, .int .i64 y3, .int .i64 ylim, .slice (some ad) LL.length c0] 58)
  rw [show (w.alloc (.cells #[.int .i64 z0, .int .i64 z1, .int .i64 z2, .int .i64 z3, .int .i64 lim, .slice (some ⟨g, 0, none⟩) LL.length c] 58)).heap.size = w.heap.size + 1 by simp] at e1
  rw [hW0]
  exact e1
 have hmM : ∀ (j : Nat) u, us[j]? = some u → ∀ i, u.ownBlock = some i → w0.heap.size ≤ i ∧ i < w1.heap.size := fun j u e i q => by
  have hj := (List.getElem?_eq_some_iff.1 e).1
  have := hls.len
  obtain ⟨g', c', rfl, hh⟩ := hls.at_ j _ u (List.getElem?_eq_getElem (by omega)) e
  exact World.ownsRow.lt hh i (by simpa [Value.ownBlock] using q)
 have hrowW : W0.ownsRow w0.heap.size 55 1 (.slice (some ⟨g, 0, none⟩) (LL.length + 1) c) (LL.length + 1) (us ++ [.slice (some ⟨gx, 0, none⟩) 1 cx]) := aJ hrow fun i _ p q => hbW.block i p
 have hxW : W0.ownsRow w0.heap.size 52 5 (.slice (some ⟨gx, 0, none⟩) 1 cx) 1 (dC [fW]) := aJ hx fun i _ p q => hbW.block i p
 have hlu := hls.len
 have cn : W0.cell? ⟨g, LL.length, none⟩ = some (.slice (some ⟨gx, 0, none⟩) 1 cx) := by
  rw [World.ownsRow.cellAt hrowW LL.length (by omega), List.getElem?_append_right (by omega), hlu, Nat.sub_self]
  rfl
 have cx0 : W0.cell? ⟨gx, 0, none⟩ = some (.int .i64 (-77)) := by
  rw [World.ownsRow.cellAt hxW 0 (by omega)]
  rfl
 have hBC : BC W0 w0.heap.size w1.heap.size g c us LL 0 W0 := ⟨⟨_, hrowW, fun j _ h => List.getElem?_append_left (by omega)⟩, fun j rs u _ e1 e2 => (hls.at_ j rs u e1 e2).keep fun i q => hbW.block i (hmM j u e2 i q).2, Chg.refl _ _⟩
 have HBC := hide hBC
 have HNd := hide hls.nd
 have HmM := hide hmM
 have HB0 := hide B0
 have HB1 := hide B1
 have HO : Hid (∀ W, Chg W0 W (fun i => w0.heap.size ≤ i ∧ i < w1.heap.size) → ∀ b o u, b < w0.heap.size → w0.cell? ⟨b, o, none⟩ = some u → W.cell? ⟨b, o, none⟩ = some u) := fun W cW b o u hb e => by
  rw [World.cell?_of_block (cW.block b (by omega) (fun d => by omega)), hbW.cell (by show b < w1.heap.size; omega), hb1.cell (by exact hb)]
  exact e
 have HE : Hid (∀ W, Chg W0 W (fun i => w0.heap.size ≤ i ∧ i < w1.heap.size) → Chg w W (fun i => w0.heap.size ≤ i ∧ i < w1.heap.size)) := fun W cW => by
  refine (Chg.of_below ?_ _).trans cW (fun _ e _ => e)
  rw [hW0]
  exact bL (bL (Below.refl _ _) _) _
 have H0 := hide h0
 have HR := hide hr
 have hcap' : (LL.length : Int) + 1 ≤ (c : Int) := by omega
 clear hBC hls hx hrow hrowW hxW B0 B1 hmM hbW h0 hr hb1 hb2
 go_enter Tryz.func86, Tryz.ntmps86
 go_upto_region 1 with fail
 rw [← hW0]
 clear hW0
 have b0 := cell_of_row _ _ 5 _ _ _ (aA HB0)
 have b1 := cell_of_row _ _ 5 _ _ _ (aA HB1)
 simp at b0 b1
 go_wp2_with fail
 clear b0 b1 cn cx0
 go_loopw [6, 7] (fun ok i wr => ∃ k : Nat, k ≤ LL.length ∧ ok = .bool true ∧ i = .int .i64 k ∧ Hid (BC W0 w0.heap.size w1.heap.size g c us LL k wr)) (fun _ i _ => LL.length - (intOf i).toNat)
 case atStart => exact ⟨0, by omega, rfl, rfl, HBC⟩
 case round =>
  obtain ⟨k, hk, rfl, rfl, HI⟩ := hrel
  obtain ⟨Wt, hWt⟩ : ∃ W, W = wr := ⟨wr, rfl⟩
  subst hWt
  have cI := (aA HI).chg
  have zI := cI.size
  have rb0 := (cI.block w.heap.size (by omega) (by omega)).trans (aA HB0)
  have rb1 := (cI.block (w.heap.size + 1) (by omega) (by omega)).trans (aA HB1)
  have b0 := cell_of_row _ _ 5 _ _ _ rb0
  have b1 := cell_of_row _ _ 5 _ _ _ rb1
  simp at b0 b1
  by_cases hlt : k < LL.length
  ·obtain ⟨rs, hrs⟩ : ∃ rs, LL[k]? = some rs := ⟨_, List.getElem?_eq_getElem hlt⟩
   obtain ⟨b, o, had, hbl, hu⟩ : ∃ b o, ad = ⟨b, o, none⟩ ∧ b < w0.heap.size ∧ ∃ u, w0.cell? ⟨b, o + k, none⟩ = some u ∧ cK w0 u rs := by
    obtain ⟨a', c', e, hh⟩ := aA H0
    cases e
    rcases hh with hh | ⟨b, o, e, hb, hc⟩
    ·rw [hh] at hlt
     simp at hlt
    ·cases e
     exact ⟨b, o, rfl, hb, hc k rs hrs⟩
   subst had
   obtain ⟨u, hcu, a', c', rfl, hlist⟩ := hu
   have cu := aA HO Wt cI b (o + k) _ hbl hcu
   obtain ⟨ul, hul⟩ : ∃ ul, us[k]? = some ul := ⟨_, List.getElem?_eq_getElem (by omega)⟩
   obtain ⟨gu, cgu, rfl, hR⟩ := (aA HI).ls k rs ul (Nat.le_refl _) hrs hul
   have hgl := (World.ownsRow.lt hR gu rfl).2
   have hcu2 : rs.length + 1 ≤ cgu := iE hR
   obtain ⟨ys, hys, hyk⟩ := (aA HI).row
   have ck : Wt.cell? ⟨g, k, none⟩ = some (.slice (some ⟨gu, 0, none⟩) rs.length cgu) := by
    rw [World.ownsRow.cellAt hys k (by omega), hyk k (Nat.le_refl _) hlt]
    exact hul
   have hrl := aA HR rs (List.mem_of_getElem? hrs)
   have cells : ∀ (j : Nat) y, (rs ++ [fW])[j]? = some y → ∀ (i : Nat) u, y.cells[i]? = some u → Wt.cell? ⟨gu, j * 5 + i, none⟩ = some u := fun j y hy i u hu => by
    have hi : i < 5 := by
     have := (Array.getElem?_eq_some_iff.1 hu).1
     simpa [Rule.cells] using this
    have hj := (List.getElem?_eq_some_iff.1 hy).1
    simp at hj
    rw [World.ownsRow.cellAt hR (j * 5 + i) (by omega), show (dC (rs ++ [fW]))[j * 5 + i]? = y.cells[i]? from gA (rs ++ [fW]) j i y hy hi]
    exact hu
   have c77 : Wt.cell? ⟨gu, rs.length * 5, none⟩ = some (.int .i64 (-77)) := cells rs.length fW (by rw [List.getElem?_append_right (Nat.le_refl _), Nat.sub_self]; rfl) 0 _ rfl
   have HCE := hide cells
   have HCL : Hid (∀ (j : Nat) y, rs[j]? = some y → ∃ b2 o2, a' = some ⟨b2, o2, none⟩ ∧ b2 < w0.heap.size ∧ ∀ (i : Nat) u, y.cells[i]? = some u → Wt.cell? ⟨b2, o2 + j * 5 + i, none⟩ = some u) := fun j y hy => by
    rcases hlist with e | ⟨b2, o2, e, hb2, hcc⟩
    ·subst e
     simp at hy
    ·exact ⟨b2, o2, e, hb2, fun i u hu => aA HO Wt cI b2 _ u hb2 (hcc j y hy i u hu)⟩
   have HRS := hide hrs
   have HUL := hide hul
   have HRR := hide hR
   have HYS := hide hys
   have hlt' : (k : Int) < (LL.length : Int) := by omega
   have hcu3 : (rs.length : Int) + 1 ≤ (cgu : Int) := by omega
   clear hrs hul hR hys hyk cells hlist hcu rb0 rb1 cI
   go_wp2_with fail
   go_loopw [6, 10] (fun ok i wq => ∃ j : Nat, j ≤ rs.length ∧ ok = .bool true ∧ i = .int .i64 j ∧ Hid (Below Wt.heap.size Wt wq)) (fun _ i _ => rs.length - (intOf i).toNat)
   case atStart => exact ⟨0, by omega, rfl, rfl, Below.refl _ _⟩
   case round =>
    obtain ⟨j, hj, rfl, rfl, HB⟩ := hrel
    have hzq := (aA HB).size
    by_cases hjl : j < rs.length
    ·obtain ⟨y, hy⟩ : ∃ y, rs[j]? = some y := ⟨_, List.getElem?_eq_getElem hjl⟩
     obtain ⟨b2, o2, rfl, hb2, hcc⟩ := aA HCL j y hy
     have hce := aA HCE j y (by rw [List.getElem?_append_left hjl]; exact hy)
     have K : Hid (∀ W, Below wr.heap.size wr W → (∀ (i : Nat) u, y.cells[i]? = some u → W.cell? ⟨gu, j * 5 + i, none⟩ = some u) ∧ (∀ (i : Nat) u, y.cells[i]? = some u → W.cell? ⟨b2, o2 + j * 5 + i, none⟩ = some u) ∧ W.cell? ⟨w.heap.size + 1, 5, none⟩ = some (.slice (some ⟨b, o, none⟩) LL.length c0) ∧ W.cell? ⟨b, o + k, none⟩ = some (.slice (some ⟨b2, o2, none⟩) rs.length c')) := fun W hW => by
      have hB := aD (aA HB) hW
      exact ⟨fun i u e => (hB.cell (by exact hgl)).trans (hce i u e), fun i u e => (hB.cell (by show b2 < Wt.heap.size; omega)).trans (hcc i u e), (hB.cell (World.block_lt_of_cell? Wt _ b1)).trans b1, (hB.cell (World.block_lt_of_cell? Wt _ cu)).trans cu⟩
     obtain ⟨yt, yl, yh, yr, yw⟩ := y
     obtain ⟨k1, k2, d1, du⟩ := aA K wr (Below.refl _ _)
     have e0 : wr.cell? ⟨gu, j * 5, none⟩ = some (.int .i64 yt) := k1 0 _ rfl
     have e1 : wr.cell? ⟨gu, j * 5 + 1, none⟩ = some (.int .i64 yl) := k1 1 _ rfl
     have e2 : wr.cell? ⟨gu, j * 5 + 2, none⟩ = some (.int .i64 yh) := k1 2 _ rfl
     have e3 : wr.cell? ⟨gu, j * 5 + 3, none⟩ = some (.bool yr) := k1 3 _ rfl
     have e4 : wr.cell? ⟨gu, j * 5 + 4, none⟩ = some (.bool yw) := k1 4 _ rfl
     clear k1 k2 hce hcc hy
     have hjl' : (j : Int) < (rs.length : Int) := by omega
     have hjc : (j : Int) < (rs.length : Int) + 1 := by omega
     go_upto_region 17 with fail
     have HN1 := hide (heap_alloc_new wr (.cells #[.int .i64 yt, .int .i64 yl, .int .i64 yh, .bool yr, .bool yw] 52))
     have HBA : Hid (Below wr.heap.size wr (wr.alloc (.cells #[.int .i64 yt, .int .i64 yl, .int .i64 yh, .bool yr, .bool yw] 52))) := bL (Below.refl _ _) _
     clear e0 e1 e2 e3 e4 d1 du
     obtain ⟨W1, hW1⟩ : ∃ W, W = wr.alloc (.cells #[.int .i64 yt, .int .i64 yl, .int .i64 yh, .bool yr, .bool yw] 52) := ⟨_, rfl⟩
     rw [← hW1] at HN1 HBA ⊢
     clear hW1
     obtain ⟨k1, k2, d1, du⟩ := aA K W1 (aA HBA)
     have e0 : W1.cell? ⟨b2, o2 + j * 5, none⟩ = some (.int .i64 yt) := k2 0 _ rfl
     have e1 : W1.cell? ⟨b2, o2 + j * 5 + 1, none⟩ = some (.int .i64 yl) := k2 1 _ rfl
     have e2 : W1.cell? ⟨b2, o2 + j * 5 + 2, none⟩ = some (.int .i64 yh) := k2 2 _ rfl
     have e3 : W1.cell? ⟨b2, o2 + j * 5 + 3, none⟩ = some (.bool yr) := k2 3 _ rfl
     have e4 : W1.cell? ⟨b2, o2 + j * 5 + 4, none⟩ = some (.bool yw) := k2 4 _ rfl
     clear k1 k2
     have HB2 := hide (aD (aA HB) (aA HBA))
     have HL1 := hide (Array.getElem?_eq_some_iff.1 (aA HN1)).1
     go_upto_region 18 with fail
     have HN2 := hide (heap_alloc_new W1 (.cells #[.int .i64 yt, .int .i64 yl, .int .i64 yh, .bool yr, .bool yw] 52))
     have HN3 := hide ((Below.heap_alloc W1 (.cells #[.int .i64 yt, .int .i64 yl, .int .i64 yh, .bool yr, .bool yw] 52) _ (aA HL1)).trans (aA HN1))
     have HBB := hide (aD (aA HB2) (bL (Below.refl _ W1) (.cells #[.int .i64 yt, .int .i64 yl, .int .i64 yh, .bool yr, .bool yw] 52)))
     obtain ⟨W2, hW2⟩ : ∃ W, W = W1.alloc (.cells #[.int .i64 yt, .int .i64 yl, .int .i64 yh, .bool yr, .bool yw] 52) := ⟨_, rfl⟩
     rw [← hW2] at HN2 HN3 HBB ⊢
     clear hW2 e0 e1 e2 e3 e4 d1 du HB2 HBA K
     have e0 := cell_of_row _ _ 0 _ _ _ (aA HN3)
     have e1 := cell_of_row _ _ 1 _ _ _ (aA HN3)
     have e2 := cell_of_row _ _ 2 _ _ _ (aA HN3)
     have e3 := cell_of_row _ _ 3 _ _ _ (aA HN3)
     have e4 := cell_of_row _ _ 4 _ _ _ (aA HN3)
     have m0 := cell_of_row _ _ 0 _ _ _ (aA HN2)
     have m1 := cell_of_row _ _ 1 _ _ _ (aA HN2)
     have m2 := cell_of_row _ _ 2 _ _ _ (aA HN2)
     have m3 := cell_of_row _ _ 3 _ _ _ (aA HN2)
     have m4 := cell_of_row _ _ 4 _ _ _ (aA HN2)
     simp at e0 e1 e2 e3 e4 m0 m1 m2 m3 m4
     go_wp2
     go_roundw
     case rel => exact ⟨j + 1, by omega, rfl, by go_num, HBB⟩
     case measure => simp [intOf]; omega
    ·have hje : j = rs.length := by omega
     subst hje
     have HR3 : Hid (wr.ownsRow w0.heap.size 52 5 (.slice (some ⟨gu, 0, none⟩) (rs.length + 1) cgu) (rs.length + 1) (dC (rs ++ [fW]))) := aJ (aA HRR) fun i _ p q => (aA HB).block i p
     go_wp2_with fail
     obtain ⟨Wu, hWu⟩ : ∃ W, W = wr := ⟨wr, rfl⟩
     subst hWu
     go_loopw [13] (fun i wq => ∃ (j : Nat) (zs : List Value), j ≤ rs.length + 1 ∧ i = .int .i64 j ∧ Hid (wq.ownsRow w0.heap.size 52 5 (.slice (some ⟨gu, 0, none⟩) (rs.length + 1) cgu) (rs.length + 1) zs) ∧ Hid (Wu.grownBy wq (some gu))) (fun i _ => rs.length + 1 - (intOf i).toNat)
     case atStart => exact ⟨0, _, by omega, rfl, HR3, World.grownBy.refl _ _⟩
     case round =>
      obtain ⟨j, zs, hj, rfl, HZ, HG⟩ := hrel
      have hzl : zs.length = (rs.length + 1) * 5 := (aA HZ).1
      by_cases hjl : j < rs.length + 1
      ·have hcell : ∀ i, i < 5 → ∃ y, wr.cell? ⟨gu, j * 5 + i, none⟩ = some y := fun i hi => by
        rw [World.ownsRow.cellAt (aA HZ) (j * 5 + i) (by omega)]
        exact ⟨_, List.getElem?_eq_getElem (by omega)⟩
       obtain ⟨t0, d0⟩ := hcell 0 (by omega)
       obtain ⟨t1, d1⟩ := hcell 1 (by omega)
       obtain ⟨t2, d2⟩ := hcell 2 (by omega)
       obtain ⟨t3, d3⟩ := hcell 3 (by omega)
       obtain ⟨t4, d4⟩ := hcell 4 (by omega)
       have f0 := World.ownsRow.frozenAt (aA HZ) (j * 5)
       have f1 := World.ownsRow.frozenAt (aA HZ) (j * 5 + 1)
       have f2 := World.ownsRow.frozenAt (aA HZ) (j * 5 + 2)
       have f3 := World.ownsRow.frozenAt (aA HZ) (j * 5 + 3)
       have f4 := World.ownsRow.frozenAt (aA HZ) (j * 5 + 4)
       rw [Nat.add_zero] at d0
       obtain ⟨zs', st, sg⟩ := uU (j := j) (aA HZ) (.int .i64 3) (.int .i64 0) (.int .i64 65535) (.bool true) (.bool true)
       have HST := hide st
       have HSG := hide ((aA HG).trans sg)
       have hjl' : (j : Int) ≤ (rs.length : Int) := by omega
       have hjc : (j : Int) < (rs.length : Int) + 1 := by omega
       clear hcell st sg HZ HG
       go_wp2
       go_roundw
       case rel => exact ⟨j + 1, zs', by omega, by go_num, HST, HSG⟩
       case measure => simp [intOf]; omega
      ·have hje : j = rs.length + 1 := by omega
       subst hje
       have cG : Chg Wt wr (fun i => i = gu) := (Chg.of_below (aA HB) _).trans (Chg.of_grown (aA HG)) (fun i e _ => by
        have : gu = i := by simpa using e
        exact this.symm)
       have HN2 := hide ((aA HI).more (aA HRS) (aA HUL) (fun j u e n q => aA HNd j k u _ e (aA HUL) n q) (aA HmM) hg cG (.slice none 0 0))
       obtain ⟨ys2, hys2, _⟩ := (aA HI).row
       have ngu : g ≠ gu := fun e => by
        obtain ⟨cs, fr, q1⟩ := bH hys2 (g := g) rfl
        obtain ⟨cs', fr', q2⟩ := bH (aA HRR) (g := gu) rfl
        exact bG q1 q2 (by decide) e
       have rg := World.cell?_of_block (a := ⟨g, k, none⟩) (cG.block g (World.ownsRow.lt hys2 g rfl).2 ngu)
       have ckr := rg.trans ck
       have fk : wr.frozen? ⟨g, k, none⟩ = false := World.ownsRow.frozenAt (aJ hys2 fun i _ p q => cG.block i p (fun e => ngu (by
        have : g = i := by simpa [Value.ownBlock] using q
        exact this.trans e))) k
       have hkc : (k : Int) < (LL.length : Int) + 1 := by omega
       clear cG rg hys2
       go_wp2
       go_roundw
       case rel => exact ⟨k + 1, by omega, by simp, by go_num, HN2⟩
       case measure => simp [intOf]; omega
  ·have hke : k = LL.length := by omega
   subst hke
   have HEE := hide (aA HE Wt (aA HI).chg)
   go_wp2
   go_ret
   exact ⟨rfl, aA HEE⟩
theorem pP (z0 z1 z2 z3 lim y0 y1 y2 y3 ylim : Int) (w : World) :
  Calls Tryz.prog 86 #[.agg #[.int .i64 z0, .int .i64 z1, .int .i64 z2, .int .i64 z3, .int .i64 lim, .slice none 0 0], .agg #[.int .i64 y0, .int .i64 y1, .int .i64 y2, .int .i64 y3, .int .i64 ylim, .slice none 0 0]] w fun e w' => e = .returned (.bool true) ∧ Below w.heap.size w w' := by
 have q56 : ∀ (w : World) (a : Option Addr) (n c n' c' : Nat), (binOp .eql 56 (.slice a n c) (.slice none n' c')).run Tryz.prog w = .ok (.bool a.isNone) w := fun w a n c n' c' => Lib.run_eql_slice_nil w _ _ a n c n' c' Tryz.underlying56
 go_enter Tryz.func86, Tryz.ntmps86
 go_wp2
 go_ret
 exact ⟨rfl, bL (bL (Below.refl _ _) _) _⟩
end Go.Proofs.YtfekelmldebplaaGreatDoor
namespace Go.Proofs.YtfekelmldebplaaGreatDoor
open Go.RowKit Go.MuLone
theorem tS (sb tb : Nat) (cv : Value) (lm t a : Int) (v : Value) (w : World) (hs : w.heap[sb]? = some (.cells (srow 0 tb cv lm) 143 (0, 0))) (ht : t < 0 ∨ 4 ≤ t) (hv : ∃ x n c, v = .slice x n c) :
  Calls Tryz.prog 43 #[.pointer (some ⟨sb, 0, none⟩), .int .i64 t, .int .i64 a, v] w fun r w' => r = .returned (.int .i64 3) ∧ w'.heap[sb]? = some (.cells (srow 0 tb cv lm) 143 (0, 0)) ∧ Chg w w' (fun k => k = sb) := by
 obtain ⟨x, n, c, rfl⟩ := hv
 have q0 := cell_of_row _ _ 0 _ _ _ hs
 have f0 := frozen_of_row _ _ 0 _ _ hs
 simp [srow] at q0
 have C1 := hide (Chg.set w sb 0 (.int .i32 1))
 have HS1 := hide (dI (l' := 1) hs)
 clear hs
 go_enter_defers Tryz.func43, Tryz.ntmps43
 go_wp2_with (go_at_call 64; refine (lock_free Tryz.muLib ⟨sb, 0, none⟩ _ q0 f0).mono ?_; rintro e w' ⟨rfl, rfl⟩)
 generalize w.setCell ⟨sb, 0, none⟩ (.int .i32 1) = W1 at HS1 C1 ⊢
 have c2 := cell_of_row _ _ 2 _ _ _ (aA HS1)
 simp [srow] at c2
 have hd : (decide ((0 : Int) ≤ t) && decide (t < 4)) = false := by simp; omega
 refine (gK sb tb t W1 c2).mono ?_
 rintro r w2 ⟨rfl, hb2⟩
 rw [hd]
 have hS2 := (hb2.block sb (Array.getElem?_eq_some_iff.1 (aA HS1)).1).trans (aA HS1)
 have lk := cell_of_row _ _ 0 _ _ _ hS2
 have fk := frozen_of_row _ _ 0 _ _ hS2
 simp [srow] at lk
 have HS2 := hide hS2
 have C2 := hide ((aA C1).trans (Chg.of_below hb2 (fun _ => False)) (fun _ e _ => e.elim))
 clear hS2 hd hb2 HS1 C1 c2
 go_wp2_with fail
 refine leaves_cons (f := 65) (args := #[.pointer (some ⟨sb, 0, none⟩)]) (by simp) (by simp [go_sem]) ?_
 refine (unlock_deferred Tryz.muLib ⟨sb, 0, none⟩ .returning _ lk fk).mono ?_
 rintro r u' w'' ⟨rfl, rfl, rfl⟩
 exact ⟨_, results_tmp rfl _ _ _, rfl, dI (aA HS2), (aA C2).trans (Chg.set w2 sb 0 _) (fun _ e _ => e)⟩
theorem tV (sb tb : Nat) (cv : Value) (lm t a n : Int) (w : World) (hs : w.heap[sb]? = some (.cells (srow 0 tb cv lm) 143 (0, 0))) (ht : t < 0 ∨ 4 ≤ t) :
  Calls Tryz.prog 44 #[.pointer (some ⟨sb, 0, none⟩), .int .i64 t, .int .i64 a, .int .i64 n] w fun r w' => r = .returned (.tuple #[.slice none 0 0, .int .i64 3]) ∧ w'.heap[sb]? = some (.cells (srow 0 tb cv lm) 143 (0, 0)) ∧ Chg w w' (fun k => k = sb) := by
 have q0 := cell_of_row _ _ 0 _ _ _ hs
 have f0 := frozen_of_row _ _ 0 _ _ hs
 simp [srow] at q0
 have C1 := hide (Chg.set w sb 0 (.int .i32 1))
 have HS1 := hide (dI (l' := 1) hs)
 clear hs
 go_enter_defers Tryz.func44, Tryz.ntmps44
 go_wp2_with (go_at_call 64; refine (lock_free Tryz.muLib ⟨sb, 0, none⟩ _ q0 f0).mono ?_; rintro e w' ⟨rfl, rfl⟩)
 generalize w.setCell ⟨sb, 0, none⟩ (.int .i32 1) = W1 at HS1 C1 ⊢
 have c2 := cell_of_row _ _ 2 _ _ _ (aA HS1)
 simp [srow] at c2
 have hd : (decide ((0 : Int) ≤ t) && decide (t < 4)) = false := by simp; omega
 refine (gK sb tb t W1 c2).mono ?_
 rintro r w2 ⟨rfl, hb2⟩
 rw [hd]
 have hS2 := (hb2.block sb (Array.getElem?_eq_some_iff.1 (aA HS1)).1).trans (aA HS1)
 have lk := cell_of_row _ _ 0 _ _ _ hS2
 have fk := frozen_of_row _ _ 0 _ _ hS2
 simp [srow] at lk
 have HS2 := hide hS2
 have C2 := hide ((aA C1).trans (Chg.of_below hb2 (fun _ => False)) (fun _ e _ => e.elim))
 clear hS2 hd hb2 HS1 C1 c2
 go_wp2_with fail
 refine leaves_cons (f := 65) (args := #[.pointer (some ⟨sb, 0, none⟩)]) (by simp) (by simp [go_sem]) ?_
 refine (unlock_deferred Tryz.muLib ⟨sb, 0, none⟩ .returning _ lk fk).mono ?_
 rintro r u' w'' ⟨rfl, rfl, rfl⟩
 exact ⟨_, results_tmp2 rfl _ _ _, rfl, dI (aA HS2), (aA C2).trans (Chg.set w2 sb 0 _) (fun _ e _ => e)⟩
theorem BankAt.locked {w w' : World} {B rb sb tb kb : Nat} {t : T4} {LL : List (List Rule)} {us : List Value} (h : BankAt w B rb sb tb kb t LL us) (c : Chg w w' (fun k => k = sb)) (hs : w'.heap[sb]? = w.heap[sb]?) : BankAt w' B rb sb tb kb t LL us := by
 have ngs : (t.at 0).g ≠ sb := bG (h.tab 0 (by omega)).2.1.ent h.st.row (by decide)
 have hX := (h.tab 0 (by omega)).2.2
 have nes : (t.at 0).e ≠ sb := bG (h.tab 0 (by omega)).2.1.row h.st.row (by decide)
 have := h.put 0 (by omega) (c.mono (fun _ _ e => .inl e)) hs ((h.tab 0 (by omega)).2.1.chg c nes ngs)
 rw [iS t 0 (by omega)] at this
 exact this
theorem sB (B rb sb tb kb : Nat) (t : T4) (LL : List (List Rule)) (us : List Value) (i : Int) (hi : i < 0 ∨ 4 ≤ i) (a : Int) (v : Value) (w : World) (h : BankAt w B rb sb tb kb t LL us) (hv : ∃ x n c, v = .slice x n c) :
  Calls Tryz.prog 18 #[.pointer (some ⟨rb, 0, none⟩), .int .i64 i, .int .i64 a, v] w fun r w' => r = .returned (.int .i64 3) ∧ BankAt w' B rb sb tb kb t LL us ∧ Chg w w' (fun k => k = sb) := by
 have HK := hide (fR rb sb w h.row)
 have HP : Hid (∀ w1, Below w.heap.size w w1 → Calls Tryz.prog 43 #[.pointer (some ⟨sb, 0, none⟩), .int .i64 i, .int .i64 a, v] w1 fun r w' => r = .returned (.int .i64 3) ∧ BankAt w' B rb sb tb kb t LL us ∧ Chg w w' (fun k => k = sb)) := fun w1 hb => by
  refine (tS sb tb _ t.lim i a v w1 ((hb.block _ (Array.getElem?_eq_some_iff.1 h.st.row).1).trans h.st.row) hi hv).mono ?_
  rintro r w' ⟨rfl, q1, q2⟩
  have c : Chg w w' (fun k => k = sb) := (Chg.of_below hb _).trans q2 (fun _ e _ => e)
  exact ⟨rfl, h.locked c (q1.trans h.st.row.symm), c⟩
 obtain ⟨x, n, cc, rfl⟩ := hv
 clear h
 go_enter Tryz.func18, Tryz.ntmps18
 go_wp2_with fail
 refine (aA HK).mono ?_
 rintro e w1 ⟨rfl, hb⟩
 have HC := hide (aA HP w1 hb)
 clear hb HP HK
 go_wp2_with fail
 refine (aA HC).mono ?_
 rintro e w2 ⟨rfl, hp⟩
 have HP2 := hide hp
 clear hp HC
 go_wp2
 go_ret
 exact ⟨rfl, aA HP2⟩
theorem sH (B rb sb tb kb : Nat) (t : T4) (LL : List (List Rule)) (us : List Value) (i : Int) (hi : i < 0 ∨ 4 ≤ i) (a n : Int) (w : World) (h : BankAt w B rb sb tb kb t LL us) :
  Calls Tryz.prog 19 #[.pointer (some ⟨rb, 0, none⟩), .int .i64 i, .int .i64 a, .int .i64 n] w fun r w' => r = .returned (.tuple #[.slice none 0 0, .int .i64 3]) ∧ BankAt w' B rb sb tb kb t LL us ∧ Chg w w' (fun k => k = sb) := by
 have HK := hide (fR rb sb w h.row)
 have HP : Hid (∀ w1, Below w.heap.size w w1 → Calls Tryz.prog 44 #[.pointer (some ⟨sb, 0, none⟩), .int .i64 i, .int .i64 a, .int .i64 n] w1 fun r w' => r = .returned (.tuple #[.slice none 0 0, .int .i64 3]) ∧ BankAt w' B rb sb tb kb t LL us ∧ Chg w w' (fun k => k = sb)) := fun w1 hb => by
  refine (tV sb tb _ t.lim i a n w1 ((hb.block _ (Array.getElem?_eq_some_iff.1 h.st.row).1).trans h.st.row) hi).mono ?_
  rintro r w' ⟨rfl, q1, q2⟩
  have c : Chg w w' (fun k => k = sb) := (Chg.of_below hb _).trans q2 (fun _ e _ => e)
  exact ⟨rfl, h.locked c (q1.trans h.st.row.symm), c⟩
 clear h
 go_enter Tryz.func19, Tryz.ntmps19
 go_wp2_with fail
 refine (aA HK).mono ?_
 rintro e w1 ⟨rfl, hb⟩
 have HC := hide (aA HP w1 hb)
 clear hb HP HK
 go_wp2_with fail
 refine (aA HC).mono ?_
 rintro e w2 ⟨rfl, hp⟩
 have HP2 := hide hp
 clear hp HC
 go_wp2
 exact bodyPost_ret (v := .tuple #[.slice none 0 0, .int .i64 3]) (by simp [results, Tryz.results19]) rfl ⟨rfl, aA HP2⟩
theorem zF (B rb sb tb kb : Nat) (t : T4) (LL : List (List Rule)) (us : List Value) (cl : Nat) (a : Option Addr) (n c : Nat) (w : World) (h : BankAt w B rb sb tb kb t LL us) (hc : cl < LL.length) (hn : n < 1 ∨ 253 < n) :
  Calls Tryz.prog 28 #[.pointer (some ⟨rb, 0, none⟩), .int .i64 (cl : Int), .slice a n c] w fun r w' => r = .returned (.tuple #[.slice none 0 0, .int .i64 1]) ∧ Below w.heap.size w w' := by
 have HK := hide (fR rb sb w h.row)
 have hc3 := cell_of_row _ _ 3 _ _ _ h.st.row
 simp at hc3
 have lsb := (Array.getElem?_eq_some_iff.1 h.st.row).1
 clear h
 go_enter Tryz.func28, Tryz.ntmps28
 go_wp2_with fail
 refine (aA HK).mono ?_
 rintro r w1 ⟨rfl, hb1⟩
 have HHC := hide (iQ sb _ _ _ (cl : Int) w1 ((hb1.cell (by exact lsb)).trans hc3))
 have hd : (decide ((0 : Int) ≤ (cl : Int)) && decide ((cl : Int) < (LL.length : Int))) = true := by simp; omega
 rw [hd] at HHC
 have HB1 := hide hb1
 clear hb1 hd HK hc3
 go_wp2_with fail
 refine (aA HHC).mono ?_
 rintro r w2 ⟨rfl, hb2⟩
 have HB2 := hide (aD (aA HB1) hb2)
 clear hb2 HHC
 by_cases h0 : n < 1
 ·have h1 : (n : Int) < 1 := by omega
  go_wp2
  exact bodyPost_ret (by simp [results, Tryz.results28]) rfl ⟨rfl, aA HB2⟩
 ·have h0' : decide ((n : Int) < 1) = false := by simp; omega
  have h1 : (253 : Int) < (n : Int) := by omega
  go_wp2
  exact bodyPost_ret (by simp [results, Tryz.results28]) rfl ⟨rfl, aA HB2⟩
theorem nJ (B rb sb tb kb : Nat) (t : T4) (LL : List (List Rule)) (us : List Value) (cl : Int) (v : Value) (w : World) (h : BankAt w B rb sb tb kb t LL us) (hc : cl < 0 ∨ (LL.length : Int) ≤ cl) (hv : ∃ a n c, v = .slice a n c) :
  Calls Tryz.prog 28 #[.pointer (some ⟨rb, 0, none⟩), .int .i64 cl, v] w fun r w' => r = .returned (.tuple #[.slice none 0 0, .int .i64 6]) ∧ Below w.heap.size w w' := by
 obtain ⟨a, n, c, rfl⟩ := hv
 have HK := hide (fR rb sb w h.row)
 have hc3 := cell_of_row _ _ 3 _ _ _ h.st.row
 simp at hc3
 have lsb := (Array.getElem?_eq_some_iff.1 h.st.row).1
 clear h
 go_enter Tryz.func28, Tryz.ntmps28
 go_wp2_with fail
 refine (aA HK).mono ?_
 rintro r w1 ⟨rfl, hb1⟩
 have HHC := hide (iQ sb _ _ _ cl w1 ((hb1.cell (by exact lsb)).trans hc3))
 have hd : (decide ((0 : Int) ≤ cl) && decide (cl < (LL.length : Int))) = false := by simp; omega
 rw [hd] at HHC
 have HB1 := hide hb1
 clear hb1 hd HK hc3
 go_wp2_with fail
 refine (aA HHC).mono ?_
 rintro r w2 ⟨rfl, hb2⟩
 have HB2 := hide (aD (aA HB1) hb2)
 clear hb2 HHC
 go_wp2
 exact bodyPost_ret (v := .tuple #[.slice none 0 0, .int .i64 6]) (by simp [results, Tryz.results28]) rfl ⟨rfl, aA HB2⟩
def GotO (w0 w : World) (er : Int) (v : Value) (xs : List Int) : Prop := (er = 0 → aS w w0.heap.size v xs) ∧ (er ≠ 0 → v = .slice none 0 0)
theorem tU (sb tb e g i : Nat) (cv : Value) (lm : Int) (tc : Array Value) (X T : TypeId) (hi : Int) (L : List Int) (a c : Int) (w : World) (hs : w.heap[sb]? = some (.cells (srow 0 tb cv lm) 143 (0, 0))) (ht : w.heap[tb]? = some (.cells tc 145 (0, 0))) (hti : tc[i]? = some (.iface X (.pointer (some ⟨e, 0, none⟩)))) (hi4 : i < 4)
  (hT : TabAt w e g T hi L) (hX : (X = 221 ∧ T = 299) ∨ (X = 223 ∧ T = 300)) (ha : a ≤ 9223372036854775807) :
  Calls Tryz.prog 44 #[.pointer (some ⟨sb, 0, none⟩), .int .i64 i, .int .i64 a, .int .i64 c] w fun r w' => ∃ v, r = .returned (.tuple #[v, .int .i64 (eL L.length a c)]) ∧ GotO w w' (eL L.length a c) v ((L.drop a.toNat).take c.toNat) ∧ w'.heap[sb]? = some (.cells (srow 0 tb cv lm) 143 (0, 0)) ∧ TabAt w' e g T hi L ∧ Chg w w' (fun k => k = sb) := by
 obtain ⟨er, hER⟩ : ∃ er, er = eL L.length a c := ⟨_, rfl⟩
 rw [← hER]
 have HER := hide hER
 clear hER
 have q0 := cell_of_row _ _ 0 _ _ _ hs
 have f0 := frozen_of_row _ _ 0 _ _ hs
 simp [srow] at q0
 have nT113 : T ≠ 143 := by rcases hX with ⟨_, rfl⟩ | ⟨_, rfl⟩ <;> decide
 have nes : e ≠ sb := bG hT.row hs nT113
 have ngs : g ≠ sb := bG hT.ent hs (by decide)
 have nts : tb ≠ sb := bG ht hs (by decide)
 have lsb := (Array.getElem?_eq_some_iff.1 hs).1
 have c1 : Chg w (w.setCell ⟨sb, 0, none⟩ (.int .i32 1)) (fun k => k = sb) := Chg.set w sb 0 _
 have HS1 := hide (dI (l' := 1) hs)
 have HT1 := hide (hT.chg c1 nes ngs)
 have ht1 := (c1.block tb (Array.getElem?_eq_some_iff.1 ht).1 nts).trans ht
 have HTR := hide ht1
 have HTI := hide hti
 have C1 := hide c1
 clear c1 ht1 hs hT ht hti
 go_enter_defers Tryz.func44, Tryz.ntmps44
 go_wp2_with (go_at_call 64; refine (lock_free Tryz.muLib ⟨sb, 0, none⟩ _ q0 f0).mono ?_; rintro e w' ⟨rfl, rfl⟩)
 generalize w.setCell ⟨sb, 0, none⟩ (.int .i32 1) = W1 at HS1 HT1 HTR C1 ⊢
 have c2 := cell_of_row _ _ 2 _ _ _ (aA HS1)
 simp [srow] at c2
 have hd : (decide ((0 : Int) ≤ (i : Int)) && decide ((i : Int) < 4)) = true := by simp; omega
 refine (gK sb tb (i : Int) W1 c2).mono ?_
 rintro r w2 ⟨rfl, hb2⟩
 rw [hd]
 have hS2 := (hb2.block sb (Array.getElem?_eq_some_iff.1 (aA HS1)).1).trans (aA HS1)
 have hTR2 := (hb2.block tb (Array.getElem?_eq_some_iff.1 (aA HTR)).1).trans (aA HTR)
 have c2 := cell_of_row _ _ 2 _ _ _ hS2
 have lk := cell_of_row _ _ 0 _ _ _ hS2
 have fk := frozen_of_row _ _ 0 _ _ hS2
 have ci := cell_of_row _ _ i _ _ _ hTR2
 rw [aA HTI] at ci
 simp [srow] at c2 lk
 have hi4' : (i : Int) < 4 := by omega
 have HS2 := hide hS2
 have HTR2 := hide hTR2
 clear hS2 hTR2 hd
 have HT2 := hide ((aA HT1).below hb2)
 have C2 := hide ((aA C1).trans (Chg.of_below hb2 (fun _ => False)) (fun _ e _ => e.elim))
 clear HT1 C1 HS1 HTR hb2
 have m1 : ∀ w, (method 484 X (.pointer (some ⟨e, 0, none⟩)) "Has").run Tryz.prog w = .ok (261, .pointer (some ⟨e, 0, none⟩)) w := fun w => by
  rcases hX with ⟨rfl, _⟩ | ⟨rfl, _⟩
  ·exact mH e w
  ·exact mF e w
 have m2 : ∀ w, (method 484 X (.pointer (some ⟨e, 0, none⟩)) "Get").run Tryz.prog w = .ok (260, .pointer (some ⟨e, 0, none⟩)) w := fun w => by
  rcases hX with ⟨rfl, _⟩ | ⟨rfl, _⟩
  ·exact qW e w
  ·exact qV e w
 clear hX
 by_cases hc0 : c < 0
 ·have HC0 := hide hc0
  go_wp2_with fail
  refine leaves_cons (f := 65) (args := #[.pointer (some ⟨sb, 0, none⟩)]) (by simp) (by simp [go_sem]) ?_
  refine (unlock_deferred Tryz.muLib ⟨sb, 0, none⟩ .returning _ lk fk).mono ?_
  rintro r u' w'' ⟨rfl, rfl, rfl⟩
  have e0 : er = 5 := by rw [aA HER]; simp [eL, aA HC0]
  have cS : Chg w2 (w2.setCell ⟨sb, 0, none⟩ (.int .i32 0)) (fun k => k = sb) := Chg.set w2 sb 0 _
  refine ⟨_, results_tmp2 rfl _ _ _, .slice none 0 0, by rw [e0]; rfl, ⟨fun h => absurd h (by rw [e0]; decide), fun _ => rfl⟩, dI (aA HS2), (aA HT2).chg cS nes ngs, (aA C2).trans cS (fun _ e _ => e)⟩
 ·have hc0' : decide (c < 0) = false := by simpa using hc0
  have HC0 := hide hc0
  clear hc0
  go_wp2_with fail
  refine (nM w2 e g T hi L a c (aA HT2) ha).mono ?_
  rintro r w3 ⟨rfl, hb3⟩
  have hS3 := (hb3.block sb (Array.getElem?_eq_some_iff.1 (aA HS2)).1).trans (aA HS2)
  have hTR3 := (hb3.block tb (Array.getElem?_eq_some_iff.1 (aA HTR2)).1).trans (aA HTR2)
  have HT3 := hide ((aA HT2).below hb3)
  have C3 := hide ((aA C2).trans (Chg.of_below hb3 (fun _ => False)) (fun _ e _ => e.elim))
  have HS3 := hide hS3
  have c2 := cell_of_row _ _ 2 _ _ _ hS3
  have lk := cell_of_row _ _ 0 _ _ _ hS3
  have fk := frozen_of_row _ _ 0 _ _ hS3
  have ci := cell_of_row _ _ i _ _ _ hTR3
  rw [aA HTI] at ci
  simp [srow] at c2 lk
  clear hS3 hTR3 hb3 HT2 C2 HS2 HTR2
  by_cases hh : hasB L.length a c = true
  ·have HH := hide hh
   rw [hh]
   clear hh
   have hac : 0 ≤ a ∧ 0 ≤ c ∧ (a.toNat + c.toNat ≤ L.length) := by
    have := aA HH
    simp [hasB] at this
    omega
   have haa : (a.toNat : Int) = a := by omega
   have hcc : (c.toNat : Int) = c := by omega
   have HE := hide (jT w3 e g T hi L a.toNat c.toNat (aA HT3) hac.2.2)
   rw [haa, hcc] at HE
   go_wp2_with fail
   refine (aA HE).mono ?_
   rintro r w5 ⟨k5, rfl, hk5, hr5, hb5⟩
   have hS5 := (hb5.block sb (Array.getElem?_eq_some_iff.1 (aA HS3)).1).trans (aA HS3)
   have HT5 := hide ((aA HT3).below hb5)
   have HS5 := hide hS5
   have C5 := hide ((aA C3).trans (Chg.of_below hb5 (fun _ => False)) (fun _ e _ => e.elim))
   have HR5 := hide hr5
   have lk := cell_of_row _ _ 0 _ _ _ hS5
   have fk := frozen_of_row _ _ 0 _ _ hS5
   simp [srow] at lk
   clear hS5 hb5 hr5 HE haa hcc c2 ci
   go_wp2_with fail
   refine leaves_cons (f := 65) (args := #[.pointer (some ⟨sb, 0, none⟩)]) (by simp) (by simp [go_sem]) ?_
   refine (unlock_deferred Tryz.muLib ⟨sb, 0, none⟩ .returning _ lk fk).mono ?_
   rintro r u' w'' ⟨rfl, rfl, rfl⟩
   have e0 : er = 0 := by rw [aA HER]; simp [eL, aA HC0, aA HH]
   have cS : Chg w5 (w5.setCell ⟨sb, 0, none⟩ (.int .i32 0)) (fun k => k = sb) := Chg.set w5 sb 0 _
   have lk5 := (Array.getElem?_eq_some_iff.1 (aA HR5)).1
   have zw := (aA C3).size
   have nk : k5 ≠ sb := by omega
   have r6 := (cS.block k5 lk5 nk).trans (aA HR5)
   have hlen : ((L.drop a.toNat).take c.toNat).length = c.toNat := by simp; omega
   generalize (L.drop a.toNat).take c.toNat = ys at hlen r6 ⊢
   have hown : aS (w5.setCell ⟨sb, 0, none⟩ (.int .i32 0)) w.heap.size (.slice (some ⟨k5, 0, none⟩) c.toNat c.toNat) ys := by
    refine ⟨by simp, .inr ⟨k5, c.toNat, _, by rw [hlen], by omega, r6, by omega, by unfold maxLen; have := (aA HT5).len; omega, by simp; omega, ?_⟩⟩
    rw [List.take_of_length_le (by simp)]
   refine ⟨_, results_tmp2 rfl _ _ _, .slice (some ⟨k5, 0, none⟩) c.toNat c.toNat, by rw [e0]; rfl, ⟨fun _ => hown, fun h => absurd e0 h⟩, dI (aA HS5), (aA HT5).chg cS nes ngs, (aA C5).trans cS (fun _ e _ => e)⟩
  ·have hh' : hasB L.length a c = false := by simpa using hh
   have HH := hide hh'
   rw [hh']
   clear hh hh'
   go_wp2_with fail
   refine leaves_cons (f := 65) (args := #[.pointer (some ⟨sb, 0, none⟩)]) (by simp) (by simp [go_sem]) ?_
   refine (unlock_deferred Tryz.muLib ⟨sb, 0, none⟩ .returning _ lk fk).mono ?_
   rintro r u' w'' ⟨rfl, rfl, rfl⟩
   have e0 : er = 4 := by rw [aA HER]; simp [eL, aA HC0, aA HH]
   have cS : Chg w3 (w3.setCell ⟨sb, 0, none⟩ (.int .i32 0)) (fun k => k = sb) := Chg.set w3 sb 0 _
   refine ⟨_, results_tmp2 rfl _ _ _, .slice none 0 0, by rw [e0]; rfl, ⟨fun h => absurd h (by rw [e0]; decide), fun _ => rfl⟩, dI (aA HS3), (aA HT3).chg cS nes ngs, (aA C3).trans cS (fun _ e _ => e)⟩
def wP (w : World) (B rb sb tb kb : Nat) (t : T4) (LL : List (List Rule)) (us : List Value) (i : Nat) (a c : Int) (r : Ending) (w' : World) : Prop :=
 ∃ v, r = .returned (.tuple #[v, .int .i64 (eL (t.at i).L.length a c)]) ∧ GotO w w' (eL (t.at i).L.length a c) v (((t.at i).L.drop a.toNat).take c.toNat) ∧ BankAt w' B rb sb tb kb t LL us ∧ Chg w w' (fun k => k = sb)
theorem sG (B rb sb tb kb : Nat) (t : T4) (LL : List (List Rule)) (us : List Value) (i : Nat) (hi : i < 4) (a c : Int) (w : World) (h : BankAt w B rb sb tb kb t LL us) (ha : a ≤ 9223372036854775807) :
  Calls Tryz.prog 19 #[.pointer (some ⟨rb, 0, none⟩), .int .i64 i, .int .i64 a, .int .i64 c] w fun r w' => wP w B rb sb tb kb t LL us i a c r w' := by
 obtain ⟨⟨tc, ht, hti⟩, hT, hX⟩ := h.tab i hi
 have HK := hide (fR rb sb w h.row)
 have HP : Hid (∀ w1, Below w.heap.size w w1 → Calls Tryz.prog 44 #[.pointer (some ⟨sb, 0, none⟩), .int .i64 i, .int .i64 a, .int .i64 c] w1 fun r w' => wP w B rb sb tb kb t LL us i a c r w') := fun w1 hb => by
  have b : ∀ {g : Nat} {o : Obj}, w.heap[g]? = some o → w1.heap[g]? = some o := fun q => (hb.block _ (Array.getElem?_eq_some_iff.1 q).1).trans q
  refine (tU sb tb (t.at i).e (t.at i).g i _ t.lim tc (ifOf i) (tyOf i) (hiOf i) (t.at i).L a c w1 (b h.st.row) (b ht) hti hi (hT.below hb) hX ha).mono ?_
  rintro r w' ⟨v, rfl, q0, q1, q2, q3⟩
  have cc : Chg w w' (fun k => k = sb ∨ k = (t.at i).g) := (Chg.of_below hb _).trans q3 (fun _ e _ => .inl e)
  have cs : Chg w w' (fun k => k = sb) := (Chg.of_below hb _).trans q3 (fun _ e _ => e)
  have z := hb.size
  refine ⟨v, rfl, ⟨fun e => fH (q0.1 e) z, q0.2⟩, ?_, cs⟩
  have := h.put i hi cc (q1.trans h.st.row.symm) q2
  rw [iS t i hi] at this
  exact this
 clear h ht hti hT hX
 go_enter Tryz.func19, Tryz.ntmps19
 go_wp2_with fail
 refine (aA HK).mono ?_
 rintro e w1 ⟨rfl, hb⟩
 have HC := hide (aA HP w1 hb)
 clear hb HP HK
 go_wp2_with fail
 refine (aA HC).mono ?_
 rintro e w2 hp
 obtain ⟨v, rfl, _⟩ := id hp
 have HP2 := hide hp
 clear hp HC
 go_wp2
 exact bodyPost_ret (by simp [results, Tryz.results19]) rfl (aA HP2)
end Go.Proofs.YtfekelmldebplaaGreatDoor
namespace Go.Proofs.YtfekelmldebplaaGreatDoor
open Go.RowKit
def pG : List (List Rule) := [[⟨0, 0, 99, true, true⟩, ⟨1, 0, 99, true, false⟩, ⟨2, 0, 99, true, false⟩, ⟨3, 0, 99, true, true⟩], [⟨3, 2, 4, true, false⟩, ⟨3, 3, 3, false, true⟩]]
theorem mY {W : World} {g c : Nat} {rs : List Rule} {cs : Array Value} {fr : Nat × Nat} (h : W.heap[g]? = some (.cells cs 52 fr)) (hc : cs.toList = rs.flatMap fun x => x.cells.toList) : cK W (.slice (some ⟨g, 0, none⟩) rs.length c) rs := by
 refine ⟨_, _, rfl, .inr ⟨g, 0, rfl, (Array.getElem?_eq_some_iff.1 h).1, fun i x hx j u hu => ?_⟩⟩
 have hj : j < 5 := by
  have := (Array.getElem?_eq_some_iff.1 hu).1
  simpa [Rule.cells] using this
 rw [Nat.zero_add, cell_of_row _ _ _ _ _ _ h, ← Array.getElem?_toList, hc, gA rs i j x hx hj]
 exact hu
theorem yN (w1 : World) (n : Nat) (hn : w1.heap.size = n) : bZ (((w1.alloc (.cells #[.int .i64 0, .int .i64 0, .int .i64 99, .bool true, .bool true, .int .i64 1, .int .i64 0, .int .i64 99, .bool true, .bool false, .int .i64 2, .int .i64 0, .int .i64 99, .bool true, .bool false, .int .i64 3, .int .i64 0, .int .i64 99, .bool true, .bool true] 52)).alloc (.cells #[.int .i64 3, .int .i64 2, .int .i64 4, .bool true, .bool false, .int .i64 3, .int .i64 3, .int .i64 3, .bool false, .bool true] 52)).alloc (.cells #[.slice (some ⟨n, 0, none⟩) 4 4, .slice (some ⟨n + 1, 0, none⟩) 2 2] 55)) (.slice (some ⟨n + 1 + 1, 0, none⟩) 2 2) pG := by
 generalize eA : w1.alloc (.cells #[.int .i64 0, .int .i64 0, .int .i64 99, .bool true, .bool true, .int .i64 1, .int .i64 0, .int .i64 99, .bool true, .bool false, .int .i64 2, .int .i64 0, .int .i64 99, .bool true, .bool false, .int .i64 3, .int .i64 0, .int .i64 99, .bool true, .bool true] 52) = A
 have zA : A.heap.size = n + 1 := by rw [← eA]; simp [hn]
 have rA : A.heap[n]? = some (.cells #[.int .i64 0, .int .i64 0, .int .i64 99, .bool true, .bool true, .int .i64 1, .int .i64 0, .int .i64 99, .bool true, .bool false, .int .i64 2, .int .i64 0, .int .i64 99, .bool true, .bool false, .int .i64 3, .int .i64 0, .int .i64 99, .bool true, .bool true] 52 (0, 0)) := by
  rw [← eA, ← hn]
  exact heap_alloc_new w1 _
 generalize eB : A.alloc (.cells #[.int .i64 3, .int .i64 2, .int .i64 4, .bool true, .bool false, .int .i64 3, .int .i64 3, .int .i64 3, .bool false, .bool true] 52) = B
 have zB : B.heap.size = n + 1 + 1 := by rw [← eB]; simp [zA]
 have rB : B.heap[n + 1]? = some (.cells #[.int .i64 3, .int .i64 2, .int .i64 4, .bool true, .bool false, .int .i64 3, .int .i64 3, .int .i64 3, .bool false, .bool true] 52 (0, 0)) := by
  rw [← eB, ← zA]
  exact heap_alloc_new A _
 have rA' : B.heap[n]? = _ := (by rw [← eB]; exact Below.heap_alloc _ _ _ (by omega) : B.heap[n]? = A.heap[n]?).trans rA
 generalize eC : B.alloc (.cells #[.slice (some ⟨n, 0, none⟩) 4 4, .slice (some ⟨n + 1, 0, none⟩) 2 2] 55) = C
 have rC : C.heap[n + 1 + 1]? = some (.cells #[.slice (some ⟨n, 0, none⟩) 4 4, .slice (some ⟨n + 1, 0, none⟩) 2 2] 55 (0, 0)) := by
  rw [← eC, ← zB]
  exact heap_alloc_new B _
 have keep : ∀ k, k < n + 1 + 1 → C.heap[k]? = B.heap[k]? := fun k hk => by rw [← eC]; exact Below.heap_alloc _ _ _ (by omega)
 refine ⟨_, _, rfl, .inr ⟨n + 1 + 1, 0, rfl, (Array.getElem?_eq_some_iff.1 rC).1, fun i rs hi => ?_⟩⟩
 have hl := (List.getElem?_eq_some_iff.1 hi).1
 have h2 : i = 0 ∨ i = 1 := by
  have : pG.length = 2 := rfl
  omega
 rcases h2 with rfl | rfl
 ·cases hi
  exact ⟨.slice (some ⟨n, 0, none⟩) 4 4, (cell_of_row _ _ 0 _ _ _ rC).trans rfl, mY (rs := [⟨0, 0, 99, true, true⟩, ⟨1, 0, 99, true, false⟩, ⟨2, 0, 99, true, false⟩, ⟨3, 0, 99, true, true⟩]) ((keep n (by omega)).trans rA') rfl⟩
 ·cases hi
  exact ⟨.slice (some ⟨n + 1, 0, none⟩) 2 2, (cell_of_row _ _ 1 _ _ _ rC).trans rfl, mY (rs := [⟨3, 2, 4, true, false⟩, ⟨3, 3, 3, false, true⟩]) ((keep (n + 1) (by omega)).trans rB) rfl⟩
theorem qY (kd : Int) (w : World) : Calls Tryz.prog 40 #[.int .i64 kd] w fun e w' => ∃ a, e = .returned (.agg #[.int .i64 kd, .int .i64 1, .int .i64 2, .int .i64 0, .int .i64 0, .string ⟨#[97, 98, 99]⟩, .slice none 0 0, .int .i64 20, .int .i64 10, .int .i64 5, .int .i64 8, .int .i64 2, .slice (some a) 2 2, .slice none 0 0]) ∧ Below w.heap.size w w' ∧ bZ w' (.slice (some a) 2 2) pG := by
 go_enter Tryz.func40, Tryz.ntmps40
 go_wp2
 refine bodyPost_ret (v := .agg #[.int .i64 kd, .int .i64 1, .int .i64 2, .int .i64 0, .int .i64 0, .string ⟨#[97, 98, 99]⟩, .slice none 0 0, .int .i64 20, .int .i64 10, .int .i64 5, .int .i64 8, .int .i64 2, .slice (some ⟨w.heap.size + 1 + 1 + 1, 0, none⟩) 2 2, .slice none 0 0]) (results_cell_row Tryz.results40 _ _ w.heap.size 95 _ (0, 0) _ rfl ?_ Tryz.underlying95 rfl aG7) rfl ⟨_, rfl, ?_, ?_⟩
 ·rw [Below.heap_alloc _ _ _ (by simp; omega), Below.heap_alloc _ _ _ (by simp; omega), Below.heap_alloc _ _ _ (by simp)]
  exact heap_alloc_new _ _
 ·repeat (first | exact Below.refl _ _ | refine Below.alloc ?_ (by first | (simp; done) | (simp; omega)) _)
 ·exact yN _ _ (by simp)
end Go.Proofs.YtfekelmldebplaaGreatDoor
