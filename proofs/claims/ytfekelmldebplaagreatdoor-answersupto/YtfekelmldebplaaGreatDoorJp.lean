import Derived.BigRegion
import Derived.Test.YtfekelmldebplaaGreatDoorJo
import Derived.Test.YtfekelmldebplaaGreatDoorSy
set_option maxRecDepth 100000
set_option maxHeartbeats 8000000
namespace Go.Proofs.YtfekelmldebplaaGreatDoor
open Go.RowKit
def mD (wr : Bool) (op : Int × OpV) : Bool := wr || (op.1 != 7 || (sb op.2.s).length != 0 && (decide (1 ≤ (sb op.2.s).getD 0 0) && decide ((sb op.2.s).getD 0 0 ≤ 4)))
structure PlaysW (wr0 : Bool) (w0 : World) (kd : Int) (kinds : List Int) (ops : List (Int × OpV)) (J J2 : Nat → World → Prop) : Prop where
 chg : ∀ i w, J i w → Chg w0 w (fun k => w0.heap.size ≤ k)
 below : ∀ i w w', J i w → Below w.heap.size w w' → J i w'
 skip : ∀ i w, J i w → J (i + 1) w
 step : ∀ i op w, ops[i]? = some op → op.1 ∈ kinds → mD wr0 op = true → J i w → Calls Tryz.prog 39 #[.pointer (some ⟨w0.heap.size, 0, none⟩), .agg (op.2.cells op.1)] w fun e w' => e = .returned (.bool true) ∧ J2 i w'
 look : ∀ i w, J2 i w → Calls Tryz.prog 41 #[.pointer (some ⟨w0.heap.size, 3, none⟩)] w fun e w' => e = .returned (.bool true) ∧ J (i + 1) w'
 below2 : ∀ i w w', J2 i w → Below w.heap.size w w' → J2 i w'
 head : ∀ w a, Below w0.heap.size w0 w → bZ w (.slice (some a) 2 2) pG → w.heap[w0.heap.size]? = some (.cells (wrow (.slice none 0 0) (.slice none 0 0) (.slice none 0 0) (.slice none 0 0) (.slice none 0 0)) 91 (0, 0)) →
  Calls Tryz.prog 39 #[.pointer (some ⟨w0.heap.size, 0, none⟩), .agg #[.int .i64 kd, .int .i64 1, .int .i64 2, .int .i64 0, .int .i64 0, .string ⟨#[97, 98, 99]⟩, .slice none 0 0, .int .i64 20, .int .i64 10, .int .i64 5, .int .i64 8, .int .i64 2, .slice (some a) 2 2, .slice none 0 0]] w fun e w' => e = .returned (.bool true) ∧ J 0 w'
theorem xE (kd : Int) (kinds : List Int) (ops : List (Int × OpV)) (J J2 : Nat → World → Prop) (a : Option Addr) (c kb : Nat) (w : World) (hP : PlaysW true w kd kinds ops J J2) (hS : nD w.heap.size w a ops) (hk : w.heap[kb]? = some (.cells (kinds.map (Value.int .i64)).toArray 3 (0, 0))) (hk0 : 0 < kinds.length) (hkd : kinds.getD 0 0 = kd) (hk1 : kinds.length ≤ 10) (hn : ops.length ≤ 1000000000) :
  Calls Tryz.prog 14 #[.slice a ops.length c, .slice (some ⟨kb, 0, none⟩) kinds.length kinds.length, .bool true] w fun e w' => e = .returned (.bool true) ∧ J ops.length w' := by
 have hkb : kb < w.heap.size := (Array.getElem?_eq_some_iff.1 hk).1
 have kc : ∀ (W : World), W.heap[kb]? = w.heap[kb]? → ∀ j, j < kinds.length → W.cell? ⟨kb, j, none⟩ = some (.int .i64 (kinds.getD j 0)) := fun W e j hj => by
  rw [cell_of_row _ _ j _ _ _ (e.trans hk)]
  simp [List.getD, List.getElem?_eq_getElem hj]
 have HP := hide hP
 have HS := hide hS
 have KC := hide kc
 have hk0' : (0 : Int) < (kinds.length : Int) := by omega
 have k0 := kc (w.alloc (.cells #[.slice none 0 0, .slice none 0 0, .slice none 0 0, .slice none 0 0, .slice none 0 0, .slice none 0 0, .slice none 0 0] 91)) (Below.heap_alloc _ _ _ hkb) 0 hk0
 rw [hkd] at k0
 clear hP hS hk kc hkd
 go_enter Tryz.func14, Tryz.ntmps14
 go_wp2_with fail
 refine (qY kd _).mono ?_
 rintro e w1 ⟨ha, rfl, hb1, hhl⟩
 have hb01 : Below w.heap.size w w1 := aD ((Below.refl _ _).alloc (Nat.le_refl _) _) hb1
 have r1 : w1.heap[w.heap.size]? = some (.cells (wrow (.slice none 0 0) (.slice none 0 0) (.slice none 0 0) (.slice none 0 0) (.slice none 0 0)) 91 (0, 0)) := (hb1.block w.heap.size (by simp)).trans (heap_alloc_new w _)
 have HH := hide ((aA HP).head w1 ha hb01 hhl r1)
 clear hb1 r1 k0 hhl
 go_wp2_with fail
 refine (aA HH).mono ?_
 rintro e w2 ⟨rfl, hj⟩
 have HJ := hide hj
 clear hj HH hb01
 go_wp2
 go_loopw [9] (fun i wr => ∃ t : Nat, t ≤ ops.length ∧ i = .int .i64 t ∧ Hid (J t wr)) (fun i _ => ops.length - (intOf i).toNat)
 case atStart => exact ⟨0, by omega, rfl, HJ⟩
 case round =>
  obtain ⟨t, ht, rfl, HJt⟩ := hrel
  obtain ⟨Wt, hWt⟩ : ∃ W, W = wr := ⟨wr, rfl⟩
  subst hWt
  clear HJ
  by_cases hlt : t < ops.length
  ·obtain ⟨⟨kk, ov⟩, hop⟩ : ∃ op, ops[t]? = some op := ⟨_, List.getElem?_eq_getElem hlt⟩
   obtain ⟨b, o, rfl, hb, hcell⟩ := aA HS t _ hop
   have hch := (aA HP).chg t Wt (aA HJt)
   have hzw := hch.size
   have CW : Hid (∀ W, Below Wt.heap.size Wt W → ∀ j u, (ov.cells kk)[j]? = some u → W.cell? ⟨b, o + t * 14 + j, none⟩ = some u) := fun W hW j u e => by
    rw [← hcell j u e]
    exact World.cell?_of_block ((hW.block b (by omega)).trans (hch.block b hb (by omega)))
   have KW : Hid (∀ W, Below Wt.heap.size Wt W → ∀ j, j < kinds.length → W.cell? ⟨kb, j, none⟩ = some (.int .i64 (kinds.getD j 0))) := fun W hW j hj => aA KC W ((hW.block kb (by omega)).trans (hch.block kb hkb (by omega))) j hj
   have HOp := hide hop
   clear hcell hch hop
   go_wp2
   go_loopw [10, 11] (fun n j wq => ∃ q : Nat, q ≤ kinds.length ∧ j = .int .i64 q ∧ n = .bool (decide (kk ∈ kinds.take q)) ∧ Hid (Below Wt.heap.size Wt wq)) (fun n j _ => kinds.length - (intOf j).toNat)
   case atStart => exact ⟨0, by omega, rfl, by simp, Below.refl _ _⟩
   case round =>
    obtain ⟨q, hq, rfl, rfl, hbq⟩ := hrel
    by_cases hql : q < kinds.length
    ·have KX : Hid (∀ W, Below wr.heap.size wr W → Below wr.heap.size wr W ∧ W.cell? ⟨b, o + t * 14, none⟩ = some (.int .i64 kk) ∧ W.cell? ⟨kb, q, none⟩ = some (.int .i64 (kinds.getD q 0))) := fun W hW =>
      ⟨hW, aA CW W (aD (aA hbq) hW) 0 _ rfl, aA KW W (aD (aA hbq) hW) q hql⟩
     have hnx : Hid (decide (kk ∈ kinds.take (q + 1)) = (decide (kk ∈ kinds.take q) || decide (kk = kinds.getD q 0))) := zS kk kinds q hql
     have HNX := hnx
     clear hnx
     generalize kinds.getD q 0 = kq at KX HNX
     generalize hin : decide (kk ∈ kinds.take q) = inn at HNX ⊢
     generalize hin2 : decide (kk ∈ kinds.take (q + 1)) = inn2 at HNX
     have H2 := hide hin2
     clear hin hin2
     have hwq : (q : Int) < (kinds.length : Int) := by omega
     cases inn with
     | true =>
      go_wp2
      go_region
      go_wp2
      go_roundw
      case rel => exact ⟨q + 1, by omega, by go_num, by rw [aA H2, aA HNX]; rfl, (aA hbq).drew⟩
      case measure => simp [intOf]; omega
     | false =>
      go_wp2_with fail
      go_region_held3 (fun W => Below wr.heap.size wr W ∧ W.cell? ⟨b, o + t * 14, none⟩ = some (.int .i64 kk) ∧ W.cell? ⟨kb, q, none⟩ = some (.int .i64 kq))
       ((refine aA KX _ ?_; repeat (first
         | exact Below.refl _ _
         | exact And.left (by assumption)
         | refine Below.drew ?_
         | refine aD ?_ (by assumption))))
       (fail)
      go_wp2
      go_roundw
      case rel => exact ⟨q + 1, by omega, by go_num, by rw [aA H2, aA HNX]; rfl, (aA hbq).drew⟩
      case measure => simp [intOf]; omega
    ·have hqe : q = kinds.length := by omega
     subst hqe
     have CX : Hid (∀ W, Below wr.heap.size wr W → ∀ j u, (ov.cells kk)[j]? = some u → W.cell? ⟨b, o + t * 14 + j, none⟩ = some u) := fun W hW => aA CW W (aD (aA hbq) hW)
     obtain ⟨A, Bq, C, D, ss, l, n0, n1, n2, n3, n4, ru, li⟩ := ov
     unfold OpV.cells at CX
     have g0 := aA CX wr (Below.refl _ _) 0 _ rfl
     have g1 := aA CX wr (Below.refl _ _) 1 _ rfl
     have g2 := aA CX wr (Below.refl _ _) 2 _ rfl
     have g3 := aA CX wr (Below.refl _ _) 3 _ rfl
     have g4 := aA CX wr (Below.refl _ _) 4 _ rfl
     have g5 := aA CX wr (Below.refl _ _) 5 _ rfl
     have g6 := aA CX wr (Below.refl _ _) 6 _ rfl
     have g7 := aA CX wr (Below.refl _ _) 7 _ rfl
     have g8 := aA CX wr (Below.refl _ _) 8 _ rfl
     have g9 := aA CX wr (Below.refl _ _) 9 _ rfl
     have g10 := aA CX wr (Below.refl _ _) 10 _ rfl
     have g11 := aA CX wr (Below.refl _ _) 11 _ rfl
     have g12 := aA CX wr (Below.refl _ _) 12 _ rfl
     have g13 := aA CX wr (Below.refl _ _) 13 _ rfl
     simp only [List.take_length, Nat.add_zero] at g0 g1 g2 g3 g4 g5 g6 g7 g8 g9 g10 g11 g12 g13 ⊢
     by_cases hin : kk ∈ kinds
     ·rw [decide_eq_true hin]
      have HST : Hid (Calls Tryz.prog 39 #[.pointer (some ⟨w.heap.size, 0, none⟩), .agg #[.int .i64 kk, .int .i64 A, .int .i64 Bq, .int .i64 C, .int .i64 D, .string ss, l, n0, n1, n2, n3, n4, ru, li]] wr fun e w' => e = .returned (.bool true) ∧ J2 t w') :=
       (aA HP).step t (kk, ⟨A, Bq, C, D, ss, l, n0, n1, n2, n3, n4, ru, li⟩) wr (aA HOp) hin rfl ((aA HP).below t Wt wr (aA HJt) (aA hbq))
      go_wp2_with fail
      refine (aA HST).mono ?_
      rintro e w3 ⟨rfl, hj2⟩
      have HJ2 := hide hj2
      clear hj2 HST g0 g1 g2 g3 g4 g5 g6 g7 g8 g9 g10 g11 g12 g13
      go_wp2_with fail
      refine ((aA HP).look t w3 (aA HJ2)).mono ?_
      rintro e w4 ⟨rfl, hj3⟩
      have HJ3 := hide hj3
      clear hj3
      go_wp2
      go_roundw
      case rel => exact ⟨t + 1, by omega, by go_num, HJ3⟩
      case measure => simp [intOf]; omega
     ·rw [decide_eq_false hin]
      go_wp2
      exact ⟨⟨t + 1, by omega, by go_num, (aA HP).skip t wr ((aA HP).below t Wt wr (aA HJt) (aA hbq))⟩, by simp [intOf]; omega⟩
  ·have hte : t = ops.length := by omega
   subst hte
   go_wp2
   go_ret
   exact ⟨rfl, aA HJt⟩
end Go.Proofs.YtfekelmldebplaaGreatDoor
