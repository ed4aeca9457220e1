import Derived.Test.YtfekelmldebplaaGreatDoorUc
set_option maxRecDepth 100000
set_option maxHeartbeats 8000000
namespace Go.Proofs.YtfekelmldebplaaGreatDoor
open Go.RowKit
theorem Lies.len {w : World} {a : Option Addr} {m c : Nat} {xs : List Int} (h : Lies w (.slice a m c) xs) : m = xs.length := by
 rcases h with ⟨a, c, e, rfl⟩ | ⟨b, o, c, e, _⟩
 ·cases e; rfl
 ·cases e; rfl
def bK (w : World) (rp : Nat) (f : Int) (v : Value) (res : Int ⊕ Req) (e : Ending) (w' : World) : Prop :=
 Chg w w' (fun k => k = rp) ∧ match res with
 | .inl x => ∃ n T p, e = .returned (.iface T (.pointer (some ⟨p, 0, none⟩))) ∧ dN w' f x n (.iface T (.pointer (some ⟨p, 0, none⟩)))
 | .inr q => ∃ vv ve, e = .returned .nilIface ∧ RAt w' rp q.f q.t q.ra q.rc q.wa q.wc vv q.keep ve ∧ cB w' vv q.vals ∧ Lies w' ve q.echo ∧ (∀ b, vv.ownBlock = some b → w.heap.size ≤ b) ∧ (∀ b, ve.ownBlock = some b → v.ownBlock = some b)
theorem bK.err {w w' : World} {rp : Nat} {f x : Int} {n : Nat} {T : TypeId} {p : Nat} {v : Value} {res : Int ⊕ Req} (hr : res = .inl x) (h : dN w' f x n (.iface T (.pointer (some ⟨p, 0, none⟩)))) (hb : Below w.heap.size w w') : bK w rp f v res (.returned (.iface T (.pointer (some ⟨p, 0, none⟩)))) w' := by
 subst hr
 exact ⟨Chg.of_below hb _, n, T, p, rfl, h⟩
def QNew (w : World) (rp : Nat) (f : Int) : Prop := RAt w rp f 0 0 0 0 0 (.slice none 0 0) 0 (.slice none 0 0)
theorem RAt.below {w w' : World} {rp : Nat} {f t ra rc wa wc : Int} {vv : Value} {k : Int} {ve : Value} (h : RAt w rp f t ra rc wa wc vv k ve) (hb : Below w.heap.size w w') : RAt w' rp f t ra rc wa wc vv k ve :=
 ⟨(hb.block _ (Array.getElem?_eq_some_iff.1 h.row).1).trans h.row⟩
theorem aZ (w : World) (o : Obj) : Below w.heap.size w (w.alloc o) := (Below.refl _ _).alloc (Nat.le_refl _) _
theorem cL (bs : List Int) (n k : Nat) (w : World) (g : Nat) (h : w.heap[g]? = some (.cells ((bY bs n).map (Value.int .i64)).toArray 3 (0, 0))) (hk : k < n) : w.cell? ⟨g, k, none⟩ = some (.int .i64 (wAt bs k)) := by
 rw [dP h k (by rw [dZ]; exact hk)]
 simp [bY, List.getD, hk]
theorem Chg.drew {w w' : World} {D : Nat → Prop} (h : Chg w w' D) : Chg w w'.drew D := ⟨h.os, h.tape, h.output, h.size, h.block⟩
theorem Chg.put {w w' : World} {D : Nat → Prop} (h : Chg w w' D) (g i : Nat) (v : Value) (hg : D g) : Chg w (w'.setCell ⟨g, i, none⟩ v) D := h.trans (Chg.set w' g i v) (fun _ e _ => by rw [show _ = g from e]; exact hg)
theorem Chg.new {w w' : World} {D : Nat → Prop} (h : Chg w w' D) (o : Obj) : Chg w (w'.alloc o) D := h.trans (Chg.of_below (aZ w' o) (fun _ => False)) (fun _ e _ => e.elim)
theorem gE (rp : Nat) (f : Int) (t most : Nat) (v : Value) (bs : List Int) (w : World) (hr : QNew w rp f) (h : Lies w v bs) (hx : Bys bs) (hl : bs.length ≤ 252) :
  Calls Tryz.prog 201 #[.pointer (some ⟨rp, 0, none⟩), v, .int .i64 t, .int .i64 most] w fun e w' => bK w rp f v (aW f bs t most) e w' := by
 obtain ⟨av, cv, rfl⟩ := h.slice
 by_cases h4 : bs.length < 4
 ·have HR : Hid (aW f bs t most = .inl 3) := by
   show _ = _
   unfold aW
   rw [if_neg (by omega)]
  have HS := hide (gR _ bs 2 w h (by omega) h4)
  rw [show ((2 : Nat) : Int) = 2 from rfl] at HS
  have HW := hide (bW rp _ _ _ _ _ _ _ _ _ w hr)
  clear h hr hx
  go_enter Tryz.func201, Tryz.ntmps201
  go_wp2_with fail
  refine (aA HS).mono ?_
  rintro e w ⟨rfl, rfl⟩
  clear HS
  go_wp2_with fail
  refine (aA HW).mono ?_
  rintro e w1 ⟨n, v', rfl, he, hb⟩
  obtain ⟨T, p, rfl⟩ := he.iface
  have HE := hide he
  clear he HW
  go_wp2
  go_ret
  exact bK.err (aA HR) (aA HE) hb
 ·have HS := hide (fV _ bs 2 w h hx (by omega) (by omega) (by omega) (by omega))
  rw [show ((2 : Nat) : Int) = 2 from rfl] at HS
  have HR0 := hide hr
  have H := hide h
  have HX := hide hx
  clear h hr hx
  clear H HX
  by_cases h5 : bs.length = 4
  ·cases hc : bS (wAt bs 1) most with
   | false =>
    have HR : Hid (aW f bs t most = .inl 3) := by
     show _ = _
     unfold aW
     rw [if_neg (by rw [hc]; simp)]
    have HC : Hid (∀ w, Calls Tryz.prog 217 #[.int .i64 (wAt bs 1 : Nat), .int .i64 most] w fun e w' => e = .returned (.bool false) ∧ w' = w) := fun w => by
     have := fN (wAt bs 1) most w
     rw [hc] at this
     exact this
    have H5 := hide h5
    clear hc h5
    go_enter Tryz.func201, Tryz.ntmps201
    go_wp2_with fail
    refine (aA HS).mono ?_
    rintro e w1 ⟨k, a, m, c, rfl, hs⟩
    have hm : m = 0 := by
     have := hs.rest.len
     have h5 := aA H5
     simp at this
     omega
    have q1 := cL bs 2 1 w1 k hs.row (by omega)
    have HW := hide (eR rp _ _ _ _ _ _ _ _ _ w1 ((aA HR0).below hs.bel))
    have HS1 := hide hs
    subst hm
    clear hs HS
    go_wp2_with (go_at_call 217; refine (aA HC _).mono ?_; rintro e w1 ⟨rfl, rfl⟩)
    refine (aA HW).mono ?_
    rintro e w2 ⟨n, v', rfl, he, hb⟩
    obtain ⟨T, p, rfl⟩ := he.iface
    have HE := hide he
    clear he HW
    go_wp2
    go_ret
    exact bK.err (aA HR) (aA HE) (aD (aA HS1).bel hb)
   | true =>
    have HQ : Hid (aW f bs t most = .inr ⟨f, t, wAt bs 0, wAt bs 1, 0, 0, [], 0, []⟩) := by
     show _ = _
     unfold aW
     rw [if_pos ⟨h5, hc⟩]
    have HC : Hid (∀ w, Calls Tryz.prog 217 #[.int .i64 (wAt bs 1 : Nat), .int .i64 most] w fun e w' => e = .returned (.bool true) ∧ w' = w) := fun w => by
     have := fN (wAt bs 1) most w
     rw [hc] at this
     exact this
    have H5 := hide h5
    clear hc h5
    go_enter Tryz.func201, Tryz.ntmps201
    go_wp2_with fail
    refine (aA HS).mono ?_
    rintro e w1 ⟨k, a, m, c, rfl, hs⟩
    have hm : m = 0 := by
     have := hs.rest.len
     have h5 := aA H5
     simp at this
     omega
    have hr1 := (aA HR0).below hs.bel
    have q0 := cL bs 2 0 w1 k hs.row (by omega)
    have q1 := cL bs 2 1 w1 k hs.row (by omega)
    have c1 := cell_of_row _ _ 1 _ _ _ hr1.row
    have f1 := frozen_of_row _ _ 1 _ _ hr1.row
    have c2 := cell_of_row _ _ 2 _ _ _ hr1.row
    have f2 := frozen_of_row _ _ 2 _ _ hr1.row
    have c3 := cell_of_row _ _ 3 _ _ _ hr1.row
    have f3 := frozen_of_row _ _ 3 _ _ hr1.row
    simp [rrow] at c1 c2 c3
    have HS1 := hide hs
    have HR1 := hide hr1
    subst hm
    clear hs hr1 HS
    have hlr : rp < w.heap.size := (Array.getElem?_eq_some_iff.1 (aA HR0).row).1
    have hlk := (aA HS1).lo
    have hne : k ≠ rp := by omega
    have hne' : rp ≠ k := by omega
    go_wp2_with (go_at_call 217; refine (aA HC _).mono ?_; rintro e w1 ⟨rfl, rfl⟩)
    go_region
    go_wp2
    go_ret
    refine ⟨((((Chg.of_below (aA HS1).bel (fun k => k = rp)).put rp 1 _ rfl).put rp 2 _ rfl).put rp 3 _ rfl).drew, ?_⟩
    rw [aA HQ]
    refine ⟨_, _, rfl, ⟨?_⟩, ⟨none, 0, rfl, .inl rfl⟩, .inl ⟨none, 0, rfl, rfl⟩, fun b e => by simp [Value.ownBlock] at e, fun b e => by simp [Value.ownBlock] at e⟩
    exact heap_setCell_same _ rp 3 _ _ _ (heap_setCell_same _ rp 2 _ _ _ (heap_setCell_same _ rp 1 _ _ _ (aA HR1).row))
  ·have h5' : 4 < bs.length := by omega
   have HR : Hid (aW f bs t most = .inl 3) := by
    show _ = _
    unfold aW
    rw [if_neg (by omega)]
   go_enter Tryz.func201, Tryz.ntmps201
   go_wp2_with fail
   refine (aA HS).mono ?_
   rintro e w1 ⟨k, a, m, c, rfl, hs⟩
   have hm : (0 : Int) < (m : Int) := by
    have := hs.rest.len
    simp at this
    omega
   have HW := hide (bW rp _ _ _ _ _ _ _ _ _ w1 ((aA HR0).below hs.bel))
   have HS1 := hide hs
   clear hs HS
   go_wp2_with fail
   refine (aA HW).mono ?_
   rintro e w2 ⟨n, v', rfl, he, hb⟩
   obtain ⟨T, p, rfl⟩ := he.iface
   have HE := hide he
   clear he HW
   go_wp2
   go_ret
   exact bK.err (aA HR) (aA HE) (aD (aA HS1).bel hb)
theorem RAt.lt {w : World} {rp : Nat} {f t ra rc wa wc : Int} {vv : Value} {k : Int} {ve : Value} (h : RAt w rp f t ra rc wa wc vv k ve) : rp < w.heap.size := (Array.getElem?_eq_some_iff.1 h.row).1
theorem RAt.s1 {w : World} {rp : Nat} {f t ra rc wa wc : Int} {vv : Value} {k : Int} {ve : Value} (h : RAt w rp f t ra rc wa wc vv k ve) (x : Int) : RAt (w.setCell ⟨rp, 1, none⟩ (.int .i64 x)) rp f x ra rc wa wc vv k ve := ⟨heap_setCell_same _ rp 1 _ _ _ h.row⟩
theorem RAt.s2 {w : World} {rp : Nat} {f t ra rc wa wc : Int} {vv : Value} {k : Int} {ve : Value} (h : RAt w rp f t ra rc wa wc vv k ve) (x : Int) : RAt (w.setCell ⟨rp, 2, none⟩ (.int .i64 x)) rp f t x rc wa wc vv k ve := ⟨heap_setCell_same _ rp 2 _ _ _ h.row⟩
theorem RAt.s3 {w : World} {rp : Nat} {f t ra rc wa wc : Int} {vv : Value} {k : Int} {ve : Value} (h : RAt w rp f t ra rc wa wc vv k ve) (x : Int) : RAt (w.setCell ⟨rp, 3, none⟩ (.int .i64 x)) rp f t ra x wa wc vv k ve := ⟨heap_setCell_same _ rp 3 _ _ _ h.row⟩
theorem RAt.s4 {w : World} {rp : Nat} {f t ra rc wa wc : Int} {vv : Value} {k : Int} {ve : Value} (h : RAt w rp f t ra rc wa wc vv k ve) (x : Int) : RAt (w.setCell ⟨rp, 4, none⟩ (.int .i64 x)) rp f t ra rc x wc vv k ve := ⟨heap_setCell_same _ rp 4 _ _ _ h.row⟩
theorem RAt.s5 {w : World} {rp : Nat} {f t ra rc wa wc : Int} {vv : Value} {k : Int} {ve : Value} (h : RAt w rp f t ra rc wa wc vv k ve) (x : Int) : RAt (w.setCell ⟨rp, 5, none⟩ (.int .i64 x)) rp f t ra rc wa x vv k ve := ⟨heap_setCell_same _ rp 5 _ _ _ h.row⟩
theorem RAt.s6 {w : World} {rp : Nat} {f t ra rc wa wc : Int} {vv : Value} {k : Int} {ve : Value} (h : RAt w rp f t ra rc wa wc vv k ve) (x : Value) : RAt (w.setCell ⟨rp, 6, none⟩ x) rp f t ra rc wa wc x k ve := ⟨heap_setCell_same _ rp 6 _ _ _ h.row⟩
theorem RAt.s7 {w : World} {rp : Nat} {f t ra rc wa wc : Int} {vv : Value} {k : Int} {ve : Value} (h : RAt w rp f t ra rc wa wc vv k ve) (x : Int) : RAt (w.setCell ⟨rp, 7, none⟩ (.int .i64 x)) rp f t ra rc wa wc vv x ve := ⟨heap_setCell_same _ rp 7 _ _ _ h.row⟩
theorem RAt.s8 {w : World} {rp : Nat} {f t ra rc wa wc : Int} {vv : Value} {k : Int} {ve : Value} (h : RAt w rp f t ra rc wa wc vv k ve) (x : Value) : RAt (w.setCell ⟨rp, 8, none⟩ x) rp f t ra rc wa wc vv k x := ⟨heap_setCell_same _ rp 8 _ _ _ h.row⟩
theorem Lies.chg {w w' : World} {v : Value} {xs : List Int} {D : Nat → Prop} (h : Lies w v xs) (c : Chg w w' D) (hD : ∀ b, v.ownBlock = some b → ¬ D b) : Lies w' v xs := h.kept c.size fun k hk e => c.block k hk (hD k e)
theorem fB {w w' : World} {v : Value} {xs : List Int} {D : Nat → Prop} (h : cB w v xs) (c : Chg w w' D) (hD : ∀ b, v.ownBlock = some b → ¬ D b) : cB w' v xs := by
 obtain ⟨a, cc, rfl, h⟩ := h
 refine ⟨a, cc, rfl, ?_⟩
 rcases h with h | ⟨b, o, e, hl, hc⟩
 ·exact .inl h
 ·exact .inr ⟨b, o, e, Nat.lt_of_lt_of_le hl c.size, fun i hi => by rw [← hc i hi]; exact World.cell?_of_block (c.block b hl (hD b (by rw [e]; rfl)))⟩
theorem eJ {w : World} {g : Nat} {L : List Int} (h : w.heap[g]? = some (.cells (L.map (Value.int .i64)).toArray 3 (0, 0))) (o n c : Nat) (hn : o + n ≤ L.length) : cB w (.slice (some ⟨g, o, none⟩) n c) ((L.drop o).take n) := by
 have hl : ((L.drop o).take n).length = n := by simp; omega
 refine ⟨_, c, by rw [hl], .inr ⟨g, o, rfl, (Array.getElem?_eq_some_iff.1 h).1, fun i hi => ?_⟩⟩
 rw [hl] at hi
 rw [dP h (o + i) (by omega)]
 simp [List.getD, hi]
theorem quo0 (w : World) : (binOp .quo 3 (.int .i64 0) (.int .i64 65280)).run Tryz.prog w = .ok (.int .i64 0) w := by kernel_rfl
theorem quo1 (w : World) : (binOp .quo 3 (.int .i64 65280) (.int .i64 65280)).run Tryz.prog w = .ok (.int .i64 1) w := by kernel_rfl
theorem oS {w W3 : World} {rp : Nat} {f t wa : Int} {x : Int} {v : Value} {bs : List Int} (hR : RAt W3 rp f t 0 0 wa 1 (.slice none 0 0) 0 (.slice none 0 0)) (hC : Chg w W3 (fun k => k = rp)) (h : Lies w v bs) (hv : ∀ b, v.ownBlock = some b → b ≠ rp) {W5 : World}
  (hW : W5 = ((W3.alloc (.cells #[.int .i64 x] 3)).setCell ⟨rp, 6, none⟩ (.slice (some ⟨W3.heap.size, 0, none⟩) 1 1)).setCell ⟨rp, 8, none⟩ v) :
  RAt W5 rp f t 0 0 wa 1 (.slice (some ⟨W3.heap.size, 0, none⟩) 1 1) 0 v ∧ cB W5 (.slice (some ⟨W3.heap.size, 0, none⟩) 1 1) [x] ∧ Lies W5 v bs ∧ Chg w W5 (fun k => k = rp) ∧ (∀ b, (Value.slice (some ⟨W3.heap.size, 0, none⟩) 1 1).ownBlock = some b → w.heap.size ≤ b) := by
 subst hW
 have hl := hR.lt
 have c1 : Chg (W3.alloc (.cells #[.int .i64 x] 3)) (((W3.alloc (.cells #[.int .i64 x] 3)).setCell ⟨rp, 6, none⟩ (.slice (some ⟨W3.heap.size, 0, none⟩) 1 1)).setCell ⟨rp, 8, none⟩ v) (fun k => k = rp) := ((Chg.refl _ (fun k => k = rp)).put rp 6 _ rfl).put rp 8 _ rfl
 have c2 : Chg w (((W3.alloc (.cells #[.int .i64 x] 3)).setCell ⟨rp, 6, none⟩ (.slice (some ⟨W3.heap.size, 0, none⟩) 1 1)).setCell ⟨rp, 8, none⟩ v) (fun k => k = rp) := (hC.new _).trans c1 (fun _ e _ => e)
 refine ⟨((hR.below (aZ _ _)).s6 _).s8 _, ?_, h.chg c2 (fun b e => hv b e), c2, fun b e => by simp [Value.ownBlock] at e; have := hC.size; omega⟩
 have q : (W3.alloc (.cells #[.int .i64 x] 3)).heap[W3.heap.size]? = some (.cells (([x] : List Int).map (Value.int .i64)).toArray 3 (0, 0)) := heap_alloc_new W3 _
 exact fB (eJ q 0 1 1 (by simp)) c1 (fun b e => by simp [Value.ownBlock] at e; subst e; intro e2; have e3 : W3.heap.size = rp := e2; omega)
theorem xM (rp : Nat) (f : Int) (v : Value) (bs : List Int) (w : World) (hr : QNew w rp f) (h : Lies w v bs) (hx : Bys bs) (hl : bs.length ≤ 252) (hv : ∀ b, v.ownBlock = some b → b ≠ rp) :
  Calls Tryz.prog 202 #[.pointer (some ⟨rp, 0, none⟩), v] w fun e w' => bK w rp f v (dK f bs) e w' := by
 obtain ⟨av, cv, rfl⟩ := h.slice
 by_cases h4 : bs.length < 4
 ·have HR : Hid (dK f bs = .inl 3) := by
   show _ = _
   unfold dK
   rw [if_neg (by omega)]
  have HS := hide (gR _ bs 2 w h (by omega) h4)
  rw [show ((2 : Nat) : Int) = 2 from rfl] at HS
  have HW := hide (bW rp _ _ _ _ _ _ _ _ _ w hr)
  clear h hr hx
  go_enter Tryz.func202, Tryz.ntmps202
  go_wp2_with fail
  refine (aA HS).mono ?_
  rintro e w ⟨rfl, rfl⟩
  clear HS
  go_wp2_with fail
  refine (aA HW).mono ?_
  rintro e w1 ⟨n, v', rfl, he, hb⟩
  obtain ⟨T, p, rfl⟩ := he.iface
  have HE := hide he
  clear he HW
  go_wp2
  go_ret
  exact bK.err (aA HR) (aA HE) hb
 ·have HS := hide (fV _ bs 2 w h hx (by omega) (by omega) (by omega) (by omega))
  rw [show ((2 : Nat) : Int) = 2 from rfl] at HS
  have HR0 := hide hr
  have H := hide h
  have HX := hide hx
  clear h hr hx
  by_cases h5 : bs.length = 4
  ·by_cases hv0 : wAt bs 1 = 0
   ·have HQ : Hid (dK f bs = .inr ⟨f, 0, 0, 0, wAt bs 0, 1, [0], 0, bs⟩) := by
     show _ = _
     unfold dK
     rw [if_pos ⟨h5, .inl hv0⟩, hv0]
     rfl
    have HV : Hid (((wAt bs 1 : Nat) : Int) = 0) := by
     show _ = _
     omega
    have H5 := hide h5
    have HVV := hide hv
    clear h5 hv0 hv
    go_enter Tryz.func202, Tryz.ntmps202
    go_wp2_with fail
    refine (aA HS).mono ?_
    rintro e w1 ⟨k, a, m, c, rfl, hs⟩
    have hm : m = 0 := by
     have := hs.rest.len
     have h5 := aA H5
     simp at this
     omega
    have hr1 := (aA HR0).below hs.bel
    have q0 := cL bs 2 0 w1 k hs.row (by omega)
    have q1 := cL bs 2 1 w1 k hs.row (by omega)
    have c1 := cell_of_row _ _ 1 _ _ _ hr1.row
    have f1 := frozen_of_row _ _ 1 _ _ hr1.row
    have c4 := cell_of_row _ _ 4 _ _ _ hr1.row
    have f4 := frozen_of_row _ _ 4 _ _ hr1.row
    have c5 := cell_of_row _ _ 5 _ _ _ hr1.row
    have f5 := frozen_of_row _ _ 5 _ _ hr1.row
    have c6 := cell_of_row _ _ 6 _ _ _ hr1.row
    have f6 := frozen_of_row _ _ 6 _ _ hr1.row
    have c8 := cell_of_row _ _ 8 _ _ _ hr1.row
    have f8 := frozen_of_row _ _ 8 _ _ hr1.row
    simp [rrow] at c1 c4 c5 c6 c8
    have HS1 := hide hs
    have HR1 := hide hr1
    subst hm
    clear hs hr1 HS
    have hlr : rp < w.heap.size := (Array.getElem?_eq_some_iff.1 (aA HR0).row).1
    have hlk := (aA HS1).lo
    have hne : k ≠ rp := by omega
    have hne' : rp ≠ k := by omega
    rw [aA HV] at q1
    have hq := quo0
    clear c6 f6 c8 f8
    go_wp2_with (with_reducible (refine (aA (p := wpList _ _ _ (_ :: _) _ (((World.setCell _ _ _).setCell _ _).setCell _ _)) ?_)))
    have C3 := hide ((((Chg.of_below (aA HS1).bel (fun k => k = rp)).put rp 1 (.int .i64 0) rfl).put rp 4 (.int .i64 (wAt bs 0 : Nat)) rfl).put rp 5 (.int .i64 1) rfl)
    have R3 := hide ((((aA HR1).s1 0).s4 (wAt bs 0 : Nat)).s5 1)
    generalize ((w1.setCell ⟨rp, 1, none⟩ (.int .i64 0)).setCell ⟨rp, 4, none⟩ (.int .i64 (wAt bs 0 : Nat))).setCell ⟨rp, 5, none⟩ (.int .i64 1) = W3 at R3 C3 ⊢
    clear c1 f1 c4 f4 c5 f5 q0 q1 hne hne'
    have r4 := (aZ W3 (.cells #[.int .i64 0] 3)).block rp (aA R3).lt |>.trans (aA R3).row
    have c6 := cell_of_row _ _ 6 _ _ _ r4
    have f6 := frozen_of_row _ _ 6 _ _ r4
    have c8 := cell_of_row _ _ 8 _ _ _ r4
    have f8 := frozen_of_row _ _ 8 _ _ r4
    simp only [rrow] at c6 c8
    clear r4
    have HEnd := hide (fun W5 hW => oS (W5 := W5) (x := 0) (aA R3) (aA C3) (aA H) (aA HVV) hW)
    show wpList _ _ _ _ _ _
    go_wp2
    go_ret
    have hend := aA HEnd _ rfl
    refine ⟨hend.2.2.2.1, ?_⟩
    rw [aA HQ]
    exact ⟨_, _, rfl, hend.1, hend.2.1, hend.2.2.1, hend.2.2.2.2, fun b e => e⟩
   ·by_cases hv1 : wAt bs 1 = 65280
    ·have HQ : Hid (dK f bs = .inr ⟨f, 0, 0, 0, wAt bs 0, 1, [1], 0, bs⟩) := by
      show _ = _
      unfold dK
      rw [if_pos ⟨h5, .inr hv1⟩, hv1]
      rfl
     have HV : Hid (((wAt bs 1 : Nat) : Int) = 65280) := by
      show _ = _
      omega
     have H5 := hide h5
     have HVV := hide hv
     clear h5 hv0 hv1 hv
     go_enter Tryz.func202, Tryz.ntmps202
     go_wp2_with fail
     refine (aA HS).mono ?_
     rintro e w1 ⟨k, a, m, c, rfl, hs⟩
     have hm : m = 0 := by
      have := hs.rest.len
      have h5 := aA H5
      simp at this
      omega
     have hr1 := (aA HR0).below hs.bel
     have q0 := cL bs 2 0 w1 k hs.row (by omega)
     have q1 := cL bs 2 1 w1 k hs.row (by omega)
     have c1 := cell_of_row _ _ 1 _ _ _ hr1.row
     have f1 := frozen_of_row _ _ 1 _ _ hr1.row
     have c4 := cell_of_row _ _ 4 _ _ _ hr1.row
     have f4 := frozen_of_row _ _ 4 _ _ hr1.row
     have c5 := cell_of_row _ _ 5 _ _ _ hr1.row
     have f5 := frozen_of_row _ _ 5 _ _ hr1.row
     have c6 := cell_of_row _ _ 6 _ _ _ hr1.row
     have f6 := frozen_of_row _ _ 6 _ _ hr1.row
     have c8 := cell_of_row _ _ 8 _ _ _ hr1.row
     have f8 := frozen_of_row _ _ 8 _ _ hr1.row
     simp [rrow] at c1 c4 c5 c6 c8
     have HS1 := hide hs
     have HR1 := hide hr1
     subst hm
     clear hs hr1 HS
     have hlr : rp < w.heap.size := (Array.getElem?_eq_some_iff.1 (aA HR0).row).1
     have hlk := (aA HS1).lo
     have hne : k ≠ rp := by omega
     have hne' : rp ≠ k := by omega
     rw [aA HV] at q1
     have hq := quo1
     clear c6 f6 c8 f8
     go_wp2_with (with_reducible (refine (aA (p := wpList _ _ _ (_ :: _) _ (((World.setCell _ _ _).setCell _ _).setCell _ _)) ?_)))
     have C3 := hide ((((Chg.of_below (aA HS1).bel (fun k => k = rp)).put rp 1 (.int .i64 0) rfl).put rp 4 (.int .i64 (wAt bs 0 : Nat)) rfl).put rp 5 (.int .i64 1) rfl)
     have R3 := hide ((((aA HR1).s1 0).s4 (wAt bs 0 : Nat)).s5 1)
     generalize ((w1.setCell ⟨rp, 1, none⟩ (.int .i64 0)).setCell ⟨rp, 4, none⟩ (.int .i64 (wAt bs 0 : Nat))).setCell ⟨rp, 5, none⟩ (.int .i64 1) = W3 at R3 C3 ⊢
     clear c1 f1 c4 f4 c5 f5 q0 q1 hne hne'
     have r4 := (aZ W3 (.cells #[.int .i64 1] 3)).block rp (aA R3).lt |>.trans (aA R3).row
     have c6 := cell_of_row _ _ 6 _ _ _ r4
     have f6 := frozen_of_row _ _ 6 _ _ r4
     have c8 := cell_of_row _ _ 8 _ _ _ r4
     have f8 := frozen_of_row _ _ 8 _ _ r4
     simp only [rrow] at c6 c8
     clear r4
     have HEnd := hide (fun W5 hW => oS (W5 := W5) (x := 1) (aA R3) (aA C3) (aA H) (aA HVV) hW)
     show wpList _ _ _ _ _ _
     go_wp2
     go_ret
     have hend := aA HEnd _ rfl
     refine ⟨hend.2.2.2.1, ?_⟩
     rw [aA HQ]
     exact ⟨_, _, rfl, hend.1, hend.2.1, hend.2.2.1, hend.2.2.2.2, fun b e => e⟩
    ·have HR : Hid (dK f bs = .inl 3) := by
      show _ = _
      unfold dK
      rw [if_neg (by omega)]
     have hz0 : (((wAt bs 1 : Nat) : Int) != 0) = true := by simp; omega
     have hz1 : (((wAt bs 1 : Nat) : Int) != 65280) = true := by simp; omega
     have H5 := hide h5
     clear h5 hv0 hv1 hv
     go_enter Tryz.func202, Tryz.ntmps202
     go_wp2_with fail
     refine (aA HS).mono ?_
     rintro e w1 ⟨k, a, m, c, rfl, hs⟩
     have hm : m = 0 := by
      have := hs.rest.len
      have h5 := aA H5
      simp at this
      omega
     have hr1 := (aA HR0).below hs.bel
     have q1 := cL bs 2 1 w1 k hs.row (by omega)
     have HS1 := hide hs
     have HR1 := hide hr1
     subst hm
     clear hs hr1 HS
     have hlr : rp < w.heap.size := (Array.getElem?_eq_some_iff.1 (aA HR0).row).1
     have hlk := (aA HS1).lo
     have hne : k ≠ rp := by omega
     have hne' : rp ≠ k := by omega
     have HW := hide (fun s => lP rp _ _ _ _ _ _ _ _ _ s w1 (aA HR1))
     generalize ((wAt bs 1 : Nat) : Int) = x1 at q1 hz0 hz1
     go_wp2_with fail
     refine (aA HW _).mono ?_
     rintro e w2 ⟨n, v', rfl, he, hb⟩
     obtain ⟨T, p, rfl⟩ := he.iface
     have HE := hide he
     clear he HW
     go_wp2
     go_ret
     exact bK.err (aA HR) (aA HE) (aD (aA HS1).bel hb)
  ·have h5' : 4 < bs.length := by omega
   have HR : Hid (dK f bs = .inl 3) := by
    show _ = _
    unfold dK
    rw [if_neg (by omega)]
   go_enter Tryz.func202, Tryz.ntmps202
   go_wp2_with fail
   refine (aA HS).mono ?_
   rintro e w1 ⟨k, a, m, c, rfl, hs⟩
   have hm : (0 : Int) < (m : Int) := by
    have := hs.rest.len
    simp at this
    omega
   have HW := hide (bW rp _ _ _ _ _ _ _ _ _ w1 ((aA HR0).below hs.bel))
   have HS1 := hide hs
   clear hs HS
   go_wp2_with fail
   refine (aA HW).mono ?_
   rintro e w2 ⟨n, v', rfl, he, hb⟩
   obtain ⟨T, p, rfl⟩ := he.iface
   have HE := hide he
   clear he HW
   go_wp2
   go_ret
   exact bK.err (aA HR) (aA HE) (aD (aA HS1).bel hb)
theorem xI {w w1 W3 : World} {rp k : Nat} {f t wa : Int} {v : Value} {bs : List Int} {vr : Value} (hs : SplitAt w w1 v bs 2 k vr) (hR : RAt W3 rp f t 0 0 wa 1 (.slice none 0 0) 0 (.slice none 0 0)) (hC : Chg w1 W3 (fun k => k = rp)) (h : Lies w v bs) (hv : ∀ b, v.ownBlock = some b → b ≠ rp) (hk : k ≠ rp) {W5 : World}
  (hW : W5 = (W3.setCell ⟨rp, 6, none⟩ (.slice (some ⟨k, 1, none⟩) 1 1)).setCell ⟨rp, 8, none⟩ v) :
  RAt W5 rp f t 0 0 wa 1 (.slice (some ⟨k, 1, none⟩) 1 1) 0 v ∧ cB W5 (.slice (some ⟨k, 1, none⟩) 1 1) [(wAt bs 1 : Int)] ∧ Lies W5 v bs ∧ Chg w W5 (fun k => k = rp) := by
 subst hW
 have c1 : Chg w1 ((W3.setCell ⟨rp, 6, none⟩ (.slice (some ⟨k, 1, none⟩) 1 1)).setCell ⟨rp, 8, none⟩ v) (fun k => k = rp) := (hC.put rp 6 _ rfl).put rp 8 _ rfl
 have c2 : Chg w ((W3.setCell ⟨rp, 6, none⟩ (.slice (some ⟨k, 1, none⟩) 1 1)).setCell ⟨rp, 8, none⟩ v) (fun k => k = rp) := (Chg.of_below hs.bel (fun k => k = rp)).trans c1 (fun _ e _ => e)
 refine ⟨(hR.s6 _).s8 _, ?_, h.chg c2 (fun b e => hv b e), c2⟩
 have q := fB (eJ hs.row 1 1 1 (by simp [dZ])) c1 (fun b e => by simp [Value.ownBlock] at e; subst e; exact hk)
 exact q
theorem xL (rp : Nat) (f : Int) (v : Value) (bs : List Int) (w : World) (hr : QNew w rp f) (h : Lies w v bs) (hx : Bys bs) (hl : bs.length ≤ 252) (hv : ∀ b, v.ownBlock = some b → b ≠ rp) :
  Calls Tryz.prog 203 #[.pointer (some ⟨rp, 0, none⟩), v] w fun e w' => bK w rp f v (eD f bs) e w' := by
 obtain ⟨av, cv, rfl⟩ := h.slice
 by_cases h4 : bs.length < 4
 ·have HR : Hid (eD f bs = .inl 3) := by
   show _ = _
   unfold eD
   rw [if_neg (by omega)]
  have HS := hide (gR _ bs 2 w h (by omega) h4)
  rw [show ((2 : Nat) : Int) = 2 from rfl] at HS
  have HW := hide (bW rp _ _ _ _ _ _ _ _ _ w hr)
  clear h hr hx
  go_enter Tryz.func203, Tryz.ntmps203
  go_wp2_with fail
  refine (aA HS).mono ?_
  rintro e w ⟨rfl, rfl⟩
  clear HS
  go_wp2_with fail
  refine (aA HW).mono ?_
  rintro e w1 ⟨n, v', rfl, he, hb⟩
  obtain ⟨T, p, rfl⟩ := he.iface
  have HE := hide he
  clear he HW
  go_wp2
  go_ret
  exact bK.err (aA HR) (aA HE) hb
 ·have HS := hide (fV _ bs 2 w h hx (by omega) (by omega) (by omega) (by omega))
  rw [show ((2 : Nat) : Int) = 2 from rfl] at HS
  have HR0 := hide hr
  have H := hide h
  have HX := hide hx
  clear h hr hx
  by_cases h5 : bs.length = 4
  ·have HQ : Hid (eD f bs = .inr ⟨f, 3, 0, 0, wAt bs 0, 1, [(wAt bs 1 : Int)], 0, bs⟩) := by
    show _ = _
    unfold eD
    rw [if_pos h5]
   have H5 := hide h5
   have HVV := hide hv
   clear h5 hv
   go_enter Tryz.func203, Tryz.ntmps203
   go_wp2_with fail
   refine (aA HS).mono ?_
   rintro e w1 ⟨k, a, m, c, rfl, hs⟩
   have hm : m = 0 := by
    have := hs.rest.len
    have h5 := aA H5
    simp at this
    omega
   have hr1 := (aA HR0).below hs.bel
   have q0 := cL bs 2 0 w1 k hs.row (by omega)
   have q1 := cL bs 2 1 w1 k hs.row (by omega)
   have c1 := cell_of_row _ _ 1 _ _ _ hr1.row
   have f1 := frozen_of_row _ _ 1 _ _ hr1.row
   have c4 := cell_of_row _ _ 4 _ _ _ hr1.row
   have f4 := frozen_of_row _ _ 4 _ _ hr1.row
   have c5 := cell_of_row _ _ 5 _ _ _ hr1.row
   have f5 := frozen_of_row _ _ 5 _ _ hr1.row
   simp [rrow] at c1 c4 c5
   have HS1 := hide hs
   have HR1 := hide hr1
   subst hm
   clear hs hr1 HS
   have hlr : rp < w.heap.size := (Array.getElem?_eq_some_iff.1 (aA HR0).row).1
   have hlk := (aA HS1).lo
   have hne : k ≠ rp := by omega
   have hne' : rp ≠ k := by omega
   go_wp2_with (with_reducible (refine (aA (p := wpList _ _ _ (_ :: _) _ (((World.setCell _ _ _).setCell _ _).setCell _ _)) ?_)))
   have C3 := hide ((((Chg.refl w1 (fun k => k = rp)).put rp 1 (.int .i64 3) rfl).put rp 4 (.int .i64 (wAt bs 0 : Nat)) rfl).put rp 5 (.int .i64 1) rfl)
   have R3 := hide ((((aA HR1).s1 3).s4 (wAt bs 0 : Nat)).s5 1)
   generalize ((w1.setCell ⟨rp, 1, none⟩ (.int .i64 3)).setCell ⟨rp, 4, none⟩ (.int .i64 (wAt bs 0 : Nat))).setCell ⟨rp, 5, none⟩ (.int .i64 1) = W3 at R3 C3 ⊢
   clear c1 f1 c4 f4 c5 f5 q0 q1
   have c6 := cell_of_row _ _ 6 _ _ _ (aA R3).row
   have f6 := frozen_of_row _ _ 6 _ _ (aA R3).row
   have c8 := cell_of_row _ _ 8 _ _ _ (aA R3).row
   have f8 := frozen_of_row _ _ 8 _ _ (aA R3).row
   simp only [rrow] at c6 c8
   have HEnd := hide (fun W5 hW => xI (W5 := W5) (aA HS1) (aA R3) (aA C3) (aA H) (aA HVV) hne hW)
   clear hne hne'
   show wpList _ _ _ _ _ _
   go_wp2
   go_ret
   have hend := aA HEnd _ rfl
   refine ⟨hend.2.2.2, ?_⟩
   rw [aA HQ]
   exact ⟨_, _, rfl, hend.1, hend.2.1, hend.2.2.1, fun b e => by simp [Value.ownBlock] at e; omega, fun b e => e⟩
  ·have h5' : 4 < bs.length := by omega
   have HR : Hid (eD f bs = .inl 3) := by
    show _ = _
    unfold eD
    rw [if_neg (by omega)]
   go_enter Tryz.func203, Tryz.ntmps203
   go_wp2_with fail
   refine (aA HS).mono ?_
   rintro e w1 ⟨k, a, m, c, rfl, hs⟩
   have hm : (0 : Int) < (m : Int) := by
    have := hs.rest.len
    simp at this
    omega
   have HW := hide (bW rp _ _ _ _ _ _ _ _ _ w1 ((aA HR0).below hs.bel))
   have HS1 := hide hs
   clear hs HS
   go_wp2_with fail
   refine (aA HW).mono ?_
   rintro e w2 ⟨n, v', rfl, he, hb⟩
   obtain ⟨T, p, rfl⟩ := he.iface
   have HE := hide he
   clear he HW
   go_wp2
   go_ret
   exact bK.err (aA HR) (aA HE) (aD (aA HS1).bel hb)
theorem SplitAt.below {w w1 w2 : World} {v : Value} {bs : List Int} {n k : Nat} {vr : Value} (h : SplitAt w w1 v bs n k vr) (hb : Below w1.heap.size w1 w2) : SplitAt w w2 v bs n k vr :=
 ⟨h.lo, (hb.block k (Array.getElem?_eq_some_iff.1 h.row).1).trans h.row, h.rest.below hb, h.own, aD h.bel hb⟩
theorem xH {w w1 W3 : World} {rp k : Nat} {f : Int} {v : Value} {bs : List Int} {vr : Value} (hs : SplitAt w w1 v bs 3 k vr) (hR : RAt W3 rp f 3 (wAt bs 0 : Nat) 1 (wAt bs 0 : Nat) 1 (.slice none 0 0) 0 (.slice none 0 0)) (hC : Chg w1 W3 (fun k => k = rp)) (h : Lies w v bs) (hv : ∀ b, v.ownBlock = some b → b ≠ rp) (hk : k ≠ rp) {W5 : World}
  (hW : W5 = ((W3.setCell ⟨rp, 7, none⟩ (.int .i64 (wAt bs 1 : Nat))).setCell ⟨rp, 6, none⟩ (.slice (some ⟨k, 2, none⟩) 1 1)).setCell ⟨rp, 8, none⟩ v) :
  RAt W5.drew rp f 3 (wAt bs 0 : Nat) 1 (wAt bs 0 : Nat) 1 (.slice (some ⟨k, 2, none⟩) 1 1) (wAt bs 1 : Nat) v ∧ cB W5.drew (.slice (some ⟨k, 2, none⟩) 1 1) [(wAt bs 2 : Int)] ∧ Lies W5.drew v bs ∧ Chg w W5.drew (fun k => k = rp) := by
 subst hW
 have c1 := (((hC.put rp 7 (.int .i64 (wAt bs 1 : Nat)) rfl).put rp 6 (.slice (some ⟨k, 2, none⟩) 1 1) rfl).put rp 8 v rfl).drew
 have c2 := (Chg.of_below hs.bel (fun k => k = rp)).trans c1 (fun _ e _ => e)
 refine ⟨⟨(((hR.s7 _).s6 _).s8 _).row⟩, ?_, h.chg c2 (fun b e => hv b e), c2⟩
 exact fB (eJ hs.row 2 1 1 (by simp [dZ])) c1 (fun b e => by simp [Value.ownBlock] at e; subst e; exact hk)
theorem vK (rp : Nat) (f : Int) (v : Value) (bs : List Int) (w : World) (hr : QNew w rp f) (h : Lies w v bs) (hx : Bys bs) (hl : bs.length ≤ 252) (hv : ∀ b, v.ownBlock = some b → b ≠ rp) :
  Calls Tryz.prog 206 #[.pointer (some ⟨rp, 0, none⟩), v] w fun e w' => bK w rp f v (dE f bs) e w' := by
 obtain ⟨av, cv, rfl⟩ := h.slice
 by_cases h4 : bs.length < 6
 ·have HR : Hid (dE f bs = .inl 3) := by
   show _ = _
   unfold dE
   rw [if_neg (by omega)]
  have HS := hide (gR _ bs 3 w h (by omega) h4)
  rw [show ((3 : Nat) : Int) = 3 from rfl] at HS
  have HW := hide (bW rp _ _ _ _ _ _ _ _ _ w hr)
  clear h hr hx
  go_enter Tryz.func206, Tryz.ntmps206
  go_wp2_with fail
  refine (aA HS).mono ?_
  rintro e w ⟨rfl, rfl⟩
  clear HS
  go_wp2_with fail
  refine (aA HW).mono ?_
  rintro e w1 ⟨n, v', rfl, he, hb⟩
  obtain ⟨T, p, rfl⟩ := he.iface
  have HE := hide he
  clear he HW
  go_wp2
  go_ret
  exact bK.err (aA HR) (aA HE) hb
 ·have HS := hide (fV _ bs 3 w h hx (by omega) (by omega) (by omega) (by omega))
  rw [show ((3 : Nat) : Int) = 3 from rfl] at HS
  have HR0 := hide hr
  have H := hide h
  have HX := hide hx
  clear h hr hx
  by_cases h5 : bs.length = 6
  ·have HQ : Hid (dE f bs = .inr ⟨f, 3, wAt bs 0, 1, wAt bs 0, 1, [(wAt bs 2 : Int)], wAt bs 1, bs⟩) := by
    show _ = _
    unfold dE
    rw [if_pos h5]
   have H5 := hide h5
   have HVV := hide hv
   clear h5 hv
   go_enter Tryz.func206, Tryz.ntmps206
   go_wp2_with fail
   refine (aA HS).mono ?_
   rintro e w1 ⟨k, a, m, c, rfl, hs⟩
   have hm : m = 0 := by
    have := hs.rest.len
    have h5 := aA H5
    simp at this
    omega
   have hr1 := (aA HR0).below hs.bel
   have q0 := cL bs 3 0 w1 k hs.row (by omega)
   have q1 := cL bs 3 1 w1 k hs.row (by omega)
   have q2 := cL bs 3 2 w1 k hs.row (by omega)
   have c1 := cell_of_row _ _ 1 _ _ _ hr1.row
   have f1 := frozen_of_row _ _ 1 _ _ hr1.row
   have c2 := cell_of_row _ _ 2 _ _ _ hr1.row
   have f2 := frozen_of_row _ _ 2 _ _ hr1.row
   have c3 := cell_of_row _ _ 3 _ _ _ hr1.row
   have f3 := frozen_of_row _ _ 3 _ _ hr1.row
   have c4 := cell_of_row _ _ 4 _ _ _ hr1.row
   have f4 := frozen_of_row _ _ 4 _ _ hr1.row
   have c5 := cell_of_row _ _ 5 _ _ _ hr1.row
   have f5 := frozen_of_row _ _ 5 _ _ hr1.row
   simp [rrow] at c1 c2 c3 c4 c5
   have HS1 := hide hs
   have HR1 := hide hr1
   subst hm
   clear hs hr1 HS
   have hlr : rp < w.heap.size := (Array.getElem?_eq_some_iff.1 (aA HR0).row).1
   have hlk := (aA HS1).lo
   have hne : k ≠ rp := by omega
   have hne' : rp ≠ k := by omega
   go_wp2
   have hb2 := aZ w1 (.cells #[.int .i64 (wAt bs 0 : Nat), .int .i64 1] 271)
   have R2 := hide ((aA HR1).below hb2)
   have S2 := hide ((aA HS1).below hb2)
   have rh : (w1.alloc (.cells #[.int .i64 (wAt bs 0 : Nat), .int .i64 1] 271)).heap[w1.heap.size]? = some (.cells #[.int .i64 (wAt bs 0 : Nat), .int .i64 1] 271 (0, 0)) := heap_alloc_new w1 _
   have hnr : w1.heap.size ≠ rp := by have := (aA HR1).lt; omega
   generalize w1.alloc (.cells #[.int .i64 (wAt bs 0 : Nat), .int .i64 1] 271) = w2 at hb2 R2 S2 rh ⊢
   clear c1 f1 c2 f2 c3 f3 c4 f4 c5 f5 q0 q1 q2 HS1 HR1 hb2
   generalize w1.heap.size = hp at rh hnr ⊢
   have h0 := cell_of_row _ _ 0 _ _ _ rh
   have h1 := cell_of_row _ _ 1 _ _ _ rh
   simp at h0 h1
   clear rh
   have c1 := cell_of_row _ _ 1 _ _ _ (aA R2).row
   have f1 := frozen_of_row _ _ 1 _ _ (aA R2).row
   have c2 := cell_of_row _ _ 2 _ _ _ (aA R2).row
   have f2 := frozen_of_row _ _ 2 _ _ (aA R2).row
   have c3 := cell_of_row _ _ 3 _ _ _ (aA R2).row
   have f3 := frozen_of_row _ _ 3 _ _ (aA R2).row
   have c4 := cell_of_row _ _ 4 _ _ _ (aA R2).row
   have f4 := frozen_of_row _ _ 4 _ _ (aA R2).row
   have c5 := cell_of_row _ _ 5 _ _ _ (aA R2).row
   have f5 := frozen_of_row _ _ 5 _ _ (aA R2).row
   simp [rrow] at c1 c2 c3 c4 c5
   go_region
   have C3 := hide ((((((Chg.refl w2 (fun k => k = rp)).put rp 1 (.int .i64 3) rfl).put rp 2 (.int .i64 (wAt bs 0 : Nat)) rfl).put rp 3 (.int .i64 1) rfl).put rp 4 (.int .i64 (wAt bs 0 : Nat)) rfl).put rp 5 (.int .i64 1) rfl).drew
   have R3 : Hid (RAt (((((w2.setCell ⟨rp, 1, none⟩ (.int .i64 3)).setCell ⟨rp, 2, none⟩ (.int .i64 (wAt bs 0 : Nat))).setCell ⟨rp, 3, none⟩ (.int .i64 1)).setCell ⟨rp, 4, none⟩ (.int .i64 (wAt bs 0 : Nat))).setCell ⟨rp, 5, none⟩ (.int .i64 1)).drew rp f 3 (wAt bs 0 : Nat) 1 (wAt bs 0 : Nat) 1 (.slice none 0 0) 0 (.slice none 0 0)) := ⟨((((((aA R2).s1 3).s2 (wAt bs 0 : Nat)).s3 1).s4 (wAt bs 0 : Nat)).s5 1).row⟩
   generalize (((((w2.setCell ⟨rp, 1, none⟩ (.int .i64 3)).setCell ⟨rp, 2, none⟩ (.int .i64 (wAt bs 0 : Nat))).setCell ⟨rp, 3, none⟩ (.int .i64 1)).setCell ⟨rp, 4, none⟩ (.int .i64 (wAt bs 0 : Nat))).setCell ⟨rp, 5, none⟩ (.int .i64 1)).drew = W3 at R3 C3 ⊢
   clear c1 f1 c2 f2 c3 f3 c4 f4 c5 f5 h0 h1
   have r3 := ((aA C3).block k (Array.getElem?_eq_some_iff.1 (aA S2).row).1 hne).trans (aA S2).row
   have q1 := cL bs 3 1 W3 k r3 (by omega)
   clear r3
   have c6 := cell_of_row _ _ 6 _ _ _ (aA R3).row
   have f6 := frozen_of_row _ _ 6 _ _ (aA R3).row
   have c7 := cell_of_row _ _ 7 _ _ _ (aA R3).row
   have f7 := frozen_of_row _ _ 7 _ _ (aA R3).row
   have c8 := cell_of_row _ _ 8 _ _ _ (aA R3).row
   have f8 := frozen_of_row _ _ 8 _ _ (aA R3).row
   simp only [rrow] at c6 c7 c8
   have HEnd := hide (fun W5 hW => xH (W5 := W5) (aA S2) (aA R3) (aA C3) (aA H) (aA HVV) hne hW)
   go_wp2
   go_region
   go_wp2
   go_ret
   have hend := aA HEnd _ rfl
   refine ⟨hend.2.2.2, ?_⟩
   rw [aA HQ]
   exact ⟨_, _, rfl, hend.1, hend.2.1, hend.2.2.1, fun b e => by simp [Value.ownBlock] at e; omega, fun b e => e⟩
  ·have h5' : 6 < bs.length := by omega
   have HR : Hid (dE f bs = .inl 3) := by
    show _ = _
    unfold dE
    rw [if_neg (by omega)]
   go_enter Tryz.func206, Tryz.ntmps206
   go_wp2_with fail
   refine (aA HS).mono ?_
   rintro e w1 ⟨k, a, m, c, rfl, hs⟩
   have hm : (0 : Int) < (m : Int) := by
    have := hs.rest.len
    simp at this
    omega
   have HW := hide (bW rp _ _ _ _ _ _ _ _ _ w1 ((aA HR0).below hs.bel))
   have HS1 := hide hs
   clear hs HS
   go_wp2_with fail
   refine (aA HW).mono ?_
   rintro e w2 ⟨n, v', rfl, he, hb⟩
   obtain ⟨T, p, rfl⟩ := he.iface
   have HE := hide he
   clear he HW
   go_wp2
   go_ret
   exact bK.err (aA HR) (aA HE) (aD (aA HS1).bel hb)
theorem SplitAt.below2 {w w1 w2 : World} {v : Value} {bs : List Int} {n k : Nat} {vr : Value} (h : SplitAt w w1 v bs n k vr) (hb : Below w1.heap.size w1 w2) : SplitAt w w2 v bs n k vr :=
 ⟨h.lo, (hb.block k (Array.getElem?_eq_some_iff.1 h.row).1).trans h.row, h.rest.below hb, h.own, aD h.bel hb⟩
theorem bK.mkL {w w' : World} {rp : Nat} {f x : Int} {n : Nat} {T : TypeId} {p : Nat} {v : Value} {res : Int ⊕ Req} (hr : res = .inl x) (hc : Chg w w' (fun k => k = rp)) (h : dN w' f x n (.iface T (.pointer (some ⟨p, 0, none⟩)))) : bK w rp f v res (.returned (.iface T (.pointer (some ⟨p, 0, none⟩)))) w' := by
 subst hr
 exact ⟨hc, n, T, p, rfl, h⟩
theorem bK.mkR {w w' : World} {rp : Nat} {f : Int} {q : Req} {vv ve : Value} {v : Value} {res : Int ⊕ Req} (hr : res = .inr q) (hc : Chg w w' (fun k => k = rp)) (h1 : RAt w' rp q.f q.t q.ra q.rc q.wa q.wc vv q.keep ve) (h2 : cB w' vv q.vals) (h3 : Lies w' ve q.echo) (h4 : ∀ b, vv.ownBlock = some b → w.heap.size ≤ b) (h5 : ∀ b, ve.ownBlock = some b → v.ownBlock = some b) : bK w rp f v res (.returned .nilIface) w' := by
 subst hr
 exact ⟨hc, vv, ve, rfl, h1, h2, h3, h4, h5⟩
def aCe (bit : Bool) : Nat := if bit then 221 else 223
def aE1 (bit : Bool) : Nat := if bit then 222 else 224
def dQ (bit : Bool) (n : Nat) : Nat := if bit then (n + 7) / 8 else 2 * n
def gD (bit : Bool) (bs : List Int) (n : Nat) : List Int := if bit then eN bs n else bY bs n
theorem uN (bit : Bool) (n : Nat) (w : World) (hn : n ≤ 1000000) : Calls Tryz.prog (aCe bit) #[.int .i64 n] w fun e w' => e = .returned (.int .i64 (dQ bit n : Nat)) ∧ w' = w := by
 cases bit
 ·exact kY n _ w hn rfl
 ·exact rK n _ w hn rfl
theorem nQ (bit : Bool) (v : Value) (bs : List Int) (n : Nat) (w : World) (h : Lies w v bs) (hx : Bys bs) (hn : dQ bit n ≤ bs.length) (hm : bs.length ≤ 1000) (h2 : n ≤ 2000) :
  Calls Tryz.prog (aE1 bit) #[v, .int .i64 n] w fun e w' => ∃ g, e = .returned (.slice (some ⟨g, 0, none⟩) n n) ∧ UnpAt w w' (gD bit bs n) g := by
 cases bit
 ·exact unpW v bs n w w h hx hn (by simp [dQ] at hn; omega) (Below.refl _ _)
 ·exact unpB v bs n w w h hx hn h2 (Below.refl _ _)
def dO (bit : Bool) (most : Nat) (t : Nat) (f : Int) (bs : List Int) : Int ⊕ Req :=
 if 4 ≤ bs.length ∧ bS (wAt bs 1) most = true ∧ bs.length = 5 + dQ bit (wAt bs 1) ∧ bs.getD 4 0 = ((dQ bit (wAt bs 1) : Nat) : Int) then .inr ⟨f, t, 0, 0, wAt bs 0, wAt bs 1, gD bit (bs.drop 5) (wAt bs 1), 0, bs.take 4⟩ else .inl 3
theorem xO (f : Int) (bs : List Int) : eQ f bs = dO true 1968 0 f bs := rfl
theorem xN (f : Int) (bs : List Int) : eP f bs = dO false 123 3 f bs := rfl
def RTab (w : World) (rp : Nat) (f t : Int) : Prop := RAt w rp f t 0 0 0 0 (.slice none 0 0) 0 (.slice none 0 0)
theorem sQ (rp : Nat) (f : Int) (t : Nat) (most : Nat) (v : Value) (bs : List Int) (w : World) (hr : RTab w rp f t) (h : Lies w v bs) (hx : Bys bs) (hl : bs.length ≤ 252) (hmo : most ≤ 1968) (hv : ∀ b, v.ownBlock = some b → b ≠ rp) :
  Calls Tryz.prog 220 #[.pointer (some ⟨rp, 0, none⟩), v, .int .i64 most, .func (.func 223) #[] #[], .func (.func 224) #[] #[]] w fun e w' => bK w rp f v (dO false most t f bs) e w' := by
 obtain ⟨av, cv, rfl⟩ := h.slice
 by_cases h4 : bs.length < 4
 ·have HR : Hid (dO false most t f bs = .inl 3) := by
   show _ = _
   unfold dO
   rw [if_neg (by omega)]
  have HS := hide (gR _ bs 2 w h (by omega) h4)
  rw [show ((2 : Nat) : Int) = 2 from rfl] at HS
  have HW := hide (bW rp _ _ _ _ _ _ _ _ _ w hr)
  clear h hr hx
  go_enter Tryz.func220, Tryz.ntmps220
  go_wp2_with fail
  refine (aA HS).mono ?_
  rintro e w ⟨rfl, rfl⟩
  clear HS
  go_wp2_with fail
  refine (aA HW).mono ?_
  rintro e w1 ⟨n, v', rfl, he, hb⟩
  obtain ⟨T, p, rfl⟩ := he.iface
  have HE := hide he
  clear he HW
  go_wp2
  go_ret
  exact bK.err (aA HR) (aA HE) hb
 ·have HS := hide (fV _ bs 2 w h hx (by omega) (by omega) (by omega) (by omega))
  rw [show ((2 : Nat) : Int) = 2 from rfl] at HS
  have HR0 := hide hr
  have H := hide h
  have HX := hide hx
  have HVV := hide hv
  have hw1 := dU bs hx 1
  clear h hr hx hv
  have HC := hide (fun w => fN (wAt bs 1) most w)
  cases hc : bS (wAt bs 1) most with
  | false =>
   have HR : Hid (dO false most t f bs = .inl 3) := by
    show _ = _
    unfold dO
    rw [if_neg (by rw [hc]; simp)]
   rw [hc] at HC
   clear hc
   go_enter Tryz.func220, Tryz.ntmps220
   go_wp2_with fail
   refine (aA HS).mono ?_
   rintro e w1 ⟨k, a, m, c, rfl, hs⟩
   have q1 := cL bs 2 1 w1 k hs.row (by omega)
   have HW := hide (eR rp _ _ _ _ _ _ _ _ _ w1 ((aA HR0).below hs.bel))
   have HS1 := hide hs
   clear hs HS
   go_wp2_with (go_at_call 217; refine (aA HC _).mono ?_; rintro e w1 ⟨rfl, rfl⟩)
   refine (aA HW).mono ?_
   rintro e w2 ⟨n, v', rfl, he, hb⟩
   obtain ⟨T, p, rfl⟩ := he.iface
   have HE := hide he
   clear he HW
   go_wp2
   go_ret
   exact bK.err (aA HR) (aA HE) (aD (aA HS1).bel hb)
  | true =>
   rw [hc] at HC
   have hn1 : 1 ≤ wAt bs 1 ∧ wAt bs 1 ≤ most := by simp [bS] at hc; exact hc
   have HSz := hide (fun w => uN false (wAt bs 1) w (by omega))
   simp only [aCe, if_false, Bool.false_eq_true] at HSz
   cases hz : fD (bs.drop 4) (dQ false (wAt bs 1)) with
   | false =>
    have HR : Hid (dO false most t f bs = .inl 3) := by
     show _ = _
     unfold dO
     rw [if_neg (fun e => by
      obtain ⟨e1, _, e2, e3⟩ := e
      have : fD (bs.drop 4) (dQ false (wAt bs 1)) = true := by
       simp only [fD, List.length_drop, gN, Bool.and_eq_true, decide_eq_true_eq]
       exact ⟨by omega, by simpa using e3⟩
      rw [hz] at this
      cases this)]
    have HZ : Hid (∀ w' vr, Lies w' vr (bs.drop 4) → Calls Tryz.prog 225 #[vr, .int .i64 (dQ false (wAt bs 1) : Nat)] w' fun e w'' => e = .returned (.tuple #[.slice none 0 0, .bool false]) ∧ Below w'.heap.size w' w'') := fun w' vr hh => nX vr _ _ w' hh ((aA HX).drop 4) (by simp; omega) (by simp [dQ]; omega) hz
    clear hc hz
    generalize ((dQ false (wAt bs 1) : Nat) : Int) = sz at HSz HZ
    go_enter Tryz.func220, Tryz.ntmps220
    go_wp2_with fail
    refine (aA HS).mono ?_
    rintro e w1 ⟨k, a, m, c, rfl, hs⟩
    have q1 := cL bs 2 1 w1 k hs.row (by omega)
    have HW := hide (fun w2 hb => bW rp _ _ _ _ _ _ _ _ _ w2 (((aA HR0).below hs.bel).below (w' := w2) hb))
    have HZ1 := hide (aA HZ w1 _ hs.rest)
    have HS1 := hide hs
    clear hs HS HZ
    go_wp2_with (first
     | (go_at_call 217; refine (aA HC _).mono ?_; rintro e w1 ⟨rfl, rfl⟩)
     | (go_at_call 223; refine (aA HSz _).mono ?_; rintro e w1 ⟨rfl, rfl⟩))
    refine (aA HZ1).mono ?_
    rintro e w2 ⟨rfl, hb2⟩
    have HW2 := hide (aA HW w2 hb2)
    have HB2 := hide hb2
    clear HW hb2 HZ1
    go_wp2_with fail
    refine (aA HW2).mono ?_
    rintro e w3 ⟨n, v', rfl, he, hb⟩
    obtain ⟨T, p, rfl⟩ := he.iface
    have HE := hide he
    clear he HW2
    go_wp2
    go_ret
    exact bK.err (aA HR) (aA HE) (aD (aD (aA HS1).bel (aA HB2)) hb)
   | true =>
    have hz2 : (bs.drop 4).length = 1 + dQ false (wAt bs 1) ∧ (bs.drop 4).getD 0 0 = ((dQ false (wAt bs 1) : Nat) : Int) := by
     simp only [fD, Bool.and_eq_true, decide_eq_true_eq] at hz
     exact hz
    have hz3 : 1 ≤ dQ false (wAt bs 1) ∧ dQ false (wAt bs 1) ≤ (bs.drop 5).length := by
     have := hz2.1
     simp [dQ] at this ⊢
     omega
    have HQ : Hid (dO false most t f bs = .inr ⟨f, t, 0, 0, wAt bs 0, wAt bs 1, gD false (bs.drop 5) (wAt bs 1), 0, bs.take 4⟩) := by
     show _ = _
     unfold dO
     rw [if_pos ⟨by omega, hc, by have := hz2.1; simp at this; omega, by have := hz2.2; rw [gN] at this; exact this⟩]
    have HZ : Hid (∀ w' vr, Lies w' vr (bs.drop 4) → Calls Tryz.prog 225 #[vr, .int .i64 (dQ false (wAt bs 1) : Nat)] w' fun e w'' => ∃ a m c, e = .returned (.tuple #[.slice a m c, .bool true]) ∧ Lies w'' (.slice a m c) ((bs.drop 4).drop 1) ∧ (Value.slice a m c).ownBlock = vr.ownBlock ∧ Below w'.heap.size w' w'') := fun w' vr hh => mA vr _ _ w' hh ((aA HX).drop 4) (by simp; omega) hz3.1 hz
    rw [List.drop_drop, show 4 + 1 = 5 from rfl] at HZ
    have HU : Hid (∀ w' vp, Lies w' vp (bs.drop 5) → Calls Tryz.prog 224 #[vp, .int .i64 (wAt bs 1 : Nat)] w' fun e w'' => ∃ g, e = .returned (.slice (some ⟨g, 0, none⟩) (wAt bs 1) (wAt bs 1)) ∧ UnpAt w' w'' (gD false (bs.drop 5) (wAt bs 1)) g) := fun w' vp hh => nQ false vp _ _ w' hh ((aA HX).drop 5) hz3.2 (by simp; omega) (by omega)
    have HULn : Hid ((gD false (bs.drop 5) (wAt bs 1)).length = wAt bs 1) := dZ _ _
    clear hc hz hz2 hz3
    generalize ((dQ false (wAt bs 1) : Nat) : Int) = sz at HSz HZ
    go_enter Tryz.func220, Tryz.ntmps220
    go_wp2_with fail
    refine (aA HS).mono ?_
    rintro e w1 ⟨k, a, m, c, rfl, hs⟩
    have HML : Hid (m = bs.length - 4) := by show _ = _; have := hs.rest.len; simpa using this
    have q1 := cL bs 2 1 w1 k hs.row (by omega)
    have HZ1 := hide (aA HZ w1 _ hs.rest)
    have HS1 := hide hs
    clear hs HS HZ
    go_wp2_with (first
     | (go_at_call 217; refine (aA HC _).mono ?_; rintro e w1 ⟨rfl, rfl⟩)
     | (go_at_call 223; refine (aA HSz _).mono ?_; rintro e w1 ⟨rfl, rfl⟩))
    refine (aA HZ1).mono ?_
    rintro e w2 ⟨a2, m2, c2, rfl, hp2, hpo, hb2⟩
    have HPo : Hid ((Value.slice a2 m2 c2).ownBlock = (Value.slice av bs.length cv).ownBlock) := hpo.trans (aA HS1).own
    clear hpo
    have hs2 := (aA HS1).below2 hb2
    have hr2 := (aA HR0).below hs2.bel
    have q0 := cL bs 2 0 w2 k hs2.row (by omega)
    have c4 := cell_of_row _ _ 4 _ _ _ hr2.row
    have f4 := frozen_of_row _ _ 4 _ _ hr2.row
    have c5 := cell_of_row _ _ 5 _ _ _ hr2.row
    have f5 := frozen_of_row _ _ 5 _ _ hr2.row
    simp [rrow] at c4 c5
    have hlr : rp < w.heap.size := (aA HR0).lt
    have hlk := (aA HS1).lo
    have hne : k ≠ rp := by omega
    have HP2 := hide hp2
    have S2 := hide hs2
    have R2 := hide hr2
    clear hp2 hb2 hs2 hr2 HZ1 HS1 q1
    go_wp2_with fail
    have C3 := hide (((Chg.refl w2 (fun k => k = rp)).put rp 4 (.int .i64 (wAt bs 0 : Nat)) rfl).put rp 5 (.int .i64 (wAt bs 1 : Nat)) rfl)
    have R3 := hide (((aA R2).s4 (wAt bs 0 : Nat)).s5 (wAt bs 1 : Nat))
    generalize (w2.setCell ⟨rp, 4, none⟩ (.int .i64 (wAt bs 0 : Nat))).setCell ⟨rp, 5, none⟩ (.int .i64 (wAt bs 1 : Nat)) = W3 at R3 C3 ⊢
    clear c4 f4 c5 f5 q0
    have hne2 : ∀ b, (Value.slice a2 m2 c2).ownBlock = some b → b ≠ rp := fun b e => aA HVV b (by rw [← (aA HPo)]; exact e)
    refine (aA HU W3 _ ((aA HP2).chg (aA C3) hne2)).mono ?_
    rintro e w5 ⟨g, rfl, hU⟩
    have HA := hide (rM _ bs a m c w5 (((aA H).below (aA S2).bel).chg (aA C3) (aA HVV) |>.below hU.bel) (fun e => by rw [e] at h4; simp at h4) (by have := aA HML; omega) (by omega))
    have R5 := hide ((aA R3).below hU.bel)
    have HUU := hide hU
    clear hU
    go_wp2_with fail
    refine (aA HA).mono ?_
    rintro e w6 ⟨ve, rfl, hve, hvo, ⟨a6, m6, c6', rfl⟩, hb6⟩
    have hr6 := (aA R5).below hb6
    have c6 := cell_of_row _ _ 6 _ _ _ hr6.row
    have f6 := frozen_of_row _ _ 6 _ _ hr6.row
    have c8 := cell_of_row _ _ 8 _ _ _ hr6.row
    have f8 := frozen_of_row _ _ 8 _ _ hr6.row
    simp only [rrow] at c6 c8
    have hlg := (aA HUU).lo
    have hl3 := (aA C3).size
    have hl2 := (aA S2).bel.size
    have hgr : g ≠ rp := by omega
    have cc : Chg w6 ((w6.setCell ⟨rp, 6, none⟩ (.slice (some ⟨g, 0, none⟩) (wAt bs 1) (wAt bs 1))).setCell ⟨rp, 8, none⟩ (.slice a6 m6 c6')) (fun k => k = rp) := ((Chg.refl w6 (fun k => k = rp)).put rp 6 _ rfl).put rp 8 _ rfl
    have CF := hide (((((Chg.of_below (aA S2).bel (fun k => k = rp)).trans (aA C3) (fun _ e _ => e)).trans (Chg.of_below (aA HUU).bel (fun _ => False)) (fun _ e _ => e.elim)).trans (Chg.of_below hb6 (fun _ => False)) (fun _ e _ => e.elim)).trans cc (fun _ e _ => e))
    have RF := hide ((hr6.s6 (.slice (some ⟨g, 0, none⟩) (wAt bs 1) (wAt bs 1))).s8 (.slice a6 m6 c6'))
    have hrow6 := (hb6.block g (Array.getElem?_eq_some_iff.1 (aA HUU).row).1).trans (aA HUU).row
    have LF : Hid (cB ((w6.setCell ⟨rp, 6, none⟩ (.slice (some ⟨g, 0, none⟩) (wAt bs 1) (wAt bs 1))).setCell ⟨rp, 8, none⟩ (.slice a6 m6 c6')) (.slice (some ⟨g, 0, none⟩) (wAt bs 1) (wAt bs 1)) (gD false (bs.drop 5) (wAt bs 1))) := by
     have q := fB (eJ hrow6 0 (wAt bs 1) (wAt bs 1) (by rw [aA HULn]; omega)) cc (fun b e => by simp [Value.ownBlock] at e; subst e; exact hgr)
     rw [List.drop_zero, List.take_of_length_le (by rw [aA HULn]; omega)] at q
     exact q
    have EF : Hid (Lies ((w6.setCell ⟨rp, 6, none⟩ (.slice (some ⟨g, 0, none⟩) (wAt bs 1) (wAt bs 1))).setCell ⟨rp, 8, none⟩ (.slice a6 m6 c6')) (.slice a6 m6 c6') (bs.take 4)) := by
     have q := hve.chg cc (fun b e => aA HVV b (hvo ▸ e))
     rw [aA HML, show bs.length - (bs.length - 4) = 4 by omega] at q
     exact q
    have GF : Hid (∀ b, (Value.slice (some ⟨g, 0, none⟩) (wAt bs 1) (wAt bs 1)).ownBlock = some b → w.heap.size ≤ b) := fun b e => by simp [Value.ownBlock] at e; omega
    have VF : Hid (∀ b, (Value.slice a6 m6 c6').ownBlock = some b → (Value.slice av bs.length cv).ownBlock = some b) := fun b e => hvo ▸ e
    clear hrow6 cc hve hvo hb6 hr6 HA hgr hne hne2 hlg hl3 hl2
    go_wp2
    go_ret
    refine ⟨aA CF, ?_⟩
    rw [aA HQ]
    exact ⟨_, _, rfl, aA RF, aA LF, aA EF, aA GF, aA VF⟩
theorem vI (rp : Nat) (f : Int) (t : Nat) (most : Nat) (v : Value) (bs : List Int) (w : World) (hr : RTab w rp f t) (h : Lies w v bs) (hx : Bys bs) (hl : bs.length ≤ 252) (hmo : most ≤ 1968) (hv : ∀ b, v.ownBlock = some b → b ≠ rp) :
  Calls Tryz.prog 220 #[.pointer (some ⟨rp, 0, none⟩), v, .int .i64 most, .func (.func 221) #[] #[], .func (.func 222) #[] #[]] w fun e w' => bK w rp f v (dO true most t f bs) e w' := by
 obtain ⟨av, cv, rfl⟩ := h.slice
 by_cases h4 : bs.length < 4
 ·have HR : Hid (dO true most t f bs = .inl 3) := by
   show _ = _
   unfold dO
   rw [if_neg (by omega)]
  have HS := hide (gR _ bs 2 w h (by omega) h4)
  rw [show ((2 : Nat) : Int) = 2 from rfl] at HS
  have HW := hide (bW rp _ _ _ _ _ _ _ _ _ w hr)
  clear h hr hx
  go_enter Tryz.func220, Tryz.ntmps220
  go_wp2_with fail
  refine (aA HS).mono ?_
  rintro e w ⟨rfl, rfl⟩
  clear HS
  go_wp2_with fail
  refine (aA HW).mono ?_
  rintro e w1 ⟨n, v', rfl, he, hb⟩
  obtain ⟨T, p, rfl⟩ := he.iface
  have HE := hide he
  clear he HW
  go_wp2
  go_ret
  exact bK.err (aA HR) (aA HE) hb
 ·have HS := hide (fV _ bs 2 w h hx (by omega) (by omega) (by omega) (by omega))
  rw [show ((2 : Nat) : Int) = 2 from rfl] at HS
  have HR0 := hide hr
  have H := hide h
  have HX := hide hx
  have HVV := hide hv
  have hw1 := dU bs hx 1
  clear h hr hx hv
  have HC := hide (fun w => fN (wAt bs 1) most w)
  cases hc : bS (wAt bs 1) most with
  | false =>
   have HR : Hid (dO true most t f bs = .inl 3) := by
    show _ = _
    unfold dO
    rw [if_neg (by rw [hc]; simp)]
   rw [hc] at HC
   clear hc
   go_enter Tryz.func220, Tryz.ntmps220
   go_wp2_with fail
   refine (aA HS).mono ?_
   rintro e w1 ⟨k, a, m, c, rfl, hs⟩
   have q1 := cL bs 2 1 w1 k hs.row (by omega)
   have HW := hide (eR rp _ _ _ _ _ _ _ _ _ w1 ((aA HR0).below hs.bel))
   have HS1 := hide hs
   clear hs HS
   go_wp2_with (go_at_call 217; refine (aA HC _).mono ?_; rintro e w1 ⟨rfl, rfl⟩)
   refine (aA HW).mono ?_
   rintro e w2 ⟨n, v', rfl, he, hb⟩
   obtain ⟨T, p, rfl⟩ := he.iface
   have HE := hide he
   clear he HW
   go_wp2
   go_ret
   exact bK.err (aA HR) (aA HE) (aD (aA HS1).bel hb)
  | true =>
   rw [hc] at HC
   have hn1 : 1 ≤ wAt bs 1 ∧ wAt bs 1 ≤ most := by simp [bS] at hc; exact hc
   have HSz := hide (fun w => uN true (wAt bs 1) w (by omega))
   simp only [aCe, if_true] at HSz
   cases hz : fD (bs.drop 4) (dQ true (wAt bs 1)) with
   | false =>
    have HR : Hid (dO true most t f bs = .inl 3) := by
     show _ = _
     unfold dO
     rw [if_neg (fun e => by
      obtain ⟨e1, _, e2, e3⟩ := e
      have : fD (bs.drop 4) (dQ true (wAt bs 1)) = true := by
       simp only [fD, List.length_drop, gN, Bool.and_eq_true, decide_eq_true_eq]
       exact ⟨by omega, by simpa using e3⟩
      rw [hz] at this
      cases this)]
    have HZ : Hid (∀ w' vr, Lies w' vr (bs.drop 4) → Calls Tryz.prog 225 #[vr, .int .i64 (dQ true (wAt bs 1) : Nat)] w' fun e w'' => e = .returned (.tuple #[.slice none 0 0, .bool false]) ∧ Below w'.heap.size w' w'') := fun w' vr hh => nX vr _ _ w' hh ((aA HX).drop 4) (by simp; omega) (by simp [dQ]; omega) hz
    clear hc hz
    generalize ((dQ true (wAt bs 1) : Nat) : Int) = sz at HSz HZ
    go_enter Tryz.func220, Tryz.ntmps220
    go_wp2_with fail
    refine (aA HS).mono ?_
    rintro e w1 ⟨k, a, m, c, rfl, hs⟩
    have q1 := cL bs 2 1 w1 k hs.row (by omega)
    have HW := hide (fun w2 hb => bW rp _ _ _ _ _ _ _ _ _ w2 (((aA HR0).below hs.bel).below (w' := w2) hb))
    have HZ1 := hide (aA HZ w1 _ hs.rest)
    have HS1 := hide hs
    clear hs HS HZ
    go_wp2_with (first
     | (go_at_call 217; refine (aA HC _).mono ?_; rintro e w1 ⟨rfl, rfl⟩)
     | (go_at_call 221; refine (aA HSz _).mono ?_; rintro e w1 ⟨rfl, rfl⟩))
    refine (aA HZ1).mono ?_
    rintro e w2 ⟨rfl, hb2⟩
    have HW2 := hide (aA HW w2 hb2)
    have HB2 := hide hb2
    clear HW hb2 HZ1
    go_wp2_with fail
    refine (aA HW2).mono ?_
    rintro e w3 ⟨n, v', rfl, he, hb⟩
    obtain ⟨T, p, rfl⟩ := he.iface
    have HE := hide he
    clear he HW2
    go_wp2
    go_ret
    exact bK.err (aA HR) (aA HE) (aD (aD (aA HS1).bel (aA HB2)) hb)
   | true =>
    have hz2 : (bs.drop 4).length = 1 + dQ true (wAt bs 1) ∧ (bs.drop 4).getD 0 0 = ((dQ true (wAt bs 1) : Nat) : Int) := by
     simp only [fD, Bool.and_eq_true, decide_eq_true_eq] at hz
     exact hz
    have hz3 : 1 ≤ dQ true (wAt bs 1) ∧ dQ true (wAt bs 1) ≤ (bs.drop 5).length := by
     have := hz2.1
     simp [dQ] at this ⊢
     omega
    have HQ : Hid (dO true most t f bs = .inr ⟨f, t, 0, 0, wAt bs 0, wAt bs 1, gD true (bs.drop 5) (wAt bs 1), 0, bs.take 4⟩) := by
     show _ = _
     unfold dO
     rw [if_pos ⟨by omega, hc, by have := hz2.1; simp at this; omega, by have := hz2.2; rw [gN] at this; exact this⟩]
    have HZ : Hid (∀ w' vr, Lies w' vr (bs.drop 4) → Calls Tryz.prog 225 #[vr, .int .i64 (dQ true (wAt bs 1) : Nat)] w' fun e w'' => ∃ a m c, e = .returned (.tuple #[.slice a m c, .bool true]) ∧ Lies w'' (.slice a m c) ((bs.drop 4).drop 1) ∧ (Value.slice a m c).ownBlock = vr.ownBlock ∧ Below w'.heap.size w' w'') := fun w' vr hh => mA vr _ _ w' hh ((aA HX).drop 4) (by simp; omega) hz3.1 hz
    rw [List.drop_drop, show 4 + 1 = 5 from rfl] at HZ
    have HU : Hid (∀ w' vp, Lies w' vp (bs.drop 5) → Calls Tryz.prog 222 #[vp, .int .i64 (wAt bs 1 : Nat)] w' fun e w'' => ∃ g, e = .returned (.slice (some ⟨g, 0, none⟩) (wAt bs 1) (wAt bs 1)) ∧ UnpAt w' w'' (gD true (bs.drop 5) (wAt bs 1)) g) := fun w' vp hh => nQ true vp _ _ w' hh ((aA HX).drop 5) hz3.2 (by simp; omega) (by omega)
    have HULn : Hid ((gD true (bs.drop 5) (wAt bs 1)).length = wAt bs 1) := mU _ _
    clear hc hz hz2 hz3
    generalize ((dQ true (wAt bs 1) : Nat) : Int) = sz at HSz HZ
    go_enter Tryz.func220, Tryz.ntmps220
    go_wp2_with fail
    refine (aA HS).mono ?_
    rintro e w1 ⟨k, a, m, c, rfl, hs⟩
    have HML : Hid (m = bs.length - 4) := by show _ = _; have := hs.rest.len; simpa using this
    have q1 := cL bs 2 1 w1 k hs.row (by omega)
    have HZ1 := hide (aA HZ w1 _ hs.rest)
    have HS1 := hide hs
    clear hs HS HZ
    go_wp2_with (first
     | (go_at_call 217; refine (aA HC _).mono ?_; rintro e w1 ⟨rfl, rfl⟩)
     | (go_at_call 221; refine (aA HSz _).mono ?_; rintro e w1 ⟨rfl, rfl⟩))
    refine (aA HZ1).mono ?_
    rintro e w2 ⟨a2, m2, c2, rfl, hp2, hpo, hb2⟩
    have HPo : Hid ((Value.slice a2 m2 c2).ownBlock = (Value.slice av bs.length cv).ownBlock) := hpo.trans (aA HS1).own
    clear hpo
    have hs2 := (aA HS1).below2 hb2
    have hr2 := (aA HR0).below hs2.bel
    have q0 := cL bs 2 0 w2 k hs2.row (by omega)
    have c4 := cell_of_row _ _ 4 _ _ _ hr2.row
    have f4 := frozen_of_row _ _ 4 _ _ hr2.row
    have c5 := cell_of_row _ _ 5 _ _ _ hr2.row
    have f5 := frozen_of_row _ _ 5 _ _ hr2.row
    simp [rrow] at c4 c5
    have hlr : rp < w.heap.size := (aA HR0).lt
    have hlk := (aA HS1).lo
    have hne : k ≠ rp := by omega
    have HP2 := hide hp2
    have S2 := hide hs2
    have R2 := hide hr2
    clear hp2 hb2 hs2 hr2 HZ1 HS1 q1
    go_wp2_with fail
    have C3 := hide (((Chg.refl w2 (fun k => k = rp)).put rp 4 (.int .i64 (wAt bs 0 : Nat)) rfl).put rp 5 (.int .i64 (wAt bs 1 : Nat)) rfl)
    have R3 := hide (((aA R2).s4 (wAt bs 0 : Nat)).s5 (wAt bs 1 : Nat))
    generalize (w2.setCell ⟨rp, 4, none⟩ (.int .i64 (wAt bs 0 : Nat))).setCell ⟨rp, 5, none⟩ (.int .i64 (wAt bs 1 : Nat)) = W3 at R3 C3 ⊢
    clear c4 f4 c5 f5 q0
    have hne2 : ∀ b, (Value.slice a2 m2 c2).ownBlock = some b → b ≠ rp := fun b e => aA HVV b (by rw [← (aA HPo)]; exact e)
    refine (aA HU W3 _ ((aA HP2).chg (aA C3) hne2)).mono ?_
    rintro e w5 ⟨g, rfl, hU⟩
    have HA := hide (rM _ bs a m c w5 (((aA H).below (aA S2).bel).chg (aA C3) (aA HVV) |>.below hU.bel) (fun e => by rw [e] at h4; simp at h4) (by have := aA HML; omega) (by omega))
    have R5 := hide ((aA R3).below hU.bel)
    have HUU := hide hU
    clear hU
    go_wp2_with fail
    refine (aA HA).mono ?_
    rintro e w6 ⟨ve, rfl, hve, hvo, ⟨a6, m6, c6', rfl⟩, hb6⟩
    have hr6 := (aA R5).below hb6
    have c6 := cell_of_row _ _ 6 _ _ _ hr6.row
    have f6 := frozen_of_row _ _ 6 _ _ hr6.row
    have c8 := cell_of_row _ _ 8 _ _ _ hr6.row
    have f8 := frozen_of_row _ _ 8 _ _ hr6.row
    simp only [rrow] at c6 c8
    have hlg := (aA HUU).lo
    have hl3 := (aA C3).size
    have hl2 := (aA S2).bel.size
    have hgr : g ≠ rp := by omega
    have cc : Chg w6 ((w6.setCell ⟨rp, 6, none⟩ (.slice (some ⟨g, 0, none⟩) (wAt bs 1) (wAt bs 1))).setCell ⟨rp, 8, none⟩ (.slice a6 m6 c6')) (fun k => k = rp) := ((Chg.refl w6 (fun k => k = rp)).put rp 6 _ rfl).put rp 8 _ rfl
    have CF := hide (((((Chg.of_below (aA S2).bel (fun k => k = rp)).trans (aA C3) (fun _ e _ => e)).trans (Chg.of_below (aA HUU).bel (fun _ => False)) (fun _ e _ => e.elim)).trans (Chg.of_below hb6 (fun _ => False)) (fun _ e _ => e.elim)).trans cc (fun _ e _ => e))
    have RF := hide ((hr6.s6 (.slice (some ⟨g, 0, none⟩) (wAt bs 1) (wAt bs 1))).s8 (.slice a6 m6 c6'))
    have hrow6 := (hb6.block g (Array.getElem?_eq_some_iff.1 (aA HUU).row).1).trans (aA HUU).row
    have LF : Hid (cB ((w6.setCell ⟨rp, 6, none⟩ (.slice (some ⟨g, 0, none⟩) (wAt bs 1) (wAt bs 1))).setCell ⟨rp, 8, none⟩ (.slice a6 m6 c6')) (.slice (some ⟨g, 0, none⟩) (wAt bs 1) (wAt bs 1)) (gD true (bs.drop 5) (wAt bs 1))) := by
     have q := fB (eJ hrow6 0 (wAt bs 1) (wAt bs 1) (by rw [aA HULn]; omega)) cc (fun b e => by simp [Value.ownBlock] at e; subst e; exact hgr)
     rw [List.drop_zero, List.take_of_length_le (by rw [aA HULn]; omega)] at q
     exact q
    have EF : Hid (Lies ((w6.setCell ⟨rp, 6, none⟩ (.slice (some ⟨g, 0, none⟩) (wAt bs 1) (wAt bs 1))).setCell ⟨rp, 8, none⟩ (.slice a6 m6 c6')) (.slice a6 m6 c6') (bs.take 4)) := by
     have q := hve.chg cc (fun b e => aA HVV b (hvo ▸ e))
     rw [aA HML, show bs.length - (bs.length - 4) = 4 by omega] at q
     exact q
    have GF : Hid (∀ b, (Value.slice (some ⟨g, 0, none⟩) (wAt bs 1) (wAt bs 1)).ownBlock = some b → w.heap.size ≤ b) := fun b e => by simp [Value.ownBlock] at e; omega
    have VF : Hid (∀ b, (Value.slice a6 m6 c6').ownBlock = some b → (Value.slice av bs.length cv).ownBlock = some b) := fun b e => hvo ▸ e
    clear hrow6 cc hve hvo hb6 hr6 HA hgr hne hne2 hlg hl3 hl2
    go_wp2
    go_ret
    refine ⟨aA CF, ?_⟩
    rw [aA HQ]
    exact ⟨_, _, rfl, aA RF, aA LF, aA EF, aA GF, aA VF⟩
theorem vM (rp : Nat) (f : Int) (v : Value) (bs : List Int) (w : World) (hr : QNew w rp f) (h : Lies w v bs) (hx : Bys bs) (hl : bs.length ≤ 252) (hv : ∀ b, v.ownBlock = some b → b ≠ rp) :
  Calls Tryz.prog 204 #[.pointer (some ⟨rp, 0, none⟩), v] w fun e w' => bK w rp f v (eQ f bs) e w' := by
 have c1 := cell_of_row _ _ 1 _ _ _ hr.row
 have f1 := frozen_of_row _ _ 1 _ _ hr.row
 simp [rrow] at c1
 have C1 := hide ((Chg.refl w (fun k => k = rp)).put rp 1 (.int .i64 0) rfl)
 have HP := hide (vI rp f 0 1968 v bs (w.setCell ⟨rp, 1, none⟩ (.int .i64 0)) (RAt.s1 hr 0) (h.chg (aA C1) hv) hx hl (by omega) hv)
 rw [xO]
 obtain ⟨av, cv, rfl⟩ := h.slice
 clear hr h hx hv
 go_enter Tryz.func204, Tryz.ntmps204
 go_wp2_with fail
 refine (aA HP).mono ?_
 rintro e w2 hp
 have HP2 := hide hp
 obtain ⟨hc, hm⟩ := hp
 cases hq : dO true 1968 0 f bs with
 | inl x =>
  rw [hq] at hm
  obtain ⟨n, T, p, rfl, he⟩ := hm
  have HE := hide he
  have HC := hide hc
  have HQ := hide hq
  clear he hc HP HP2 hq c1 f1
  go_wp2
  go_ret
  exact bK.mkL (aA HQ) ((aA C1).trans (aA HC) (fun _ e _ => e)) (aA HE)
 | inr q =>
  rw [hq] at hm
  obtain ⟨vv, ve, rfl, h1, h2, h3, h4, h5⟩ := hm
  have H1 := hide h1
  have H2 := hide h2
  have H3 := hide h3
  have H4 := hide h4
  have H5 := hide h5
  have HC := hide hc
  have HQ := hide hq
  clear h1 h2 h3 h4 h5 hc HP HP2 hq c1 f1
  go_wp2
  go_ret
  exact bK.mkR (aA HQ) ((aA C1).trans (aA HC) (fun _ e _ => e)) (aA H1) (aA H2) (aA H3) (fun b e => by have := aA H4 b e; simpa [World.setCell] using this) (aA H5)
theorem vL (rp : Nat) (f : Int) (v : Value) (bs : List Int) (w : World) (hr : QNew w rp f) (h : Lies w v bs) (hx : Bys bs) (hl : bs.length ≤ 252) (hv : ∀ b, v.ownBlock = some b → b ≠ rp) :
  Calls Tryz.prog 205 #[.pointer (some ⟨rp, 0, none⟩), v] w fun e w' => bK w rp f v (eP f bs) e w' := by
 have c1 := cell_of_row _ _ 1 _ _ _ hr.row
 have f1 := frozen_of_row _ _ 1 _ _ hr.row
 simp [rrow] at c1
 have C1 := hide ((Chg.refl w (fun k => k = rp)).put rp 1 (.int .i64 3) rfl)
 have HP := hide (sQ rp f 3 123 v bs (w.setCell ⟨rp, 1, none⟩ (.int .i64 3)) (RAt.s1 hr 3) (h.chg (aA C1) hv) hx hl (by omega) hv)
 rw [xN]
 obtain ⟨av, cv, rfl⟩ := h.slice
 clear hr h hx hv
 go_enter Tryz.func205, Tryz.ntmps205
 go_wp2_with fail
 refine (aA HP).mono ?_
 rintro e w2 hp
 have HP2 := hide hp
 obtain ⟨hc, hm⟩ := hp
 cases hq : dO false 123 3 f bs with
 | inl x =>
  rw [hq] at hm
  obtain ⟨n, T, p, rfl, he⟩ := hm
  have HE := hide he
  have HC := hide hc
  have HQ := hide hq
  clear he hc HP HP2 hq c1 f1
  go_wp2
  go_ret
  exact bK.mkL (aA HQ) ((aA C1).trans (aA HC) (fun _ e _ => e)) (aA HE)
 | inr q =>
  rw [hq] at hm
  obtain ⟨vv, ve, rfl, h1, h2, h3, h4, h5⟩ := hm
  have H1 := hide h1
  have H2 := hide h2
  have H3 := hide h3
  have H4 := hide h4
  have H5 := hide h5
  have HC := hide hc
  have HQ := hide hq
  clear h1 h2 h3 h4 h5 hc HP HP2 hq c1 f1
  go_wp2
  go_ret
  exact bK.mkR (aA HQ) ((aA C1).trans (aA HC) (fun _ e _ => e)) (aA H1) (aA H2) (aA H3) (fun b e => by have := aA H4 b e; simpa [World.setCell] using this) (aA H5)
end Go.Proofs.YtfekelmldebplaaGreatDoor
