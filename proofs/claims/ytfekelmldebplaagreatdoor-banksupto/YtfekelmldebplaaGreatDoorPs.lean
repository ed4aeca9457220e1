import Derived.BigRegion
import Derived.Deep.DeepCutAuto
import Derived.Test.YtfekelmldebplaaGreatDoorNa
import Derived.Test.YtfekelmldebplaaGreatDoorLd
set_option maxRecDepth 100000
set_option maxHeartbeats 8000000
namespace Go.Proofs.YtfekelmldebplaaGreatDoor
open Go.RowKit
def wN (w : World) (z0 z1 z2 z3 lim : Int) (LL : List (List Rule)) (e : Ending) (w' : World) : Prop :=
 (eH z0 z1 z2 z3 lim LL = false ∧ e = .returned (.tuple #[.pointer none, .int .i64 2]) ∧ Below w.heap.size w w') ∨
 (eH z0 z1 z2 z3 lim LL = true ∧ e = .returned (.tuple #[.pointer (some ⟨w.heap.size + 1, 0, none⟩), .int .i64 0]) ∧ ∃ rv us, RefAt w' (w.heap.size + 1) (.int .i64 z0) (.int .i64 z1) (.int .i64 z2) (.int .i64 z3) rv ⟨⟨0, w.heap.size + 2, bJ z0.toNat⟩, ⟨0, w.heap.size + 3, bJ z1.toNat⟩, ⟨0, w.heap.size + 4, bJ z2.toNat⟩, ⟨0, w.heap.size + 5, bJ z3.toNat⟩, lim⟩ LL ∧ RulesOf w' (w.heap.size + 6) rv LL us ∧ Below w.heap.size w w')
theorem tL {z0 z1 z2 z3 lim : Int} {LL : List (List Rule)} (h : lim < 1 ∨ 4 < lim ∨ 6 < LL.length) : eH z0 z1 z2 z3 lim LL = false := by
 unfold eH
 rcases h with h | h | h
 ·rw [decide_eq_false (show ¬ 1 ≤ lim by omega)]; rfl
 ·rw [decide_eq_false (show ¬ lim ≤ 4 by omega)]; simp
 ·rw [decide_eq_false (show ¬ LL.length ≤ 6 by omega)]; simp
theorem uZ (rs : List Rule) (j : Nat) (x : Rule) (h : rs[j]? = some x) : dC (rs.take (j + 1)) = dC (rs.take j) ++ x.cells.toList := by
 rw [List.take_add_one, h, mW]
 rfl
theorem vS {LL : List (List Rule)} {k : Nat} {rs : List Rule} (h : LL[k]? = some rs) (hb : 8 < rs.length ∨ rs.any Rule.bad = true) : cE LL = false := by
 have hm := List.mem_of_getElem? h
 cases e : cE LL with
 | false => rfl
 | true =>
  have := List.all_eq_true.1 e rs hm
  simp only [Bool.and_eq_true, decide_eq_true_eq, Bool.not_eq_true'] at this
  rcases hb with hb | hb
  ·omega
  ·rw [hb] at this
   exact absurd this.2 (by decide)
theorem rH {z0 z1 z2 z3 lim : Int} {LL : List (List Rule)} (h : cE LL = false) : eH z0 z1 z2 z3 lim LL = false := by
 unfold eH
 rw [h]
 simp
theorem aEl {z0 z1 z2 z3 lim : Int} {LL : List (List Rule)} (h0 : szOk z0 = true) (h1 : szOk z1 = true) (h2 : szOk z2 = true) (h3 : szOk z3 = true) (l1 : 1 ≤ lim) (l2 : lim ≤ 4) (hn : LL.length ≤ 6) (h : cE LL = true) : eH z0 z1 z2 z3 lim LL = true := by
 unfold eH
 rw [h, h0, h1, h2, h3, decide_eq_true l1, decide_eq_true l2, decide_eq_true hn]
 rfl
theorem qE (rs : List Rule) (j : Nat) (x : Rule) (h : rs[j]? = some x) (h0 : (rs.take j).any Rule.bad = false) (hx : x.bad = false) : (rs.take (j + 1)).any Rule.bad = false := wK Rule.bad rs j x h h0 hx
theorem aD0 {LL : List (List Rule)} {k : Nat} {rs : List Rule} (h : LL[k]? = some rs) (h0 : cE (LL.take k) = true) (h1 : rs.length ≤ 8) (h2 : rs.any Rule.bad = false) : cE (LL.take (k + 1)) = true := by
 rw [List.take_add_one, h]
 unfold cE at h0 ⊢
 rw [List.all_append, h0]
 simp [h1, h2]
structure N2 (w Wn : World) (z0 z1 z2 z3 lim : Int) (LL : List (List Rule)) (k : Nat) (rv : Value) (us : List Value) (wr : World) : Prop where
 cfg : wr.heap[w.heap.size]? = Wn.heap[w.heap.size]?
 bank : wr.heap[w.heap.size + 1]? = some (.cells #[.int .i64 z0, .int .i64 z1, .int .i64 z2, .int .i64 z3, .int .i64 lim, rv, tabV 4 0 (w.heap.size + 2) z0.toNat, tabV 4 1 (w.heap.size + 3) z1.toNat, tabV 4 2 (w.heap.size + 4) z2.toNat, tabV 4 3 (w.heap.size + 5) z3.toNat] 248 (0, 0))
 tabs : ∀ j, j < 4 → wr.heap[w.heap.size + 2 + j]? = Wn.heap[w.heap.size + 2 + j]?
 size : w.heap.size + 6 ≤ wr.heap.size
 rul : RulesOf wr (w.heap.size + 6) rv (LL.take k) us
 ok : cE (LL.take k) = true
 below : Below w.heap.size w wr
theorem N2.start {w Wn : World} {z0 z1 z2 z3 lim : Int} {v : Value} {LL : List (List Rule)} (h : NT w z0 z1 z2 z3 lim v 4 Wn) : N2 w Wn z0 z1 z2 z3 lim LL 0 (.slice none 0 0) [] Wn :=
 ⟨rfl, h.bank, fun _ _ => rfl, by have := h.size; omega, ⟨World.ownsRow_nil _ _ _ _, fun i rs u e => by simp at e⟩, rfl, h.below⟩
theorem N2.more {w Wn wr w3 w5 : World} {z0 z1 z2 z3 lim : Int} {LL : List (List Rule)} {k : Nat} {rv rv' u : Value} {us : List Value} {rs : List Rule} (h : N2 w Wn z0 z1 z2 z3 lim LL k rv us wr) (hrs : LL[k]? = some rs) (hb : Below wr.heap.size wr w3) (hu : w3.ownsRow wr.heap.size 52 5 u rs.length (dC rs)) (h8 : rs.length ≤ 8) (hbad : rs.any Rule.bad = false) (o : Obj) (hk : Kept (w3.alloc o) w5 (w.heap.size + 6) rv rv' k 1) (r : w5.ownsRow (w.heap.size + 6) 55 1 rv' (k + 1) (us ++ [u])) :
  N2 w Wn z0 z1 z2 z3 lim LL (k + 1) rv' (us ++ [u]) (w5.setCell ⟨w.heap.size + 1, 5, none⟩ rv') := by
 have hl : k < LL.length := (List.getElem?_eq_some_iff.1 hrs).1
 have htk : (LL.take k).length = k := by simp; omega
 have row : wr.ownsRow (w.heap.size + 6) 55 1 rv k us := by have := h.rul.row; rwa [htk] at this
 have z := h.size
 have zz3 := hb.size
 have hr3 : w3.ownsRow (w.heap.size + 6) 55 1 rv k us := aJ row fun i _ p q => hb.block i p
 have c : Chg w3 w5 (fun g => rv.ownBlock = some g) := (Chg.of_below (bL (Below.refl _ _) _) _).trans (gY hk) (fun _ e _ => e)
 have c2 : Chg w3 (w5.setCell ⟨w.heap.size + 1, 5, none⟩ rv') (fun g => rv.ownBlock = some g ∨ g = w.heap.size + 1) := (c.mono (fun _ _ e => .inl e)).trans (Chg.set w5 (w.heap.size + 1) 5 rv') (fun _ e _ => .inr e)
 have low : ∀ g, g < w.heap.size + 6 → g ≠ w.heap.size + 1 → (w5.setCell ⟨w.heap.size + 1, 5, none⟩ rv').heap[g]? = wr.heap[g]? := fun g hg n => by
  rw [c2.block g (by omega) (fun e => e.elim (fun e => by have := (World.ownsRow.lt hr3 g e).1; omega) n), hb.block g (by omega)]
 have b5 : w5.heap[w.heap.size + 1]? = some (.cells #[.int .i64 z0, .int .i64 z1, .int .i64 z2, .int .i64 z3, .int .i64 lim, rv, tabV 4 0 (w.heap.size + 2) z0.toNat, tabV 4 1 (w.heap.size + 3) z1.toNat, tabV 4 2 (w.heap.size + 4) z2.toNat, tabV 4 3 (w.heap.size + 5) z3.toNat] 248 (0, 0)) :=
  ((c.block (w.heap.size + 1) (by omega) (fun e => by have := (World.ownsRow.lt hr3 _ e).1; omega)).trans (hb.block (w.heap.size + 1) (by omega))).trans h.bank
 have keepR : ∀ {B : Nat} {u : Value} {n : Nat} {xs : List Value}, w3.ownsRow B 52 5 u n xs → (∀ g, u.ownBlock = some g → w.heap.size + 6 ≤ g) → (w5.setCell ⟨w.heap.size + 1, 5, none⟩ rv').ownsRow B 52 5 u n xs := fun q hq => aJ q fun g _ p e => c2.block g p (fun d => d.elim (fun d => by
  obtain ⟨cs, fr, h1⟩ := bH q e
  obtain ⟨cs', fr', h2⟩ := bH hr3 d
  exact bG h1 h2 (by decide) rfl) (fun d => by have := hq g e; omega))
 refine ⟨(low _ (by omega) (by omega)).trans h.cfg, ?_, fun j hj => (low _ (by omega) (by omega)).trans (h.tabs j hj), by have := c2.size; omega, ⟨?_, fun i rs' u' e1 e2 => ?_⟩, aD0 hrs h.ok h8 hbad, ?_⟩
 ·exact heap_setCell_same w5 (w.heap.size + 1) 5 _ 248 rv' b5
 ·rw [show (LL.take (k + 1)).length = k + 1 by simp; omega]
  exact aJ r fun g _ p e => heap_setCell_other _ _ _ _ (by have := (World.ownsRow.lt r g e).1; show g ≠ w.heap.size + 1; omega)
 ·have hul : us.length = k := by have := row.1; omega
  by_cases hi : i < k
  ·rw [List.getElem?_append_left (by omega)] at e2
   rw [List.getElem?_take_of_lt (by omega)] at e1
   have e1' : (LL.take k)[i]? = some rs' := by rw [List.getElem?_take_of_lt hi]; exact e1
   have q := h.rul.at_ i rs' u' e1' e2
   exact keepR (aJ q fun g _ p _ => hb.block g p) (fun g e => (World.ownsRow.lt q g e).1)
  ·have hi2 := (List.getElem?_eq_some_iff.1 e2).1
   simp at hi2
   have : i = k := by omega
   subst this
   rw [List.getElem?_append_right (by omega), hul, Nat.sub_self] at e2
   cases e2
   rw [List.getElem?_take_of_lt (by omega), hrs] at e1
   cases e1
   exact fH (keepR hu (fun g e => by have := (World.ownsRow.lt hu g e).1; omega)) (by omega)
 ·have hw5 : Below w.heap.size w w5 := by
   refine ⟨c.os.trans (aD h.below hb).os, c.tape.trans (aD h.below hb).tape, c.output.trans (aD h.below hb).output, by have := c.size; have := h.below.size; omega, fun g hg => ?_⟩
   rw [c.block g (by omega) (fun e => by have := (World.ownsRow.lt hr3 g e).1; omega)]
   exact (aD h.below hb).block g hg
  exact hw5.setCell (by show w.heap.size ≤ w.heap.size + 1; omega) _
theorem tE (z : Int) (h : szOk z = true) (u : World) : (Instr.makeSlice 24 (.int .i64 z) (.int .i64 z)).run Tryz.prog u = .ok (.slice (some ⟨u.heap.size, 0, none⟩) z.toNat z.toNat) (u.alloc (.cells ((bJ z.toNat).map (Value.int .i64)).toArray 3)) := by
 obtain ⟨n, rfl⟩ : ∃ n : Nat, z = (n : Int) := ⟨z.toNat, by simp [szOk] at h; omega⟩
 have hn : n ≤ 200 := by simp [szOk] at h; omega
 exact oY n (by omega) u
theorem uV (z0 z1 z2 z3 lim : Int) (v : Value) (LL : List (List Rule)) (w : World) (h : bZ w v LL) (hn : LL.length ≤ 100000000) (hr : ∀ rs ∈ LL, rs.length ≤ 100000000) :
  Calls Tryz.prog 87 #[.agg #[.int .i64 z0, .int .i64 z1, .int .i64 z2, .int .i64 z3, .int .i64 lim, v]] w fun e w' => wN w z0 z1 z2 z3 lim LL e w' := by
 have hb0 : Below w.heap.size w (w.alloc (.cells #[.int .i64 z0, .int .i64 z1, .int .i64 z2, .int .i64 z3, .int .i64 lim, v] 58)) := (Below.refl _ _).alloc (Nat.le_refl _) _
 have HB0 := hide hb0
 have H := hide h
 obtain ⟨a, c, rfl, _⟩ := id h
 have R0 : Hid ((w.alloc (.cells #[.int .i64 z0, .int .i64 z1, .int .i64 z2, .int .i64 z3, .int .i64 lim, .slice a LL.length c] 58)).heap[w.heap.size]? = some (.cells #[.int .i64 z0, .int .i64 z1, .int .i64 z2, .int .i64 z3, .int .i64 lim, .slice a LL.length c] 58 (0, 0))) := heap_alloc_new w _
 have q4 := cell_of_row _ _ 4 _ _ _ (aA R0)
 have q5 := cell_of_row _ _ 5 _ _ _ (aA R0)
 simp at q4 q5
 clear hb0 h
 by_cases l1 : lim < 1
 ·have l1' : decide (lim < 1) = true := decide_eq_true l1
  go_enter Tryz.func87, Tryz.ntmps87
  go_wp2
  refine bodyPost_ret (v := .tuple #[.pointer none, .int .i64 2]) (by simp [results, Tryz.results87]) rfl (.inl ⟨tL (.inl l1), rfl, ?_⟩)
  repeat (first | exact aA HB0 | refine Below.drew ?_)
 have l1' : decide (lim < 1) = false := decide_eq_false l1
 by_cases l2 : 4 < lim
 ·have l2' : decide (4 < lim) = true := decide_eq_true l2
  go_enter Tryz.func87, Tryz.ntmps87
  go_wp2
  refine bodyPost_ret (v := .tuple #[.pointer none, .int .i64 2]) (by simp [results, Tryz.results87]) rfl (.inl ⟨tL (.inr (.inl l2)), rfl, ?_⟩)
  repeat (first | exact aA HB0 | refine Below.drew ?_)
 have l2' : decide (4 < lim) = false := decide_eq_false l2
 by_cases l3 : 6 < LL.length
 ·have l3' : (6 : Int) < (LL.length : Int) := by omega
  go_enter Tryz.func87, Tryz.ntmps87
  go_wp2
  refine bodyPost_ret (v := .tuple #[.pointer none, .int .i64 2]) (by simp [results, Tryz.results87]) rfl (.inl ⟨tL (.inr (.inr l3)), rfl, ?_⟩)
  repeat (first | exact aA HB0 | refine Below.drew ?_)
 have l3' : decide ((6 : Int) < (LL.length : Int)) = false := by simp; omega
 have q0 := cell_of_row _ _ 0 _ _ _ (aA R0)
 have q1 := cell_of_row _ _ 1 _ _ _ (aA R0)
 have q2 := cell_of_row _ _ 2 _ _ _ (aA R0)
 have q3 := cell_of_row _ _ 3 _ _ _ (aA R0)
 simp at q0 q1 q2 q3
 go_enter Tryz.func87, Tryz.ntmps87
 go_wp2_with fail
 go_loopw [5] (fun i wr => ∃ k : Nat, k ≤ 4 ∧ i = .int .i64 k ∧ Hid (NT w z0 z1 z2 z3 lim (.slice a LL.length c) k wr)) (fun i _ => 4 - (intOf i).toNat)
 case atStart =>
  refine ⟨0, by omega, rfl, ?_⟩
  have e1 := heap_alloc_new (w.alloc (.cells #[.int .i64 z0, .int .i64 z1, .int .i64 z2, .int .i64 z3, .int .i64 lim, .slice a LL.length c] 58)) (.cells #[.int .i64 z0, .int .i64 z1, .int .i64 z2, .int .i64 z3, .int .i64 lim, .slice none 0 0, .slice none 0 0, .slice none 0 0, .slice none 0 0, .slice none 0 0] 248)
  rw [show (w.alloc (.cells #[.int .i64 z0, .int .i64 z1, .int .i64 z2, .int .i64 z3, .int .i64 lim, .slice a LL.length c] 58)).heap.size = w.heap.size + 1 by simp] at e1
  exact ⟨(Below.heap_alloc _ _ _ (by simp)).trans (heap_alloc_new w _), e1, by simp, fun q => absurd q (by omega), fun q => absurd q (by omega), fun q => absurd q (by omega), fun q => absurd q (by omega), bL (bL (Below.refl _ _) _) _⟩
 case round =>
  obtain ⟨k, hk, rfl, HN⟩ := hrel
  have hk5 : k = 0 ∨ k = 1 ∨ k = 2 ∨ k = 3 ∨ k = 4 := by omega
  have rc := (aA HN).cfg
  have rb := (aA HN).bank
  have q0 := cell_of_row _ _ 0 _ _ _ rc
  have q1 := cell_of_row _ _ 1 _ _ _ rc
  have q2 := cell_of_row _ _ 2 _ _ _ rc
  have q3 := cell_of_row _ _ 3 _ _ _ rc
  simp at q0 q1 q2 q3
  rcases hk5 with rfl | rfl | rfl | rfl | rfl
  ·by_cases e : szOk z0 = true
   ·obtain ⟨s1, s2⟩ := iA e
    have E := hide e
    clear e
    have rba := (Below.heap_alloc wr (.cells ((bJ z0.toNat).map (Value.int .i64)).toArray 3) _ (Array.getElem?_eq_some_iff.1 rb).1).trans rb
    have c6 := cell_of_row _ _ 6 _ _ _ rba
    have f6 := frozen_of_row _ _ 6 _ _ rba
    simp [tabV] at c6
    have hm := tE z0 (aA E)
    have HNX := hide ((aA HN).next0 (aA E))
    clear rc rb rba
    go_wp2
    go_region
    go_wp2
    go_roundw
    case rel => exact ⟨1, by omega, by simp, HNX⟩
    case measure => simp [intOf]
   ·replace e : szOk z0 = false := by simpa using e
    have hbw := (aA HN).below
    have HC : Hid (eH z0 z1 z2 z3 lim LL = false) := by
     show _ = _
     unfold eH
     rw [e]
     simp
    have s12 := jJ e
    clear rc rb e
    by_cases s1 : z0 < 0
    ·go_wp2
     exact bodyPost_ret (v := .tuple #[.pointer none, .int .i64 2]) (by simp [results, Tryz.results87]) rfl (.inl ⟨aA HC, rfl, hbw⟩)
    ·have s1' : decide (z0 < 0) = false := decide_eq_false s1
     have s2 : 200 < z0 := s12.resolve_left s1
     go_wp2
     exact bodyPost_ret (v := .tuple #[.pointer none, .int .i64 2]) (by simp [results, Tryz.results87]) rfl (.inl ⟨aA HC, rfl, hbw⟩)
  ·by_cases e : szOk z1 = true
   ·obtain ⟨s1, s2⟩ := iA e
    have E := hide e
    clear e
    have rba := (Below.heap_alloc wr (.cells ((bJ z1.toNat).map (Value.int .i64)).toArray 3) _ (Array.getElem?_eq_some_iff.1 rb).1).trans rb
    have c6 := cell_of_row _ _ 7 _ _ _ rba
    have f6 := frozen_of_row _ _ 7 _ _ rba
    simp [tabV] at c6
    have hm := tE z1 (aA E)
    have HNX := hide ((aA HN).next1 (aA E))
    clear rc rb rba
    go_wp2
    go_region
    go_wp2
    go_roundw
    case rel => exact ⟨2, by omega, by simp, HNX⟩
    case measure => simp [intOf]
   ·replace e : szOk z1 = false := by simpa using e
    have hbw := (aA HN).below
    have HC : Hid (eH z0 z1 z2 z3 lim LL = false) := by
     show _ = _
     unfold eH
     rw [e]
     simp
    have s12 := jJ e
    clear rc rb e
    by_cases s1 : z1 < 0
    ·go_wp2
     exact bodyPost_ret (v := .tuple #[.pointer none, .int .i64 2]) (by simp [results, Tryz.results87]) rfl (.inl ⟨aA HC, rfl, hbw⟩)
    ·have s1' : decide (z1 < 0) = false := decide_eq_false s1
     have s2 : 200 < z1 := s12.resolve_left s1
     go_wp2
     exact bodyPost_ret (v := .tuple #[.pointer none, .int .i64 2]) (by simp [results, Tryz.results87]) rfl (.inl ⟨aA HC, rfl, hbw⟩)
  ·by_cases e : szOk z2 = true
   ·obtain ⟨s1, s2⟩ := iA e
    have E := hide e
    clear e
    have rba := (Below.heap_alloc wr (.cells ((bJ z2.toNat).map (Value.int .i64)).toArray 3) _ (Array.getElem?_eq_some_iff.1 rb).1).trans rb
    have c6 := cell_of_row _ _ 8 _ _ _ rba
    have f6 := frozen_of_row _ _ 8 _ _ rba
    simp [tabV] at c6
    have hm := tE z2 (aA E)
    have HNX := hide ((aA HN).next2 (aA E))
    clear rc rb rba
    go_wp2
    go_region
    go_wp2
    go_roundw
    case rel => exact ⟨3, by omega, by simp, HNX⟩
    case measure => simp [intOf]
   ·replace e : szOk z2 = false := by simpa using e
    have hbw := (aA HN).below
    have HC : Hid (eH z0 z1 z2 z3 lim LL = false) := by
     show _ = _
     unfold eH
     rw [e]
     simp
    have s12 := jJ e
    clear rc rb e
    by_cases s1 : z2 < 0
    ·go_wp2
     exact bodyPost_ret (v := .tuple #[.pointer none, .int .i64 2]) (by simp [results, Tryz.results87]) rfl (.inl ⟨aA HC, rfl, hbw⟩)
    ·have s1' : decide (z2 < 0) = false := decide_eq_false s1
     have s2 : 200 < z2 := s12.resolve_left s1
     go_wp2
     exact bodyPost_ret (v := .tuple #[.pointer none, .int .i64 2]) (by simp [results, Tryz.results87]) rfl (.inl ⟨aA HC, rfl, hbw⟩)
  ·by_cases e : szOk z3 = true
   ·obtain ⟨s1, s2⟩ := iA e
    have E := hide e
    clear e
    have rba := (Below.heap_alloc wr (.cells ((bJ z3.toNat).map (Value.int .i64)).toArray 3) _ (Array.getElem?_eq_some_iff.1 rb).1).trans rb
    have c6 := cell_of_row _ _ 9 _ _ _ rba
    have f6 := frozen_of_row _ _ 9 _ _ rba
    simp [tabV] at c6
    have hm := tE z3 (aA E)
    have HNX := hide ((aA HN).next3 (aA E))
    clear rc rb rba
    go_wp2
    go_region
    go_wp2
    go_roundw
    case rel => exact ⟨4, by omega, by simp, HNX⟩
    case measure => simp [intOf]
   ·replace e : szOk z3 = false := by simpa using e
    have hbw := (aA HN).below
    have HC : Hid (eH z0 z1 z2 z3 lim LL = false) := by
     show _ = _
     unfold eH
     rw [e]
     simp
    have s12 := jJ e
    clear rc rb e
    by_cases s1 : z3 < 0
    ·go_wp2
     exact bodyPost_ret (v := .tuple #[.pointer none, .int .i64 2]) (by simp [results, Tryz.results87]) rfl (.inl ⟨aA HC, rfl, hbw⟩)
    ·have s1' : decide (z3 < 0) = false := decide_eq_false s1
     have s2 : 200 < z3 := s12.resolve_left s1
     go_wp2
     exact bodyPost_ret (v := .tuple #[.pointer none, .int .i64 2]) (by simp [results, Tryz.results87]) rfl (.inl ⟨aA HC, rfl, hbw⟩)
  ·clear q0 q1 q2 q3 rc rb
   obtain ⟨i5, hi5, hz50, hz51, hz52⟩ := info_parts zR
   obtain ⟨i2, hi2, hz20, hz21, hz22⟩ := info_parts tI
   have HR := hide hr
   rw [show ((4 : Nat) : Int) = 4 from rfl]
   go_wp2_with fail
   obtain ⟨Wn, hWn⟩ : ∃ W, W = wr := ⟨wr, rfl⟩
   subst hWn
   go_loopw [6] (fun i wr2 => ∃ (k : Nat) (rv : Value) (us : List Value), k ≤ LL.length ∧ i = .int .i64 k ∧ Hid (N2 w Wn z0 z1 z2 z3 lim LL k rv us wr2)) (fun i _ => LL.length - (intOf i).toNat)
   case atStart => exact ⟨0, _, _, by omega, rfl, N2.start (aA HN)⟩
   case round =>
    obtain ⟨k, rv, us, hk, rfl, HI⟩ := hrel
    obtain ⟨Wt, hWt⟩ : ∃ W, W = wr := ⟨wr, rfl⟩
    subst hWt
    have rc := (aA HI).cfg.trans (aA HN).cfg
    have rb := (aA HI).bank
    have q5 := cell_of_row _ _ 5 _ _ _ rc
    obtain ⟨ra, rn, rcp, rfl⟩ := aP (aA HI).rul.row
    have b5 := cell_of_row _ _ 5 _ _ _ rb
    have fb5 := frozen_of_row _ _ 5 _ _ rb
    simp at q5 b5
    have lS := (Array.getElem?_eq_some_iff.1 rc).1
    have lB := (Array.getElem?_eq_some_iff.1 rb).1
    have hzw := (aA HI).below.size
    have HRB := hide rb
    clear rc rb
    by_cases hlt : k < LL.length
    ·obtain ⟨rs, hrs⟩ : ∃ rs, LL[k]? = some rs := ⟨_, List.getElem?_eq_getElem hlt⟩
     obtain ⟨b, o, had, hbl, hu⟩ : ∃ b o, a = some ⟨b, o, none⟩ ∧ b < w.heap.size ∧ ∃ u, w.cell? ⟨b, o + k, none⟩ = some u ∧ cK w u rs := by
      obtain ⟨a', c', e, hh⟩ := aA H
      cases e
      rcases hh with hh | ⟨b, o, e, hb, hc⟩
      ·rw [hh] at hlt
       simp at hlt
      ·exact ⟨b, o, e, hb, hc k rs hrs⟩
     subst had
     obtain ⟨u, hcu, a', c', rfl, hlist⟩ := hu
     have cu := ((aA HI).below.cell (by exact hbl)).trans hcu
     have HRS := hide hrs
     have HLi := hide hlist
     have hlt' : (k : Int) < (LL.length : Int) := by omega
     clear hcu hrs hlist
     by_cases h8 : 8 < rs.length
     ·have h8' : (8 : Int) < (rs.length : Int) := by omega
      have HC := hide (rH (z0 := z0) (z1 := z1) (z2 := z2) (z3 := z3) (lim := lim) (vS (aA HRS) (.inl h8)))
      have hbw := hide (aA HI).below
      go_wp2
      exact bodyPost_ret (v := .tuple #[.pointer none, .int .i64 2]) (by simp [results, Tryz.results87]) rfl (.inl ⟨aA HC, rfl, aA hbw⟩)
     ·have h8' : decide ((8 : Int) < (rs.length : Int)) = false := by simp; omega
      go_wp2_with fail
      go_loopw [7, 8] (fun l i wq => ∃ j : Nat, j ≤ rs.length ∧ i = .int .i64 j ∧ Hid (wq.ownsRow Wt.heap.size 52 5 l j (dC (rs.take j))) ∧ Hid (Below Wt.heap.size Wt wq) ∧ Hid ((rs.take j).any Rule.bad = false)) (fun l i _ => rs.length - (intOf i).toNat)
      case atStart => exact ⟨0, by omega, rfl, World.ownsRow_nil _ _ _ _, Below.refl _ _, rfl⟩
      case round =>
       obtain ⟨j, hj, rfl, HO, HB, HA⟩ := hrel
       have q5w := ((aA HB).cell (p := ⟨w.heap.size, 5, none⟩) lS).trans q5
       have cuw := ((aA HB).cell (p := ⟨b, o + k, none⟩) (by show b < Wt.heap.size; omega)).trans cu
       obtain ⟨la, ln, lc, rfl⟩ := aP (aA HO)
       have hzq := (aA HB).size
       by_cases hjl : j < rs.length
       ·obtain ⟨x, hx⟩ : ∃ x, rs[j]? = some x := ⟨_, List.getElem?_eq_getElem hjl⟩
        rcases aA HLi with e | ⟨b2, o2, rfl, hb2, hcc⟩
        ·subst e
         simp at hjl
        have g : ∀ i u, x.cells[i]? = some u → wr.cell? ⟨b2, o2 + j * 5 + i, none⟩ = some u := fun i u e => by
         rw [← hcc j x hx i u e]
         exact (aD (aA HI).below (aA HB)).cell hb2
        obtain ⟨xt, xl, xh, xr, xw⟩ := x
        have g0 : wr.cell? ⟨b2, o2 + j * 5 + 0, none⟩ = some (.int .i64 xt) := g 0 _ rfl
        have g1 : wr.cell? ⟨b2, o2 + j * 5 + 1, none⟩ = some (.int .i64 xl) := g 1 _ rfl
        have g2 : wr.cell? ⟨b2, o2 + j * 5 + 2, none⟩ = some (.int .i64 xh) := g 2 _ rfl
        have g3 : wr.cell? ⟨b2, o2 + j * 5 + 3, none⟩ = some (.bool xr) := g 3 _ rfl
        have g4 : wr.cell? ⟨b2, o2 + j * 5 + 4, none⟩ = some (.bool xw) := g 4 _ rfl
        simp only [Nat.add_zero] at g0
        have HX := hide hx
        have HF := hide (rY ⟨xt, xl, xh, xr, xw⟩ wr)
        have hjl' : (j : Int) < (rs.length : Int) := by omega
        have G : Hid (∀ W, Below wr.heap.size wr W → W.cell? ⟨b2, o2 + j * 5, none⟩ = some (.int .i64 xt) ∧ W.cell? ⟨b2, o2 + j * 5 + 1, none⟩ = some (.int .i64 xl) ∧ W.cell? ⟨b2, o2 + j * 5 + 2, none⟩ = some (.int .i64 xh) ∧ W.cell? ⟨b2, o2 + j * 5 + 3, none⟩ = some (.bool xr) ∧ W.cell? ⟨b2, o2 + j * 5 + 4, none⟩ = some (.bool xw) ∧ W.cell? ⟨w.heap.size, 5, none⟩ = some (.slice (some ⟨b, o, none⟩) LL.length c) ∧ W.cell? ⟨b, o + k, none⟩ = some (.slice (some ⟨b2, o2, none⟩) rs.length c')) := fun W hW =>
         ⟨(hW.cell (World.block_lt_of_cell? wr _ g0)).trans g0, (hW.cell (World.block_lt_of_cell? wr _ g1)).trans g1, (hW.cell (World.block_lt_of_cell? wr _ g2)).trans g2, (hW.cell (World.block_lt_of_cell? wr _ g3)).trans g3, (hW.cell (World.block_lt_of_cell? wr _ g4)).trans g4, (hW.cell (World.block_lt_of_cell? wr _ q5w)).trans q5w, (hW.cell (World.block_lt_of_cell? wr _ cuw)).trans cuw⟩
        clear g hcc hx
        go_wp2_with fail
        refine (aA HF).mono ?_
        rintro e w2 ⟨rfl, hbf⟩
        have HB2 := hide (aD (aA HB) hbf)
        have HO2 : Hid (w2.ownsRow Wt.heap.size 52 5 (.slice la ln lc) j (dC (rs.take j))) := aJ (aA HO) fun i _ p q => hbf.block i p
        obtain ⟨g0, g1, g2, g3, g4, q5w, cuw⟩ := aA G w2 hbf
        have hz2 := hbf.size
        clear hbf G HF HB HO
        by_cases hbad : (Rule.mk xt xl xh xr xw).bad = true
        ·have HC := hide (rH (z0 := z0) (z1 := z1) (z2 := z2) (z3 := z3) (lim := lim) (vS (aA HRS) (.inr (rL Rule.bad rs j _ (aA HX) hbad))))
         have hbw := hide (aD (aA HI).below (aA HB2))
         rw [hbad]
         clear hbad
         go_wp2
         exact bodyPost_ret (v := .tuple #[.pointer none, .int .i64 2]) (by simp [results, Tryz.results87]) rfl (.inl ⟨aA HC, rfl, aA hbw⟩)
        ·replace hbad : (Rule.mk xt xl xh xr xw).bad = false := by simpa using hbad
         have HA2 := hide (qE rs j _ (aA HX) (aA HA) hbad)
         have HNX := hide (uZ rs j _ (aA HX))
         rw [hbad]
         clear hbad
         generalize hRC : dC (rs.take j) = RC at HO2 HNX
         clear hRC
         go_wp2_with (at_builtin; (refine aT _ rfl (.tmp 95) (.tmp 104) 55 rfl Wt.heap.size 52 i2 (.agg #[.int .i64 0, .int .i64 0, .int .i64 0, .bool false, .bool false]) 5 32 Tryz.underlying55 hi2 hz20 hz21 hz22 rfl (by decide) _ j RC rfl (World.ownsRow.alloc (aA HO2) _) ⟨w2.heap.size, 0, none⟩ 1 1 [.int .i64 xt, .int .i64 xl, .int .i64 xh, .bool xr, .bool xw] rfl rfl (eE _ #[.int .i64 xt, .int .i64 xl, .int .i64 xh, .bool xr, .bool xw] 52) (by simp [Value.oneCell']) (by decide) (by unfold maxLen; omega) (by omega) (by simp; omega) ?_))
         intro v3 w3 r3 k3
         have HB3 : Hid (Below Wt.heap.size Wt w3) := bT (aD (aA HB2) (bL (Below.refl _ _) _)) (fun i e => (World.ownsRow.lt (aA HO2) i e).1) k3
         have HO3 : Hid (w3.ownsRow Wt.heap.size 52 5 v3 (j + 1) (dC (rs.take (j + 1)))) := by
          show World.ownsRow _ _ _ _ _ _ _
          rw [aA HNX]
          exact r3
         obtain ⟨a3, n3, c3, rfl⟩ := aP r3
         clear r3 k3 HB2 HO2
         go_wp2
         go_roundw
         case rel => exact ⟨j + 1, by omega, by go_num, HO3, HB3, HA2⟩
         case measure => simp [intOf]; omega
       ·have hje : j = rs.length := by omega
        subst hje
        have HU : Hid (wr.ownsRow Wt.heap.size 52 5 (.slice la ln lc) rs.length (dC rs)) := by
         have := aA HO
         rw [List.take_length] at this
         exact this
        have HA2 : Hid (rs.any Rule.bad = false) := by
         have := aA HA
         rw [List.take_length] at this
         exact this
        have htk : (LL.take k).length = k := by simp; omega
        have HROW : Hid (wr.ownsRow (w.heap.size + 6) 55 1 (.slice ra rn rcp) k us) := by
         have := (aA HI).rul.row
         rw [htk] at this
         exact aJ this fun i _ p q => (aA HB).block i p
        have b5w := ((aA HB).cell (p := ⟨w.heap.size + 1, 5, none⟩) lB).trans b5
        have hsz := (aA HI).size
        have HBR : Hid (∀ v5 w5, w5.ownsRow (w.heap.size + 6) 55 1 v5 (k + 1) (us ++ [.slice la ln lc]) → Kept (wr.alloc (.cells #[.slice la ln lc] 55)) w5 (w.heap.size + 6) (.slice ra rn rcp) v5 k 1 → N2 w Wn z0 z1 z2 z3 lim LL (k + 1) v5 (us ++ [.slice la ln lc]) (w5.setCell ⟨w.heap.size + 1, 5, none⟩ v5) ∧ w5.cell? ⟨w.heap.size + 1, 5, none⟩ = some (.slice ra rn rcp) ∧ w5.frozen? ⟨w.heap.size + 1, 5, none⟩ = false) := fun v5 w5 r5 k5 => by
         have rb5 : w5.heap[w.heap.size + 1]? = _ := ((gY k5).block (w.heap.size + 1) (by simp; omega) (fun e => by have := (World.ownsRow.lt (aA HROW) _ e).1; omega)).trans ((Below.heap_alloc _ _ _ (by omega)).trans (((aA HB).block _ lB).trans (aA HRB)))
         exact ⟨(aA HI).more (aA HRS) (aA HB) (aA HU) (by omega) (aA HA2) _ k5 r5, (cell_of_row _ _ 5 _ _ _ rb5).trans rfl, frozen_of_row _ _ 5 _ _ rb5⟩
        clear b5 q5 cu fb5 htk HO HA
        go_wp2_with (at_builtin; (refine aT _ rfl (.tmp 111) (.tmp 113) 56 rfl (w.heap.size + 6) 55 i5 (.slice none 0 0) 1 24 Tryz.underlying56 hi5 hz50 hz51 hz52 rfl (by decide) _ k us rfl (World.ownsRow.alloc (aA HROW) _) ⟨wr.heap.size, 0, none⟩ 1 1 [.slice la ln lc] rfl rfl (eE _ #[.slice la ln lc] 55) (by simp [Value.oneCell']) (by decide) (by unfold maxLen; omega) (by omega) (by simp; omega) ?_))
        intro v5 w5 r5 k5
        obtain ⟨hn2, d5, e5⟩ := aA HBR v5 w5 r5 k5
        have HN2 := hide hn2
        obtain ⟨a5, n5, c5, rfl⟩ := aP r5
        clear r5 k5 HBR hn2 HROW HU b5w
        go_wp2
        go_roundw
        case rel => exact ⟨k + 1, _, _, by omega, by go_num, HN2⟩
        case measure => simp [intOf]; omega
    ·have hke : k = LL.length := by omega
     subst hke
     have hI := aA HI
     have hN := aA HN
     have hrul := hI.rul
     have hok := hI.ok
     rw [List.take_length] at hrul hok
     have HE : Hid (wN w z0 z1 z2 z3 lim LL (.returned (.tuple #[.pointer (some ⟨w.heap.size + 1, 0, none⟩), .int .i64 0])) Wt) := by
      refine .inr ⟨aEl (hN.t0 (by omega)).1 (hN.t1 (by omega)).1 (hN.t2 (by omega)).1 (hN.t3 (by omega)).1 l1 l2 (by omega) hok, rfl, _, us, ⟨?_, hrul.lists, ?_, ?_, ?_⟩, hrul, hI.below⟩
      ·have := hI.bank
       unfold dV
       simp only [bJ, List.length_replicate]
       exact this
      ·intro i hi
       have hk : i = 0 ∨ i = 1 ∨ i = 2 ∨ i = 3 := by omega
       rcases hk with rfl | rfl | rfl | rfl
       ·exact (hI.tabs 0 (by omega)).trans (hN.t0 (by omega)).2
       ·exact (hI.tabs 1 (by omega)).trans (hN.t1 (by omega)).2
       ·exact (hI.tabs 2 (by omega)).trans (hN.t2 (by omega)).2
       ·exact (hI.tabs 3 (by omega)).trans (hN.t3 (by omega)).2
      ·intro i hi
       have sz : ∀ z, szOk z = true → (bJ z.toNat).length ≤ 200 := fun z h => by
        simp [szOk] at h
        simp [bJ]
        omega
       have hk : i = 0 ∨ i = 1 ∨ i = 2 ∨ i = 3 := by omega
       rcases hk with rfl | rfl | rfl | rfl
       ·exact sz _ (hN.t0 (by omega)).1
       ·exact sz _ (hN.t1 (by omega)).1
       ·exact sz _ (hN.t2 (by omega)).1
       ·exact sz _ (hN.t3 (by omega)).1
      ·intro i j hi hj n
       have hg : ∀ i, i < 4 → (T4.at ⟨⟨0, w.heap.size + 2, bJ z0.toNat⟩, ⟨0, w.heap.size + 3, bJ z1.toNat⟩, ⟨0, w.heap.size + 4, bJ z2.toNat⟩, ⟨0, w.heap.size + 5, bJ z3.toNat⟩, lim⟩ i).g = w.heap.size + 2 + i := fun i hi => by
        have hk : i = 0 ∨ i = 1 ∨ i = 2 ∨ i = 3 := by omega
        rcases hk with rfl | rfl | rfl | rfl <;> rfl
       rw [hg i hi, hg j hj]
       omega
     clear hI hN hrul hok
     go_wp2
     exact bodyPost_ret (v := .tuple #[.pointer (some ⟨w.heap.size + 1, 0, none⟩), .int .i64 0]) (by simp [results, Tryz.results87]) rfl (aA HE)
end Go.Proofs.YtfekelmldebplaaGreatDoor
namespace Go.Proofs.YtfekelmldebplaaGreatDoor
open Go.RowKit Go.MuLone
def bitN (n k : Nat) : Nat := n / 2 ^ k % 2
theorem tR (n i : Nat) : bitN n i = (n.testBit i).toNat := by
 unfold bitN
 rw [Nat.testBit_eq_decide_div_mod_eq]
 have : n / 2 ^ i % 2 = 0 ∨ n / 2 ^ i % 2 = 1 := by omega
 rcases this with h | h <;> simp [h]
theorem aD6 (k o v i : Nat) (hk : k < 65536) (hi : i < 16) : bitN (eG k o v) i = if bitN k i = 1 then bitN o i else bitN v i := by
 have e2 := Nat.testBit_two_pow_sub_succ (n := 16) (x := k) (by omega) i
 rw [show (2 : Nat) ^ 16 - (k + 1) = 65535 - k by omega] at e2
 rw [tR, tR, tR, tR, eG, Nat.testBit_or, Nat.testBit_and, Nat.testBit_and, e2]
 simp only [hi, decide_true, Bool.true_and]
 cases o.testBit i <;> cases k.testBit i <;> cases v.testBit i <;> rfl
theorem aD9 (m k : Nat) : m % 2 ^ (k + 1) = m % 2 ^ k + 2 ^ k * bitN m k := by
 unfold bitN
 rw [Nat.pow_succ, Nat.mod_mul]
theorem yH (n x y : Nat) (w : World) (hn : n < 65536) (hx : x < 65536) (hy : y < 65536) :
  Calls Tryz.prog 147 #[.int .i64 (n : Int), .int .i64 (x : Int), .int .i64 (y : Int)] w fun e w' => e = .returned (.int .i64 (eG x n y : Nat)) ∧ w' = w := by
 have hnext : ∀ k, k < 16 → eG x n y % 2 ^ (k + 1) = eG x n y % 2 ^ k + 2 ^ k * (if x / 2 ^ k % 2 = 1 then n / 2 ^ k % 2 else y / 2 ^ k % 2) := fun k hk => by
  rw [aD9, aD6 x n y k hx hk]
  rfl
 have hall : eG x n y % 2 ^ 16 = eG x n y := Nat.mod_eq_of_lt (oW _ _ _ hn hy)
 obtain ⟨F, hF⟩ : ∃ F : Nat → Nat, F = fun k => eG x n y % 2 ^ k := ⟨_, rfl⟩
 have hFb : ∀ k, F k < 65536 := fun k => by rw [hF]; exact Nat.lt_of_le_of_lt (Nat.mod_le _ _) (oW _ _ _ hn hy)
 have hF0 : F 0 = 0 := by rw [hF]; exact Nat.mod_one _
 have hF1 : F 16 = eG x n y := by rw [hF]; exact hall
 have hFn : ∀ k, k < 16 → F (k + 1) = F k + 2 ^ k * (if x / 2 ^ k % 2 = 1 then n / 2 ^ k % 2 else y / 2 ^ k % 2) := fun k hk => by rw [hF]; exact hnext k hk
 have HB := hide hFb
 have HN := hide hFn
 rw [← hF1]
 have HF1 := hide hF0
 clear hF hFb hFn hnext hall hF0 hF1
 go_enter Tryz.func147, Tryz.ntmps147
 go_wp2
 go_loopw [7, 8] (fun o b wr => ∃ k : Nat, k ≤ 16 ∧ o = .int .i64 ((F k : Nat) : Int) ∧ b = .int .i64 ((2 ^ k : Nat) : Int) ∧ wr = w) (fun o b _ => 65536 - (intOf b).toNat)
 case atStart => exact ⟨0, by omega, by rw [aA HF1]; rfl, rfl, rfl⟩
 case round =>
  obtain ⟨k, hk, rfl, rfl, rfl⟩ := hrel
  by_cases h16 : k < 16
  ·have hs := aA HN k h16
   have hb := aA HB k
   have hb2 := aA HB (k + 1)
   have hk' : k = 0 ∨ k = 1 ∨ k = 2 ∨ k = 3 ∨ k = 4 ∨ k = 5 ∨ k = 6 ∨ k = 7 ∨ k = 8 ∨ k = 9 ∨ k = 10 ∨ k = 11 ∨ k = 12 ∨ k = 13 ∨ k = 14 ∨ k = 15 := by omega
   obtain ⟨kn, hkn⟩ : ∃ kn, k + 1 = kn := ⟨_, rfl⟩
   by_cases hbit : x / 2 ^ k % 2 = 1
   ·rw [if_pos hbit] at hs
    rcases hk' with rfl | rfl | rfl | rfl | rfl | rfl | rfl | rfl | rfl | rfl | rfl | rfl | rfl | rfl | rfl | rfl
    all_goals
     simp only [Nat.reducePow, Nat.reduceAdd, Nat.div_one, Nat.one_mul] at hs hbit hb hb2 hkn ⊢
     have HS := hide hs
     have HB2 := hide hb2
     have HB1 := hide hb
     have HK := hide hkn
     clear hs hb2 hb hkn
     go_wp2
     have hs := aA HS
     have hb := aA HB1
     have hb2 := aA HB2
     have hkn := aA HK
     refine ⟨⟨kn, by omega, congrArg (Value.int .i64) ?_, ?_, trivial⟩, by simp [intOf]⟩
     ·rw [← hkn]
      unfold wrap64
      omega
     ·rw [← hkn]
      rfl
   ·rw [if_neg hbit] at hs
    rcases hk' with rfl | rfl | rfl | rfl | rfl | rfl | rfl | rfl | rfl | rfl | rfl | rfl | rfl | rfl | rfl | rfl
    all_goals
     simp only [Nat.reducePow, Nat.reduceAdd, Nat.div_one, Nat.one_mul] at hs hbit hb hb2 hkn ⊢
     have HS := hide hs
     have HB2 := hide hb2
     have HB1 := hide hb
     have HK := hide hkn
     clear hs hb2 hb hkn
     go_wp2
     have hs := aA HS
     have hb := aA HB1
     have hb2 := aA HB2
     have hkn := aA HK
     refine ⟨⟨kn, by omega, congrArg (Value.int .i64) ?_, ?_, trivial⟩, by simp [intOf]⟩
     ·rw [← hkn]
      unfold wrap64
      omega
     ·rw [← hkn]
      rfl
  ·obtain rfl : k = 16 := by omega
   go_wp2
   go_ret
   exact ⟨rfl, rfl⟩
def Ints (w : World) (D : Nat → Prop) : Prop := ∀ k, D k → ∀ (j : Nat) (u : Value), w.cell? ⟨k, j, none⟩ = some u → ∃ n : Int, u = .int .i64 n
theorem cK.chgI {w w' : World} {D : Nat → Prop} {v : Value} {rs : List Rule} (h : cK w v rs) (c : Chg w w' D) (hD : Ints w D) : cK w' v rs := by
 obtain ⟨a, cc, rfl, h⟩ := h
 refine ⟨a, cc, rfl, ?_⟩
 rcases h with h | ⟨b, o, e, hl, hc⟩
 ·exact .inl h
 ·by_cases hrs : rs = []
  ·exact .inl hrs
  ·obtain ⟨x, hx⟩ : ∃ x, rs[0]? = some x := ⟨_, List.getElem?_eq_getElem (List.length_pos_iff.2 hrs)⟩
   have hn : ¬ D b := fun hd => by
    obtain ⟨n, hn⟩ := hD b hd _ _ (hc 0 x hx 3 (.bool x.r) rfl)
    cases hn
   exact .inr ⟨b, o, e, Nat.lt_of_lt_of_le hl c.size, fun i x hx j u hu => (World.cell?_of_block (c.block b hl hn)).trans (hc i x hx j u hu)⟩
theorem bZ.chgI {w w' : World} {D : Nat → Prop} {v : Value} {LL : List (List Rule)} (h : bZ w v LL) (c : Chg w w' D) (hD : Ints w D) : bZ w' v LL := by
 obtain ⟨a, cc, rfl, h⟩ := h
 refine ⟨a, cc, rfl, ?_⟩
 rcases h with h | ⟨b, o, e, hl, hc⟩
 ·exact .inl h
 ·by_cases hrs : LL = []
  ·exact .inl hrs
  ·obtain ⟨x, hx⟩ : ∃ x, LL[0]? = some x := ⟨_, List.getElem?_eq_getElem (List.length_pos_iff.2 hrs)⟩
   have hn : ¬ D b := fun hd => by
    obtain ⟨u, hu, hla⟩ := hc 0 x hx
    obtain ⟨n, hn⟩ := hD b hd _ _ hu
    obtain ⟨a2, c2, e2, _⟩ := hla
    rw [e2] at hn
    cases hn
   exact .inr ⟨b, o, e, Nat.lt_of_lt_of_le hl c.size, fun i rs hx => by
    obtain ⟨u, hu, hla⟩ := hc i rs hx
    exact ⟨u, (World.cell?_of_block (c.block b hl hn)).trans hu, hla.chgI c hD⟩⟩
theorem aEc {w : World} {g : Nat} {L : List Int} (h : w.heap[g]? = some (.cells (L.map (Value.int .i64)).toArray 3 (0, 0))) : Ints w (fun k => k = g) := fun k e j u hu => by
 have e' : k = g := e
 subst e'
 rw [cell_of_row _ _ _ _ _ _ h] at hu
 simp at hu
 obtain ⟨n, _, rfl⟩ := hu
 exact ⟨n, rfl⟩
theorem qP (L xs : List Int) (a : Nat) (h : a + xs.length ≤ L.length) (i : Nat) : (setL L a xs).getD i 0 = if a ≤ i ∧ i < a + xs.length then xs.getD (i - a) 0 else L.getD i 0 := by
 have hl : (L.take a).length = a := by rw [List.length_take]; omega
 unfold setL
 simp only [List.getD_eq_getElem?_getD]
 by_cases h1 : i < a
 ·rw [List.getElem?_append_left (by simp; omega), List.getElem?_append_left (by omega), List.getElem?_take, if_pos h1, if_neg (by omega)]
 ·by_cases h2 : i < a + xs.length
  ·rw [List.getElem?_append_left (by simp; omega), List.getElem?_append_right (by omega), hl, if_pos ⟨by omega, h2⟩]
  ·rw [List.getElem?_append_right (by simp; omega), List.getElem?_drop, if_neg (by omega)]
   congr 2
   simp
   omega
theorem aA8 (A B : List Int) (hl : A.length = B.length) (h : ∀ i, i < A.length → A.getD i 0 = B.getD i 0) : A = B := by
 apply List.ext_getElem hl
 intro i h1 h2
 have := h i h1
 simpa [List.getD_eq_getElem?_getD, List.getElem?_eq_getElem h1, List.getElem?_eq_getElem h2] using this
theorem mC (Z l : List Int) (p j : Nat) (hj : j < l.length) (h : p + l.length ≤ Z.length) : (setL Z p (l.take j)).set (p + j) (l.getD j 0) = setL Z p (l.take (j + 1)) := by
 have h1 : (l.take j).length = j := by simp; omega
 have h2 : (l.take (j + 1)).length = j + 1 := by simp; omega
 have l1 : (setL Z p (l.take j)).length = Z.length := fE _ _ _ (by rw [h1]; omega)
 have l2 : (setL Z p (l.take (j + 1))).length = Z.length := fE _ _ _ (by rw [h2]; omega)
 refine aA8 _ _ (by rw [List.length_set, l1, l2]) fun i hi => ?_
 rw [qP _ _ _ (by rw [h2]; omega), h2]
 by_cases e : i = p + j
 ·subst e
  rw [if_pos (by omega), show p + j - p = j by omega]
  have hlt : p + j < (setL Z p (l.take j)).length := by rw [l1]; omega
  rw [List.getD_eq_getElem?_getD, List.getElem?_set_self hlt]
  simp only [List.getD_eq_getElem?_getD, List.getElem?_take]
  rw [if_pos (by omega)]
  rfl
 ·rw [List.getD_eq_getElem?_getD, List.getElem?_set_ne (by omega), ← List.getD_eq_getElem?_getD, qP _ _ _ (by rw [h1]; omega), h1]
  by_cases e2 : p ≤ i ∧ i < p + j
  ·rw [if_pos e2, if_pos (by omega)]
   simp only [List.getD_eq_getElem?_getD, List.getElem?_take]
   rw [if_pos (by omega), if_pos (by omega)]
  ·rw [if_neg e2, if_neg (by omega)]
theorem RefAt.put {w w' : World} {yb : Nat} {s0 s1 s2 s3 rv : Value} {y : T4} {LL : List (List Rule)} (h : RefAt w yb s0 s1 s2 s3 rv y LL) (i : Nat) (hi : i < 4) {L : List Int} (c : Chg w w' (fun k => k = (y.at i).g)) (hL : w'.heap[(y.at i).g]? = some (.cells (L.map (Value.int .i64)).toArray 3 (0, 0))) (hl : L.length = (y.at i).L.length) : RefAt w' yb s0 s1 s2 s3 rv (y.put i L) LL := by
 have rg := h.ent i hi
 have nd : ∀ {g : Nat} {cs : Array Value} {T : TypeId} {fr : Nat × Nat}, w.heap[g]? = some (.cells cs T fr) → T ≠ 3 → ¬ (g = (y.at i).g) := fun q n2 e => bG q rg n2 e
 have hat : ∀ j, j < 4 → ((y.put i L).at j).g = (y.at j).g ∧ ((y.put i L).at j).L = if j = i then L else (y.at j).L := by
  intro j hj
  have hk : i = 0 ∨ i = 1 ∨ i = 2 ∨ i = 3 := by omega
  have hk2 : j = 0 ∨ j = 1 ∨ j = 2 ∨ j = 3 := by omega
  rcases hk with rfl | rfl | rfl | rfl <;> rcases hk2 with rfl | rfl | rfl | rfl <;> exact ⟨rfl, rfl⟩
 have hrow : #[s0, s1, s2, s3, .int .i64 y.lim, rv, dV y.t0, dV y.t1, dV y.t2, dV y.t3] = #[s0, s1, s2, s3, .int .i64 (y.put i L).lim, rv, dV (y.put i L).t0, dV (y.put i L).t1, dV (y.put i L).t2, dV (y.put i L).t3] := by
  have hk : i = 0 ∨ i = 1 ∨ i = 2 ∨ i = 3 := by omega
  rcases hk with rfl | rfl | rfl | rfl <;> (have hl' := hl; simp only [T4.at] at hl'; simp [T4.put, dV] <;> (try simp at hl') <;> (try rw [hl']) <;> simp)
 refine ⟨?_, ?_, fun j hj => ?_, fun j hj => ?_, fun j k hj hk hn => ?_⟩
 ·rw [← hrow]
  exact (c.block _ (Array.getElem?_eq_some_iff.1 h.row).1 (nd h.row (by decide))).trans h.row
 ·exact h.rules.chgI c (aEc rg)
 ·rw [(hat j hj).1, (hat j hj).2]
  by_cases e : j = i
  ·subst e
   rw [if_pos rfl]
   exact hL
  ·rw [if_neg e]
   exact (c.block _ (Array.getElem?_eq_some_iff.1 (h.ent j hj)).1 (fun q => h.nd j i hj hi e q)).trans (h.ent j hj)
 ·rw [(hat j hj).2]
  by_cases e : j = i
  ·rw [if_pos e, hl]
   exact h.len i hi
  ·rw [if_neg e]
   exact h.len j hj
 ·rw [(hat j hj).1, (hat k hk).1]
  exact h.nd j k hj hk hn
theorem aAm (f : Int → Bool) (l : List Int) (k : Nat) (hk : k < l.length) (h0 : (l.take k).all f = true) (hx : f (l.getD k 0) = true) : (l.take (k + 1)).all f = true := by
 rw [List.take_add_one, List.getElem?_eq_getElem hk, List.all_append, h0]
 simp [List.getD, List.getElem?_eq_getElem hk] at hx
 simp [hx]
theorem aD1 (f : Int → Bool) (l : List Int) (k : Nat) (hk : k < l.length) (hx : f (l.getD k 0) = false) : l.all f = false := by
 rw [Bool.eq_false_iff]
 intro e
 rw [List.all_eq_true] at e
 rw [e (l.getD k 0) (by simp [List.getD, List.getElem?_eq_getElem hk])] at hx
 cases hx
def aEy (w : World) (yb : Nat) (s0 s1 s2 s3 rv : Value) (y : T4) (LL : List (List Rule)) (i : Nat) (a : Int) (xs : List Int) (r : Ending) (w' : World) : Prop :=
 r = .returned (.int .i64 (cP (y.at i).L.length (hiOf i) a xs)) ∧ RefAt w' yb s0 s1 s2 s3 rv (y.put i (if cP (y.at i).L.length (hiOf i) a xs = 0 then setL (y.at i).L a.toNat xs else (y.at i).L)) LL ∧ Chg w w' (fun k => k = (y.at i).g)
theorem aC1 (yb : Nat) (s0 s1 s2 s3 rv : Value) (y : T4) (LL : List (List Rule)) (i : Nat) (hi : i < 4) (a : Int) (v : Value) (xs : List Int) (w : World) (h : RefAt w yb s0 s1 s2 s3 rv y LL) (hx : cB w v xs) (hxs : xs ≠ [] → ∀ b, v.ownBlock = some b → b ≠ (y.at i).g) (hn : xs.length ≤ 1000000000) (ha : -9223372036854775808 ≤ a ∧ a ≤ 9223372036854775807) :
  Calls Tryz.prog 90 #[.pointer (some ⟨yb, 0, none⟩), .int .i64 (i : Int), .int .i64 a, v] w fun r w' => aEy w yb s0 s1 s2 s3 rv y LL i a xs r w' := by
 obtain ⟨va, vc, rfl, hcell⟩ := hx
 have HC := hide hcell
 have HXS := hide hxs
 have HT := hide (lW yb i (y.at i).L.length _ _ a (xs.length : Int) w hi (h.tab i hi) (h.len i hi) (by omega))
 have HH := hide h
 obtain ⟨N, hN⟩ : ∃ N, N = (y.at i).L.length := ⟨_, rfl⟩
 have hN2 : N ≤ 200 := by rw [hN]; exact h.len i hi
 have hi0 : decide ((i : Int) < 0) = false := by simp
 have hi4 : decide ((4 : Int) ≤ (i : Int)) = false := by simp; omega
 rw [← hN] at HT
 have HN := hide hN
 clear h hcell hxs hN
 go_enter Tryz.func90, Tryz.ntmps90
 go_wp2_with fail
 refine (aA HT).mono ?_
 rintro e w ⟨rfl, rfl⟩
 by_cases hh : hasB N a xs.length = true
 ·rw [hh]
  go_upto_region 7 with fail
  go_cut [32] (fun v wq => v = .bool (decide (i < 2)) ∧ wq = w)
  case first =>
   have hk : i = 0 ∨ i = 1 ∨ i = 2 ∨ i = 3 := by omega
   rcases hk with rfl | rfl | rfl | rfl
   all_goals
    go_wp2
    go_meet
    exact ⟨rfl, rfl⟩
  case rest =>
  obtain ⟨rfl, rfl⟩ := hcut
  go_upto_if 32 with fail
  go_cut [10] (fun v wq => v = .int .i64 (hiOf i) ∧ wq = wc)
  case first =>
   by_cases h2 : i < 2
   ·have e : hiOf i = 1 := if_pos h2
    have e2 : decide (i < 2) = true := decide_eq_true h2
    rw [e2]
    go_wp2
    go_meet
    exact ⟨by rw [e], rfl⟩
   ·have e : hiOf i = 65535 := if_neg h2
    have e2 : decide (i < 2) = false := decide_eq_false h2
    rw [e2]
    go_wp2
    go_meet
    exact ⟨by rw [e], rfl⟩
  case rest =>
  obtain ⟨rfl, rfl⟩ := hcut
  obtain ⟨top, htop⟩ : ∃ top, top = hiOf i := ⟨_, rfl⟩
  have HTOP := hide htop
  rw [← htop]
  clear htop hi0 hi4 HT
  go_wp2
  go_loopw [11] (fun q wr => ∃ k : Nat, k ≤ xs.length ∧ q = .int .i64 k ∧ Hid (fC top (xs.take k) = true) ∧ wr = wc) (fun q _ => xs.length - (intOf q).toNat)
  case atStart => exact ⟨0, by omega, rfl, rfl, rfl⟩
  case round =>
   obtain ⟨k, hk, rfl, HA, rfl⟩ := hrel
   by_cases hlt : k < xs.length
   ·obtain ⟨cb, co, rfl, hcb, hcc⟩ := (aA HC).resolve_left (fun e => by rw [e] at hlt; simp at hlt)
    have ck := hcc k hlt
    have HS := hide (aAm (fun x => decide (0 ≤ x) && decide (x ≤ top)) xs k hlt (aA HA))
    have HF := hide (aD1 (fun x => decide (0 ≤ x) && decide (x ≤ top)) xs k hlt)
    have hlt' : (k : Int) < (xs.length : Int) := by omega
    clear hcc
    generalize xs.getD k 0 = x at ck HS HF
    by_cases h0 : x < 0
    ·have HE : Hid (cP N (hiOf i) a xs = 5) := by
      show _ = _
      unfold cP
      rw [if_pos hh, ← aA HTOP, show fC top xs = false from aA HF (by simp; omega)]
      rfl
     go_wp2
     go_ret
     refine ⟨fL ?_, ?_, Chg.refl _ _⟩
     ·rw [← aA HN]
      exact (aA HE).symm
     ·rw [← aA HN, aA HE, if_neg (by decide), iS y i hi]
      exact aA HH
    ·have h0' : decide (x < 0) = false := decide_eq_false h0
     by_cases h1 : top < x
     ·have HE : Hid (cP N (hiOf i) a xs = 5) := by
       show _ = _
       unfold cP
       rw [if_pos hh, ← aA HTOP, show fC top xs = false from aA HF (by simp; omega)]
       rfl
      go_wp2
      go_ret
      refine ⟨fL ?_, ?_, Chg.refl _ _⟩
      ·rw [← aA HN]
       exact (aA HE).symm
      ·rw [← aA HN, aA HE, if_neg (by decide), iS y i hi]
       exact aA HH
     ·have h1' : decide (top < x) = false := decide_eq_false h1
      have HT2 := hide (aA HS (by simp; omega))
      go_wp2
      exact ⟨⟨k + 1, by omega, by go_num, aA HT2, trivial⟩, by simp [intOf]; omega⟩
   ·obtain rfl : k = xs.length := by omega
    have HE : Hid (cP N (hiOf i) a xs = 0) := by
     show _ = _
     have hA := aA HA
     rw [List.take_length] at hA
     unfold cP
     rw [if_pos hh, ← aA HTOP, if_pos hA]
    obtain ⟨A, rfl⟩ : ∃ A : Nat, a = (A : Int) := ⟨a.toNat, by simp [hasB] at hh; omega⟩
    have hAN : A + xs.length ≤ N := by simp [hasB] at hh; omega
    have H0 : Hid (wr.heap[(y.at i).g]? = some (.cells ((setL (y.at i).L A (xs.take 0)).map (Value.int .i64)).toArray 3 (0, 0))) := by
     show _ = _
     have := (aA HH).ent i hi
     simpa [setL] using this
    have HTAB := hide ((aA HH).tab i hi)
    have HROW := hide (aA HH).row
    have HENT := hide ((aA HH).ent i hi)
    obtain ⟨gb, hgb⟩ : ∃ gb, gb = (y.at i).g := ⟨_, rfl⟩
    have HG := hide hgb
    obtain ⟨Wb, hWb⟩ : ∃ Wb, Wb = wr := ⟨_, rfl⟩
    have hybl : yb < Wb.heap.size := by rw [hWb]; exact (Array.getElem?_eq_some_iff.1 (aA HROW)).1
    have hyg : yb ≠ gb := by
     rw [hgb]
     exact fun e => bG (aA HROW) (aA HENT) (by decide) e
    have hWc : Hid (Wb.cell? ⟨yb, 6 + i, none⟩ = some (.slice (some ⟨gb, 0, none⟩) N N)) := by
     show _ = _
     rw [hWb, aA HTAB, dV, ← hgb, ← aA HN]
    rw [← hgb] at H0
    have HCB : Hid (∀ q, q < xs.length → ∃ cb co, va = some ⟨cb, co, none⟩ ∧ cb < Wb.heap.size ∧ cb ≠ gb ∧ Wb.cell? ⟨cb, co + q, none⟩ = some (.int .i64 (xs.getD q 0))) := fun q hq => by
     obtain ⟨cb, co, e, hcb, hcc⟩ := (aA HC).resolve_left (fun e => by rw [e] at hq; simp at hq)
     refine ⟨cb, co, e, by rw [hWb]; exact hcb, ?_, by rw [hWb]; exact hcc q hq⟩
     rw [hgb]
     exact aA HXS (fun e0 => by rw [e0] at hq; simp at hq) cb (by rw [e]; rfl)
    have HSTART : Hid (Chg Wb wr (fun k => k = gb)) := by rw [hWb]; exact Chg.refl _ _
    have HWB := hide hWb
    have hLN : Hid ((y.at i).L.length = N) := (aA HN).symm
    clear hgb hWb
    go_wp2
    go_loopw [12] (fun q wq => ∃ k : Nat, k ≤ xs.length ∧ q = .int .i64 k ∧ Hid (wq.heap[gb]? = some (.cells ((setL (y.at i).L A (xs.take k)).map (Value.int .i64)).toArray 3 (0, 0))) ∧ Hid (Chg Wb wq (fun k => k = gb))) (fun q _ => xs.length - (intOf q).toNat)
    case atStart => exact ⟨0, by omega, rfl, H0, HSTART⟩
    case round =>
     obtain ⟨k, hk2, rfl, HR, HCH⟩ := hrel
     by_cases hlt : k < xs.length
     ·obtain ⟨cb, co, rfl, hcb, hcg, hcc⟩ := aA HCB k hlt
      have c1 : wr.cell? ⟨yb, 6 + i, none⟩ = some (.slice (some ⟨gb, 0, none⟩) N N) := (World.cell?_of_block ((aA HCH).block yb hybl hyg)).trans (aA hWc)
      have c2 : wr.cell? ⟨cb, co + k, none⟩ = some (.int .i64 (xs.getD k 0)) := (World.cell?_of_block ((aA HCH).block cb hcb hcg)).trans hcc
      have hlen : (setL (y.at i).L A (xs.take k)).length = N := by
       rw [fE _ _ _ (by rw [aA hLN]; simp; omega), aA hLN]
      have c3 : ∃ z, wr.cell? ⟨gb, A + k, none⟩ = some (.int .i64 z) := ⟨_, dP (aA HR) (A + k) (by rw [hlen]; omega)⟩
      obtain ⟨z, c3⟩ := c3
      have f3 := frozen_of_row _ _ (A + k) _ _ (aA HR)
      have HS := hide (jN (q := A + k) (x := xs.getD k 0) (aA HR))
      rw [mC _ _ _ _ hlt (by rw [aA hLN]; exact hAN)] at HS
      have HS2 : Hid (Chg Wb (wr.setCell ⟨gb, A + k, none⟩ (.int .i64 (xs.getD k 0))) (fun k => k = gb)) := (aA HCH).trans (Chg.set _ _ _ _) (fun _ e _ => e)
      generalize xs.getD k 0 = x at c2 HS HS2
      have hlt' : (k : Int) < (xs.length : Int) := by omega
      have hi' : (i : Int) < 4 := by omega
      have hAk : (A : Int) + (k : Int) < (N : Int) := by omega
      have hw6 : IntKind.i64.wrap ((A : Int) + (k : Int)) = (A : Int) + (k : Int) := by rw [IntKind.wrap_i64]; omega
      clear hcc hlen
      go_wp2_with fail
      go_region
      go_wp2
      go_roundw
      case rel => exact ⟨k + 1, by omega, by go_num, aA HS, ⟨(aA HS2).os, (aA HS2).tape, (aA HS2).output, (aA HS2).size, (aA HS2).block⟩⟩
      case measure => simp [intOf]; omega
     ·obtain rfl : k = xs.length := by omega
      go_wp2
      go_ret
      have hR := aA HR
      rw [List.take_length, aA HG] at hR
      have hC := aA HCH
      rw [aA HWB, aA HG] at hC
      refine ⟨fL ?_, ?_, hC⟩
      ·rw [← aA HN]
       exact (aA HE).symm
      ·rw [← aA HN, aA HE, if_pos rfl, Int.toNat_natCast]
       exact (aA HH).put i hi hC hR (fE _ _ _ (by rw [aA hLN]; exact hAN))
 ·have hh' : hasB N a xs.length = false := by simpa using hh
  have HE : Hid (cP N (hiOf i) a xs = 4) := by
   show _ = _
   unfold cP
   rw [if_neg hh]
  rw [hh']
  go_wp2
  go_ret
  refine ⟨fL ?_, ?_, Chg.refl _ _⟩
  ·rw [← aA HN]
   exact (aA HE).symm
  ·rw [← aA HN, aA HE, if_neg (by decide), iS y i hi]
   exact aA HH
theorem aA5 (yb : Nat) (t a : Int) (v : Value) (w : World) (ht : t < 0 ∨ 4 ≤ t) (hv : ∃ x n c, v = .slice x n c) :
  Calls Tryz.prog 90 #[.pointer (some ⟨yb, 0, none⟩), .int .i64 t, .int .i64 a, v] w fun r w' => r = .returned (.int .i64 3) ∧ w' = w := by
 obtain ⟨x, n, c, rfl⟩ := hv
 rcases ht with h | h
 ·go_enter Tryz.func90, Tryz.ntmps90
  go_wp2
  go_ret
  exact ⟨rfl, rfl⟩
 ·have h0 : decide (t < 0) = false := by simp; omega
  go_enter Tryz.func90, Tryz.ntmps90
  go_wp2
  go_ret
  exact ⟨rfl, rfl⟩
end Go.Proofs.YtfekelmldebplaaGreatDoor
