import Derived.Test.YtfekelmldebplaaGreatDoorTj
import Derived.Test.YtfekelmldebplaaGreatDoorUd
import Derived.Test.YtfekelmldebplaaGreatDoorVc
import Derived.Test.YtfekelmldebplaaGreatDoorVe
import Derived.Test.YtfekelmldebplaaGreatDoorUl
namespace Go.Proofs.YtfekelmldebplaaGreatDoor
open Go.RowKit

theorem new_below (w : World) (o : Obj) : Below w.heap.size w (w.alloc o) := (Below.refl _ _).alloc (Nat.le_refl _) _

set_option maxRecDepth 10000 in
set_option maxHeartbeats 2000000 in
theorem Do_ok (sb : Nat) (f : Int) (v : Value) (w : World) (hv : ∃ a n c, v = .slice a n c) (Q : World → Value → Prop)
    (HD : Calls Tryz.prog 105 #[.pointer (some ⟨sb, 0, none⟩), .int .i64 0, .int .u8 f, v] w fun r w' => ∃ a n c, r = .returned (.tuple #[.slice a n c, .nilIface]) ∧ Q w' (.slice a n c) ∧ (∀ k, v.ownBlock = some k → k < w'.heap.size ∧ w'.heap[k]? = w.heap[k]?)) :
    Calls Tryz.prog 67 #[.pointer (some ⟨sb, 0, none⟩), .int .i64 0, .int .u8 f, v] w fun r w' => ∃ a n c w1, r = .returned (.tuple #[.slice a n c, .nilIface]) ∧ Q w1 (.slice a n c) ∧ Below w1.heap.size w1 w' ∧ ∀ k, v.ownBlock = some k → w'.heap[k]? = w.heap[k]? := by
  have H := hide HD
  clear HD
  obtain ⟨a, n, c, rfl⟩ := hv
  go_enter Tryz.func67, Tryz.ntmps67
  go_wp2_with fail
  refine (unhide H).mono ?_
  rintro r w1 ⟨a1, n1, c1, rfl, hq, hk⟩
  have HQ := hide hq
  have HKK := hide hk
  clear hq H hk
  go_wp2_with fail
  refine (itoa0 w1).mono ?_
  rintro r w2 ⟨rfl, hb2⟩
  go_wp2_with fail
  refine (wrap_nil _ w2).mono ?_
  rintro r w3 ⟨rfl, hb3⟩
  have HB := hide (bl_trans hb2 hb3)
  clear hb2 hb3
  go_wp2
  exact bodyPost_ret (by simp [results, Tryz.results67]) rfl ⟨a1, n1, c1, w1, rfl, unhide HQ, unhide HB, fun k e => ((unhide HB).block k (unhide HKK k e).1).trans (unhide HKK k e).2⟩

set_option maxRecDepth 10000 in
set_option maxHeartbeats 2000000 in
theorem relayans_ok (rb sb : Nat) (cl f : Int) (v : Value) (bs : List Int) (w : World) (hrow : w.heap[rb]? = some (.cells #[.pointer (some ⟨sb, 0, none⟩)] 106 (0, 0))) (hv : Lies w v (f :: bs)) (hb0 : bs ≠ []) (Q : World → World → Value → Prop)
    (HD : ∀ w1 v1, Below w.heap.size w w1 → Lies w1 v1 bs → v1.ownBlock = v.ownBlock → Calls Tryz.prog 67 #[.pointer (some ⟨sb, 0, none⟩), .int .i64 cl, .int .u8 f, v1] w1 fun r w' => ∃ a n c w2, r = .returned (.tuple #[.slice a n c, .nilIface]) ∧ Q w1 w2 (.slice a n c) ∧ Below w2.heap.size w2 w' ∧ ∀ k, v1.ownBlock = some k → w'.heap[k]? = w1.heap[k]?) :
    Calls Tryz.prog 46 #[.pointer (some ⟨rb, 0, none⟩), .int .i64 cl, v] w fun r w' => ∃ a n c w1 w2, r = .returned (.slice a n c) ∧ Below w.heap.size w w1 ∧ Q w1 w2 (.slice a n c) ∧ Below w2.heap.size w2 w' := by
  obtain ⟨b, o, c1, rfl, hlc, hbl, hcc⟩ := hv.shape (by simp)
  have hx0 := hcc 0 (by simp)
  rw [Nat.add_zero] at hx0
  simp at hx0
  have hl1 : (f :: bs).length = bs.length + 1 := by simp
  rw [hl1] at hv hlc ⊢
  have HLi := hide hv
  have HD' := hide HD
  have hk := kept_any rb sb
  have HK := hide hk
  have HR := hide hrow
  clear hk hrow HD hv hcc hl1
  have hlc' : (bs.length : Int) + 1 ≤ (c1 : Int) := by omega
  have hbp : 0 < bs.length := List.length_pos_iff.2 hb0
  have h1c : (1 : Int) < (c1 : Int) := by omega
  have hl1' : (1 : Int) ≤ (bs.length : Int) + 1 := by omega
  go_enter Tryz.func46, Tryz.ntmps46
  have HKd : Hid (Calls Tryz.prog 42 #[.pointer (some ⟨rb, 0, none⟩)] w.drew fun e w' => e = .returned (.pointer (some ⟨sb, 0, none⟩)) ∧ Below w.heap.size w w') := by
    refine (unhide HK w.drew (unhide HR)).mono ?_
    rintro r w' ⟨rfl, h3⟩
    exact ⟨rfl, ⟨h3.os, h3.tape, h3.output, h3.size, h3.block⟩⟩
  have HDo : Hid (∀ w3, Below w.heap.size w w3 → Calls Tryz.prog 67 #[.pointer (some ⟨sb, 0, none⟩), .int .i64 cl, .int .u8 f, .slice (some ⟨b, o + 1, none⟩) bs.length (c1 - 1)] w3 fun r w' => ∃ a n c w2, r = .returned (.tuple #[.slice a n c, .nilIface]) ∧ Q w3 w2 (.slice a n c) ∧ Below w2.heap.size w2 w' ∧ w'.heap[b]? = w3.heap[b]?) := fun w3 hb3 => by
    have hl := lies_drop (n := 1) (bs := f :: bs) (o := o) (c := c1) ((unhide HLi).below hb3) (by simp) (by omega)
    simp at hl
    refine (unhide HD' w3 _ hb3 hl rfl).mono ?_
    rintro r w' ⟨a, n, c, w2, rfl, h1, h2, h3⟩
    exact ⟨a, n, c, w2, rfl, h1, h2, h3 b rfl⟩
  have HZ3 : Hid (∀ w3, Below w.heap.size w w3 → w3.cell? ⟨b, o, none⟩ = some (.int .u8 f)) := fun w3 h => (h.cell (by exact hbl)).trans hx0
  have HZ4 : Hid (∀ w3 w4 : World, Below w.heap.size w w3 → w4.heap[b]? = w3.heap[b]? → w4.cell? ⟨b, o, none⟩ = some (.int .u8 f)) := fun w3 w4 h h2 => (World.cell?_of_block h2).trans (unhide HZ3 w3 h)
  go_wp2_with fail
  go_region_held3 (fun w' => w'.cell? ⟨b, o, none⟩ = some (.int .u8 f))
    (first
      | exact hx0
      | exact unhide HZ3 _ (by assumption)
      | exact unhide HZ4 _ _ (by assumption) (by assumption))
    (first
      | (go_at_call 42; refine (unhide HKd).mono ?_; rintro r w3 ⟨rfl, hb3⟩)
      | (go_at_call 67; refine (unhide HDo _ (by assumption)).mono ?_; rintro r w4 ⟨a4, n4, c4, w5, rfl, hq, hbq, hk4⟩)
      | fail)
  all_goals
    have HQ := hide hq
    have HBQ := hide hbq
    have HB3 := hide hb3
    clear hq hbq hb3 hk4
    go_wp2_with (go_at_call 68; refine (as_nil _ _).mono ?_; rintro r w6 ⟨rfl, hb6⟩)
    go_ret
    exact ⟨a4, n4, c4, _, w5, rfl, unhide HB3, unhide HQ, bl_trans (bl_trans (unhide HBQ) (new_below _ _)) hb6⟩

set_option maxRecDepth 10000 in
set_option maxHeartbeats 2000000 in
theorem relayAnswer_go (rb sb : Nat) (cl : Nat) (v : Value) (bs : List Int) (a : Option Addr) (n c : Nat) (w : World) (hrow : w.heap[rb]? = some (.cells #[.pointer (some ⟨sb, 0, none⟩)] 106 (0, 0))) (hcl : w.cell? ⟨sb, 3, none⟩ = some (.slice a n c)) (lsb : sb < w.heap.size) (hn : cl < n) (hv : ∃ av cv, v = .slice av bs.length cv) (hb0 : bs ≠ []) (hlen : bs.length ≤ 253) (Q : World → World → Value → Prop)
    (HA : ∀ w1, Below w.heap.size w w1 → Calls Tryz.prog 46 #[.pointer (some ⟨rb, 0, none⟩), .int .i64 cl, v] w1 fun r w' => ∃ a n c, r = .returned (.slice a n c) ∧ Q w1 w' (.slice a n c)) :
    Calls Tryz.prog 28 #[.pointer (some ⟨rb, 0, none⟩), .int .i64 cl, v] w fun r w' => ∃ a n c w1, r = .returned (.tuple #[.slice a n c, .int .i64 0]) ∧ Below w.heap.size w w1 ∧ Q w1 w' (.slice a n c) := by
  obtain ⟨av, cv, rfl⟩ := hv
  have hbp : 0 < bs.length := List.length_pos_iff.2 hb0
  have HK := hide (kept_any rb sb w hrow)
  have HA' := hide HA
  clear hrow HA
  have hl253 : (bs.length : Int) ≤ 253 := by omega
  have hl1' : (1 : Int) ≤ (bs.length : Int) := by omega
  go_enter Tryz.func28, Tryz.ntmps28
  go_wp2_with fail
  refine (unhide HK).mono ?_
  rintro r w1 ⟨rfl, hb1⟩
  have hcl1 := (hb1.cell (by exact lsb)).trans hcl
  have HHC := hide (hasClient_any sb a n c cl w1 hcl1)
  have hd : (decide ((0 : Int) ≤ (cl : Int)) && decide ((cl : Int) < (n : Int))) = true := by simp; omega
  rw [hd] at HHC
  have HB1 := hide hb1
  clear hcl1 hd hb1 HK hcl
  go_wp2_with fail
  refine (unhide HHC).mono ?_
  rintro r w2 ⟨rfl, hb2⟩
  have HB2 := hide (bl_trans (unhide HB1) hb2)
  clear HHC hb2 HB1
  go_wp2_with fail
  refine (unhide HA' w2 (unhide HB2)).mono ?_
  rintro r w3 ⟨a3, n3, c3, rfl, hq⟩
  have HQ := hide hq
  clear hq HA'
  go_wp2
  exact bodyPost_ret (by simp [results, Tryz.results28]) rfl ⟨a3, n3, c3, w2, rfl, unhide HB2, unhide HQ⟩

theorem relayAnswer_ok (rb sb : Nat) (cl : Nat) (f : Int) (v : Value) (bs : List Int) (a : Option Addr) (n c : Nat) (w : World) (hrow : w.heap[rb]? = some (.cells #[.pointer (some ⟨sb, 0, none⟩)] 106 (0, 0))) (hcl : w.cell? ⟨sb, 3, none⟩ = some (.slice a n c)) (lsb : sb < w.heap.size) (hn : cl < n) (hv : Lies w v (f :: bs)) (hb0 : bs ≠ []) (hlen : bs.length ≤ 252) (Q : World → World → Value → Prop)
    (HD : ∀ w1 v1, Below w.heap.size w w1 → Lies w1 v1 bs → v1.ownBlock = v.ownBlock → Calls Tryz.prog 67 #[.pointer (some ⟨sb, 0, none⟩), .int .i64 cl, .int .u8 f, v1] w1 fun r w' => ∃ a n c w2, r = .returned (.tuple #[.slice a n c, .nilIface]) ∧ Q w1 w2 (.slice a n c) ∧ Below w2.heap.size w2 w' ∧ ∀ k, v1.ownBlock = some k → w'.heap[k]? = w1.heap[k]?) :
    Calls Tryz.prog 28 #[.pointer (some ⟨rb, 0, none⟩), .int .i64 cl, v] w fun r w' => ∃ a n c w1 w2, r = .returned (.tuple #[.slice a n c, .int .i64 0]) ∧ Below w.heap.size w w1 ∧ Q w1 w2 (.slice a n c) ∧ Below w2.heap.size w2 w' := by
  refine (relayAnswer_go rb sb cl v (f :: bs) a n c w hrow hcl lsb hn hv.slice (by simp) (by simp; omega) (fun w0 w' x => ∃ w1 w2, Below w0.heap.size w0 w1 ∧ Q w1 w2 x ∧ Below w2.heap.size w2 w') ?_).mono ?_
  · intro w1 hb1
    refine (relayans_ok rb sb cl f v bs w1 ((hb1.block rb (Array.getElem?_eq_some_iff.1 hrow).1).trans hrow) (hv.below hb1) hb0 Q (fun w2 v1 hb2 => HD w2 v1 (bl_trans hb1 hb2))).mono ?_
    rintro r w' ⟨a, n, c, w2, w3, rfl, h1, h2, h3⟩
    exact ⟨a, n, c, rfl, w2, w3, h1, h2, h3⟩
  · rintro r w' ⟨a, n, c, w1, rfl, hb1, w2, w3, h1, h2, h3⟩
    exact ⟨a, n, c, w2, w3, rfl, bl_trans hb1 h1, h2, h3⟩
end Go.Proofs.YtfekelmldebplaaGreatDoor

namespace Go.Proofs.YtfekelmldebplaaGreatDoor
open Go.RowKit Go.MuLone

theorem Sees.lock {w : World} {sb tb kb e g cl : Nat} {l lm : Int} {X T : TypeId} {hi : Int} {L : List Int} {t : Nat} {us : List Value} {u : Value} {rs : List Rule} (h : Sees w sb tb kb e g cl l lm X T hi L t us u rs) (hub : ∀ b, u.ownBlock = some b → ∃ cs fr, w.heap[b]? = some (.cells cs 52 fr)) (l' : Int) : Sees (w.setCell ⟨sb, 0, none⟩ (.int .i32 l')) sb tb kb e g cl l' lm X T hi L t us u rs := by
  have c := Chg.set w sb 0 (.int .i32 l')
  obtain ⟨tc, h1, h2⟩ := h.tabs
  have nT : T ≠ 143 := by rcases h.kind with ⟨_, rfl⟩ | ⟨_, rfl⟩ <;> decide
  refine ⟨srow_set h.row, ⟨tc, (c.block tb (Array.getElem?_eq_some_iff.1 h1).1 (rows_ne h1 h.row (by decide))).trans h1, h2⟩, h.tab.chg c (rows_ne h.tab.row h.row nT) (rows_ne h.tab.ent h.row (by decide)), h.kind, (c.block kb (Array.getElem?_eq_some_iff.1 h.cls).1 (rows_ne h.cls h.row (by decide))).trans h.cls, h.at_, h.list.chg c (fun b e => ?_), h.few, h.t4⟩
  obtain ⟨cs, fr, q⟩ := hub b e
  exact rows_ne q h.row (by decide)

/-- What do leaves of a request that is done. -/
structure Doing (w w' : World) (sb tb kb e g cl : Nat) (X T : TypeId) (hi : Int) (L : List Int) (us : List Value) (u : Value) (rs : List Rule) (q : Req) (r : Ending) : Prop where
  sbk : w'.heap[sb]? = w.heap[sb]?
  tab : TabAt w' e g T hi (carryL L q)
  chg : Chg w w' (fun k => k = sb ∨ k = g)
  ans : ∃ a n c, r = .returned (.tuple #[.slice a n c, .nilIface]) ∧ Owns w' w.heap.size (.slice a n c) (toldL q (packT q.t (spanL (carryL L q) q.ra q.rc)))

/-- What carryOut leaves, told once more. -/
structure CaAt (w w' : World) (e g : Nat) (T : TypeId) (hi : Int) (L : List Int) (v : Value) (xs : List Int) : Prop where
  own : Owns w' w.heap.size v xs
  tab : TabAt w' e g T hi L
  chg : Chg w w' (fun k => k = g)

set_option maxRecDepth 10000 in
set_option maxHeartbeats 4000000 in
theorem do_ok (sb tb kb e g cl : Nat) (lm : Int) (X T : TypeId) (hi : Int) (L : List Int) (us : List Value) (u : Value) (rs : List Rule) (f : Int) (v : Value) (bs : List Int) (q : Req) (w : World) (h : Sees w sb tb kb e g cl 0 lm X T hi L q.t us u rs) (hk : (X = 221 ∧ q.t ≤ 1) ∨ (X = 223 ∧ 1 < q.t)) (hL : ∀ x ∈ L, 0 ≤ x ∧ x ≤ topOf q.t)
    (hq : q.Ok) (hq2 : q.Ok2) (hv : Lies w v bs) (hvb : ∀ b, v.ownBlock = some b → ∃ cs fr, w.heap[b]? = some (.cells cs 5 fr)) (hx : excL L.length rs q = 0) (hub : ∀ b, u.ownBlock = some b → ∃ cs fr, w.heap[b]? = some (.cells cs 52 fr))
    (HP : Calls Tryz.prog 156 #[.int .u8 f, v] w fun r w' => Below w.heap.size w w' ∧ ∃ vv ve, r = .returned (.tuple #[.agg (rrow q.f q.t q.ra q.rc q.wa q.wc vv q.keep ve), .nilIface]) ∧ LiesI w' vv q.vals ∧ Lies w' ve q.echo ∧ (∀ b, vv.ownBlock = some b → w.heap.size ≤ b) ∧ (∀ b, ve.ownBlock = some b → v.ownBlock = some b)) :
    Calls Tryz.prog 105 #[.pointer (some ⟨sb, 0, none⟩), .int .i64 cl, .int .u8 f, v] w fun r w' => Doing w w' sb tb kb e g cl X T hi L us u rs q r := by
  have HPP := hide HP
  have HS := hide h
  obtain ⟨av, cv, rfl⟩ := hv.slice
  have lsb := (Array.getElem?_eq_some_iff.1 h.row).1
  have ltg := (Array.getElem?_eq_some_iff.1 h.tab.ent).1
  clear HP h
  go_enter_defers Tryz.func105, Tryz.ntmps105
  go_wp2_with fail
  refine (unhide HPP).mono ?_
  rintro r w1 ⟨hb1, vv, ve, rfl, h2, h3, h4, h5⟩
  obtain ⟨a6, c6, rfl, _⟩ := id h2
  obtain ⟨a8, c8, rfl⟩ := h3.slice
  have H2 := hide h2
  have H3 := hide h3
  have H4 := hide h4
  have H5 := hide h5
  have HB1 := hide hb1
  clear h2 h3 h4 h5 hb1 HPP
  unfold rrow
  go_wp2_with fail
  have HB2 := hide (bl_trans (unhide HB1) (rule_new w1 (.cells #[.int .u8 q.f, .int .i64 q.t, .int .i64 q.ra, .int .i64 q.rc, .int .i64 q.wa, .int .i64 q.wc, .slice a6 q.vals.length c6, .int .i64 q.keep, .slice a8 q.echo.length c8] 273)))
  have HA2 : Hid ((w1.alloc (.cells #[.int .u8 q.f, .int .i64 q.t, .int .i64 q.ra, .int .i64 q.rc, .int .i64 q.wa, .int .i64 q.wc, .slice a6 q.vals.length c6, .int .i64 q.keep, .slice a8 q.echo.length c8] 273)).heap[w1.heap.size]? = some (.cells #[.int .u8 q.f, .int .i64 q.t, .int .i64 q.ra, .int .i64 q.rc, .int .i64 q.wa, .int .i64 q.wc, .slice a6 q.vals.length c6, .int .i64 q.keep, .slice a8 q.echo.length c8] 273 (0, 0))) := heap_alloc_new w1 _
  have HV2 := hide ((unhide H2).below (rule_new w1 (.cells #[.int .u8 q.f, .int .i64 q.t, .int .i64 q.ra, .int .i64 q.rc, .int .i64 q.wa, .int .i64 q.wc, .slice a6 q.vals.length c6, .int .i64 q.keep, .slice a8 q.echo.length c8] 273)))
  have HE2 := hide ((unhide H3).below (rule_new w1 (.cells #[.int .u8 q.f, .int .i64 q.t, .int .i64 q.ra, .int .i64 q.rc, .int .i64 q.wa, .int .i64 q.wc, .slice a6 q.vals.length c6, .int .i64 q.keep, .slice a8 q.echo.length c8] 273)))
  have hrq : w.heap.size ≤ w1.heap.size := (unhide HB1).size
  generalize w1.alloc (.cells #[.int .u8 q.f, .int .i64 q.t, .int .i64 q.ra, .int .i64 q.rc, .int .i64 q.wa, .int .i64 q.wc, .slice a6 q.vals.length c6, .int .i64 q.keep, .slice a8 q.echo.length c8] 273) = w2 at HB2 HA2 HV2 HE2 ⊢
  generalize w1.heap.size = rq at HA2 hrq ⊢
  clear H2 H3 HB1
  have HS2 := hide ((unhide HS).below (unhide HB2))
  have q0 := cell_of_row _ _ 0 _ _ _ (unhide HS2).row
  have f0 := frozen_of_row _ _ 0 _ _ (unhide HS2).row
  simp [srow] at q0
  refine (lock_free Tryz.muLib ⟨sb, 0, none⟩ _ q0 f0).mono ?_
  rintro r w' ⟨rfl, rfl⟩
  have hub2 : ∀ b, u.ownBlock = some b → ∃ cs fr, w2.heap[b]? = some (.cells cs 52 fr) := fun b e => by
    obtain ⟨cs, fr, q⟩ := hub b e
    exact ⟨cs, fr, ((unhide HB2).block b (Array.getElem?_eq_some_iff.1 q).1).trans q⟩
  have HS3 := hide ((unhide HS2).lock hub2 1)
  have hc3 : Chg w2 (w2.setCell ⟨sb, 0, none⟩ (.int .i32 1)) (fun k => k = sb) := Chg.set w2 sb 0 _
  have HC3 := hide ((Chg.of_below (unhide HB2) (fun k => k = sb)).trans hc3 (fun _ e _ => e))
  have HA3 := hide ((hc3.block rq (Array.getElem?_eq_some_iff.1 (unhide HA2)).1 (fun e => by have e' : rq = sb := e; omega)).trans (unhide HA2))
  have HV3 := hide (lies_chgI (unhide HV2) hc3 (fun b e e2 => by have := unhide H4 b e; have e3 : b = sb := e2; omega))
  have nve : ∀ b, (Value.slice a8 q.echo.length c8).ownBlock = some b → b ≠ sb ∧ b ≠ g := fun b e => by
    obtain ⟨cs, fr, qq⟩ := hvb b (unhide H5 b e)
    exact ⟨rows_ne qq (unhide HS).row (by decide), rows_ne qq (unhide HS).tab.ent (by decide)⟩
  have HE3 := hide ((unhide HE2).chg hc3 (fun b e => (nve b e).1))
  clear hub2 hc3 q0 f0 HV2 HE2 HA2 HS2 H4 H5
  generalize w2.setCell ⟨sb, 0, none⟩ (.int .i32 1) = w3 at HS3 HC3 HA3 HV3 HE3 ⊢
  clear HB2
  have HCk := hide (check_any sb tb kb e g cl 1 lm X T hi L us u rs q (.slice a6 q.vals.length c6) (.slice a8 q.echo.length c8) w3 (unhide HS3) hq)
  rw [hx] at HCk
  unfold rrow at HCk
  have z0 := cell_of_row _ _ 0 _ _ _ (unhide HA3)
  have z1 := cell_of_row _ _ 1 _ _ _ (unhide HA3)
  have z2 := cell_of_row _ _ 2 _ _ _ (unhide HA3)
  have z3 := cell_of_row _ _ 3 _ _ _ (unhide HA3)
  have z4 := cell_of_row _ _ 4 _ _ _ (unhide HA3)
  have z5 := cell_of_row _ _ 5 _ _ _ (unhide HA3)
  have z6 := cell_of_row _ _ 6 _ _ _ (unhide HA3)
  have z7 := cell_of_row _ _ 7 _ _ _ (unhide HA3)
  have z8 := cell_of_row _ _ 8 _ _ _ (unhide HA3)
  simp at z0 z1 z2 z3 z4 z5 z6 z7 z8
  go_wp2_with fail
  refine (unhide HCk).mono ?_
  rintro r w4 ⟨hb4, hr4⟩
  rw [if_pos rfl] at hr4
  subst hr4
  have HS4 := hide ((unhide HS3).below hb4)
  have HC4 := hide ((unhide HC3).trans (Chg.of_below hb4 (fun _ => False)) (fun _ e _ => e.elim))
  have HA4 := hide ((hb4.block rq (Array.getElem?_eq_some_iff.1 (unhide HA3)).1).trans (unhide HA3))
  have HV4 := hide ((unhide HV3).below hb4)
  have HE4 := hide ((unhide HE3).below hb4)
  clear hb4 HCk z0 z1 z2 z3 z4 z5 z6 z7 z8 HS3 HC3 HA3 HV3 HE3
  have z0 := cell_of_row _ _ 0 _ _ _ (unhide HA4)
  have z1 := cell_of_row _ _ 1 _ _ _ (unhide HA4)
  have z2 := cell_of_row _ _ 2 _ _ _ (unhide HA4)
  have z3 := cell_of_row _ _ 3 _ _ _ (unhide HA4)
  have z4 := cell_of_row _ _ 4 _ _ _ (unhide HA4)
  have z5 := cell_of_row _ _ 5 _ _ _ (unhide HA4)
  have z6 := cell_of_row _ _ 6 _ _ _ (unhide HA4)
  have z7 := cell_of_row _ _ 7 _ _ _ (unhide HA4)
  have z8 := cell_of_row _ _ 8 _ _ _ (unhide HA4)
  simp at z0 z1 z2 z3 z4 z5 z6 z7 z8
  have s2 := cell_of_row _ _ 2 _ _ _ (unhide HS4).row
  obtain ⟨tc, h1, h2⟩ := (unhide HS4).tabs
  have st := cell_of_row _ _ q.t _ _ _ h1
  rw [h2] at st
  simp [srow] at s2
  have ht4 := (unhide HS4).t4
  have ht4' : (q.t : Int) < 4 := by omega
  have hcond : (hasB L.length q.ra q.rc = true ∧ hasB L.length q.wa q.wc = true) := by
    unfold excL at hx
    split at hx
    · rename_i hh
      simpa using hh
    · simp at hx
  have hrr : q.ra + q.rc ≤ L.length := by
    have := hcond.1
    simp [hasB] at this
    omega
  have hww : q.wa + q.wc ≤ L.length := by
    have := hcond.2
    simp [hasB] at this
    omega
  have nT3 : T ≠ 3 := by rcases (unhide HS4).kind with ⟨_, rfl⟩ | ⟨_, rfl⟩ <;> decide
  have hCa : Calls Tryz.prog 158 #[.iface X (.pointer (some ⟨e, 0, none⟩)), .agg #[.int .u8 q.f, .int .i64 q.t, .int .i64 q.ra, .int .i64 q.rc, .int .i64 q.wa, .int .i64 q.wc, .slice a6 q.vals.length c6, .int .i64 q.keep, .slice a8 q.echo.length c8]] w4.drew fun r w' => ∃ a n c, r = .returned (.slice a n c) ∧ CaAt w4 w' e g T hi (carryL L q) (.slice a n c) (toldL q (packT q.t (spanL (carryL L q) q.ra q.rc))) := by
    have hbd : Below w4.heap.size w4 w4.drew := (Below.refl _ _).drew
    refine (carryOut_any e g X T hi L q a6 c6 a8 c8 w4.drew ((unhide HS4).tab.below hbd) (rows_ne (unhide HS4).tab.row (unhide HS4).tab.ent nT3) hk hq hq2 hL ((unhide HV4).below hbd) ((unhide HE4).below hbd) (fun b e => (nve b e).2) hrr hww).mono ?_
    rintro r w' ⟨v, rfl, h1, h2, h3⟩
    obtain ⟨a, n, c, rfl⟩ := own_shape h1
    exact ⟨a, n, c, rfl, h1, h2, ⟨h3.os, h3.tape, h3.output, h3.size, h3.block⟩⟩
  have HCa := hide hCa
  have HK : Hid (w4.cell? ⟨sb, 2, none⟩ = some (.slice (some ⟨tb, 0, none⟩) 4 4) ∧ w4.cell? ⟨tb, q.t, none⟩ = some (.iface X (.pointer (some ⟨e, 0, none⟩))) ∧ w4.cell? ⟨rq, 0, none⟩ = some (.int .u8 q.f) ∧ w4.cell? ⟨rq, 1, none⟩ = some (.int .i64 q.t) ∧ w4.cell? ⟨rq, 2, none⟩ = some (.int .i64 q.ra) ∧ w4.cell? ⟨rq, 3, none⟩ = some (.int .i64 q.rc) ∧ w4.cell? ⟨rq, 4, none⟩ = some (.int .i64 q.wa) ∧ w4.cell? ⟨rq, 5, none⟩ = some (.int .i64 q.wc) ∧ w4.cell? ⟨rq, 6, none⟩ = some (.slice a6 q.vals.length c6) ∧ w4.cell? ⟨rq, 7, none⟩ = some (.int .i64 q.keep) ∧ w4.cell? ⟨rq, 8, none⟩ = some (.slice a8 q.echo.length c8)) := ⟨s2, st, z0, z1, z2, z3, z4, z5, z6, z7, z8⟩
  have nsg : sb ≠ g := fun e => rows_ne (unhide HS4).tab.ent (unhide HS4).row (by decide) e.symm
  have ntg : tb ≠ g := rows_ne h1 (unhide HS4).tab.ent (by decide)
  have nrg : rq ≠ g := by omega
  have hl1 := (Array.getElem?_eq_some_iff.1 (unhide HS4).row).1
  have hl2 := (Array.getElem?_eq_some_iff.1 h1).1
  have hl3 := (Array.getElem?_eq_some_iff.1 (unhide HA4)).1
  have HK2 : Hid (∀ w' v xs, CaAt w4 w' e g T hi (carryL L q) v xs → w'.cell? ⟨sb, 2, none⟩ = some (.slice (some ⟨tb, 0, none⟩) 4 4) ∧ w'.cell? ⟨tb, q.t, none⟩ = some (.iface X (.pointer (some ⟨e, 0, none⟩))) ∧ w'.cell? ⟨rq, 0, none⟩ = some (.int .u8 q.f) ∧ w'.cell? ⟨rq, 1, none⟩ = some (.int .i64 q.t) ∧ w'.cell? ⟨rq, 2, none⟩ = some (.int .i64 q.ra) ∧ w'.cell? ⟨rq, 3, none⟩ = some (.int .i64 q.rc) ∧ w'.cell? ⟨rq, 4, none⟩ = some (.int .i64 q.wa) ∧ w'.cell? ⟨rq, 5, none⟩ = some (.int .i64 q.wc) ∧ w'.cell? ⟨rq, 6, none⟩ = some (.slice a6 q.vals.length c6) ∧ w'.cell? ⟨rq, 7, none⟩ = some (.int .i64 q.keep) ∧ w'.cell? ⟨rq, 8, none⟩ = some (.slice a8 q.echo.length c8)) := fun w' v xs h => by
    have k1 := h.chg.block sb hl1 nsg
    have k2 := h.chg.block tb hl2 ntg
    have k3 := h.chg.block rq hl3 nrg
    obtain ⟨y1, y2, y3, y4, y5, y6, y7, y8, y9, y10, y11⟩ := unhide HK
    exact ⟨(World.cell?_of_block k1).trans y1, (World.cell?_of_block k2).trans y2, (World.cell?_of_block k3).trans y3, (World.cell?_of_block k3).trans y4, (World.cell?_of_block k3).trans y5, (World.cell?_of_block k3).trans y6, (World.cell?_of_block k3).trans y7, (World.cell?_of_block k3).trans y8, (World.cell?_of_block k3).trans y9, (World.cell?_of_block k3).trans y10, (World.cell?_of_block k3).trans y11⟩
  clear h1 h2 tc hCa z0 z1 z2 z3 z4 z5 z6 z7 z8 s2 st
  go_wp2_with fail
  go_region_held3 (fun w' => w'.cell? ⟨sb, 2, none⟩ = some (.slice (some ⟨tb, 0, none⟩) 4 4) ∧ w'.cell? ⟨tb, q.t, none⟩ = some (.iface X (.pointer (some ⟨e, 0, none⟩))) ∧ w'.cell? ⟨rq, 0, none⟩ = some (.int .u8 q.f) ∧ w'.cell? ⟨rq, 1, none⟩ = some (.int .i64 q.t) ∧ w'.cell? ⟨rq, 2, none⟩ = some (.int .i64 q.ra) ∧ w'.cell? ⟨rq, 3, none⟩ = some (.int .i64 q.rc) ∧ w'.cell? ⟨rq, 4, none⟩ = some (.int .i64 q.wa) ∧ w'.cell? ⟨rq, 5, none⟩ = some (.int .i64 q.wc) ∧ w'.cell? ⟨rq, 6, none⟩ = some (.slice a6 q.vals.length c6) ∧ w'.cell? ⟨rq, 7, none⟩ = some (.int .i64 q.keep) ∧ w'.cell? ⟨rq, 8, none⟩ = some (.slice a8 q.echo.length c8))
    (first
      | exact unhide HK
      | exact unhide HK2 _ _ _ (by assumption))
    (first
      | (go_at_call 158; refine (unhide HCa).mono ?_; rintro r w5 ⟨a5, n5, c5, rfl, h5⟩)
      | fail)
  all_goals
    rename_i hHeld
    clear hHeld
    have hS5 := (h5.chg.block sb hl1 nsg).trans (unhide HS4).row
    have lk := cell_of_row _ _ 0 _ _ _ hS5
    have fk := frozen_of_row _ _ 0 _ _ hS5
    simp [srow] at lk
    have HS5 := hide hS5
    have H5 := hide h5
    clear hS5 h5 HK HK2 HCa
    go_wp2_with fail
    refine leaves_cons (f := 65) (args := #[.pointer (some ⟨sb, 0, none⟩)]) (by simp) (by simp [go_sem]) ?_
    refine (unlock_deferred Tryz.muLib ⟨sb, 0, none⟩ .returning _ lk fk).mono ?_
    rintro r u' w'' ⟨rfl, rfl, rfl⟩
    have cS : Chg w5 (w5.setCell ⟨sb, 0, none⟩ (.int .i32 0)) (fun k => k = sb) := Chg.set w5 sb 0 _
    have nT : T ≠ 143 := by rcases (unhide HS4).kind with ⟨_, rfl⟩ | ⟨_, rfl⟩ <;> decide
    have nes : e ≠ sb := rows_ne (unhide HS4).tab.row (unhide HS4).row nT
    have zw := (unhide HC4).size
    refine ⟨_, results_tmp2 rfl _ _ _, (srow_set (unhide HS5)).trans (unhide HS).row.symm, (unhide H5).tab.chg cS nes (Ne.symm nsg), ((((unhide HC4).mono (E := fun k => k = sb ∨ k = g) (fun _ _ e => .inl e)).trans (unhide H5).chg (fun _ e _ => .inr e)).trans cS (fun _ e _ => .inl e)), a5, n5, c5, rfl, ?_⟩
    refine Owns.weak (base := w4.heap.size) ?_ zw
    exact ownsRow_keep (unhide H5).own fun k h1 h2 _ => cS.block k h2 (fun e => by have e' : k = sb := e; omega)
end Go.Proofs.YtfekelmldebplaaGreatDoor

namespace Go.Proofs.YtfekelmldebplaaGreatDoor
open Go.RowKit Go.MuLone

/-- What Answer leaves of a request that is done. -/
def Answered (w : World) (B rb sb tb kb : Nat) (t : T4) (LL : List (List Rule)) (us : List Value) (q : Req) (r : Ending) (w' : World) : Prop :=
  ∃ a n c, r = .returned (.tuple #[.slice a n c, .int .i64 0]) ∧ Owns w' w.heap.size (.slice a n c) (toldL q (packT q.t (spanL (carryL (t.at q.t).L q) q.ra q.rc))) ∧ BankAt w' B rb sb tb kb (t.put q.t (carryL (t.at q.t).L q)) LL us ∧ Chg w w' (fun k => k = sb ∨ k = (t.at q.t).g)

theorem BankAt.sees {w : World} {B rb sb tb kb : Nat} {t : T4} {LL : List (List Rule)} {us : List Value} (h : BankAt w B rb sb tb kb t LL us) (i cl : Nat) (hi : i < 4) (rs : List Rule) (u : Value) (h1 : LL[cl]? = some rs) (h2 : us[cl]? = some u) (h8 : rs.length ≤ 8) :
    Sees w sb tb kb (t.at i).e (t.at i).g cl 0 t.lim (ifOf i) (tyOf i) (hiOf i) (t.at i).L i us u rs := by
  obtain ⟨⟨tc, ht, hti⟩, hT, hX⟩ := h.tab i hi
  refine ⟨?_, ⟨tc, ht, hti⟩, hT, hX, h.st.cl.row, h2, (h.st.cl.at_ cl rs u h1 h2).1, h8, hi⟩
  have := h.st.row
  rw [← h.st.cl.len] at this
  exact this
theorem BankAt.below {w w' : World} {B rb sb tb kb : Nat} {t : T4} {LL : List (List Rule)} {us : List Value} (h : BankAt w B rb sb tb kb t LL us) (hb : Below w.heap.size w w') : BankAt w' B rb sb tb kb t LL us :=
  ⟨(hb.block _ (Array.getElem?_eq_some_iff.1 h.row).1).trans h.row, ⟨(hb.block _ (Array.getElem?_eq_some_iff.1 h.st.row).1).trans h.st.row, h.st.tabs.below hb, h.st.cl.below hb, h.st.lo⟩, h.lo⟩

set_option maxHeartbeats 1000000 in
theorem answer_ok (B rb sb tb kb : Nat) (t : T4) (LL : List (List Rule)) (us : List Value) (rs : List Rule) (u : Value) (f : Int) (v : Value) (bs : List Int) (q : Req) (w : World) (h : BankAt w B rb sb tb kb t LL us) (h1 : LL[0]? = some rs) (h2 : us[0]? = some u) (h8 : rs.length ≤ 8)
    (hv : Lies w v (f :: bs)) (hvb : ∀ b, v.ownBlock = some b → ∃ cs fr, w.heap[b]? = some (.cells cs 5 fr)) (hb0 : bs ≠ []) (hlen : bs.length ≤ 252) (hbs : Bys bs)
    (hp : parseL f bs = .inr q) (hx : excL (t.at q.t).L.length rs q = 0) (hL : ∀ x ∈ (t.at q.t).L, 0 ≤ x ∧ x ≤ topOf q.t)
    (HPf : ∀ rp v W, QNew W rp f → Lies W v bs → (∀ b, v.ownBlock = some b → b ≠ rp) → Calls Tryz.prog 188 #[.pointer (some ⟨rp, 0, none⟩), v] W fun e w' => PPost W rp f v (parseL f bs) e w') :
    Calls Tryz.prog 28 #[.pointer (some ⟨rb, 0, none⟩), .int .i64 0, v] w fun r w' => Answered w B rb sb tb kb t LL us q r w' := by
  have hq := parseL_ok f bs hbs hlen q hp
  have hq2 := parseL_ok2 f bs q hp
  have hi := hq.t
  have hn : 0 < LL.length := (List.getElem?_eq_some_iff.1 h1).1
  have lsb := (Array.getElem?_eq_some_iff.1 h.st.row).1
  have hc3 := cell_of_row _ _ 3 _ _ _ h.st.row
  simp at hc3
  have hk : (ifOf q.t = 221 ∧ q.t ≤ 1) ∨ (ifOf q.t = 223 ∧ 1 < q.t) := by
    unfold ifOf
    split
    · exact .inl ⟨rfl, by omega⟩
    · exact .inr ⟨rfl, by omega⟩
  have hS0 := h.sees q.t 0 hi rs u h1 h2 h8
  refine (relayAnswer_ok rb sb 0 f v bs _ _ _ w h.row hc3 lsb hn hv hb0 hlen (fun w1 w2 x => (w2.heap[sb]? = w1.heap[sb]?) ∧ TabAt w2 (t.at q.t).e (t.at q.t).g (tyOf q.t) (hiOf q.t) (carryL (t.at q.t).L q) ∧ Chg w1 w2 (fun k => k = sb ∨ k = (t.at q.t).g) ∧ Owns w2 w1.heap.size x (toldL q (packT q.t (spanL (carryL (t.at q.t).L q) q.ra q.rc)))) ?_).mono ?_
  · intro w1 v1 hb hl ho
    have hS1 := hS0.below hb
    have hvb1 : ∀ b, v1.ownBlock = some b → ∃ cs fr, w1.heap[b]? = some (.cells cs 5 fr) := fun b e => by
      obtain ⟨cs, fr, qq⟩ := hvb b (ho ▸ e)
      exact ⟨cs, fr, (hb.block b (Array.getElem?_eq_some_iff.1 qq).1).trans qq⟩
    have hub : ∀ b, u.ownBlock = some b → ∃ cs fr, w1.heap[b]? = some (.cells cs 52 fr) := fun b e => by
      obtain ⟨cs, fr, qq⟩ := ((h.st.cl.at_ 0 rs u h1 h2).2 b e).2
      exact ⟨cs, fr, (hb.block b (Array.getElem?_eq_some_iff.1 qq).1).trans qq⟩
    have hpar : Calls Tryz.prog 156 #[.int .u8 f, v1] w1 fun r w' => Below w1.heap.size w1 w' ∧ ∃ vv ve, r = .returned (.tuple #[.agg (rrow q.f q.t q.ra q.rc q.wa q.wc vv q.keep ve), .nilIface]) ∧ LiesI w' vv q.vals ∧ Lies w' ve q.echo ∧ (∀ b, vv.ownBlock = some b → w1.heap.size ≤ b) ∧ (∀ b, ve.ownBlock = some b → v1.ownBlock = some b) := by
      refine (parseP2_any f v1 bs w1 hl (fun b e => by obtain ⟨cs, fr, qq⟩ := hvb1 b e; exact (Array.getElem?_eq_some_iff.1 qq).1) (fun rp W a b c => HPf rp v1 W a b c)).mono ?_
      rintro r w' ⟨hb', hm⟩
      rw [hp] at hm
      exact ⟨hb', hm⟩
    have hd := do_ok sb tb kb _ _ 0 t.lim _ _ _ _ us u rs f v1 bs q w1 hS1 hk hL hq hq2 hl hvb1 hx hub hpar
    obtain ⟨a1, c1, e1⟩ := hl.slice
    refine (Do_ok sb f v1 w1 ⟨_, _, _, e1⟩ (fun w2 x => (w2.heap[sb]? = w1.heap[sb]?) ∧ TabAt w2 (t.at q.t).e (t.at q.t).g (tyOf q.t) (hiOf q.t) (carryL (t.at q.t).L q) ∧ Chg w1 w2 (fun k => k = sb ∨ k = (t.at q.t).g) ∧ Owns w2 w1.heap.size x (toldL q (packT q.t (spanL (carryL (t.at q.t).L q) q.ra q.rc)))) ?_)
    refine hd.mono ?_
    rintro r w' D
    obtain ⟨a, n, c, rfl, ho2⟩ := D.ans
    refine ⟨a, n, c, rfl, ⟨D.sbk, D.tab, D.chg, ho2⟩, fun k e => ?_⟩
    obtain ⟨cs, fr, qq⟩ := hvb1 k e
    have hlk := (Array.getElem?_eq_some_iff.1 qq).1
    exact ⟨Nat.lt_of_lt_of_le hlk D.chg.size, D.chg.block k hlk (fun e => e.elim (rows_ne qq hS1.row (by decide)) (rows_ne qq hS1.tab.ent (by decide)))⟩
  · rintro r w' ⟨a, n, c, w1, w2, rfl, hb1, ⟨q1, q2, q3, q4⟩, hb2⟩
    have C2 : Chg w w2 (fun k => k = sb ∨ k = (t.at q.t).g) := (Chg.of_below hb1 (fun k => k = sb ∨ k = (t.at q.t).g)).trans q3 (fun _ e _ => e)
    have hsb : w2.heap[sb]? = w.heap[sb]? := q1.trans (hb1.block sb lsb)
    have hB2 := h.put q.t hi C2 hsb q2
    refine ⟨a, n, c, rfl, ?_, hB2.below hb2, C2.trans (Chg.of_below hb2 (fun _ => False)) (fun _ e _ => e.elim)⟩
    exact (q4.kept hb2).weak hb1.size

set_option maxRecDepth 10000 in
set_option maxHeartbeats 1000000 in
theorem done_ok (rb : Nat) (v x : Value) (ws : List Int) (w : World) (hx : Lies w x ws) (hws : Bys ws) (ans : List Int) (hans : Bys ans) (Q : Ending → World → Prop)
    (HA : Calls Tryz.prog 28 #[.pointer (some ⟨rb, 0, none⟩), .int .i64 0, v] w fun r w' => Q r w' ∧ ∃ a n c, r = .returned (.tuple #[.slice a n c, .int .i64 0]) ∧ Lies w' (.slice a n c) ans ∧ Lies w' x ws) (hv : ∃ a n c, v = .slice a n c) :
    Calls Tryz.prog 23 #[.pointer (some ⟨rb, 0, none⟩), .int .i64 0, v, x] w fun r w' => r = .returned (.bool (decide (ans = ws))) ∧ ∃ r0, Q r0 w' := by
  have H := hide HA
  obtain ⟨a, n, c, rfl⟩ := hv
  obtain ⟨a2, c2, rfl⟩ := hx.slice
  clear HA hx
  go_enter Tryz.func23, Tryz.ntmps23
  go_wp2_with fail
  refine (unhide H).mono ?_
  rintro r w1 ⟨hq, a3, n3, c3, rfl, h3, h4⟩
  have HS := hide (same_any _ _ ans ws w1 h3 h4 hans hws)
  have HQ := hide hq
  clear hq h3 h4 H
  go_wp2_with fail
  refine (unhide HS).mono ?_
  rintro r w1 ⟨rfl, rfl⟩
  clear HS
  cases hd : decide (ans = ws) with
  | false =>
    have HD := hide hd
    clear hd
    go_wp2
    go_ret
    refine ⟨?_, _, unhide HQ⟩
    rw [unhide HD]
    rfl
  | true =>
    have HD := hide hd
    clear hd
    go_wp2
    go_ret
    refine ⟨?_, _, unhide HQ⟩
    rw [unhide HD]
    rfl
end Go.Proofs.YtfekelmldebplaaGreatDoor
