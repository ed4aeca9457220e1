import Derived.Test.YtfekelmldebplaaGreatDoorVb
namespace Go.Proofs.YtfekelmldebplaaGreatDoor
open Go.RowKit

/-- What is read, of a request that was taken apart. -/
structure Req.Ok2 (q : Req) : Prop where
  rw : 1 < q.t → q.rc ≤ 125
  rd : q.echo = [] → 1 ≤ q.rc
theorem take4_ne (bs : List Int) (h : 4 ≤ bs.length) : bs.take 4 ≠ [] := fun e => by
  have := congrArg List.length e
  rw [List.length_take, List.length_nil] at this
  omega
theorem parseL_ok2 (f : Int) (bs : List Int) (q : Req) (e : parseL f bs = .inr q) : q.Ok2 := by
  have rd : ∀ t m, (1 < t → m ≤ 125) → parseRead f bs t m = .inr q → q.Ok2 := fun t m hm e => by
    unfold parseRead at e
    split at e
    · rename_i hc
      have hc2 := hc.2
      simp [countB] at hc2
      cases e
      exact ⟨fun h => by have := hm h; simp; omega, fun _ => by simp; omega⟩
    · cases e
  unfold parseL at e
  split at e
  · exact rd _ _ (by omega) e
  split at e
  · exact rd _ _ (by omega) e
  split at e
  · exact rd _ _ (by omega) e
  split at e
  · exact rd _ _ (by omega) e
  split at e
  · unfold parse5 at e
    split at e
    · rename_i hc
      cases e
      exact ⟨by simp, fun h => by simp at h; rw [h] at hc; simp at hc⟩
    · cases e
  split at e
  · unfold parse6 at e
    split at e
    · rename_i hc
      cases e
      exact ⟨by simp, fun h => by simp at h; rw [h] at hc; simp at hc⟩
    · cases e
  split at e
  · unfold parse15 at e
    split at e
    · rename_i hc
      cases e
      exact ⟨by simp, fun h => absurd h (take4_ne bs hc.1)⟩
    · cases e
  split at e
  · unfold parse16 at e
    split at e
    · rename_i hc
      cases e
      exact ⟨by simp, fun h => absurd h (take4_ne bs hc.1)⟩
    · cases e
  split at e
  · unfold parse22 at e
    split at e
    · cases e
      exact ⟨by simp, by simp⟩
    · cases e
  split at e
  · unfold parse23 at e
    split at e
    · rename_i hc
      have hc1 := hc.2.1
      simp [countB] at hc1
      cases e
      exact ⟨by simp; omega, by simp; omega⟩
    · cases e
  · cases e

def topOf (t : Nat) : Int := if t ≤ 1 then 1 else 65535
theorem writtenL_in (old : List Int) (q : Req) (hq : q.Ok) (ho : ∀ x ∈ old, 0 ≤ x ∧ x ≤ topOf q.t) (hl : old.length = q.wc) : ∀ x ∈ writtenL old q.vals q.keep, 0 ≤ x ∧ x ≤ topOf q.t := by
  intro x hx
  obtain ⟨i, hi, rfl⟩ := List.mem_map.1 hx
  have hi' := List.mem_range.1 hi
  have hiv : i < q.vals.length := by rw [hq.len]; omega
  have o1 := ho (old.getD i 0) (by simp [List.getD, List.getElem?_eq_getElem hi'])
  have v1 : 0 ≤ q.vals.getD i 0 ∧ q.vals.getD i 0 ≤ topOf q.t := by
    have := hq.vals (q.vals.getD i 0) (by simp [List.getD, List.getElem?_eq_getElem hiv])
    unfold topOf
    exact this
  have top : topOf q.t ≤ 65535 := by unfold topOf; split <;> omega
  by_cases ht : q.t ≤ 1
  · rw [hq.bit ht]
    have := maskI_zero (old.getD i 0) (q.vals.getD i 0) ⟨o1.1, by omega⟩ ⟨v1.1, by omega⟩
    rw [show (((0 : Nat) : Int)) = 0 from rfl, this]
    exact v1
  · have hk := hq.keep
    have := maskI_bd (q.keep : Int) (old.getD i 0) (q.vals.getD i 0) ⟨by omega, by omega⟩ ⟨o1.1, by omega⟩ ⟨v1.1, by omega⟩
    unfold topOf
    rw [if_neg ht]
    exact this
theorem spanL_len (L : List Int) (a n : Nat) (h : a + n ≤ L.length) : (spanL L a n).length = n := by simp [spanL]; omega
theorem spanL_in {L : List Int} {a n : Nat} {x : Int} (h : x ∈ spanL L a n) : x ∈ L := List.mem_of_mem_drop (List.mem_of_mem_take h)
theorem carryL_in (L : List Int) (q : Req) (hq : q.Ok) (ho : ∀ x ∈ L, 0 ≤ x ∧ x ≤ topOf q.t) (hw : q.wa + q.wc ≤ L.length) : ∀ x ∈ carryL L q, 0 ≤ x ∧ x ≤ topOf q.t := by
  intro x hx
  unfold carryL setL at hx
  rcases List.mem_append.1 hx with hx | hx
  · rcases List.mem_append.1 hx with hx | hx
    · exact ho x (List.mem_of_mem_take hx)
    · exact writtenL_in _ q hq (fun y hy => ho y (spanL_in hy)) (spanL_len L _ _ hw) x hx
  · exact ho x (List.mem_of_mem_drop hx)
theorem carryL_len (L : List Int) (q : Req) (hw : q.wa + q.wc ≤ L.length) : (carryL L q).length = L.length := by
  unfold carryL
  rw [setL_len]
  rw [writtenL_len, spanL_len L _ _ hw]
  exact hw
theorem meth_PackB (e : Nat) (w : World) : (method 484 221 (.pointer (some ⟨e, 0, none⟩)) "Pack").run Tryz.prog w = .ok (262, .pointer (some ⟨e, 0, none⟩)) w := by kernel_rfl
theorem meth_PackW (e : Nat) (w : World) : (method 484 223 (.pointer (some ⟨e, 0, none⟩)) "Pack").run Tryz.prog w = .ok (265, .pointer (some ⟨e, 0, none⟩)) w := by kernel_rfl

/-- The answer, whichever way. -/
theorem reqAnswer_any (q : Req) (vv : Value) (a8 : Option Addr) (c8 : Nat) (v : Value) (p : List Int) (w : World) (he : Lies w (.slice a8 q.echo.length c8) q.echo) (hel : q.echo.length ≤ 300) (hp : Lies w v p) (hpn : q.echo = [] → p ≠ [] ∧ p.length ≤ 255) :
    Calls Tryz.prog 193 #[.agg (rrow q.f q.t q.ra q.rc q.wa q.wc vv q.keep (.slice a8 q.echo.length c8)), v] w fun r w' => ∃ v', r = .returned v' ∧ Owns w' w.heap.size v' (toldL q p) ∧ Below w.heap.size w w' := by
  unfold toldL rrow
  by_cases h0 : q.echo = []
  · rw [if_pos h0, h0]
    obtain ⟨hp1, hp2⟩ := hpn h0
    obtain ⟨b, o, c, rfl, _⟩ := hp.shape hp1
    exact reqAnswer_read q.f q.t q.ra q.rc q.wa q.wc vv q.keep a8 c8 b o c p w hp hp1 hp2
  · rw [if_neg h0]
    obtain ⟨b, o, c, e, _⟩ := he.shape h0
    cases e
    exact reqAnswer_echo q.f q.t q.ra q.rc q.wa q.wc vv q.keep b o c8 q.echo w v he h0 (by omega)
end Go.Proofs.YtfekelmldebplaaGreatDoor

namespace Go.Proofs.YtfekelmldebplaaGreatDoor
open Go.RowKit

/-- What carryOut leaves. -/
def Carried (w : World) (e g : Nat) (T : TypeId) (hi : Int) (L : List Int) (q : Req) (r : Ending) (w' : World) : Prop :=
  ∃ v', r = .returned v' ∧ Owns w' w.heap.size v' (toldL q (packT q.t (spanL (carryL L q) q.ra q.rc))) ∧ TabAt w' e g T hi (carryL L q) ∧ Chg w w' (fun k => k = g)

theorem packT_len (t : Nat) (xs : List Int) : (packT t xs).length = if t ≤ 1 then (xs.length + 7) / 8 else 2 * xs.length := by
  unfold packT
  split
  · simp [packL, packN_len]
  · exact wordsL_len xs

theorem pack_any (w : World) (e g : Nat) (X T : TypeId) (hi : Int) (L : List Int) (t a c : Nat) (hk : (X = 221 ∧ t ≤ 1) ∨ (X = 223 ∧ 1 < t)) (h : TabAt w e g T hi L) (hac : a + c ≤ L.length) (hL : ∀ x ∈ L, 0 ≤ x ∧ x ≤ topOf t) (F : Nat) (hF : ∀ w, (method 484 X (.pointer (some ⟨e, 0, none⟩)) "Pack").run Tryz.prog w = .ok (F, .pointer (some ⟨e, 0, none⟩)) w) :
    Calls Tryz.prog F #[.pointer (some ⟨e, 0, none⟩), .int .i64 a, .int .i64 c] w fun r w' => ∃ v, r = .returned v ∧ Owns w' w.heap.size v (packT t (spanL L a c)) ∧ Below w.heap.size w w' := by
  rcases hk with ⟨rfl, ht⟩ | ⟨rfl, ht⟩
  · have e1 := (hF w).symm.trans (meth_PackB e w)
    cases e1
    unfold packT
    rw [if_pos ht]
    exact packBits_any w e g T hi L a c h hac (fun x hx => by have := hL x hx; unfold topOf at this; rw [if_pos ht] at this; omega)
  · have e1 := (hF w).symm.trans (meth_PackW e w)
    cases e1
    unfold packT
    rw [if_neg (by omega)]
    exact packWords_any w e g T hi L a c h hac (fun x hx => by have := hL x hx; unfold topOf at this; rw [if_neg (by omega)] at this; exact this)

theorem nil_SetB (e : Nat) (w : World) : (nilAhead 484 221 (.pointer (some ⟨e, 0, none⟩)) "Set").run Tryz.prog w = .ok (some false) w := by kernel_rfl
theorem nil_SetW (e : Nat) (w : World) : (nilAhead 484 223 (.pointer (some ⟨e, 0, none⟩)) "Set").run Tryz.prog w = .ok (some false) w := by kernel_rfl
/-- What Written gives. -/
structure WrAt (w w' : World) (xs : List Int) (g : Nat) : Prop where
  lo : w.heap.size ≤ g
  row : w'.heap[g]? = some (.cells (xs.map (Value.int .i64)).toArray 3 (0, 0))
  bel : Below w.heap.size w w'
/-- Bytes that are new. -/
structure OwAt (w w' : World) (v : Value) (xs : List Int) : Prop where
  own : Owns w' w.heap.size v xs
  bel : Below w.heap.size w w'
/-- What Set leaves. -/
structure SeAt (w w' : World) (e g : Nat) (T : TypeId) (hi : Int) (L : List Int) : Prop where
  tab : TabAt w' e g T hi L
  chg : Chg w w' (fun k => k = g)

set_option maxRecDepth 10000 in
set_option maxHeartbeats 4000000 in
theorem carryOut_B (e g : Nat) (T : TypeId) (hi : Int) (L : List Int) (q : Req) (av : Option Addr) (cv : Nat) (a8 : Option Addr) (c8 : Nat) (w : World) (hT : TabAt w e g T hi L) (hne : e ≠ g) (hk : q.t ≤ 1) (hq : q.Ok) (hq2 : q.Ok2) (hL : ∀ x ∈ L, 0 ≤ x ∧ x ≤ topOf q.t)
    (hv : LiesI w (.slice av q.vals.length cv) q.vals) (he : Lies w (.slice a8 q.echo.length c8) q.echo) (hvn : ∀ b, (Value.slice a8 q.echo.length c8).ownBlock = some b → b ≠ g) (hr : q.ra + q.rc ≤ L.length) (hw : q.wa + q.wc ≤ L.length) :
    Calls Tryz.prog 158 #[.iface 221 (.pointer (some ⟨e, 0, none⟩)), .agg (rrow q.f q.t q.ra q.rc q.wa q.wc (.slice av q.vals.length cv) q.keep (.slice a8 q.echo.length c8))] w fun r w' => Carried w e g T hi L q r w' := by
  have mG := meth_GetB e
  have mS := meth_SetB e
  have mN := nil_SetB e
  have mP := meth_PackB e
  have hTl := hT.len
  have ltg := (Array.getElem?_eq_some_iff.1 hT.ent).1
  have HB0 := hide (rule_new w (.cells (rrow q.f q.t q.ra q.rc q.wa q.wc (.slice av q.vals.length cv) q.keep (.slice a8 q.echo.length c8)) 273))
  have HA0 : Hid ((w.alloc (.cells (rrow q.f q.t q.ra q.rc q.wa q.wc (.slice av q.vals.length cv) q.keep (.slice a8 q.echo.length c8)) 273)).heap[w.heap.size]? = some (.cells (rrow q.f q.t q.ra q.rc q.wa q.wc (.slice av q.vals.length cv) q.keep (.slice a8 q.echo.length c8)) 273 (0, 0))) := heap_alloc_new w _
  have HT := hide hT
  have HQ := hide hq
  have HQ2 := hide hq2
  have HLL := hide hL
  have HV := hide hv
  have HE := hide he
  have HVN := hide hvn
  clear hT hq hq2 hL hv he hvn
  unfold rrow at HB0
  unfold rrow
  go_enter Tryz.func158, Tryz.ntmps158
  go_wp2_with fail
  generalize hW : w.alloc (.cells #[.int .u8 q.f, .int .i64 q.t, .int .i64 q.ra, .int .i64 q.rc, .int .i64 q.wa, .int .i64 q.wc, .slice av q.vals.length cv, .int .i64 q.keep, .slice a8 q.echo.length c8] 273) = W at HB0 ⊢
  have HA1 : Hid (W.heap[w.heap.size]? = some (.cells (rrow q.f q.t q.ra q.rc q.wa q.wc (.slice av q.vals.length cv) q.keep (.slice a8 q.echo.length c8)) 273 (0, 0))) := by
    rw [← hW]
    exact unhide HA0
  clear HA0 hW
  refine (getE_any W e g T hi L q.wa q.wc ((unhide HT).below (unhide HB0)) hw).mono ?_
  rintro r w1 ⟨k, rfl, hk1, hr1, hb1⟩
  have HA2 : Hid (w1.heap[w.heap.size]? = _) := (hb1.block w.heap.size (Array.getElem?_eq_some_iff.1 (unhide HA1)).1).trans (unhide HA1)
  have hb01 := bl_trans (unhide HB0) hb1
  have HB1 := hide hb01
  have hln := spanL_len L q.wa q.wc hw
  have hwl : (writtenL (spanL L q.wa q.wc) q.vals q.keep).length = q.wc := by rw [writtenL_len, hln]
  have HWr : Hid (Calls Tryz.prog 192 #[.agg (rrow q.f q.t q.ra q.rc q.wa q.wc (.slice av q.vals.length cv) q.keep (.slice a8 q.echo.length c8)), .slice (some ⟨k, 0, none⟩) q.wc q.wc] w1.drew fun e w' => ∃ g, e = .returned (.slice (some ⟨g, 0, none⟩) q.wc q.wc) ∧ WrAt w1 w' (writtenL (spanL L q.wa q.wc) q.vals q.keep) g) := by
    have := written_any q av cv (.slice a8 q.echo.length c8) k (spanL L q.wa q.wc) w1.drew ((unhide HV).below hb01.drew) hr1 (by rw [hln]; exact (unhide HQ).len) (by rw [hln]; have := (unhide HQ).wc; omega)
    rw [hln] at this
    refine this.mono ?_
    rintro e w' ⟨g, rfl, h1, h2, h3⟩
    exact ⟨g, rfl, h1, h2, ⟨h3.os, h3.tape, h3.output, h3.size, h3.block⟩⟩
  unfold rrow at HWr
  have HSe : Hid (∀ w2 g2, WrAt w1 w2 (writtenL (spanL L q.wa q.wc) q.vals q.keep) g2 → Calls Tryz.prog 263 #[.pointer (some ⟨e, 0, none⟩), .int .i64 q.wa, .slice (some ⟨g2, 0, none⟩) q.wc q.wc] w2 fun r w' => r = .returned (.tuple #[]) ∧ SeAt w2 w' e g T hi (carryL L q)) := fun w2 g2 hw2 => by
    have hlz := rowI_lies hw2.row 0 q.wc q.wc (by rw [hwl]; omega)
    rw [List.drop_zero, List.take_of_length_le (by rw [hwl]; omega)] at hlz
    refine (setE_any w2 e g T hi L q.wa _ _ (((unhide HT).below hb01).below hw2.bel) hlz (by rw [hwl]; exact hw) hne).mono ?_
    rintro r w' ⟨rfl, h1, h2⟩
    exact ⟨rfl, h1, h2⟩
  have HK : Hid (∀ w' : World, w'.heap[w.heap.size]? = some (.cells (rrow q.f q.t q.ra q.rc q.wa q.wc (.slice av q.vals.length cv) q.keep (.slice a8 q.echo.length c8)) 273 (0, 0)) → w'.cell? ⟨w.heap.size, 0, none⟩ = some (.int .u8 q.f) ∧ w'.cell? ⟨w.heap.size, 1, none⟩ = some (.int .i64 q.t) ∧ w'.cell? ⟨w.heap.size, 2, none⟩ = some (.int .i64 q.ra) ∧ w'.cell? ⟨w.heap.size, 3, none⟩ = some (.int .i64 q.rc) ∧ w'.cell? ⟨w.heap.size, 4, none⟩ = some (.int .i64 q.wa) ∧ w'.cell? ⟨w.heap.size, 5, none⟩ = some (.int .i64 q.wc) ∧ w'.cell? ⟨w.heap.size, 6, none⟩ = some (.slice av q.vals.length cv) ∧ w'.cell? ⟨w.heap.size, 7, none⟩ = some (.int .i64 q.keep) ∧ w'.cell? ⟨w.heap.size, 8, none⟩ = some (.slice a8 q.echo.length c8)) := fun w' h => by
    have z0 := cell_of_row _ _ 0 _ _ _ h
    have z1 := cell_of_row _ _ 1 _ _ _ h
    have z2 := cell_of_row _ _ 2 _ _ _ h
    have z3 := cell_of_row _ _ 3 _ _ _ h
    have z4 := cell_of_row _ _ 4 _ _ _ h
    have z5 := cell_of_row _ _ 5 _ _ _ h
    have z6 := cell_of_row _ _ 6 _ _ _ h
    have z7 := cell_of_row _ _ 7 _ _ _ h
    have z8 := cell_of_row _ _ 8 _ _ _ h
    simp [rrow] at z0 z1 z2 z3 z4 z5 z6 z7 z8
    exact ⟨z0, z1, z2, z3, z4, z5, z6, z7, z8⟩
  have HKW : Hid (∀ w2 g2, WrAt w1 w2 (writtenL (spanL L q.wa q.wc) q.vals q.keep) g2 → w2.heap[w.heap.size]? = some (.cells (rrow q.f q.t q.ra q.rc q.wa q.wc (.slice av q.vals.length cv) q.keep (.slice a8 q.echo.length c8)) 273 (0, 0))) := fun w2 g2 h => (h.bel.block w.heap.size (Array.getElem?_eq_some_iff.1 (unhide HA2)).1).trans (unhide HA2)
  have HKS : Hid (∀ w2 g2 w3, WrAt w1 w2 (writtenL (spanL L q.wa q.wc) q.vals q.keep) g2 → SeAt w2 w3 e g T hi (carryL L q) → w3.heap[w.heap.size]? = some (.cells (rrow q.f q.t q.ra q.rc q.wa q.wc (.slice av q.vals.length cv) q.keep (.slice a8 q.echo.length c8)) 273 (0, 0))) := fun w2 g2 w3 h h2 => (h2.chg.block w.heap.size (Array.getElem?_eq_some_iff.1 (unhide HKW w2 g2 h)).1 (fun e => by have e' : w.heap.size = g := e; omega)).trans (unhide HKW w2 g2 h)
  clear hb01 hb1 hr1 hk1 hln hwl HA1
  go_wp2_with fail
  go_region_held3 (fun w' => w'.cell? ⟨w.heap.size, 0, none⟩ = some (.int .u8 q.f) ∧ w'.cell? ⟨w.heap.size, 1, none⟩ = some (.int .i64 q.t) ∧ w'.cell? ⟨w.heap.size, 2, none⟩ = some (.int .i64 q.ra) ∧ w'.cell? ⟨w.heap.size, 3, none⟩ = some (.int .i64 q.rc) ∧ w'.cell? ⟨w.heap.size, 4, none⟩ = some (.int .i64 q.wa) ∧ w'.cell? ⟨w.heap.size, 5, none⟩ = some (.int .i64 q.wc) ∧ w'.cell? ⟨w.heap.size, 6, none⟩ = some (.slice av q.vals.length cv) ∧ w'.cell? ⟨w.heap.size, 7, none⟩ = some (.int .i64 q.keep) ∧ w'.cell? ⟨w.heap.size, 8, none⟩ = some (.slice a8 q.echo.length c8))
    ((refine unhide HK _ ?_; first
      | exact unhide HA2
      | exact unhide HKW _ _ (by assumption)
      | exact unhide HKS _ _ _ (by assumption) (by assumption)))
    (first
      | (go_at_call 192; refine (unhide HWr).mono ?_; rintro r w2 ⟨g2, rfl, hW2⟩)
      | (go_at_call 263; refine (unhide HSe _ _ (by assumption)).mono ?_; rintro r w3 ⟨rfl, hS3⟩)
      | fail)
  all_goals
    rename_i hHeld
    clear hHeld
    have HB2 := hide (bl_trans (unhide HB1) hW2.bel)
    have HA4 := hide (unhide HKS _ _ _ hW2 hS3)
    have HT3 := hide hS3.tab
    have HC3 := hide ((Chg.of_below (unhide HB2) (fun k => k = g)).trans hS3.chg (fun _ e _ => e))
    have HPk : Hid (Calls Tryz.prog 262 #[.pointer (some ⟨e, 0, none⟩), .int .i64 q.ra, .int .i64 q.rc] w3.drew fun r w' => ∃ a n c, r = .returned (.slice a n c) ∧ OwAt w3 w' (.slice a n c) (packT q.t (spanL (carryL L q) q.ra q.rc))) := by
      refine (pack_any w3.drew e g 221 T hi (carryL L q) q.t q.ra q.rc (.inl ⟨rfl, hk⟩) (hS3.tab.below (Below.refl _ _).drew) (by rw [carryL_len L q hw]; exact hr) (carryL_in L q (unhide HQ) (unhide HLL) hw) 262 mP).mono ?_
      rintro r w' ⟨v, rfl, h1, h2⟩
      obtain ⟨a, n, c, rfl⟩ := own_shape h1
      exact ⟨a, n, c, rfl, h1, ⟨h2.os, h2.tape, h2.output, h2.size, h2.block⟩⟩
    have hpl : q.echo = [] → packT q.t (spanL (carryL L q) q.ra q.rc) ≠ [] ∧ (packT q.t (spanL (carryL L q) q.ra q.rc)).length ≤ 255 := fun e0 => by
      have h1 := (unhide HQ2).rd e0
      have h2 := (unhide HQ2).rw
      have hsl := spanL_len (carryL L q) q.ra q.rc (by rw [carryL_len L q hw]; exact hr)
      have hl := packT_len q.t (spanL (carryL L q) q.ra q.rc)
      rw [hsl] at hl
      refine ⟨fun e1 => ?_, ?_⟩
      · rw [e1] at hl
        simp at hl
        split at hl <;> omega
      · rw [hl]
        split
        · omega
        · have := h2 (by omega)
          omega
    have HAn : Hid (∀ w4 a n c, OwAt w3 w4 (.slice a n c) (packT q.t (spanL (carryL L q) q.ra q.rc)) → Calls Tryz.prog 193 #[.agg #[.int .u8 q.f, .int .i64 q.t, .int .i64 q.ra, .int .i64 q.rc, .int .i64 q.wa, .int .i64 q.wc, .slice av q.vals.length cv, .int .i64 q.keep, .slice a8 q.echo.length c8], .slice a n c] w4 fun r w' => ∃ a n c, r = .returned (.slice a n c) ∧ OwAt w4 w' (.slice a n c) (toldL q (packT q.t (spanL (carryL L q) q.ra q.rc)))) := fun w4 a n c h4 => by
      refine (reqAnswer_any q (.slice av q.vals.length cv) a8 c8 _ _ w4 (((unhide HE).chg (unhide HC3) (unhide HVN)).below h4.bel) (unhide HQ).elen h4.own.lies hpl).mono ?_
      rintro r w' ⟨v, rfl, h1, h2⟩
      obtain ⟨a, n, c, rfl⟩ := own_shape h1
      exact ⟨a, n, c, rfl, h1, h2⟩
    have HK2 : Hid (∀ w' : World, w'.heap[w.heap.size]? = some (.cells (rrow q.f q.t q.ra q.rc q.wa q.wc (.slice av q.vals.length cv) q.keep (.slice a8 q.echo.length c8)) 273 (0, 0)) → w'.cell? ⟨w.heap.size, 0, none⟩ = some (.int .u8 q.f) ∧ w'.cell? ⟨w.heap.size, 1, none⟩ = some (.int .i64 q.t) ∧ w'.cell? ⟨w.heap.size, 2, none⟩ = some (.int .i64 q.ra) ∧ w'.cell? ⟨w.heap.size, 3, none⟩ = some (.int .i64 q.rc) ∧ w'.cell? ⟨w.heap.size, 4, none⟩ = some (.int .i64 q.wa) ∧ w'.cell? ⟨w.heap.size, 5, none⟩ = some (.int .i64 q.wc) ∧ w'.cell? ⟨w.heap.size, 6, none⟩ = some (.slice av q.vals.length cv) ∧ w'.cell? ⟨w.heap.size, 7, none⟩ = some (.int .i64 q.keep) ∧ w'.cell? ⟨w.heap.size, 8, none⟩ = some (.slice a8 q.echo.length c8)) := fun w' h => by
      have z0 := cell_of_row _ _ 0 _ _ _ h
      have z1 := cell_of_row _ _ 1 _ _ _ h
      have z2 := cell_of_row _ _ 2 _ _ _ h
      have z3 := cell_of_row _ _ 3 _ _ _ h
      have z4 := cell_of_row _ _ 4 _ _ _ h
      have z5 := cell_of_row _ _ 5 _ _ _ h
      have z6 := cell_of_row _ _ 6 _ _ _ h
      have z7 := cell_of_row _ _ 7 _ _ _ h
      have z8 := cell_of_row _ _ 8 _ _ _ h
      simp [rrow] at z0 z1 z2 z3 z4 z5 z6 z7 z8
      exact ⟨z0, z1, z2, z3, z4, z5, z6, z7, z8⟩
    have HK3 : Hid (∀ w4 v xs, OwAt w3 w4 v xs → w4.heap[w.heap.size]? = some (.cells (rrow q.f q.t q.ra q.rc q.wa q.wc (.slice av q.vals.length cv) q.keep (.slice a8 q.echo.length c8)) 273 (0, 0))) := fun w4 v xs h => (h.bel.block w.heap.size (Array.getElem?_eq_some_iff.1 (unhide HA4)).1).trans (unhide HA4)
    have HK4 : Hid (∀ w4 v xs w5 v' xs', OwAt w3 w4 v xs → OwAt w4 w5 v' xs' → w5.heap[w.heap.size]? = some (.cells (rrow q.f q.t q.ra q.rc q.wa q.wc (.slice av q.vals.length cv) q.keep (.slice a8 q.echo.length c8)) 273 (0, 0))) := fun w4 v xs w5 v' xs' h h2 => (h2.bel.block w.heap.size (Array.getElem?_eq_some_iff.1 (unhide HK3 w4 v xs h)).1).trans (unhide HK3 w4 v xs h)
    clear HSe hW2 hS3 HK HKW HKS HWr hpl
    go_wp2_with fail
    go_region_held3 (fun w' => w'.cell? ⟨w.heap.size, 0, none⟩ = some (.int .u8 q.f) ∧ w'.cell? ⟨w.heap.size, 1, none⟩ = some (.int .i64 q.t) ∧ w'.cell? ⟨w.heap.size, 2, none⟩ = some (.int .i64 q.ra) ∧ w'.cell? ⟨w.heap.size, 3, none⟩ = some (.int .i64 q.rc) ∧ w'.cell? ⟨w.heap.size, 4, none⟩ = some (.int .i64 q.wa) ∧ w'.cell? ⟨w.heap.size, 5, none⟩ = some (.int .i64 q.wc) ∧ w'.cell? ⟨w.heap.size, 6, none⟩ = some (.slice av q.vals.length cv) ∧ w'.cell? ⟨w.heap.size, 7, none⟩ = some (.int .i64 q.keep) ∧ w'.cell? ⟨w.heap.size, 8, none⟩ = some (.slice a8 q.echo.length c8))
      ((refine unhide HK2 _ ?_; first
        | exact unhide HA4
        | exact unhide HK3 _ _ _ (by assumption)
        | exact unhide HK4 _ _ _ _ _ _ (by assumption) (by assumption)))
      (first
        | (go_at_call 193; refine (unhide HAn _ _ _ _ (by assumption)).mono ?_; rintro r w5 ⟨a5, n5, c5, rfl, h5⟩)
        | (go_at_call 262; refine (unhide HPk).mono ?_; rintro r w4 ⟨a4, n4, c4, rfl, h4⟩)
        | fail)
    all_goals
      rename_i hHeld
      clear hHeld
      have hz3 := (unhide HC3).size
      have hz4 := h4.bel.size
      have HO5 := hide (h5.own.weak (Nat.le_trans hz3 hz4))
      have HT5 := hide (((unhide HT3).below h4.bel).below h5.bel)
      have HC5 := hide (((unhide HC3).trans (Chg.of_below h4.bel (fun _ => False)) (fun _ e _ => e.elim)).trans (Chg.of_below h5.bel (fun _ => False)) (fun _ e _ => e.elim))
      clear h4 h5 HAn HPk HK2 HK3 HK4
      go_wp2
      go_ret
      exact ⟨_, rfl, unhide HO5, unhide HT5, unhide HC5⟩

set_option maxRecDepth 10000 in
set_option maxHeartbeats 4000000 in
theorem carryOut_W (e g : Nat) (T : TypeId) (hi : Int) (L : List Int) (q : Req) (av : Option Addr) (cv : Nat) (a8 : Option Addr) (c8 : Nat) (w : World) (hT : TabAt w e g T hi L) (hne : e ≠ g) (hk : 1 < q.t) (hq : q.Ok) (hq2 : q.Ok2) (hL : ∀ x ∈ L, 0 ≤ x ∧ x ≤ topOf q.t)
    (hv : LiesI w (.slice av q.vals.length cv) q.vals) (he : Lies w (.slice a8 q.echo.length c8) q.echo) (hvn : ∀ b, (Value.slice a8 q.echo.length c8).ownBlock = some b → b ≠ g) (hr : q.ra + q.rc ≤ L.length) (hw : q.wa + q.wc ≤ L.length) :
    Calls Tryz.prog 158 #[.iface 223 (.pointer (some ⟨e, 0, none⟩)), .agg (rrow q.f q.t q.ra q.rc q.wa q.wc (.slice av q.vals.length cv) q.keep (.slice a8 q.echo.length c8))] w fun r w' => Carried w e g T hi L q r w' := by
  have mG := meth_GetW e
  have mS := meth_SetW e
  have mN := nil_SetW e
  have mP := meth_PackW e
  have hTl := hT.len
  have ltg := (Array.getElem?_eq_some_iff.1 hT.ent).1
  have HB0 := hide (rule_new w (.cells (rrow q.f q.t q.ra q.rc q.wa q.wc (.slice av q.vals.length cv) q.keep (.slice a8 q.echo.length c8)) 273))
  have HA0 : Hid ((w.alloc (.cells (rrow q.f q.t q.ra q.rc q.wa q.wc (.slice av q.vals.length cv) q.keep (.slice a8 q.echo.length c8)) 273)).heap[w.heap.size]? = some (.cells (rrow q.f q.t q.ra q.rc q.wa q.wc (.slice av q.vals.length cv) q.keep (.slice a8 q.echo.length c8)) 273 (0, 0))) := heap_alloc_new w _
  have HT := hide hT
  have HQ := hide hq
  have HQ2 := hide hq2
  have HLL := hide hL
  have HV := hide hv
  have HE := hide he
  have HVN := hide hvn
  clear hT hq hq2 hL hv he hvn
  unfold rrow at HB0
  unfold rrow
  go_enter Tryz.func158, Tryz.ntmps158
  go_wp2_with fail
  generalize hW : w.alloc (.cells #[.int .u8 q.f, .int .i64 q.t, .int .i64 q.ra, .int .i64 q.rc, .int .i64 q.wa, .int .i64 q.wc, .slice av q.vals.length cv, .int .i64 q.keep, .slice a8 q.echo.length c8] 273) = W at HB0 ⊢
  have HA1 : Hid (W.heap[w.heap.size]? = some (.cells (rrow q.f q.t q.ra q.rc q.wa q.wc (.slice av q.vals.length cv) q.keep (.slice a8 q.echo.length c8)) 273 (0, 0))) := by
    rw [← hW]
    exact unhide HA0
  clear HA0 hW
  refine (getE_any W e g T hi L q.wa q.wc ((unhide HT).below (unhide HB0)) hw).mono ?_
  rintro r w1 ⟨k, rfl, hk1, hr1, hb1⟩
  have HA2 : Hid (w1.heap[w.heap.size]? = _) := (hb1.block w.heap.size (Array.getElem?_eq_some_iff.1 (unhide HA1)).1).trans (unhide HA1)
  have hb01 := bl_trans (unhide HB0) hb1
  have HB1 := hide hb01
  have hln := spanL_len L q.wa q.wc hw
  have hwl : (writtenL (spanL L q.wa q.wc) q.vals q.keep).length = q.wc := by rw [writtenL_len, hln]
  have HWr : Hid (Calls Tryz.prog 192 #[.agg (rrow q.f q.t q.ra q.rc q.wa q.wc (.slice av q.vals.length cv) q.keep (.slice a8 q.echo.length c8)), .slice (some ⟨k, 0, none⟩) q.wc q.wc] w1.drew fun e w' => ∃ g, e = .returned (.slice (some ⟨g, 0, none⟩) q.wc q.wc) ∧ WrAt w1 w' (writtenL (spanL L q.wa q.wc) q.vals q.keep) g) := by
    have := written_any q av cv (.slice a8 q.echo.length c8) k (spanL L q.wa q.wc) w1.drew ((unhide HV).below hb01.drew) hr1 (by rw [hln]; exact (unhide HQ).len) (by rw [hln]; have := (unhide HQ).wc; omega)
    rw [hln] at this
    refine this.mono ?_
    rintro e w' ⟨g, rfl, h1, h2, h3⟩
    exact ⟨g, rfl, h1, h2, ⟨h3.os, h3.tape, h3.output, h3.size, h3.block⟩⟩
  unfold rrow at HWr
  have HSe : Hid (∀ w2 g2, WrAt w1 w2 (writtenL (spanL L q.wa q.wc) q.vals q.keep) g2 → Calls Tryz.prog 263 #[.pointer (some ⟨e, 0, none⟩), .int .i64 q.wa, .slice (some ⟨g2, 0, none⟩) q.wc q.wc] w2 fun r w' => r = .returned (.tuple #[]) ∧ SeAt w2 w' e g T hi (carryL L q)) := fun w2 g2 hw2 => by
    have hlz := rowI_lies hw2.row 0 q.wc q.wc (by rw [hwl]; omega)
    rw [List.drop_zero, List.take_of_length_le (by rw [hwl]; omega)] at hlz
    refine (setE_any w2 e g T hi L q.wa _ _ (((unhide HT).below hb01).below hw2.bel) hlz (by rw [hwl]; exact hw) hne).mono ?_
    rintro r w' ⟨rfl, h1, h2⟩
    exact ⟨rfl, h1, h2⟩
  have HK : Hid (∀ w' : World, w'.heap[w.heap.size]? = some (.cells (rrow q.f q.t q.ra q.rc q.wa q.wc (.slice av q.vals.length cv) q.keep (.slice a8 q.echo.length c8)) 273 (0, 0)) → w'.cell? ⟨w.heap.size, 0, none⟩ = some (.int .u8 q.f) ∧ w'.cell? ⟨w.heap.size, 1, none⟩ = some (.int .i64 q.t) ∧ w'.cell? ⟨w.heap.size, 2, none⟩ = some (.int .i64 q.ra) ∧ w'.cell? ⟨w.heap.size, 3, none⟩ = some (.int .i64 q.rc) ∧ w'.cell? ⟨w.heap.size, 4, none⟩ = some (.int .i64 q.wa) ∧ w'.cell? ⟨w.heap.size, 5, none⟩ = some (.int .i64 q.wc) ∧ w'.cell? ⟨w.heap.size, 6, none⟩ = some (.slice av q.vals.length cv) ∧ w'.cell? ⟨w.heap.size, 7, none⟩ = some (.int .i64 q.keep) ∧ w'.cell? ⟨w.heap.size, 8, none⟩ = some (.slice a8 q.echo.length c8)) := fun w' h => by
    have z0 := cell_of_row _ _ 0 _ _ _ h
    have z1 := cell_of_row _ _ 1 _ _ _ h
    have z2 := cell_of_row _ _ 2 _ _ _ h
    have z3 := cell_of_row _ _ 3 _ _ _ h
    have z4 := cell_of_row _ _ 4 _ _ _ h
    have z5 := cell_of_row _ _ 5 _ _ _ h
    have z6 := cell_of_row _ _ 6 _ _ _ h
    have z7 := cell_of_row _ _ 7 _ _ _ h
    have z8 := cell_of_row _ _ 8 _ _ _ h
    simp [rrow] at z0 z1 z2 z3 z4 z5 z6 z7 z8
    exact ⟨z0, z1, z2, z3, z4, z5, z6, z7, z8⟩
  have HKW : Hid (∀ w2 g2, WrAt w1 w2 (writtenL (spanL L q.wa q.wc) q.vals q.keep) g2 → w2.heap[w.heap.size]? = some (.cells (rrow q.f q.t q.ra q.rc q.wa q.wc (.slice av q.vals.length cv) q.keep (.slice a8 q.echo.length c8)) 273 (0, 0))) := fun w2 g2 h => (h.bel.block w.heap.size (Array.getElem?_eq_some_iff.1 (unhide HA2)).1).trans (unhide HA2)
  have HKS : Hid (∀ w2 g2 w3, WrAt w1 w2 (writtenL (spanL L q.wa q.wc) q.vals q.keep) g2 → SeAt w2 w3 e g T hi (carryL L q) → w3.heap[w.heap.size]? = some (.cells (rrow q.f q.t q.ra q.rc q.wa q.wc (.slice av q.vals.length cv) q.keep (.slice a8 q.echo.length c8)) 273 (0, 0))) := fun w2 g2 w3 h h2 => (h2.chg.block w.heap.size (Array.getElem?_eq_some_iff.1 (unhide HKW w2 g2 h)).1 (fun e => by have e' : w.heap.size = g := e; omega)).trans (unhide HKW w2 g2 h)
  clear hb01 hb1 hr1 hk1 hln hwl HA1
  go_wp2_with fail
  go_region_held3 (fun w' => w'.cell? ⟨w.heap.size, 0, none⟩ = some (.int .u8 q.f) ∧ w'.cell? ⟨w.heap.size, 1, none⟩ = some (.int .i64 q.t) ∧ w'.cell? ⟨w.heap.size, 2, none⟩ = some (.int .i64 q.ra) ∧ w'.cell? ⟨w.heap.size, 3, none⟩ = some (.int .i64 q.rc) ∧ w'.cell? ⟨w.heap.size, 4, none⟩ = some (.int .i64 q.wa) ∧ w'.cell? ⟨w.heap.size, 5, none⟩ = some (.int .i64 q.wc) ∧ w'.cell? ⟨w.heap.size, 6, none⟩ = some (.slice av q.vals.length cv) ∧ w'.cell? ⟨w.heap.size, 7, none⟩ = some (.int .i64 q.keep) ∧ w'.cell? ⟨w.heap.size, 8, none⟩ = some (.slice a8 q.echo.length c8))
    ((refine unhide HK _ ?_; first
      | exact unhide HA2
      | exact unhide HKW _ _ (by assumption)
      | exact unhide HKS _ _ _ (by assumption) (by assumption)))
    (first
      | (go_at_call 192; refine (unhide HWr).mono ?_; rintro r w2 ⟨g2, rfl, hW2⟩)
      | (go_at_call 263; refine (unhide HSe _ _ (by assumption)).mono ?_; rintro r w3 ⟨rfl, hS3⟩)
      | fail)
  all_goals
    rename_i hHeld
    clear hHeld
    have HB2 := hide (bl_trans (unhide HB1) hW2.bel)
    have HA4 := hide (unhide HKS _ _ _ hW2 hS3)
    have HT3 := hide hS3.tab
    have HC3 := hide ((Chg.of_below (unhide HB2) (fun k => k = g)).trans hS3.chg (fun _ e _ => e))
    have HPk : Hid (Calls Tryz.prog 265 #[.pointer (some ⟨e, 0, none⟩), .int .i64 q.ra, .int .i64 q.rc] w3.drew fun r w' => ∃ a n c, r = .returned (.slice a n c) ∧ OwAt w3 w' (.slice a n c) (packT q.t (spanL (carryL L q) q.ra q.rc))) := by
      refine (pack_any w3.drew e g 223 T hi (carryL L q) q.t q.ra q.rc (.inr ⟨rfl, hk⟩) (hS3.tab.below (Below.refl _ _).drew) (by rw [carryL_len L q hw]; exact hr) (carryL_in L q (unhide HQ) (unhide HLL) hw) 265 mP).mono ?_
      rintro r w' ⟨v, rfl, h1, h2⟩
      obtain ⟨a, n, c, rfl⟩ := own_shape h1
      exact ⟨a, n, c, rfl, h1, ⟨h2.os, h2.tape, h2.output, h2.size, h2.block⟩⟩
    have hpl : q.echo = [] → packT q.t (spanL (carryL L q) q.ra q.rc) ≠ [] ∧ (packT q.t (spanL (carryL L q) q.ra q.rc)).length ≤ 255 := fun e0 => by
      have h1 := (unhide HQ2).rd e0
      have h2 := (unhide HQ2).rw
      have hsl := spanL_len (carryL L q) q.ra q.rc (by rw [carryL_len L q hw]; exact hr)
      have hl := packT_len q.t (spanL (carryL L q) q.ra q.rc)
      rw [hsl] at hl
      refine ⟨fun e1 => ?_, ?_⟩
      · rw [e1] at hl
        simp at hl
        split at hl <;> omega
      · rw [hl]
        split
        · omega
        · have := h2 (by omega)
          omega
    have HAn : Hid (∀ w4 a n c, OwAt w3 w4 (.slice a n c) (packT q.t (spanL (carryL L q) q.ra q.rc)) → Calls Tryz.prog 193 #[.agg #[.int .u8 q.f, .int .i64 q.t, .int .i64 q.ra, .int .i64 q.rc, .int .i64 q.wa, .int .i64 q.wc, .slice av q.vals.length cv, .int .i64 q.keep, .slice a8 q.echo.length c8], .slice a n c] w4 fun r w' => ∃ a n c, r = .returned (.slice a n c) ∧ OwAt w4 w' (.slice a n c) (toldL q (packT q.t (spanL (carryL L q) q.ra q.rc)))) := fun w4 a n c h4 => by
      refine (reqAnswer_any q (.slice av q.vals.length cv) a8 c8 _ _ w4 (((unhide HE).chg (unhide HC3) (unhide HVN)).below h4.bel) (unhide HQ).elen h4.own.lies hpl).mono ?_
      rintro r w' ⟨v, rfl, h1, h2⟩
      obtain ⟨a, n, c, rfl⟩ := own_shape h1
      exact ⟨a, n, c, rfl, h1, h2⟩
    have HK2 : Hid (∀ w' : World, w'.heap[w.heap.size]? = some (.cells (rrow q.f q.t q.ra q.rc q.wa q.wc (.slice av q.vals.length cv) q.keep (.slice a8 q.echo.length c8)) 273 (0, 0)) → w'.cell? ⟨w.heap.size, 0, none⟩ = some (.int .u8 q.f) ∧ w'.cell? ⟨w.heap.size, 1, none⟩ = some (.int .i64 q.t) ∧ w'.cell? ⟨w.heap.size, 2, none⟩ = some (.int .i64 q.ra) ∧ w'.cell? ⟨w.heap.size, 3, none⟩ = some (.int .i64 q.rc) ∧ w'.cell? ⟨w.heap.size, 4, none⟩ = some (.int .i64 q.wa) ∧ w'.cell? ⟨w.heap.size, 5, none⟩ = some (.int .i64 q.wc) ∧ w'.cell? ⟨w.heap.size, 6, none⟩ = some (.slice av q.vals.length cv) ∧ w'.cell? ⟨w.heap.size, 7, none⟩ = some (.int .i64 q.keep) ∧ w'.cell? ⟨w.heap.size, 8, none⟩ = some (.slice a8 q.echo.length c8)) := fun w' h => by
      have z0 := cell_of_row _ _ 0 _ _ _ h
      have z1 := cell_of_row _ _ 1 _ _ _ h
      have z2 := cell_of_row _ _ 2 _ _ _ h
      have z3 := cell_of_row _ _ 3 _ _ _ h
      have z4 := cell_of_row _ _ 4 _ _ _ h
      have z5 := cell_of_row _ _ 5 _ _ _ h
      have z6 := cell_of_row _ _ 6 _ _ _ h
      have z7 := cell_of_row _ _ 7 _ _ _ h
      have z8 := cell_of_row _ _ 8 _ _ _ h
      simp [rrow] at z0 z1 z2 z3 z4 z5 z6 z7 z8
      exact ⟨z0, z1, z2, z3, z4, z5, z6, z7, z8⟩
    have HK3 : Hid (∀ w4 v xs, OwAt w3 w4 v xs → w4.heap[w.heap.size]? = some (.cells (rrow q.f q.t q.ra q.rc q.wa q.wc (.slice av q.vals.length cv) q.keep (.slice a8 q.echo.length c8)) 273 (0, 0))) := fun w4 v xs h => (h.bel.block w.heap.size (Array.getElem?_eq_some_iff.1 (unhide HA4)).1).trans (unhide HA4)
    have HK4 : Hid (∀ w4 v xs w5 v' xs', OwAt w3 w4 v xs → OwAt w4 w5 v' xs' → w5.heap[w.heap.size]? = some (.cells (rrow q.f q.t q.ra q.rc q.wa q.wc (.slice av q.vals.length cv) q.keep (.slice a8 q.echo.length c8)) 273 (0, 0))) := fun w4 v xs w5 v' xs' h h2 => (h2.bel.block w.heap.size (Array.getElem?_eq_some_iff.1 (unhide HK3 w4 v xs h)).1).trans (unhide HK3 w4 v xs h)
    clear HSe hW2 hS3 HK HKW HKS HWr hpl
    go_wp2_with fail
    go_region_held3 (fun w' => w'.cell? ⟨w.heap.size, 0, none⟩ = some (.int .u8 q.f) ∧ w'.cell? ⟨w.heap.size, 1, none⟩ = some (.int .i64 q.t) ∧ w'.cell? ⟨w.heap.size, 2, none⟩ = some (.int .i64 q.ra) ∧ w'.cell? ⟨w.heap.size, 3, none⟩ = some (.int .i64 q.rc) ∧ w'.cell? ⟨w.heap.size, 4, none⟩ = some (.int .i64 q.wa) ∧ w'.cell? ⟨w.heap.size, 5, none⟩ = some (.int .i64 q.wc) ∧ w'.cell? ⟨w.heap.size, 6, none⟩ = some (.slice av q.vals.length cv) ∧ w'.cell? ⟨w.heap.size, 7, none⟩ = some (.int .i64 q.keep) ∧ w'.cell? ⟨w.heap.size, 8, none⟩ = some (.slice a8 q.echo.length c8))
      ((refine unhide HK2 _ ?_; first
        | exact unhide HA4
        | exact unhide HK3 _ _ _ (by assumption)
        | exact unhide HK4 _ _ _ _ _ _ (by assumption) (by assumption)))
      (first
        | (go_at_call 193; refine (unhide HAn _ _ _ _ (by assumption)).mono ?_; rintro r w5 ⟨a5, n5, c5, rfl, h5⟩)
        | (go_at_call 265; refine (unhide HPk).mono ?_; rintro r w4 ⟨a4, n4, c4, rfl, h4⟩)
        | fail)
    all_goals
      rename_i hHeld
      clear hHeld
      have hz3 := (unhide HC3).size
      have hz4 := h4.bel.size
      have HO5 := hide (h5.own.weak (Nat.le_trans hz3 hz4))
      have HT5 := hide (((unhide HT3).below h4.bel).below h5.bel)
      have HC5 := hide (((unhide HC3).trans (Chg.of_below h4.bel (fun _ => False)) (fun _ e _ => e.elim)).trans (Chg.of_below h5.bel (fun _ => False)) (fun _ e _ => e.elim))
      clear h4 h5 HAn HPk HK2 HK3 HK4
      go_wp2
      go_ret
      exact ⟨_, rfl, unhide HO5, unhide HT5, unhide HC5⟩

theorem carryOut_any (e g : Nat) (X T : TypeId) (hi : Int) (L : List Int) (q : Req) (av : Option Addr) (cv : Nat) (a8 : Option Addr) (c8 : Nat) (w : World) (hT : TabAt w e g T hi L) (hne : e ≠ g) (hk : (X = 221 ∧ q.t ≤ 1) ∨ (X = 223 ∧ 1 < q.t)) (hq : q.Ok) (hq2 : q.Ok2) (hL : ∀ x ∈ L, 0 ≤ x ∧ x ≤ topOf q.t)
    (hv : LiesI w (.slice av q.vals.length cv) q.vals) (he : Lies w (.slice a8 q.echo.length c8) q.echo) (hvn : ∀ b, (Value.slice a8 q.echo.length c8).ownBlock = some b → b ≠ g) (hr : q.ra + q.rc ≤ L.length) (hw : q.wa + q.wc ≤ L.length) :
    Calls Tryz.prog 158 #[.iface X (.pointer (some ⟨e, 0, none⟩)), .agg (rrow q.f q.t q.ra q.rc q.wa q.wc (.slice av q.vals.length cv) q.keep (.slice a8 q.echo.length c8))] w fun r w' => Carried w e g T hi L q r w' := by
  rcases hk with ⟨rfl, hk⟩ | ⟨rfl, hk⟩
  · exact carryOut_B e g T hi L q av cv a8 c8 w hT hne hk hq hq2 hL hv he hvn hr hw
  · exact carryOut_W e g T hi L q av cv a8 c8 w hT hne hk hq hq2 hL hv he hvn hr hw
end Go.Proofs.YtfekelmldebplaaGreatDoor
