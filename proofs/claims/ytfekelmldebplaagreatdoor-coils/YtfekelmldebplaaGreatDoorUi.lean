import Derived.Test.YtfekelmldebplaaGreatDoorUd
import Derived.Test.YtfekelmldebplaaGreatDoorUf
import Derived.Laws.ResultCell
namespace Go.Proofs.YtfekelmldebplaaGreatDoor
open Go.RowKit

theorem SplitAt.below2 {w w1 w2 : World} {v : Value} {bs : List Int} {n k : Nat} {vr : Value} (h : SplitAt w w1 v bs n k vr) (hb : Below w1.heap.size w1 w2) : SplitAt w w2 v bs n k vr :=
  ⟨h.lo, (hb.block k (Array.getElem?_eq_some_iff.1 h.row).1).trans h.row, h.rest.below hb, h.own, bl_trans h.bel hb⟩
theorem PPost.mkL {w w' : World} {rp : Nat} {f x : Int} {n : Nat} {T : TypeId} {p : Nat} {v : Value} {res : Int ⊕ Req} (hr : res = .inl x) (hc : Chg w w' (fun k => k = rp)) (h : ErrAt w' f x n (.iface T (.pointer (some ⟨p, 0, none⟩)))) : PPost w rp f v res (.returned (.iface T (.pointer (some ⟨p, 0, none⟩)))) w' := by
  subst hr
  exact ⟨hc, n, T, p, rfl, h⟩
theorem PPost.mkR {w w' : World} {rp : Nat} {f : Int} {q : Req} {vv ve : Value} {v : Value} {res : Int ⊕ Req} (hr : res = .inr q) (hc : Chg w w' (fun k => k = rp)) (h1 : RAt w' rp q.f q.t q.ra q.rc q.wa q.wc vv q.keep ve) (h2 : LiesI w' vv q.vals) (h3 : Lies w' ve q.echo) (h4 : ∀ b, vv.ownBlock = some b → w.heap.size ≤ b) (h5 : ∀ b, ve.ownBlock = some b → v.ownBlock = some b) : PPost w rp f v res (.returned .nilIface) w' := by
  subst hr
  exact ⟨hc, vv, ve, rfl, h1, h2, h3, h4, h5⟩
/-- How many bytes entries have, and how they are unpacked. -/
def sizeF (bit : Bool) : Nat := if bit then 221 else 223
def unpackF (bit : Bool) : Nat := if bit then 222 else 224
def sizeN (bit : Bool) (n : Nat) : Nat := if bit then (n + 7) / 8 else 2 * n
def unpackN (bit : Bool) (bs : List Int) (n : Nat) : List Int := if bit then unpackB bs n else unpackW bs n
theorem size_any (bit : Bool) (n : Nat) (w : World) (hn : n ≤ 1000000) : Calls Tryz.prog (sizeF bit) #[.int .i64 n] w fun e w' => e = .returned (.int .i64 (sizeN bit n : Nat)) ∧ w' = w := by
  cases bit
  · exact wsize_n n _ w hn rfl
  · exact bsize_any n _ w hn rfl
theorem unpack_any (bit : Bool) (v : Value) (bs : List Int) (n : Nat) (w : World) (h : Lies w v bs) (hx : Bys bs) (hn : sizeN bit n ≤ bs.length) (hm : bs.length ≤ 1000) (h2 : n ≤ 2000) :
    Calls Tryz.prog (unpackF bit) #[v, .int .i64 n] w fun e w' => ∃ g, e = .returned (.slice (some ⟨g, 0, none⟩) n n) ∧ UnpAt w w' (unpackN bit bs n) g := by
  cases bit
  · exact unpW v bs n w w h hx hn (by simp [sizeN] at hn; omega) (Below.refl _ _)
  · exact unpB v bs n w w h hx hn h2 (Below.refl _ _)

/-- What is written by many, and how it was taken apart. -/
def parseW (bit : Bool) (most : Nat) (t : Nat) (f : Int) (bs : List Int) : Int ⊕ Req :=
  if 4 ≤ bs.length ∧ countB (wAt bs 1) most = true ∧ bs.length = 5 + sizeN bit (wAt bs 1) ∧ bs.getD 4 0 = ((sizeN bit (wAt bs 1) : Nat) : Int) then .inr ⟨f, t, 0, 0, wAt bs 0, wAt bs 1, unpackN bit (bs.drop 5) (wAt bs 1), 0, bs.take 4⟩ else .inl 3
theorem parse15_eq (f : Int) (bs : List Int) : parse15 f bs = parseW true 1968 0 f bs := rfl
theorem parse16_eq (f : Int) (bs : List Int) : parse16 f bs = parseW false 123 3 f bs := rfl
/-- A request whose table is known. -/
def RTab (w : World) (rp : Nat) (f t : Int) : Prop := RAt w rp f t 0 0 0 0 (.slice none 0 0) 0 (.slice none 0 0)

set_option maxRecDepth 10000 in
set_option maxHeartbeats 1000000 in
theorem parseW_false (rp : Nat) (f : Int) (t : Nat) (most : Nat) (v : Value) (bs : List Int) (w : World) (hr : RTab w rp f t) (h : Lies w v bs) (hx : Bys bs) (hl : bs.length ≤ 252) (hmo : most ≤ 1968) (hv : ∀ b, v.ownBlock = some b → b ≠ rp) :
    Calls Tryz.prog 220 #[.pointer (some ⟨rp, 0, none⟩), v, .int .i64 most, .func (.func 223) #[] #[], .func (.func 224) #[] #[]] w fun e w' => PPost w rp f v (parseW false most t f bs) e w' := by
  obtain ⟨av, cv, rfl⟩ := h.slice
  by_cases h4 : bs.length < 4
  · have HR : Hid (parseW false most t f bs = .inl 3) := by
      show _ = _
      unfold parseW
      rw [if_neg (by omega)]
    have HS := hide (split_no _ bs 2 w h (by omega) h4)
    rw [show ((2 : Nat) : Int) = 2 from rfl] at HS
    have HW := hide (wrongSize_any rp _ _ _ _ _ _ _ _ _ w hr)
    clear h hr hx
    go_enter Tryz.func220, Tryz.ntmps220
    go_wp2_with fail
    refine (unhide HS).mono ?_
    rintro e w ⟨rfl, rfl⟩
    clear HS
    go_wp2_with fail
    refine (unhide HW).mono ?_
    rintro e w1 ⟨n, v', rfl, he, hb⟩
    obtain ⟨T, p, rfl⟩ := he.iface
    have HE := hide he
    clear he HW
    go_wp2
    go_ret
    exact PPost.err (unhide HR) (unhide HE) hb
  · have HS := hide (split_yes _ bs 2 w h hx (by omega) (by omega) (by omega) (by omega))
    rw [show ((2 : Nat) : Int) = 2 from rfl] at HS
    have HR0 := hide hr
    have H := hide h
    have HX := hide hx
    have HVV := hide hv
    have hw1 := wAt_lt bs hx 1
    clear h hr hx hv
    have HC := hide (fun w => isCount_any (wAt bs 1) most w)
    cases hc : countB (wAt bs 1) most with
    | false =>
      have HR : Hid (parseW false most t f bs = .inl 3) := by
        show _ = _
        unfold parseW
        rw [if_neg (by rw [hc]; simp)]
      rw [hc] at HC
      clear hc
      go_enter Tryz.func220, Tryz.ntmps220
      go_wp2_with fail
      refine (unhide HS).mono ?_
      rintro e w1 ⟨k, a, m, c, rfl, hs⟩
      have q1 := unpW_at bs 2 1 w1 k hs.row (by omega)
      have HW := hide (wrongCount_any rp _ _ _ _ _ _ _ _ _ w1 ((unhide HR0).below hs.bel))
      have HS1 := hide hs
      clear hs HS
      go_wp2_with (go_at_call 217; refine (unhide HC _).mono ?_; rintro e w1 ⟨rfl, rfl⟩)
      refine (unhide HW).mono ?_
      rintro e w2 ⟨n, v', rfl, he, hb⟩
      obtain ⟨T, p, rfl⟩ := he.iface
      have HE := hide he
      clear he HW
      go_wp2
      go_ret
      exact PPost.err (unhide HR) (unhide HE) (bl_trans (unhide HS1).bel hb)
    | true =>
      rw [hc] at HC
      have hn1 : 1 ≤ wAt bs 1 ∧ wAt bs 1 ≤ most := by simp [countB] at hc; exact hc
      have HSz := hide (fun w => size_any false (wAt bs 1) w (by omega))
      simp only [sizeF, if_false, Bool.false_eq_true] at HSz
      cases hz : sizedB (bs.drop 4) (sizeN false (wAt bs 1)) with
      | false =>
        have HR : Hid (parseW false most t f bs = .inl 3) := by
          show _ = _
          unfold parseW
          rw [if_neg (fun e => by
            obtain ⟨e1, _, e2, e3⟩ := e
            have : sizedB (bs.drop 4) (sizeN false (wAt bs 1)) = true := by
              simp only [sizedB, List.length_drop, drop_getD, Bool.and_eq_true, decide_eq_true_eq]
              exact ⟨by omega, by simpa using e3⟩
            rw [hz] at this
            cases this)]
        have HZ : Hid (∀ w' vr, Lies w' vr (bs.drop 4) → Calls Tryz.prog 225 #[vr, .int .i64 (sizeN false (wAt bs 1) : Nat)] w' fun e w'' => e = .returned (.tuple #[.slice none 0 0, .bool false]) ∧ Below w'.heap.size w' w'') := fun w' vr hh => sized_no vr _ _ w' hh ((unhide HX).drop 4) (by simp; omega) (by simp [sizeN]; omega) hz
        clear hc hz
        generalize ((sizeN false (wAt bs 1) : Nat) : Int) = sz at HSz HZ
        go_enter Tryz.func220, Tryz.ntmps220
        go_wp2_with fail
        refine (unhide HS).mono ?_
        rintro e w1 ⟨k, a, m, c, rfl, hs⟩
        have q1 := unpW_at bs 2 1 w1 k hs.row (by omega)
        have HW := hide (fun w2 hb => wrongSize_any rp _ _ _ _ _ _ _ _ _ w2 (((unhide HR0).below hs.bel).below (w' := w2) hb))
        have HZ1 := hide (unhide HZ w1 _ hs.rest)
        have HS1 := hide hs
        clear hs HS HZ
        go_wp2_with (first
          | (go_at_call 217; refine (unhide HC _).mono ?_; rintro e w1 ⟨rfl, rfl⟩)
          | (go_at_call 223; refine (unhide HSz _).mono ?_; rintro e w1 ⟨rfl, rfl⟩))
        refine (unhide HZ1).mono ?_
        rintro e w2 ⟨rfl, hb2⟩
        have HW2 := hide (unhide HW w2 hb2)
        have HB2 := hide hb2
        clear HW hb2 HZ1
        go_wp2_with fail
        refine (unhide HW2).mono ?_
        rintro e w3 ⟨n, v', rfl, he, hb⟩
        obtain ⟨T, p, rfl⟩ := he.iface
        have HE := hide he
        clear he HW2
        go_wp2
        go_ret
        exact PPost.err (unhide HR) (unhide HE) (bl_trans (bl_trans (unhide HS1).bel (unhide HB2)) hb)
      | true =>
        have hz2 : (bs.drop 4).length = 1 + sizeN false (wAt bs 1) ∧ (bs.drop 4).getD 0 0 = ((sizeN false (wAt bs 1) : Nat) : Int) := by
          simp only [sizedB, Bool.and_eq_true, decide_eq_true_eq] at hz
          exact hz
        have hz3 : 1 ≤ sizeN false (wAt bs 1) ∧ sizeN false (wAt bs 1) ≤ (bs.drop 5).length := by
          have := hz2.1
          simp [sizeN] at this ⊢
          omega
        have HQ : Hid (parseW false most t f bs = .inr ⟨f, t, 0, 0, wAt bs 0, wAt bs 1, unpackN false (bs.drop 5) (wAt bs 1), 0, bs.take 4⟩) := by
          show _ = _
          unfold parseW
          rw [if_pos ⟨by omega, hc, by have := hz2.1; simp at this; omega, by have := hz2.2; rw [drop_getD] at this; exact this⟩]
        have HZ : Hid (∀ w' vr, Lies w' vr (bs.drop 4) → Calls Tryz.prog 225 #[vr, .int .i64 (sizeN false (wAt bs 1) : Nat)] w' fun e w'' => ∃ a m c, e = .returned (.tuple #[.slice a m c, .bool true]) ∧ Lies w'' (.slice a m c) ((bs.drop 4).drop 1) ∧ (Value.slice a m c).ownBlock = vr.ownBlock ∧ Below w'.heap.size w' w'') := fun w' vr hh => sized_yes vr _ _ w' hh ((unhide HX).drop 4) (by simp; omega) hz3.1 hz
        rw [List.drop_drop, show 4 + 1 = 5 from rfl] at HZ
        have HU : Hid (∀ w' vp, Lies w' vp (bs.drop 5) → Calls Tryz.prog 224 #[vp, .int .i64 (wAt bs 1 : Nat)] w' fun e w'' => ∃ g, e = .returned (.slice (some ⟨g, 0, none⟩) (wAt bs 1) (wAt bs 1)) ∧ UnpAt w' w'' (unpackN false (bs.drop 5) (wAt bs 1)) g) := fun w' vp hh => unpack_any false vp _ _ w' hh ((unhide HX).drop 5) hz3.2 (by simp; omega) (by omega)
        have HULn : Hid ((unpackN false (bs.drop 5) (wAt bs 1)).length = wAt bs 1) := unpackW_len _ _
        clear hc hz hz2 hz3
        generalize ((sizeN false (wAt bs 1) : Nat) : Int) = sz at HSz HZ
        go_enter Tryz.func220, Tryz.ntmps220
        go_wp2_with fail
        refine (unhide HS).mono ?_
        rintro e w1 ⟨k, a, m, c, rfl, hs⟩
        have HML : Hid (m = bs.length - 4) := by show _ = _; have := hs.rest.len; simpa using this
        have q1 := unpW_at bs 2 1 w1 k hs.row (by omega)
        have HZ1 := hide (unhide HZ w1 _ hs.rest)
        have HS1 := hide hs
        clear hs HS HZ
        go_wp2_with (first
          | (go_at_call 217; refine (unhide HC _).mono ?_; rintro e w1 ⟨rfl, rfl⟩)
          | (go_at_call 223; refine (unhide HSz _).mono ?_; rintro e w1 ⟨rfl, rfl⟩))
        refine (unhide HZ1).mono ?_
        rintro e w2 ⟨a2, m2, c2, rfl, hp2, hpo, hb2⟩
        have HPo : Hid ((Value.slice a2 m2 c2).ownBlock = (Value.slice av bs.length cv).ownBlock) := hpo.trans (unhide HS1).own
        clear hpo
        have hs2 := (unhide HS1).below2 hb2
        have hr2 := (unhide HR0).below hs2.bel
        have q0 := unpW_at bs 2 0 w2 k hs2.row (by omega)
        have c4 := cell_of_row _ _ 4 _ _ _ hr2.row
        have f4 := frozen_of_row _ _ 4 _ _ hr2.row
        have c5 := cell_of_row _ _ 5 _ _ _ hr2.row
        have f5 := frozen_of_row _ _ 5 _ _ hr2.row
        simp [rrow] at c4 c5
        have hlr : rp < w.heap.size := (unhide HR0).lt
        have hlk := (unhide HS1).lo
        have hne : k ≠ rp := by omega
        have HP2 := hide hp2
        have S2 := hide hs2
        have R2 := hide hr2
        clear hp2 hb2 hs2 hr2 HZ1 HS1 q1
        go_wp2_with fail
        have C3 := hide (((Chg.refl w2 (fun k => k = rp)).put rp 4 (.int .i64 (wAt bs 0 : Nat)) rfl).put rp 5 (.int .i64 (wAt bs 1 : Nat)) rfl)
        have R3 := hide (((unhide R2).s4 (wAt bs 0 : Nat)).s5 (wAt bs 1 : Nat))
        generalize (w2.setCell ⟨rp, 4, none⟩ (.int .i64 (wAt bs 0 : Nat))).setCell ⟨rp, 5, none⟩ (.int .i64 (wAt bs 1 : Nat)) = W3 at R3 C3 ⊢
        clear c4 f4 c5 f5 q0
        have hne2 : ∀ b, (Value.slice a2 m2 c2).ownBlock = some b → b ≠ rp := fun b e => unhide HVV b (by rw [← (unhide HPo)]; exact e)
        refine (unhide HU W3 _ ((unhide HP2).chg (unhide C3) hne2)).mono ?_
        rintro e w5 ⟨g, rfl, hU⟩
        have HA := hide (ahead_any _ bs a m c w5 (((unhide H).below (unhide S2).bel).chg (unhide C3) (unhide HVV) |>.below hU.bel) (fun e => by rw [e] at h4; simp at h4) (by have := unhide HML; omega) (by omega))
        have R5 := hide ((unhide R3).below hU.bel)
        have HUU := hide hU
        clear hU
        go_wp2_with fail
        refine (unhide HA).mono ?_
        rintro e w6 ⟨ve, rfl, hve, hvo, ⟨a6, m6, c6', rfl⟩, hb6⟩
        have hr6 := (unhide R5).below hb6
        have c6 := cell_of_row _ _ 6 _ _ _ hr6.row
        have f6 := frozen_of_row _ _ 6 _ _ hr6.row
        have c8 := cell_of_row _ _ 8 _ _ _ hr6.row
        have f8 := frozen_of_row _ _ 8 _ _ hr6.row
        simp only [rrow] at c6 c8
        have hlg := (unhide HUU).lo
        have hl3 := (unhide C3).size
        have hl2 := (unhide S2).bel.size
        have hgr : g ≠ rp := by omega
        have cc : Chg w6 ((w6.setCell ⟨rp, 6, none⟩ (.slice (some ⟨g, 0, none⟩) (wAt bs 1) (wAt bs 1))).setCell ⟨rp, 8, none⟩ (.slice a6 m6 c6')) (fun k => k = rp) := ((Chg.refl w6 (fun k => k = rp)).put rp 6 _ rfl).put rp 8 _ rfl
        have CF := hide (((((Chg.of_below (unhide S2).bel (fun k => k = rp)).trans (unhide C3) (fun _ e _ => e)).trans (Chg.of_below (unhide HUU).bel (fun _ => False)) (fun _ e _ => e.elim)).trans (Chg.of_below hb6 (fun _ => False)) (fun _ e _ => e.elim)).trans cc (fun _ e _ => e))
        have RF := hide ((hr6.s6 (.slice (some ⟨g, 0, none⟩) (wAt bs 1) (wAt bs 1))).s8 (.slice a6 m6 c6'))
        have hrow6 := (hb6.block g (Array.getElem?_eq_some_iff.1 (unhide HUU).row).1).trans (unhide HUU).row
        have LF : Hid (LiesI ((w6.setCell ⟨rp, 6, none⟩ (.slice (some ⟨g, 0, none⟩) (wAt bs 1) (wAt bs 1))).setCell ⟨rp, 8, none⟩ (.slice a6 m6 c6')) (.slice (some ⟨g, 0, none⟩) (wAt bs 1) (wAt bs 1)) (unpackN false (bs.drop 5) (wAt bs 1))) := by
          have q := lies_chgI (rowI_lies hrow6 0 (wAt bs 1) (wAt bs 1) (by rw [unhide HULn]; omega)) cc (fun b e => by simp [Value.ownBlock] at e; subst e; exact hgr)
          rw [List.drop_zero, List.take_of_length_le (by rw [unhide HULn]; omega)] at q
          exact q
        have EF : Hid (Lies ((w6.setCell ⟨rp, 6, none⟩ (.slice (some ⟨g, 0, none⟩) (wAt bs 1) (wAt bs 1))).setCell ⟨rp, 8, none⟩ (.slice a6 m6 c6')) (.slice a6 m6 c6') (bs.take 4)) := by
          have q := hve.chg cc (fun b e => unhide HVV b (hvo ▸ e))
          rw [unhide HML, show bs.length - (bs.length - 4) = 4 by omega] at q
          exact q
        have GF : Hid (∀ b, (Value.slice (some ⟨g, 0, none⟩) (wAt bs 1) (wAt bs 1)).ownBlock = some b → w.heap.size ≤ b) := fun b e => by simp [Value.ownBlock] at e; omega
        have VF : Hid (∀ b, (Value.slice a6 m6 c6').ownBlock = some b → (Value.slice av bs.length cv).ownBlock = some b) := fun b e => hvo ▸ e
        clear hrow6 cc hve hvo hb6 hr6 HA hgr hne hne2 hlg hl3 hl2
        go_wp2
        go_ret
        refine ⟨unhide CF, ?_⟩
        rw [unhide HQ]
        exact ⟨_, _, rfl, unhide RF, unhide LF, unhide EF, unhide GF, unhide VF⟩

set_option maxRecDepth 10000 in
set_option maxHeartbeats 1000000 in
theorem parseW_true (rp : Nat) (f : Int) (t : Nat) (most : Nat) (v : Value) (bs : List Int) (w : World) (hr : RTab w rp f t) (h : Lies w v bs) (hx : Bys bs) (hl : bs.length ≤ 252) (hmo : most ≤ 1968) (hv : ∀ b, v.ownBlock = some b → b ≠ rp) :
    Calls Tryz.prog 220 #[.pointer (some ⟨rp, 0, none⟩), v, .int .i64 most, .func (.func 221) #[] #[], .func (.func 222) #[] #[]] w fun e w' => PPost w rp f v (parseW true most t f bs) e w' := by
  obtain ⟨av, cv, rfl⟩ := h.slice
  by_cases h4 : bs.length < 4
  · have HR : Hid (parseW true most t f bs = .inl 3) := by
      show _ = _
      unfold parseW
      rw [if_neg (by omega)]
    have HS := hide (split_no _ bs 2 w h (by omega) h4)
    rw [show ((2 : Nat) : Int) = 2 from rfl] at HS
    have HW := hide (wrongSize_any rp _ _ _ _ _ _ _ _ _ w hr)
    clear h hr hx
    go_enter Tryz.func220, Tryz.ntmps220
    go_wp2_with fail
    refine (unhide HS).mono ?_
    rintro e w ⟨rfl, rfl⟩
    clear HS
    go_wp2_with fail
    refine (unhide HW).mono ?_
    rintro e w1 ⟨n, v', rfl, he, hb⟩
    obtain ⟨T, p, rfl⟩ := he.iface
    have HE := hide he
    clear he HW
    go_wp2
    go_ret
    exact PPost.err (unhide HR) (unhide HE) hb
  · have HS := hide (split_yes _ bs 2 w h hx (by omega) (by omega) (by omega) (by omega))
    rw [show ((2 : Nat) : Int) = 2 from rfl] at HS
    have HR0 := hide hr
    have H := hide h
    have HX := hide hx
    have HVV := hide hv
    have hw1 := wAt_lt bs hx 1
    clear h hr hx hv
    have HC := hide (fun w => isCount_any (wAt bs 1) most w)
    cases hc : countB (wAt bs 1) most with
    | false =>
      have HR : Hid (parseW true most t f bs = .inl 3) := by
        show _ = _
        unfold parseW
        rw [if_neg (by rw [hc]; simp)]
      rw [hc] at HC
      clear hc
      go_enter Tryz.func220, Tryz.ntmps220
      go_wp2_with fail
      refine (unhide HS).mono ?_
      rintro e w1 ⟨k, a, m, c, rfl, hs⟩
      have q1 := unpW_at bs 2 1 w1 k hs.row (by omega)
      have HW := hide (wrongCount_any rp _ _ _ _ _ _ _ _ _ w1 ((unhide HR0).below hs.bel))
      have HS1 := hide hs
      clear hs HS
      go_wp2_with (go_at_call 217; refine (unhide HC _).mono ?_; rintro e w1 ⟨rfl, rfl⟩)
      refine (unhide HW).mono ?_
      rintro e w2 ⟨n, v', rfl, he, hb⟩
      obtain ⟨T, p, rfl⟩ := he.iface
      have HE := hide he
      clear he HW
      go_wp2
      go_ret
      exact PPost.err (unhide HR) (unhide HE) (bl_trans (unhide HS1).bel hb)
    | true =>
      rw [hc] at HC
      have hn1 : 1 ≤ wAt bs 1 ∧ wAt bs 1 ≤ most := by simp [countB] at hc; exact hc
      have HSz := hide (fun w => size_any true (wAt bs 1) w (by omega))
      simp only [sizeF, if_true] at HSz
      cases hz : sizedB (bs.drop 4) (sizeN true (wAt bs 1)) with
      | false =>
        have HR : Hid (parseW true most t f bs = .inl 3) := by
          show _ = _
          unfold parseW
          rw [if_neg (fun e => by
            obtain ⟨e1, _, e2, e3⟩ := e
            have : sizedB (bs.drop 4) (sizeN true (wAt bs 1)) = true := by
              simp only [sizedB, List.length_drop, drop_getD, Bool.and_eq_true, decide_eq_true_eq]
              exact ⟨by omega, by simpa using e3⟩
            rw [hz] at this
            cases this)]
        have HZ : Hid (∀ w' vr, Lies w' vr (bs.drop 4) → Calls Tryz.prog 225 #[vr, .int .i64 (sizeN true (wAt bs 1) : Nat)] w' fun e w'' => e = .returned (.tuple #[.slice none 0 0, .bool false]) ∧ Below w'.heap.size w' w'') := fun w' vr hh => sized_no vr _ _ w' hh ((unhide HX).drop 4) (by simp; omega) (by simp [sizeN]; omega) hz
        clear hc hz
        generalize ((sizeN true (wAt bs 1) : Nat) : Int) = sz at HSz HZ
        go_enter Tryz.func220, Tryz.ntmps220
        go_wp2_with fail
        refine (unhide HS).mono ?_
        rintro e w1 ⟨k, a, m, c, rfl, hs⟩
        have q1 := unpW_at bs 2 1 w1 k hs.row (by omega)
        have HW := hide (fun w2 hb => wrongSize_any rp _ _ _ _ _ _ _ _ _ w2 (((unhide HR0).below hs.bel).below (w' := w2) hb))
        have HZ1 := hide (unhide HZ w1 _ hs.rest)
        have HS1 := hide hs
        clear hs HS HZ
        go_wp2_with (first
          | (go_at_call 217; refine (unhide HC _).mono ?_; rintro e w1 ⟨rfl, rfl⟩)
          | (go_at_call 221; refine (unhide HSz _).mono ?_; rintro e w1 ⟨rfl, rfl⟩))
        refine (unhide HZ1).mono ?_
        rintro e w2 ⟨rfl, hb2⟩
        have HW2 := hide (unhide HW w2 hb2)
        have HB2 := hide hb2
        clear HW hb2 HZ1
        go_wp2_with fail
        refine (unhide HW2).mono ?_
        rintro e w3 ⟨n, v', rfl, he, hb⟩
        obtain ⟨T, p, rfl⟩ := he.iface
        have HE := hide he
        clear he HW2
        go_wp2
        go_ret
        exact PPost.err (unhide HR) (unhide HE) (bl_trans (bl_trans (unhide HS1).bel (unhide HB2)) hb)
      | true =>
        have hz2 : (bs.drop 4).length = 1 + sizeN true (wAt bs 1) ∧ (bs.drop 4).getD 0 0 = ((sizeN true (wAt bs 1) : Nat) : Int) := by
          simp only [sizedB, Bool.and_eq_true, decide_eq_true_eq] at hz
          exact hz
        have hz3 : 1 ≤ sizeN true (wAt bs 1) ∧ sizeN true (wAt bs 1) ≤ (bs.drop 5).length := by
          have := hz2.1
          simp [sizeN] at this ⊢
          omega
        have HQ : Hid (parseW true most t f bs = .inr ⟨f, t, 0, 0, wAt bs 0, wAt bs 1, unpackN true (bs.drop 5) (wAt bs 1), 0, bs.take 4⟩) := by
          show _ = _
          unfold parseW
          rw [if_pos ⟨by omega, hc, by have := hz2.1; simp at this; omega, by have := hz2.2; rw [drop_getD] at this; exact this⟩]
        have HZ : Hid (∀ w' vr, Lies w' vr (bs.drop 4) → Calls Tryz.prog 225 #[vr, .int .i64 (sizeN true (wAt bs 1) : Nat)] w' fun e w'' => ∃ a m c, e = .returned (.tuple #[.slice a m c, .bool true]) ∧ Lies w'' (.slice a m c) ((bs.drop 4).drop 1) ∧ (Value.slice a m c).ownBlock = vr.ownBlock ∧ Below w'.heap.size w' w'') := fun w' vr hh => sized_yes vr _ _ w' hh ((unhide HX).drop 4) (by simp; omega) hz3.1 hz
        rw [List.drop_drop, show 4 + 1 = 5 from rfl] at HZ
        have HU : Hid (∀ w' vp, Lies w' vp (bs.drop 5) → Calls Tryz.prog 222 #[vp, .int .i64 (wAt bs 1 : Nat)] w' fun e w'' => ∃ g, e = .returned (.slice (some ⟨g, 0, none⟩) (wAt bs 1) (wAt bs 1)) ∧ UnpAt w' w'' (unpackN true (bs.drop 5) (wAt bs 1)) g) := fun w' vp hh => unpack_any true vp _ _ w' hh ((unhide HX).drop 5) hz3.2 (by simp; omega) (by omega)
        have HULn : Hid ((unpackN true (bs.drop 5) (wAt bs 1)).length = wAt bs 1) := unpackB_len _ _
        clear hc hz hz2 hz3
        generalize ((sizeN true (wAt bs 1) : Nat) : Int) = sz at HSz HZ
        go_enter Tryz.func220, Tryz.ntmps220
        go_wp2_with fail
        refine (unhide HS).mono ?_
        rintro e w1 ⟨k, a, m, c, rfl, hs⟩
        have HML : Hid (m = bs.length - 4) := by show _ = _; have := hs.rest.len; simpa using this
        have q1 := unpW_at bs 2 1 w1 k hs.row (by omega)
        have HZ1 := hide (unhide HZ w1 _ hs.rest)
        have HS1 := hide hs
        clear hs HS HZ
        go_wp2_with (first
          | (go_at_call 217; refine (unhide HC _).mono ?_; rintro e w1 ⟨rfl, rfl⟩)
          | (go_at_call 221; refine (unhide HSz _).mono ?_; rintro e w1 ⟨rfl, rfl⟩))
        refine (unhide HZ1).mono ?_
        rintro e w2 ⟨a2, m2, c2, rfl, hp2, hpo, hb2⟩
        have HPo : Hid ((Value.slice a2 m2 c2).ownBlock = (Value.slice av bs.length cv).ownBlock) := hpo.trans (unhide HS1).own
        clear hpo
        have hs2 := (unhide HS1).below2 hb2
        have hr2 := (unhide HR0).below hs2.bel
        have q0 := unpW_at bs 2 0 w2 k hs2.row (by omega)
        have c4 := cell_of_row _ _ 4 _ _ _ hr2.row
        have f4 := frozen_of_row _ _ 4 _ _ hr2.row
        have c5 := cell_of_row _ _ 5 _ _ _ hr2.row
        have f5 := frozen_of_row _ _ 5 _ _ hr2.row
        simp [rrow] at c4 c5
        have hlr : rp < w.heap.size := (unhide HR0).lt
        have hlk := (unhide HS1).lo
        have hne : k ≠ rp := by omega
        have HP2 := hide hp2
        have S2 := hide hs2
        have R2 := hide hr2
        clear hp2 hb2 hs2 hr2 HZ1 HS1 q1
        go_wp2_with fail
        have C3 := hide (((Chg.refl w2 (fun k => k = rp)).put rp 4 (.int .i64 (wAt bs 0 : Nat)) rfl).put rp 5 (.int .i64 (wAt bs 1 : Nat)) rfl)
        have R3 := hide (((unhide R2).s4 (wAt bs 0 : Nat)).s5 (wAt bs 1 : Nat))
        generalize (w2.setCell ⟨rp, 4, none⟩ (.int .i64 (wAt bs 0 : Nat))).setCell ⟨rp, 5, none⟩ (.int .i64 (wAt bs 1 : Nat)) = W3 at R3 C3 ⊢
        clear c4 f4 c5 f5 q0
        have hne2 : ∀ b, (Value.slice a2 m2 c2).ownBlock = some b → b ≠ rp := fun b e => unhide HVV b (by rw [← (unhide HPo)]; exact e)
        refine (unhide HU W3 _ ((unhide HP2).chg (unhide C3) hne2)).mono ?_
        rintro e w5 ⟨g, rfl, hU⟩
        have HA := hide (ahead_any _ bs a m c w5 (((unhide H).below (unhide S2).bel).chg (unhide C3) (unhide HVV) |>.below hU.bel) (fun e => by rw [e] at h4; simp at h4) (by have := unhide HML; omega) (by omega))
        have R5 := hide ((unhide R3).below hU.bel)
        have HUU := hide hU
        clear hU
        go_wp2_with fail
        refine (unhide HA).mono ?_
        rintro e w6 ⟨ve, rfl, hve, hvo, ⟨a6, m6, c6', rfl⟩, hb6⟩
        have hr6 := (unhide R5).below hb6
        have c6 := cell_of_row _ _ 6 _ _ _ hr6.row
        have f6 := frozen_of_row _ _ 6 _ _ hr6.row
        have c8 := cell_of_row _ _ 8 _ _ _ hr6.row
        have f8 := frozen_of_row _ _ 8 _ _ hr6.row
        simp only [rrow] at c6 c8
        have hlg := (unhide HUU).lo
        have hl3 := (unhide C3).size
        have hl2 := (unhide S2).bel.size
        have hgr : g ≠ rp := by omega
        have cc : Chg w6 ((w6.setCell ⟨rp, 6, none⟩ (.slice (some ⟨g, 0, none⟩) (wAt bs 1) (wAt bs 1))).setCell ⟨rp, 8, none⟩ (.slice a6 m6 c6')) (fun k => k = rp) := ((Chg.refl w6 (fun k => k = rp)).put rp 6 _ rfl).put rp 8 _ rfl
        have CF := hide (((((Chg.of_below (unhide S2).bel (fun k => k = rp)).trans (unhide C3) (fun _ e _ => e)).trans (Chg.of_below (unhide HUU).bel (fun _ => False)) (fun _ e _ => e.elim)).trans (Chg.of_below hb6 (fun _ => False)) (fun _ e _ => e.elim)).trans cc (fun _ e _ => e))
        have RF := hide ((hr6.s6 (.slice (some ⟨g, 0, none⟩) (wAt bs 1) (wAt bs 1))).s8 (.slice a6 m6 c6'))
        have hrow6 := (hb6.block g (Array.getElem?_eq_some_iff.1 (unhide HUU).row).1).trans (unhide HUU).row
        have LF : Hid (LiesI ((w6.setCell ⟨rp, 6, none⟩ (.slice (some ⟨g, 0, none⟩) (wAt bs 1) (wAt bs 1))).setCell ⟨rp, 8, none⟩ (.slice a6 m6 c6')) (.slice (some ⟨g, 0, none⟩) (wAt bs 1) (wAt bs 1)) (unpackN true (bs.drop 5) (wAt bs 1))) := by
          have q := lies_chgI (rowI_lies hrow6 0 (wAt bs 1) (wAt bs 1) (by rw [unhide HULn]; omega)) cc (fun b e => by simp [Value.ownBlock] at e; subst e; exact hgr)
          rw [List.drop_zero, List.take_of_length_le (by rw [unhide HULn]; omega)] at q
          exact q
        have EF : Hid (Lies ((w6.setCell ⟨rp, 6, none⟩ (.slice (some ⟨g, 0, none⟩) (wAt bs 1) (wAt bs 1))).setCell ⟨rp, 8, none⟩ (.slice a6 m6 c6')) (.slice a6 m6 c6') (bs.take 4)) := by
          have q := hve.chg cc (fun b e => unhide HVV b (hvo ▸ e))
          rw [unhide HML, show bs.length - (bs.length - 4) = 4 by omega] at q
          exact q
        have GF : Hid (∀ b, (Value.slice (some ⟨g, 0, none⟩) (wAt bs 1) (wAt bs 1)).ownBlock = some b → w.heap.size ≤ b) := fun b e => by simp [Value.ownBlock] at e; omega
        have VF : Hid (∀ b, (Value.slice a6 m6 c6').ownBlock = some b → (Value.slice av bs.length cv).ownBlock = some b) := fun b e => hvo ▸ e
        clear hrow6 cc hve hvo hb6 hr6 HA hgr hne hne2 hlg hl3 hl2
        go_wp2
        go_ret
        refine ⟨unhide CF, ?_⟩
        rw [unhide HQ]
        exact ⟨_, _, rfl, unhide RF, unhide LF, unhide EF, unhide GF, unhide VF⟩

set_option maxRecDepth 10000 in
set_option maxHeartbeats 1000000 in
theorem parse15_any (rp : Nat) (f : Int) (v : Value) (bs : List Int) (w : World) (hr : QNew w rp f) (h : Lies w v bs) (hx : Bys bs) (hl : bs.length ≤ 252) (hv : ∀ b, v.ownBlock = some b → b ≠ rp) :
    Calls Tryz.prog 204 #[.pointer (some ⟨rp, 0, none⟩), v] w fun e w' => PPost w rp f v (parse15 f bs) e w' := by
  have c1 := cell_of_row _ _ 1 _ _ _ hr.row
  have f1 := frozen_of_row _ _ 1 _ _ hr.row
  simp [rrow] at c1
  have C1 := hide ((Chg.refl w (fun k => k = rp)).put rp 1 (.int .i64 0) rfl)
  have HP := hide (parseW_true rp f 0 1968 v bs (w.setCell ⟨rp, 1, none⟩ (.int .i64 0)) (RAt.s1 hr 0) (h.chg (unhide C1) hv) hx hl (by omega) hv)
  rw [parse15_eq]
  obtain ⟨av, cv, rfl⟩ := h.slice
  clear hr h hx hv
  go_enter Tryz.func204, Tryz.ntmps204
  go_wp2_with fail
  refine (unhide HP).mono ?_
  rintro e w2 hp
  have HP2 := hide hp
  obtain ⟨hc, hm⟩ := hp
  cases hq : parseW true 1968 0 f bs with
  | inl x =>
    rw [hq] at hm
    obtain ⟨n, T, p, rfl, he⟩ := hm
    have HE := hide he
    have HC := hide hc
    have HQ := hide hq
    clear he hc HP HP2 hq c1 f1
    go_wp2
    go_ret
    exact PPost.mkL (unhide HQ) ((unhide C1).trans (unhide HC) (fun _ e _ => e)) (unhide HE)
  | inr q =>
    rw [hq] at hm
    obtain ⟨vv, ve, rfl, h1, h2, h3, h4, h5⟩ := hm
    have H1 := hide h1
    have H2 := hide h2
    have H3 := hide h3
    have H4 := hide h4
    have H5 := hide h5
    have HC := hide hc
    have HQ := hide hq
    clear h1 h2 h3 h4 h5 hc HP HP2 hq c1 f1
    go_wp2
    go_ret
    exact PPost.mkR (unhide HQ) ((unhide C1).trans (unhide HC) (fun _ e _ => e)) (unhide H1) (unhide H2) (unhide H3) (fun b e => by have := unhide H4 b e; simpa [World.setCell] using this) (unhide H5)

set_option maxRecDepth 10000 in
set_option maxHeartbeats 1000000 in
theorem parse16_any (rp : Nat) (f : Int) (v : Value) (bs : List Int) (w : World) (hr : QNew w rp f) (h : Lies w v bs) (hx : Bys bs) (hl : bs.length ≤ 252) (hv : ∀ b, v.ownBlock = some b → b ≠ rp) :
    Calls Tryz.prog 205 #[.pointer (some ⟨rp, 0, none⟩), v] w fun e w' => PPost w rp f v (parse16 f bs) e w' := by
  have c1 := cell_of_row _ _ 1 _ _ _ hr.row
  have f1 := frozen_of_row _ _ 1 _ _ hr.row
  simp [rrow] at c1
  have C1 := hide ((Chg.refl w (fun k => k = rp)).put rp 1 (.int .i64 3) rfl)
  have HP := hide (parseW_false rp f 3 123 v bs (w.setCell ⟨rp, 1, none⟩ (.int .i64 3)) (RAt.s1 hr 3) (h.chg (unhide C1) hv) hx hl (by omega) hv)
  rw [parse16_eq]
  obtain ⟨av, cv, rfl⟩ := h.slice
  clear hr h hx hv
  go_enter Tryz.func205, Tryz.ntmps205
  go_wp2_with fail
  refine (unhide HP).mono ?_
  rintro e w2 hp
  have HP2 := hide hp
  obtain ⟨hc, hm⟩ := hp
  cases hq : parseW false 123 3 f bs with
  | inl x =>
    rw [hq] at hm
    obtain ⟨n, T, p, rfl, he⟩ := hm
    have HE := hide he
    have HC := hide hc
    have HQ := hide hq
    clear he hc HP HP2 hq c1 f1
    go_wp2
    go_ret
    exact PPost.mkL (unhide HQ) ((unhide C1).trans (unhide HC) (fun _ e _ => e)) (unhide HE)
  | inr q =>
    rw [hq] at hm
    obtain ⟨vv, ve, rfl, h1, h2, h3, h4, h5⟩ := hm
    have H1 := hide h1
    have H2 := hide h2
    have H3 := hide h3
    have H4 := hide h4
    have H5 := hide h5
    have HC := hide hc
    have HQ := hide hq
    clear h1 h2 h3 h4 h5 hc HP HP2 hq c1 f1
    go_wp2
    go_ret
    exact PPost.mkR (unhide HQ) ((unhide C1).trans (unhide HC) (fun _ e _ => e)) (unhide H1) (unhide H2) (unhide H3) (fun b e => by have := unhide H4 b e; simpa [World.setCell] using this) (unhide H5)

end Go.Proofs.YtfekelmldebplaaGreatDoor

namespace Go.Proofs.YtfekelmldebplaaGreatDoor
open Go.RowKit

set_option maxRecDepth 10000 in
set_option maxHeartbeats 1000000 in
theorem parse_1 (rp : Nat) (v : Value) (bs : List Int) (w : World) (hr : QNew w rp 1) (h : Lies w v bs) (hx : Bys bs) (hl : bs.length ≤ 252) :
    Calls Tryz.prog 188 #[.pointer (some ⟨rp, 0, none⟩), v] w fun e w' => PPost w rp 1 v (parseL 1 bs) e w' := by
  have c0 := cell_of_row _ _ 0 _ _ _ hr.row
  simp [rrow] at c0
  have HP := hide (parseRead_any rp 1 0 2000 v bs w hr h hx hl)
  rw [show ((0 : Nat) : Int) = 0 from rfl, show ((2000 : Nat) : Int) = 2000 from rfl] at HP
  have hq : parseL 1 bs = parseRead 1 bs 0 2000 := rfl
  rw [hq]
  obtain ⟨av, cv, rfl⟩ := h.slice
  clear hr h hx hq
  go_enter Tryz.func188, Tryz.ntmps188
  go_wp2_with fail
  refine (unhide HP).mono ?_
  rintro e w2 ⟨hc, hm⟩
  cases hq : parseRead 1 bs 0 2000 with
  | inl x =>
    rw [hq] at hm
    obtain ⟨n, T, p, rfl, he⟩ := hm
    have HE := hide he
    have HC := hide hc
    have HQ := hide hq
    clear he hc HP hq c0
    go_wp2
    go_ret
    exact PPost.mkL (unhide HQ) (unhide HC) (unhide HE)
  | inr q =>
    rw [hq] at hm
    obtain ⟨vv, ve, rfl, h1, h2, h3, h4, h5⟩ := hm
    have H1 := hide h1
    have H2 := hide h2
    have H3 := hide h3
    have H4 := hide h4
    have H5 := hide h5
    have HC := hide hc
    have HQ := hide hq
    clear h1 h2 h3 h4 h5 hc HP hq c0
    go_wp2
    go_ret
    exact PPost.mkR (unhide HQ) (unhide HC) (unhide H1) (unhide H2) (unhide H3) (unhide H4) (unhide H5)

set_option maxRecDepth 10000 in
set_option maxHeartbeats 1000000 in
theorem parse_2 (rp : Nat) (v : Value) (bs : List Int) (w : World) (hr : QNew w rp 2) (h : Lies w v bs) (hx : Bys bs) (hl : bs.length ≤ 252) :
    Calls Tryz.prog 188 #[.pointer (some ⟨rp, 0, none⟩), v] w fun e w' => PPost w rp 2 v (parseL 2 bs) e w' := by
  have c0 := cell_of_row _ _ 0 _ _ _ hr.row
  simp [rrow] at c0
  have HP := hide (parseRead_any rp 2 1 2000 v bs w hr h hx hl)
  rw [show ((1 : Nat) : Int) = 1 from rfl, show ((2000 : Nat) : Int) = 2000 from rfl] at HP
  have hq : parseL 2 bs = parseRead 2 bs 1 2000 := rfl
  rw [hq]
  obtain ⟨av, cv, rfl⟩ := h.slice
  clear hr h hx hq
  go_enter Tryz.func188, Tryz.ntmps188
  go_wp2_with fail
  refine (unhide HP).mono ?_
  rintro e w2 ⟨hc, hm⟩
  cases hq : parseRead 2 bs 1 2000 with
  | inl x =>
    rw [hq] at hm
    obtain ⟨n, T, p, rfl, he⟩ := hm
    have HE := hide he
    have HC := hide hc
    have HQ := hide hq
    clear he hc HP hq c0
    go_wp2
    go_ret
    exact PPost.mkL (unhide HQ) (unhide HC) (unhide HE)
  | inr q =>
    rw [hq] at hm
    obtain ⟨vv, ve, rfl, h1, h2, h3, h4, h5⟩ := hm
    have H1 := hide h1
    have H2 := hide h2
    have H3 := hide h3
    have H4 := hide h4
    have H5 := hide h5
    have HC := hide hc
    have HQ := hide hq
    clear h1 h2 h3 h4 h5 hc HP hq c0
    go_wp2
    go_ret
    exact PPost.mkR (unhide HQ) (unhide HC) (unhide H1) (unhide H2) (unhide H3) (unhide H4) (unhide H5)

set_option maxRecDepth 10000 in
set_option maxHeartbeats 1000000 in
theorem parse_3 (rp : Nat) (v : Value) (bs : List Int) (w : World) (hr : QNew w rp 3) (h : Lies w v bs) (hx : Bys bs) (hl : bs.length ≤ 252) :
    Calls Tryz.prog 188 #[.pointer (some ⟨rp, 0, none⟩), v] w fun e w' => PPost w rp 3 v (parseL 3 bs) e w' := by
  have c0 := cell_of_row _ _ 0 _ _ _ hr.row
  simp [rrow] at c0
  have HP := hide (parseRead_any rp 3 3 125 v bs w hr h hx hl)
  rw [show ((3 : Nat) : Int) = 3 from rfl, show ((125 : Nat) : Int) = 125 from rfl] at HP
  have hq : parseL 3 bs = parseRead 3 bs 3 125 := rfl
  rw [hq]
  obtain ⟨av, cv, rfl⟩ := h.slice
  clear hr h hx hq
  go_enter Tryz.func188, Tryz.ntmps188
  go_wp2_with fail
  refine (unhide HP).mono ?_
  rintro e w2 ⟨hc, hm⟩
  cases hq : parseRead 3 bs 3 125 with
  | inl x =>
    rw [hq] at hm
    obtain ⟨n, T, p, rfl, he⟩ := hm
    have HE := hide he
    have HC := hide hc
    have HQ := hide hq
    clear he hc HP hq c0
    go_wp2
    go_ret
    exact PPost.mkL (unhide HQ) (unhide HC) (unhide HE)
  | inr q =>
    rw [hq] at hm
    obtain ⟨vv, ve, rfl, h1, h2, h3, h4, h5⟩ := hm
    have H1 := hide h1
    have H2 := hide h2
    have H3 := hide h3
    have H4 := hide h4
    have H5 := hide h5
    have HC := hide hc
    have HQ := hide hq
    clear h1 h2 h3 h4 h5 hc HP hq c0
    go_wp2
    go_ret
    exact PPost.mkR (unhide HQ) (unhide HC) (unhide H1) (unhide H2) (unhide H3) (unhide H4) (unhide H5)

set_option maxRecDepth 10000 in
set_option maxHeartbeats 1000000 in
theorem parse_4 (rp : Nat) (v : Value) (bs : List Int) (w : World) (hr : QNew w rp 4) (h : Lies w v bs) (hx : Bys bs) (hl : bs.length ≤ 252) :
    Calls Tryz.prog 188 #[.pointer (some ⟨rp, 0, none⟩), v] w fun e w' => PPost w rp 4 v (parseL 4 bs) e w' := by
  have c0 := cell_of_row _ _ 0 _ _ _ hr.row
  simp [rrow] at c0
  have HP := hide (parseRead_any rp 4 2 125 v bs w hr h hx hl)
  rw [show ((2 : Nat) : Int) = 2 from rfl, show ((125 : Nat) : Int) = 125 from rfl] at HP
  have hq : parseL 4 bs = parseRead 4 bs 2 125 := rfl
  rw [hq]
  obtain ⟨av, cv, rfl⟩ := h.slice
  clear hr h hx hq
  go_enter Tryz.func188, Tryz.ntmps188
  go_wp2_with fail
  refine (unhide HP).mono ?_
  rintro e w2 ⟨hc, hm⟩
  cases hq : parseRead 4 bs 2 125 with
  | inl x =>
    rw [hq] at hm
    obtain ⟨n, T, p, rfl, he⟩ := hm
    have HE := hide he
    have HC := hide hc
    have HQ := hide hq
    clear he hc HP hq c0
    go_wp2
    go_ret
    exact PPost.mkL (unhide HQ) (unhide HC) (unhide HE)
  | inr q =>
    rw [hq] at hm
    obtain ⟨vv, ve, rfl, h1, h2, h3, h4, h5⟩ := hm
    have H1 := hide h1
    have H2 := hide h2
    have H3 := hide h3
    have H4 := hide h4
    have H5 := hide h5
    have HC := hide hc
    have HQ := hide hq
    clear h1 h2 h3 h4 h5 hc HP hq c0
    go_wp2
    go_ret
    exact PPost.mkR (unhide HQ) (unhide HC) (unhide H1) (unhide H2) (unhide H3) (unhide H4) (unhide H5)

set_option maxRecDepth 10000 in
set_option maxHeartbeats 1000000 in
theorem parse_5 (rp : Nat) (v : Value) (bs : List Int) (w : World) (hr : QNew w rp 5) (h : Lies w v bs) (hx : Bys bs) (hl : bs.length ≤ 252) (hv : ∀ b, v.ownBlock = some b → b ≠ rp) :
    Calls Tryz.prog 188 #[.pointer (some ⟨rp, 0, none⟩), v] w fun e w' => PPost w rp 5 v (parseL 5 bs) e w' := by
  have c0 := cell_of_row _ _ 0 _ _ _ hr.row
  simp [rrow] at c0
  have HP := hide (parse5_any rp 5 v bs w hr h hx hl hv)
  have hq : parseL 5 bs = parse5 5 bs := rfl
  rw [hq]
  obtain ⟨av, cv, rfl⟩ := h.slice
  clear hr h hx hq hv
  go_enter Tryz.func188, Tryz.ntmps188
  go_wp2_with fail
  refine (unhide HP).mono ?_
  rintro e w2 ⟨hc, hm⟩
  cases hq : parse5 5 bs with
  | inl x =>
    rw [hq] at hm
    obtain ⟨n, T, p, rfl, he⟩ := hm
    have HE := hide he
    have HC := hide hc
    have HQ := hide hq
    clear he hc HP hq c0
    go_wp2
    go_ret
    exact PPost.mkL (unhide HQ) (unhide HC) (unhide HE)
  | inr q =>
    rw [hq] at hm
    obtain ⟨vv, ve, rfl, h1, h2, h3, h4, h5⟩ := hm
    have H1 := hide h1
    have H2 := hide h2
    have H3 := hide h3
    have H4 := hide h4
    have H5 := hide h5
    have HC := hide hc
    have HQ := hide hq
    clear h1 h2 h3 h4 h5 hc HP hq c0
    go_wp2
    go_ret
    exact PPost.mkR (unhide HQ) (unhide HC) (unhide H1) (unhide H2) (unhide H3) (unhide H4) (unhide H5)

set_option maxRecDepth 10000 in
set_option maxHeartbeats 1000000 in
theorem parse_6 (rp : Nat) (v : Value) (bs : List Int) (w : World) (hr : QNew w rp 6) (h : Lies w v bs) (hx : Bys bs) (hl : bs.length ≤ 252) (hv : ∀ b, v.ownBlock = some b → b ≠ rp) :
    Calls Tryz.prog 188 #[.pointer (some ⟨rp, 0, none⟩), v] w fun e w' => PPost w rp 6 v (parseL 6 bs) e w' := by
  have c0 := cell_of_row _ _ 0 _ _ _ hr.row
  simp [rrow] at c0
  have HP := hide (parse6_any rp 6 v bs w hr h hx hl hv)
  have hq : parseL 6 bs = parse6 6 bs := rfl
  rw [hq]
  obtain ⟨av, cv, rfl⟩ := h.slice
  clear hr h hx hq hv
  go_enter Tryz.func188, Tryz.ntmps188
  go_wp2_with fail
  refine (unhide HP).mono ?_
  rintro e w2 ⟨hc, hm⟩
  cases hq : parse6 6 bs with
  | inl x =>
    rw [hq] at hm
    obtain ⟨n, T, p, rfl, he⟩ := hm
    have HE := hide he
    have HC := hide hc
    have HQ := hide hq
    clear he hc HP hq c0
    go_wp2
    go_ret
    exact PPost.mkL (unhide HQ) (unhide HC) (unhide HE)
  | inr q =>
    rw [hq] at hm
    obtain ⟨vv, ve, rfl, h1, h2, h3, h4, h5⟩ := hm
    have H1 := hide h1
    have H2 := hide h2
    have H3 := hide h3
    have H4 := hide h4
    have H5 := hide h5
    have HC := hide hc
    have HQ := hide hq
    clear h1 h2 h3 h4 h5 hc HP hq c0
    go_wp2
    go_ret
    exact PPost.mkR (unhide HQ) (unhide HC) (unhide H1) (unhide H2) (unhide H3) (unhide H4) (unhide H5)

set_option maxRecDepth 10000 in
set_option maxHeartbeats 1000000 in
theorem parse_15 (rp : Nat) (v : Value) (bs : List Int) (w : World) (hr : QNew w rp 15) (h : Lies w v bs) (hx : Bys bs) (hl : bs.length ≤ 252) (hv : ∀ b, v.ownBlock = some b → b ≠ rp) :
    Calls Tryz.prog 188 #[.pointer (some ⟨rp, 0, none⟩), v] w fun e w' => PPost w rp 15 v (parseL 15 bs) e w' := by
  have c0 := cell_of_row _ _ 0 _ _ _ hr.row
  simp [rrow] at c0
  have HP := hide (parse15_any rp 15 v bs w hr h hx hl hv)
  have hq : parseL 15 bs = parse15 15 bs := rfl
  rw [hq]
  obtain ⟨av, cv, rfl⟩ := h.slice
  clear hr h hx hq hv
  go_enter Tryz.func188, Tryz.ntmps188
  go_wp2_with fail
  refine (unhide HP).mono ?_
  rintro e w2 ⟨hc, hm⟩
  cases hq : parse15 15 bs with
  | inl x =>
    rw [hq] at hm
    obtain ⟨n, T, p, rfl, he⟩ := hm
    have HE := hide he
    have HC := hide hc
    have HQ := hide hq
    clear he hc HP hq c0
    go_wp2
    go_ret
    exact PPost.mkL (unhide HQ) (unhide HC) (unhide HE)
  | inr q =>
    rw [hq] at hm
    obtain ⟨vv, ve, rfl, h1, h2, h3, h4, h5⟩ := hm
    have H1 := hide h1
    have H2 := hide h2
    have H3 := hide h3
    have H4 := hide h4
    have H5 := hide h5
    have HC := hide hc
    have HQ := hide hq
    clear h1 h2 h3 h4 h5 hc HP hq c0
    go_wp2
    go_ret
    exact PPost.mkR (unhide HQ) (unhide HC) (unhide H1) (unhide H2) (unhide H3) (unhide H4) (unhide H5)

set_option maxRecDepth 10000 in
set_option maxHeartbeats 1000000 in
theorem parse_16 (rp : Nat) (v : Value) (bs : List Int) (w : World) (hr : QNew w rp 16) (h : Lies w v bs) (hx : Bys bs) (hl : bs.length ≤ 252) (hv : ∀ b, v.ownBlock = some b → b ≠ rp) :
    Calls Tryz.prog 188 #[.pointer (some ⟨rp, 0, none⟩), v] w fun e w' => PPost w rp 16 v (parseL 16 bs) e w' := by
  have c0 := cell_of_row _ _ 0 _ _ _ hr.row
  simp [rrow] at c0
  have HP := hide (parse16_any rp 16 v bs w hr h hx hl hv)
  have hq : parseL 16 bs = parse16 16 bs := rfl
  rw [hq]
  obtain ⟨av, cv, rfl⟩ := h.slice
  clear hr h hx hq hv
  go_enter Tryz.func188, Tryz.ntmps188
  go_wp2_with fail
  refine (unhide HP).mono ?_
  rintro e w2 ⟨hc, hm⟩
  cases hq : parse16 16 bs with
  | inl x =>
    rw [hq] at hm
    obtain ⟨n, T, p, rfl, he⟩ := hm
    have HE := hide he
    have HC := hide hc
    have HQ := hide hq
    clear he hc HP hq c0
    go_wp2
    go_ret
    exact PPost.mkL (unhide HQ) (unhide HC) (unhide HE)
  | inr q =>
    rw [hq] at hm
    obtain ⟨vv, ve, rfl, h1, h2, h3, h4, h5⟩ := hm
    have H1 := hide h1
    have H2 := hide h2
    have H3 := hide h3
    have H4 := hide h4
    have H5 := hide h5
    have HC := hide hc
    have HQ := hide hq
    clear h1 h2 h3 h4 h5 hc HP hq c0
    go_wp2
    go_ret
    exact PPost.mkR (unhide HQ) (unhide HC) (unhide H1) (unhide H2) (unhide H3) (unhide H4) (unhide H5)

set_option maxRecDepth 10000 in
set_option maxHeartbeats 1000000 in
theorem parse_22 (rp : Nat) (v : Value) (bs : List Int) (w : World) (hr : QNew w rp 22) (h : Lies w v bs) (hx : Bys bs) (hl : bs.length ≤ 252) (hv : ∀ b, v.ownBlock = some b → b ≠ rp) :
    Calls Tryz.prog 188 #[.pointer (some ⟨rp, 0, none⟩), v] w fun e w' => PPost w rp 22 v (parseL 22 bs) e w' := by
  have c0 := cell_of_row _ _ 0 _ _ _ hr.row
  simp [rrow] at c0
  have HP := hide (parse22_any rp 22 v bs w hr h hx hl hv)
  have hq : parseL 22 bs = parse22 22 bs := rfl
  rw [hq]
  obtain ⟨av, cv, rfl⟩ := h.slice
  clear hr h hx hq hv
  go_enter Tryz.func188, Tryz.ntmps188
  go_wp2_with fail
  refine (unhide HP).mono ?_
  rintro e w2 ⟨hc, hm⟩
  cases hq : parse22 22 bs with
  | inl x =>
    rw [hq] at hm
    obtain ⟨n, T, p, rfl, he⟩ := hm
    have HE := hide he
    have HC := hide hc
    have HQ := hide hq
    clear he hc HP hq c0
    go_wp2
    go_ret
    exact PPost.mkL (unhide HQ) (unhide HC) (unhide HE)
  | inr q =>
    rw [hq] at hm
    obtain ⟨vv, ve, rfl, h1, h2, h3, h4, h5⟩ := hm
    have H1 := hide h1
    have H2 := hide h2
    have H3 := hide h3
    have H4 := hide h4
    have H5 := hide h5
    have HC := hide hc
    have HQ := hide hq
    clear h1 h2 h3 h4 h5 hc HP hq c0
    go_wp2
    go_ret
    exact PPost.mkR (unhide HQ) (unhide HC) (unhide H1) (unhide H2) (unhide H3) (unhide H4) (unhide H5)

end Go.Proofs.YtfekelmldebplaaGreatDoor
