import Derived.BigRegion
import Derived.Test.YtfekelmldebplaaGreatDoorTi
import Derived.Test.YtfekelmldebplaaGreatDoorUc
import Derived.Test.YtfekelmldebplaaGreatDoorBb
set_option maxRecDepth 100000
set_option maxHeartbeats 8000000
namespace Go.Proofs.YtfekelmldebplaaGreatDoor
open Go.RowKit
theorem aB9 (s : ByteArray) (w : World) : Calls Tryz.prog 106 #[.string s, .nilIface] w fun e w' => e = .returned .nilIface ∧ Below w.heap.size w w' := by
 go_enter Tryz.func106, Tryz.ntmps106
 go_wp2
 go_ret
 exact ⟨rfl, Below.refl _ _⟩
theorem aHj (v : Value) (w : World) : Calls Tryz.prog 68 #[.nilIface, v] w fun e w' => e = .returned (.bool false) ∧ Below w.heap.size w w' := by
 go_enter Tryz.func68, Tryz.ntmps68
 go_wp2
 go_ret
 exact ⟨rfl, Below.refl _ _⟩
theorem iQ (sb : Nat) (a : Option Addr) (n c : Nat) (k : Int) (w : World) (h : w.cell? ⟨sb, 3, none⟩ = some (.slice a n c)) :
  Calls Tryz.prog 45 #[.pointer (some ⟨sb, 0, none⟩), .int .i64 k] w fun e w' => e = .returned (.bool (decide (0 ≤ k) && decide (k < n))) ∧ Below w.heap.size w w' := by
 by_cases h0 : 0 ≤ k
 ·go_enter Tryz.func45, Tryz.ntmps45
  go_wp2
  go_ret
  exact ⟨aV (by simp [h0]), Below.refl _ _⟩
 ·have h0' : decide (0 ≤ k) = false := by simpa using h0
  go_enter Tryz.func45, Tryz.ntmps45
  go_wp2
  go_ret
  exact ⟨aV (by simp), Below.refl _ _⟩
theorem cK.chg {w w' : World} {v : Value} {rs : List Rule} {D : Nat → Prop} (h : cK w v rs) (c : Chg w w' D) (hD : ∀ b, v.ownBlock = some b → ¬ D b) : cK w' v rs := by
 obtain ⟨a, cc, rfl, h⟩ := h
 refine ⟨a, cc, rfl, h.imp id fun ⟨b, o, e, hl, hc⟩ => ⟨b, o, e, Nat.lt_of_lt_of_le hl c.size, fun i x hx j u hu => ?_⟩⟩
 rw [← hc i x hx j u hu]
 exact World.cell?_of_block (c.block b hl (hD b (by rw [e]; rfl)))
structure Sees (w : World) (sb tb kb e g cl : Nat) (l lm : Int) (X T : TypeId) (hi : Int) (L : List Int) (t : Nat) (us : List Value) (u : Value) (rs : List Rule) : Prop where
 row : w.heap[sb]? = some (.cells (srow l tb (.slice (some ⟨kb, 0, none⟩) us.length us.length) lm) 143 (0, 0))
 tabs : ∃ tc, w.heap[tb]? = some (.cells tc 145 (0, 0)) ∧ tc[t]? = some (.iface X (.pointer (some ⟨e, 0, none⟩)))
 tab : TabAt w e g T hi L
 kind : (X = 221 ∧ T = 299) ∨ (X = 223 ∧ T = 300)
 cls : w.heap[kb]? = some (.cells us.toArray 220 (0, 0))
 at_ : us[cl]? = some u
 list : cK w u rs
 few : rs.length ≤ 8
 t4 : t < 4
theorem Sees.below {w w' : World} {sb tb kb e g cl : Nat} {l lm : Int} {X T : TypeId} {hi : Int} {L : List Int} {t : Nat} {us : List Value} {u : Value} {rs : List Rule} (h : Sees w sb tb kb e g cl l lm X T hi L t us u rs) (hb : Below w.heap.size w w') : Sees w' sb tb kb e g cl l lm X T hi L t us u rs := by
 have b : ∀ {g : Nat} {o : Obj}, w.heap[g]? = some o → w'.heap[g]? = some o := fun q => (hb.block _ (Array.getElem?_eq_some_iff.1 q).1).trans q
 obtain ⟨tc, h1, h2⟩ := h.tabs
 exact ⟨b h.row, ⟨tc, b h1, h2⟩, h.tab.below hb, h.kind, b h.cls, h.at_, h.list.below hb, h.few, h.t4⟩
def kW (w : World) (f x : Int) (e : Ending) (w' : World) : Prop :=
 Below w.heap.size w w' ∧ if x = 0 then e = .returned .nilIface else ∃ n T p, e = .returned (.iface T (.pointer (some ⟨p, 0, none⟩))) ∧ dN w' f x n (.iface T (.pointer (some ⟨p, 0, none⟩)))
structure Mid (w W : World) (sb tb kb e g cl : Nat) (l lm : Int) (X T : TypeId) (hi : Int) (L : List Int) (us : List Value) (u : Value) (rs : List Rule) (q : Req) (vv ve : Value) : Prop where
 bel : Below w.heap.size w W
 sees : Sees W sb tb kb e g cl l lm X T hi L q.t us u rs
 row : W.heap[w.heap.size]? = some (.cells (rrow q.f q.t q.ra q.rc q.wa q.wc vv q.keep ve) 273 (0, 0))
theorem Mid.step {w W W' : World} {sb tb kb e g cl : Nat} {l lm : Int} {X T : TypeId} {hi : Int} {L : List Int} {us : List Value} {u : Value} {rs : List Rule} {q : Req} {vv ve : Value} (h : Mid w W sb tb kb e g cl l lm X T hi L us u rs q vv ve) (hb : Below W.heap.size W W') : Mid w W' sb tb kb e g cl l lm X T hi L us u rs q vv ve :=
 ⟨aD h.bel hb, h.sees.below hb, (hb.block _ (Array.getElem?_eq_some_iff.1 h.row).1).trans h.row⟩
theorem kW.bad {w w' : World} {f x y : Int} {n : Nat} {T : TypeId} {p : Nat} (hx : x = y) (h0 : y ≠ 0) (hb : Below w.heap.size w w') (he : dN w' f y n (.iface T (.pointer (some ⟨p, 0, none⟩)))) : kW w f x (.returned (.iface T (.pointer (some ⟨p, 0, none⟩)))) w' := by
 subst hx
 refine ⟨hb, ?_⟩
 rw [if_neg h0]
 exact ⟨n, T, p, rfl, he⟩
theorem rG (sb tb kb e g cl : Nat) (l lm : Int) (X T : TypeId) (hi : Int) (L : List Int) (us : List Value) (u : Value) (rs : List Rule) (q : Req) (vv ve : Value) (w : World) (h : Sees w sb tb kb e g cl l lm X T hi L q.t us u rs) (hq : q.Ok) :
  Calls Tryz.prog 157 #[.pointer (some ⟨sb, 0, none⟩), .int .i64 cl, .agg (rrow q.f q.t q.ra q.rc q.wa q.wc vv q.keep ve)] w fun r w' => kW w q.f (excL L.length rs q) r w' := by
 obtain ⟨av, cv, rfl, _⟩ := id h.list
 have hcl : cl < us.length := (List.getElem?_eq_some_iff.1 h.at_).1
 have hra := hq.ra
 have hrc := hq.rc
 have hwa := hq.wa
 have hwc := hq.wc
 have ht4 := h.t4
 clear hq
 have m1 : ∀ w, (method 484 X (.pointer (some ⟨e, 0, none⟩)) "Has").run Tryz.prog w = .ok (261, .pointer (some ⟨e, 0, none⟩)) w := fun w => by
  rcases h.kind with ⟨rfl, _⟩ | ⟨rfl, _⟩
  ·exact mH e w
  ·exact mF e w
 have HM : Hid (Mid w (w.alloc (.cells (rrow q.f q.t q.ra q.rc q.wa q.wc vv q.keep ve) 273)) sb tb kb e g cl l lm X T hi L us (.slice av rs.length cv) rs q vv ve) := ⟨dJ w _, h.below (dJ w _), heap_alloc_new w _⟩
 clear h
 have H1 := (aA HM).sees.row
 have s2 := cell_of_row _ _ 2 _ _ _ H1
 have s3 := cell_of_row _ _ 3 _ _ _ H1
 obtain ⟨tc, H2, H3⟩ := (aA HM).sees.tabs
 have st := cell_of_row _ _ q.t _ _ _ H2
 rw [H3] at st
 have sk := cell_of_row _ _ cl _ _ _ (aA HM).sees.cls
 rw [List.getElem?_toArray, (aA HM).sees.at_] at sk
 simp [srow] at s2 s3
 have a1 := cell_of_row _ _ 1 _ _ _ (aA HM).row
 simp only [rrow] at a1
 have hcl' : (cl : Int) < (us.length : Int) := by omega
 have ht4' : (q.t : Int) < 4 := by omega
 clear H1 H2 H3
 unfold rrow at HM s2 s3 st sk ⊢
 go_enter Tryz.func157, Tryz.ntmps157
 go_wp2_with fail
 generalize w.alloc (.cells #[.int .u8 q.f, .int .i64 q.t, .int .i64 q.ra, .int .i64 q.rc, .int .i64 q.wa, .int .i64 q.wc, vv, .int .i64 q.keep, ve] 273) = W at HM s2 s3 st sk a1 ⊢
 go_region
 replace HM := hide ((aA HM).step (Below.refl _ _).drew)
 clear s2 s3 st sk a1 tc
 generalize W.drew = W1 at HM ⊢
 clear W
 have a2 := cell_of_row _ _ 2 _ _ _ (aA HM).row
 have a3 := cell_of_row _ _ 3 _ _ _ (aA HM).row
 simp [rrow] at a2 a3
 have HH1 := hide (nM W1 e g T hi L (q.ra : Int) (q.rc : Int) (aA HM).sees.tab (by omega))
 generalize hh1 : hasB L.length (q.ra : Int) (q.rc : Int) = h1 at HH1
 go_wp2_with fail
 refine (aA HH1).mono ?_
 rintro r w2 ⟨rfl, hb2⟩
 replace HM := hide ((aA HM).step hb2)
 clear HH1 hb2 a2 a3
 cases h1 with
 | false =>
  have HX : Hid (excL L.length rs q = 2) := by
   show _ = _
   unfold excL
   rw [hh1]
   simp
  clear hh1
  have a0 := cell_of_row _ _ 0 _ _ _ (aA HM).row
  have a1 := cell_of_row _ _ 1 _ _ _ (aA HM).row
  have a2 := cell_of_row _ _ 2 _ _ _ (aA HM).row
  have a3 := cell_of_row _ _ 3 _ _ _ (aA HM).row
  have a4 := cell_of_row _ _ 4 _ _ _ (aA HM).row
  have a5 := cell_of_row _ _ 5 _ _ _ (aA HM).row
  have a6 := cell_of_row _ _ 6 _ _ _ (aA HM).row
  have a7 := cell_of_row _ _ 7 _ _ _ (aA HM).row
  have a8 := cell_of_row _ _ 8 _ _ _ (aA HM).row
  simp [rrow] at a0 a1 a2 a3 a4 a5 a6 a7 a8
  go_wp2_with fail
  refine (gB q.f q.t q.ra q.rc q.wa q.wc vv q.keep ve 2 _).mono ?_
  rintro r w7 ⟨v7, rfl, he7, hb7⟩
  obtain ⟨T7, p7, rfl⟩ := he7.iface
  have HE7 := hide he7
  have HB7 := hide (aD (aA HM).bel hb7)
  clear he7 hb7 a0 a1 a2 a3 a4 a5 a6 a7 a8 HM
  go_wp2_with fail
  refine (eW _ _ _ _ _ _ (aA HE7)).mono ?_
  rintro r w8 ⟨v8, rfl, he8, hb8⟩
  obtain ⟨T8, p8, rfl⟩ := he8.iface
  have HE8 := hide he8
  clear he8
  go_wp2
  go_ret
  exact kW.bad (aA HX) (by decide) (aD (aA HB7) hb8) (aA HE8)
 | true =>
  have a4 := cell_of_row _ _ 4 _ _ _ (aA HM).row
  have a5 := cell_of_row _ _ 5 _ _ _ (aA HM).row
  simp [rrow] at a4 a5
  have HH1 := hide (nM w2 e g T hi L (q.wa : Int) (q.wc : Int) (aA HM).sees.tab (by omega))
  generalize hh2 : hasB L.length (q.wa : Int) (q.wc : Int) = h2 at HH1
  go_wp2_with fail
  refine (aA HH1).mono ?_
  rintro r w3 ⟨rfl, hb3⟩
  replace HM := hide ((aA HM).step hb3)
  clear HH1 hb3 a4 a5
  cases h2 with
  | false =>
   have HX : Hid (excL L.length rs q = 2) := by
    show _ = _
    unfold excL
    rw [hh1, hh2]
    simp
   clear hh1 hh2
   have a0 := cell_of_row _ _ 0 _ _ _ (aA HM).row
   have a1 := cell_of_row _ _ 1 _ _ _ (aA HM).row
   have a2 := cell_of_row _ _ 2 _ _ _ (aA HM).row
   have a3 := cell_of_row _ _ 3 _ _ _ (aA HM).row
   have a4 := cell_of_row _ _ 4 _ _ _ (aA HM).row
   have a5 := cell_of_row _ _ 5 _ _ _ (aA HM).row
   have a6 := cell_of_row _ _ 6 _ _ _ (aA HM).row
   have a7 := cell_of_row _ _ 7 _ _ _ (aA HM).row
   have a8 := cell_of_row _ _ 8 _ _ _ (aA HM).row
   simp [rrow] at a0 a1 a2 a3 a4 a5 a6 a7 a8
   go_wp2_with fail
   refine (gB q.f q.t q.ra q.rc q.wa q.wc vv q.keep ve 2 _).mono ?_
   rintro r w7 ⟨v7, rfl, he7, hb7⟩
   obtain ⟨T7, p7, rfl⟩ := he7.iface
   have HE7 := hide he7
   have HB7 := hide (aD (aA HM).bel hb7)
   clear he7 hb7 a0 a1 a2 a3 a4 a5 a6 a7 a8 HM
   go_wp2_with fail
   refine (eW _ _ _ _ _ _ (aA HE7)).mono ?_
   rintro r w8 ⟨v8, rfl, he8, hb8⟩
   obtain ⟨T8, p8, rfl⟩ := he8.iface
   have HE8 := hide he8
   clear he8
   go_wp2
   go_ret
   exact kW.bad (aA HX) (by decide) (aD (aA HB7) hb8) (aA HE8)
  | true =>
   have a1 := cell_of_row _ _ 1 _ _ _ (aA HM).row
   have a2 := cell_of_row _ _ 2 _ _ _ (aA HM).row
   have a3 := cell_of_row _ _ 3 _ _ _ (aA HM).row
   simp [rrow] at a1 a2 a3
   have HH1 := hide (vU _ rs (q.t : Int) q.ra q.rc w3 (aA HM).sees.list (by have := (aA HM).sees.few; omega) (by omega) (by omega))
   generalize hm1 : mayB false rs (q.t : Int) (q.ra : Int) q.rc = b1 at HH1
   go_wp2_with fail
   refine (aA HH1).mono ?_
   rintro r w4 ⟨rfl, hb4⟩
   replace HM := hide ((aA HM).step hb4)
   clear HH1 hb4 a1 a2 a3
   cases b1 with
   | false =>
    have HX : Hid (excL L.length rs q = 4) := by
     show _ = _
     unfold excL
     rw [hh1, hh2, hm1]
     simp
    clear hh1 hh2 hm1
    have a0 := cell_of_row _ _ 0 _ _ _ (aA HM).row
    have a1 := cell_of_row _ _ 1 _ _ _ (aA HM).row
    have a2 := cell_of_row _ _ 2 _ _ _ (aA HM).row
    have a3 := cell_of_row _ _ 3 _ _ _ (aA HM).row
    have a4 := cell_of_row _ _ 4 _ _ _ (aA HM).row
    have a5 := cell_of_row _ _ 5 _ _ _ (aA HM).row
    have a6 := cell_of_row _ _ 6 _ _ _ (aA HM).row
    have a7 := cell_of_row _ _ 7 _ _ _ (aA HM).row
    have a8 := cell_of_row _ _ 8 _ _ _ (aA HM).row
    simp [rrow] at a0 a1 a2 a3 a4 a5 a6 a7 a8
    go_wp2_with fail
    refine (gB q.f q.t q.ra q.rc q.wa q.wc vv q.keep ve 4 _).mono ?_
    rintro r w7 ⟨v7, rfl, he7, hb7⟩
    obtain ⟨T7, p7, rfl⟩ := he7.iface
    have HE7 := hide he7
    have HB7 := hide (aD (aA HM).bel hb7)
    clear he7 hb7 a0 a1 a2 a3 a4 a5 a6 a7 a8 HM
    go_wp2_with fail
    refine (eW _ _ _ _ _ _ (aA HE7)).mono ?_
    rintro r w8 ⟨v8, rfl, he8, hb8⟩
    obtain ⟨T8, p8, rfl⟩ := he8.iface
    have HE8 := hide he8
    clear he8
    go_wp2
    go_ret
    exact kW.bad (aA HX) (by decide) (aD (aA HB7) hb8) (aA HE8)
   | true =>
    have a1 := cell_of_row _ _ 1 _ _ _ (aA HM).row
    have a4 := cell_of_row _ _ 4 _ _ _ (aA HM).row
    have a5 := cell_of_row _ _ 5 _ _ _ (aA HM).row
    simp [rrow] at a1 a4 a5
    have HH1 := hide (sZ _ rs (q.t : Int) q.wa q.wc w4 (aA HM).sees.list (by have := (aA HM).sees.few; omega) (by omega) (by omega))
    generalize hm2 : mayB true rs (q.t : Int) (q.wa : Int) q.wc = b2 at HH1
    go_wp2_with fail
    refine (aA HH1).mono ?_
    rintro r w5 ⟨rfl, hb5⟩
    replace HM := hide ((aA HM).step hb5)
    clear HH1 hb5 a1 a4 a5
    cases b2 with
    | false =>
     have HX : Hid (excL L.length rs q = 4) := by
      show _ = _
      unfold excL
      rw [hh1, hh2, hm1, hm2]
      simp
     clear hh1 hh2 hm1 hm2
     have a0 := cell_of_row _ _ 0 _ _ _ (aA HM).row
     have a1 := cell_of_row _ _ 1 _ _ _ (aA HM).row
     have a2 := cell_of_row _ _ 2 _ _ _ (aA HM).row
     have a3 := cell_of_row _ _ 3 _ _ _ (aA HM).row
     have a4 := cell_of_row _ _ 4 _ _ _ (aA HM).row
     have a5 := cell_of_row _ _ 5 _ _ _ (aA HM).row
     have a6 := cell_of_row _ _ 6 _ _ _ (aA HM).row
     have a7 := cell_of_row _ _ 7 _ _ _ (aA HM).row
     have a8 := cell_of_row _ _ 8 _ _ _ (aA HM).row
     simp [rrow] at a0 a1 a2 a3 a4 a5 a6 a7 a8
     go_wp2_with fail
     refine (gB q.f q.t q.ra q.rc q.wa q.wc vv q.keep ve 4 _).mono ?_
     rintro r w7 ⟨v7, rfl, he7, hb7⟩
     obtain ⟨T7, p7, rfl⟩ := he7.iface
     have HE7 := hide he7
     have HB7 := hide (aD (aA HM).bel hb7)
     clear he7 hb7 a0 a1 a2 a3 a4 a5 a6 a7 a8 HM
     go_wp2_with fail
     refine (eW _ _ _ _ _ _ (aA HE7)).mono ?_
     rintro r w8 ⟨v8, rfl, he8, hb8⟩
     obtain ⟨T8, p8, rfl⟩ := he8.iface
     have HE8 := hide he8
     clear he8
     go_wp2
     go_ret
     exact kW.bad (aA HX) (by decide) (aD (aA HB7) hb8) (aA HE8)
    | true =>
     have HX : Hid (excL L.length rs q = 0) := by
      show _ = _
      unfold excL
      rw [hh1, hh2, hm1, hm2]
      simp
     clear hh1 hh2 hm1 hm2
     go_wp2
     go_ret
     refine ⟨(aA HM).bel, ?_⟩
     rw [if_pos (aA HX)]
     rfl
theorem aBn (w : World) (o : Obj) : Below w.heap.size w (w.alloc o) := (Below.refl _ _).alloc (Nat.le_refl _) _
theorem uX (rb sb : Nat) (cl f : Int) (v : Value) (bs : List Int) (w : World) (hrow : w.heap[rb]? = some (.cells #[.pointer (some ⟨sb, 0, none⟩)] 106 (0, 0))) (hv : Lies w v (f :: bs)) (hb0 : bs ≠ []) (Q : World → World → Value → Prop)
  (HD : ∀ w1 v1, Below w.heap.size w w1 → Lies w1 v1 bs → v1.ownBlock = v.ownBlock → Calls Tryz.prog 67 #[.pointer (some ⟨sb, 0, none⟩), .int .i64 cl, .int .u8 f, v1] w1 fun r w' => ∃ a n c w2, r = .returned (.tuple #[.slice a n c, .nilIface]) ∧ Q w1 w2 (.slice a n c) ∧ Below w2.heap.size w2 w' ∧ ∀ k, v1.ownBlock = some k → w'.heap[k]? = w1.heap[k]?) :
  Calls Tryz.prog 46 #[.pointer (some ⟨rb, 0, none⟩), .int .i64 cl, v] w fun r w' => ∃ a n c w1 w2, r = .returned (.slice a n c) ∧ Below w.heap.size w w1 ∧ Q w1 w2 (.slice a n c) ∧ Below w2.heap.size w2 w' := by
 obtain ⟨b, o, c1, rfl, hlc, hbl, hcc⟩ := hv.shape (by simp)
 have hx0 := hcc 0 (by simp)
 rw [Nat.add_zero] at hx0
 simp at hx0
 have hl1 : (f :: bs).length = bs.length + 1 := by simp
 rw [hl1] at hv hlc ⊢
 have HLi := hide hv
 have HD' := hide HD
 have hk := fR rb sb
 have HK := hide hk
 have HR := hide hrow
 clear hk hrow HD hv hcc hl1
 have hlc' : (bs.length : Int) + 1 ≤ (c1 : Int) := by omega
 have hbp : 0 < bs.length := List.length_pos_iff.2 hb0
 have h1c : (1 : Int) < (c1 : Int) := by omega
 have hl1' : (1 : Int) ≤ (bs.length : Int) + 1 := by omega
 go_enter Tryz.func46, Tryz.ntmps46
 have HKd : Hid (Calls Tryz.prog 42 #[.pointer (some ⟨rb, 0, none⟩)] w.drew fun e w' => e = .returned (.pointer (some ⟨sb, 0, none⟩)) ∧ Below w.heap.size w w') := by
  refine (aA HK w.drew (aA HR)).mono ?_
  rintro r w' ⟨rfl, h3⟩
  exact ⟨rfl, ⟨h3.os, h3.tape, h3.output, h3.size, h3.block⟩⟩
 have HDo : Hid (∀ w3, Below w.heap.size w w3 → Calls Tryz.prog 67 #[.pointer (some ⟨sb, 0, none⟩), .int .i64 cl, .int .u8 f, .slice (some ⟨b, o + 1, none⟩) bs.length (c1 - 1)] w3 fun r w' => ∃ a n c w2, r = .returned (.tuple #[.slice a n c, .nilIface]) ∧ Q w3 w2 (.slice a n c) ∧ Below w2.heap.size w2 w' ∧ w'.heap[b]? = w3.heap[b]?) := fun w3 hb3 => by
  have hl := kJ (n := 1) (bs := f :: bs) (o := o) (c := c1) ((aA HLi).below hb3) (by simp) (by omega)
  simp at hl
  refine (aA HD' w3 _ hb3 hl rfl).mono ?_
  rintro r w' ⟨a, n, c, w2, rfl, h1, h2, h3⟩
  exact ⟨a, n, c, w2, rfl, h1, h2, h3 b rfl⟩
 have HZ3 : Hid (∀ w3, Below w.heap.size w w3 → w3.cell? ⟨b, o, none⟩ = some (.int .u8 f)) := fun w3 h => (h.cell (by exact hbl)).trans hx0
 have HZ4 : Hid (∀ w3 w4 : World, Below w.heap.size w w3 → w4.heap[b]? = w3.heap[b]? → w4.cell? ⟨b, o, none⟩ = some (.int .u8 f)) := fun w3 w4 h h2 => (World.cell?_of_block h2).trans (aA HZ3 w3 h)
 go_wp2_with fail
 go_region_held3 (fun w' => w'.cell? ⟨b, o, none⟩ = some (.int .u8 f))
  (first
    | exact hx0
    | exact aA HZ3 _ (by assumption)
    | exact aA HZ4 _ _ (by assumption) (by assumption))
  (first
    | (go_at_call 42; refine (aA HKd).mono ?_; rintro r w3 ⟨rfl, hb3⟩)
    | (go_at_call 67; refine (aA HDo _ (by assumption)).mono ?_; rintro r w4 ⟨a4, n4, c4, w5, rfl, hq, hbq, hk4⟩)
    | fail)
 all_goals
  have HQ := hide hq
  have HBQ := hide hbq
  have HB3 := hide hb3
  clear hq hbq hb3 hk4
  go_wp2_with (go_at_call 68; refine (aHj _ _).mono ?_; rintro r w6 ⟨rfl, hb6⟩)
  go_ret
  exact ⟨a4, n4, c4, _, w5, rfl, aA HB3, aA HQ, aD (aD (aA HBQ) (aBn _ _)) hb6⟩
theorem jO (rb sb : Nat) (cl : Nat) (v : Value) (bs : List Int) (a : Option Addr) (n c : Nat) (w : World) (hrow : w.heap[rb]? = some (.cells #[.pointer (some ⟨sb, 0, none⟩)] 106 (0, 0))) (hcl : w.cell? ⟨sb, 3, none⟩ = some (.slice a n c)) (lsb : sb < w.heap.size) (hn : cl < n) (hv : ∃ av cv, v = .slice av bs.length cv) (hb0 : bs ≠ []) (hlen : bs.length ≤ 253) (Q : World → World → Value → Prop)
  (HA : ∀ w1, Below w.heap.size w w1 → Calls Tryz.prog 46 #[.pointer (some ⟨rb, 0, none⟩), .int .i64 cl, v] w1 fun r w' => ∃ a n c, r = .returned (.slice a n c) ∧ Q w1 w' (.slice a n c)) :
  Calls Tryz.prog 28 #[.pointer (some ⟨rb, 0, none⟩), .int .i64 cl, v] w fun r w' => ∃ a n c w1, r = .returned (.tuple #[.slice a n c, .int .i64 0]) ∧ Below w.heap.size w w1 ∧ Q w1 w' (.slice a n c) := by
 obtain ⟨av, cv, rfl⟩ := hv
 have hbp : 0 < bs.length := List.length_pos_iff.2 hb0
 have HK := hide (fR rb sb w hrow)
 have HA' := hide HA
 clear hrow HA
 have hl253 : (bs.length : Int) ≤ 253 := by omega
 have hl1' : (1 : Int) ≤ (bs.length : Int) := by omega
 go_enter Tryz.func28, Tryz.ntmps28
 go_wp2_with fail
 refine (aA HK).mono ?_
 rintro r w1 ⟨rfl, hb1⟩
 have hcl1 := (hb1.cell (by exact lsb)).trans hcl
 have HHC := hide (iQ sb a n c cl w1 hcl1)
 have hd : (decide ((0 : Int) ≤ (cl : Int)) && decide ((cl : Int) < (n : Int))) = true := by simp; omega
 rw [hd] at HHC
 have HB1 := hide hb1
 clear hcl1 hd hb1 HK hcl
 go_wp2_with fail
 refine (aA HHC).mono ?_
 rintro r w2 ⟨rfl, hb2⟩
 have HB2 := hide (aD (aA HB1) hb2)
 clear HHC hb2 HB1
 go_wp2_with fail
 refine (aA HA' w2 (aA HB2)).mono ?_
 rintro r w3 ⟨a3, n3, c3, rfl, hq⟩
 have HQ := hide hq
 clear hq HA'
 go_wp2
 exact bodyPost_ret (by simp [results, Tryz.results28]) rfl ⟨a3, n3, c3, w2, rfl, aA HB2, aA HQ⟩
theorem oL (rb sb : Nat) (cl : Nat) (f : Int) (v : Value) (bs : List Int) (a : Option Addr) (n c : Nat) (w : World) (hrow : w.heap[rb]? = some (.cells #[.pointer (some ⟨sb, 0, none⟩)] 106 (0, 0))) (hcl : w.cell? ⟨sb, 3, none⟩ = some (.slice a n c)) (lsb : sb < w.heap.size) (hn : cl < n) (hv : Lies w v (f :: bs)) (hb0 : bs ≠ []) (hlen : bs.length ≤ 252) (Q : World → World → Value → Prop)
  (HD : ∀ w1 v1, Below w.heap.size w w1 → Lies w1 v1 bs → v1.ownBlock = v.ownBlock → Calls Tryz.prog 67 #[.pointer (some ⟨sb, 0, none⟩), .int .i64 cl, .int .u8 f, v1] w1 fun r w' => ∃ a n c w2, r = .returned (.tuple #[.slice a n c, .nilIface]) ∧ Q w1 w2 (.slice a n c) ∧ Below w2.heap.size w2 w' ∧ ∀ k, v1.ownBlock = some k → w'.heap[k]? = w1.heap[k]?) :
  Calls Tryz.prog 28 #[.pointer (some ⟨rb, 0, none⟩), .int .i64 cl, v] w fun r w' => ∃ a n c w1 w2, r = .returned (.tuple #[.slice a n c, .int .i64 0]) ∧ Below w.heap.size w w1 ∧ Q w1 w2 (.slice a n c) ∧ Below w2.heap.size w2 w' := by
 refine (jO rb sb cl v (f :: bs) a n c w hrow hcl lsb hn hv.slice (by simp) (by simp; omega) (fun w0 w' x => ∃ w1 w2, Below w0.heap.size w0 w1 ∧ Q w1 w2 x ∧ Below w2.heap.size w2 w') ?_).mono ?_
 ·intro w1 hb1
  refine (uX rb sb cl f v bs w1 ((hb1.block rb (Array.getElem?_eq_some_iff.1 hrow).1).trans hrow) (hv.below hb1) hb0 Q (fun w2 v1 hb2 => HD w2 v1 (aD hb1 hb2))).mono ?_
  rintro r w' ⟨a, n, c, w2, w3, rfl, h1, h2, h3⟩
  exact ⟨a, n, c, rfl, w2, w3, h1, h2, h3⟩
 ·rintro r w' ⟨a, n, c, w1, rfl, hb1, w2, w3, h1, h2, h3⟩
  exact ⟨a, n, c, w2, w3, rfl, aD hb1 h1, h2, h3⟩
def szOk (z : Int) : Bool := decide (0 ≤ z) && decide (z ≤ 200)
def eH (z0 z1 z2 z3 lim : Int) (LL : List (List Rule)) : Bool := (decide (1 ≤ lim) && decide (lim ≤ 4)) && (decide (LL.length ≤ 6) && cE LL) && (szOk z0 && szOk z1 && szOk z2 && szOk z3)
theorem jJ {z : Int} (h : szOk z = false) : z < 0 ∨ 200 < z := by
 unfold szOk at h
 simp at h
 omega
theorem iA {z : Int} (h : szOk z = true) : decide (z < 0) = false ∧ decide (200 < z) = false := by
 unfold szOk at h
 simp at h ⊢
 omega
theorem tT (z0 z1 z2 z3 lim : Int) (v : Value) (LL : List (List Rule)) (w : World) (h : bZ w v LL) (hn : LL.length ≤ 100000000) (hr : ∀ rs ∈ LL, rs.length ≤ 100000000) (hbad : eH z0 z1 z2 z3 lim LL = false) :
  Calls Tryz.prog 47 #[.agg #[.int .i64 z0, .int .i64 z1, .int .i64 z2, .int .i64 z3, .int .i64 lim, v]] w fun e w' => e = .returned (.tuple #[.pointer none, .int .i64 2]) ∧ Below w.heap.size w w' := by
 have hb0 : Below w.heap.size w (w.alloc (.cells #[.int .i64 z0, .int .i64 z1, .int .i64 z2, .int .i64 z3, .int .i64 lim, v] 58)) := (Below.refl _ _).alloc (Nat.le_refl _) _
 have HR := hide (lG v LL _ (h.below hb0) hn hr)
 have HB0 := hide hb0
 have R0 : Hid ((w.alloc (.cells #[.int .i64 z0, .int .i64 z1, .int .i64 z2, .int .i64 z3, .int .i64 lim, v] 58)).heap[w.heap.size]? = some (.cells #[.int .i64 z0, .int .i64 z1, .int .i64 z2, .int .i64 z3, .int .i64 lim, v] 58 (0, 0))) := heap_alloc_new w _
 obtain ⟨a, c, rfl, _⟩ := h
 clear hb0
 unfold eH at hbad
 go_enter Tryz.func47, Tryz.ntmps47
 go_wp2_with fail
 refine (aA HR).mono ?_
 rintro e w1 ⟨v1, rfl, hcl, hb1⟩
 have HB1 := hide (aD (aA HB0) hb1)
 have R1 := hide ((hb1.block w.heap.size (by simp)).trans (aA R0))
 have q0 := cell_of_row _ _ 0 _ _ _ (aA R1)
 have q1 := cell_of_row _ _ 1 _ _ _ (aA R1)
 have q2 := cell_of_row _ _ 2 _ _ _ (aA R1)
 have q3 := cell_of_row _ _ 3 _ _ _ (aA R1)
 have q4 := cell_of_row _ _ 4 _ _ _ (aA R1)
 simp at q0 q1 q2 q3 q4
 clear hcl hb1 HR R0
 generalize (decide (LL.length ≤ 6) && cE LL) = okr at hbad ⊢
 cases okr with
 | false =>
  go_wp2
  refine bodyPost_ret (v := .tuple #[.pointer none, .int .i64 2]) (by simp [results, Tryz.results47]) rfl ⟨rfl, ?_⟩
  repeat (first | exact aA HB1 | refine Below.drew ?_)
 | true =>
  by_cases l1 : lim < 1
  ·have l1' : decide (lim < 1) = true := decide_eq_true l1
   go_wp2
   refine bodyPost_ret (v := .tuple #[.pointer none, .int .i64 2]) (by simp [results, Tryz.results47]) rfl ⟨rfl, ?_⟩
   repeat (first | exact aA HB1 | refine Below.drew ?_)
  by_cases l2 : 4 < lim
  ·have l1' : decide (lim < 1) = false := decide_eq_false l1
   go_wp2
   refine bodyPost_ret (v := .tuple #[.pointer none, .int .i64 2]) (by simp [results, Tryz.results47]) rfl ⟨rfl, ?_⟩
   repeat (first | exact aA HB1 | refine Below.drew ?_)
  have l1' : decide (lim < 1) = false := decide_eq_false l1
  have l2' : decide (4 < lim) = false := decide_eq_false l2
  have hz : (szOk z0 && szOk z1 && szOk z2 && szOk z3) = false := by
   have e1 : decide (1 ≤ lim) = true := decide_eq_true (by omega)
   have e2 : decide (lim ≤ 4) = true := decide_eq_true (by omega)
   rw [e1, e2] at hbad
   exact hbad
  clear l1 l2 hbad
  have hsz := aEf (.int .i64 z0) (.int .i64 z1) (.int .i64 z2) (.int .i64 z3)
  have hx0 := fun w => (hsz w).1
  have hx1 := fun w => (hsz w).2.1
  have hx2 := fun w => (hsz w).2.2.1
  have hx3 := fun w => (hsz w).2.2.2
  clear hsz
  go_wp2_with fail
  go_loopw [28] (fun i wr => ∃ k : Nat, k ≤ 4 ∧ i = .int .i64 k ∧ wr = w1 ∧ Hid ((0 < k → szOk z0 = true) ∧ (1 < k → szOk z1 = true) ∧ (2 < k → szOk z2 = true) ∧ (3 < k → szOk z3 = true))) (fun i _ => 4 - (intOf i).toNat)
  case atStart => exact ⟨0, by omega, rfl, rfl, fun e => absurd e (by omega), fun e => absurd e (by omega), fun e => absurd e (by omega), fun e => absurd e (by omega)⟩
  case round =>
   obtain ⟨k, hk, rfl, hwr, HG⟩ := hrel
   subst hwr
   have hk5 : k = 0 ∨ k = 1 ∨ k = 2 ∨ k = 3 ∨ k = 4 := by omega
   rcases hk5 with rfl | rfl | rfl | rfl | rfl
   ·by_cases e : szOk z0 = true
    ·obtain ⟨s1, s2⟩ := iA e
     have E := hide e
     clear e
     go_wp2
     go_roundw
     case rel => exact ⟨1, by omega, by simp, by trivial, fun _ => aA E, fun e => absurd e (by omega), fun e => absurd e (by omega), fun e => absurd e (by omega)⟩
     case measure => simp [intOf]
    ·replace e := by simpa using e
     by_cases s1 : z0 < 0
     ·go_wp2
      refine bodyPost_ret (v := .tuple #[.pointer none, .int .i64 2]) (by simp [results, Tryz.results47]) rfl ⟨rfl, ?_⟩
      repeat (first | exact aA HB1 | refine Below.drew ?_)
     ·have s1' : decide (z0 < 0) = false := decide_eq_false s1
      have s2 : 200 < z0 := (jJ e).resolve_left s1
      go_wp2
      refine bodyPost_ret (v := .tuple #[.pointer none, .int .i64 2]) (by simp [results, Tryz.results47]) rfl ⟨rfl, ?_⟩
      repeat (first | exact aA HB1 | refine Below.drew ?_)
   ·by_cases e : szOk z1 = true
    ·obtain ⟨s1, s2⟩ := iA e
     have E := hide e
     clear e
     go_wp2
     go_roundw
     case rel => exact ⟨2, by omega, by simp, by trivial, fun _ => (aA HG).1 (by omega), fun _ => aA E, fun e => absurd e (by omega), fun e => absurd e (by omega)⟩
     case measure => simp [intOf]
    ·replace e := by simpa using e
     by_cases s1 : z1 < 0
     ·go_wp2
      refine bodyPost_ret (v := .tuple #[.pointer none, .int .i64 2]) (by simp [results, Tryz.results47]) rfl ⟨rfl, ?_⟩
      repeat (first | exact aA HB1 | refine Below.drew ?_)
     ·have s1' : decide (z1 < 0) = false := decide_eq_false s1
      have s2 : 200 < z1 := (jJ e).resolve_left s1
      go_wp2
      refine bodyPost_ret (v := .tuple #[.pointer none, .int .i64 2]) (by simp [results, Tryz.results47]) rfl ⟨rfl, ?_⟩
      repeat (first | exact aA HB1 | refine Below.drew ?_)
   ·by_cases e : szOk z2 = true
    ·obtain ⟨s1, s2⟩ := iA e
     have E := hide e
     clear e
     go_wp2
     go_roundw
     case rel => exact ⟨3, by omega, by simp, by trivial, fun _ => (aA HG).1 (by omega), fun _ => (aA HG).2.1 (by omega), fun _ => aA E, fun e => absurd e (by omega)⟩
     case measure => simp [intOf]
    ·replace e := by simpa using e
     by_cases s1 : z2 < 0
     ·go_wp2
      refine bodyPost_ret (v := .tuple #[.pointer none, .int .i64 2]) (by simp [results, Tryz.results47]) rfl ⟨rfl, ?_⟩
      repeat (first | exact aA HB1 | refine Below.drew ?_)
     ·have s1' : decide (z2 < 0) = false := decide_eq_false s1
      have s2 : 200 < z2 := (jJ e).resolve_left s1
      go_wp2
      refine bodyPost_ret (v := .tuple #[.pointer none, .int .i64 2]) (by simp [results, Tryz.results47]) rfl ⟨rfl, ?_⟩
      repeat (first | exact aA HB1 | refine Below.drew ?_)
   ·by_cases e : szOk z3 = true
    ·obtain ⟨s1, s2⟩ := iA e
     have E := hide e
     clear e
     go_wp2
     go_roundw
     case rel => exact ⟨4, by omega, by simp, by trivial, fun _ => (aA HG).1 (by omega), fun _ => (aA HG).2.1 (by omega), fun _ => (aA HG).2.2.1 (by omega), fun _ => aA E⟩
     case measure => simp [intOf]
    ·replace e := by simpa using e
     by_cases s1 : z3 < 0
     ·go_wp2
      refine bodyPost_ret (v := .tuple #[.pointer none, .int .i64 2]) (by simp [results, Tryz.results47]) rfl ⟨rfl, ?_⟩
      repeat (first | exact aA HB1 | refine Below.drew ?_)
     ·have s1' : decide (z3 < 0) = false := decide_eq_false s1
      have s2 : 200 < z3 := (jJ e).resolve_left s1
      go_wp2
      refine bodyPost_ret (v := .tuple #[.pointer none, .int .i64 2]) (by simp [results, Tryz.results47]) rfl ⟨rfl, ?_⟩
      repeat (first | exact aA HB1 | refine Below.drew ?_)
   ·have g := aA HG
    rw [g.1 (by omega), g.2.1 (by omega), g.2.2.1 (by omega), g.2.2.2 (by omega)] at hz
    cases hz
theorem sE (z0 z1 z2 z3 lim : Int) (v : Value) (LL : List (List Rule)) (w : World) (h : bZ w v LL) (hn : LL.length ≤ 100000000) (hr : ∀ rs ∈ LL, rs.length ≤ 100000000) (hbad : eH z0 z1 z2 z3 lim LL = false) :
  Calls Tryz.prog 29 #[.agg #[.int .i64 z0, .int .i64 z1, .int .i64 z2, .int .i64 z3, .int .i64 lim, v]] w fun e w' => e = .returned (.tuple #[.pointer none, .int .i64 2]) ∧ Below w.heap.size w w' := by
 have HB : Hid (∀ w1, Below w.heap.size w w1 → Calls Tryz.prog 47 #[.agg #[.int .i64 z0, .int .i64 z1, .int .i64 z2, .int .i64 z3, .int .i64 lim, v]] w1 fun e w' => e = .returned (.tuple #[.pointer none, .int .i64 2]) ∧ Below w1.heap.size w1 w') := fun w1 hb => tT z0 z1 z2 z3 lim v LL w1 (h.below hb) hn hr hbad
 clear h
 have hb0 : Below w.heap.size w (w.alloc (.cells #[.int .i64 z0, .int .i64 z1, .int .i64 z2, .int .i64 z3, .int .i64 lim, v] 58)) := (Below.refl _ _).alloc (Nat.le_refl _) _
 have HB0 := hide hb0
 clear hb0
 go_enter Tryz.func29, Tryz.ntmps29
 go_wp2_with fail
 refine (aA HB _ (aA HB0)).mono ?_
 rintro e w1 ⟨rfl, hb1⟩
 have HB1 := hide (aD (aA HB0) hb1)
 clear hb1 HB
 go_wp2
 refine bodyPost_ret (v := .tuple #[.pointer none, .int .i64 2]) (by simp [results, Tryz.results29]) rfl ⟨rfl, ?_⟩
 repeat (first | exact aA HB1 | refine Below.drew ?_)
theorem zR : (Tryz.prog.info? 55).map (fun i => (i.zero, i.size, i.bytes)) = some (some (.slice none 0 0), 1, 24) := by kernel_rfl
theorem yM : (Tryz.prog.info? 58).map (·.size) = some 6 := by kernel_rfl
def fW : Rule := ⟨-77, 0, 0, false, false⟩
def dC (rs : List Rule) : List Value := rs.flatMap fun x => x.cells.toList
theorem oN (rs : List Rule) : (dC rs).length = rs.length * 5 := jM rs
def hY (w : World) (S : Nat) (u : Value) (rs : List Rule) : Prop := ∃ g c, u = .slice (some ⟨g, 0, none⟩) rs.length c ∧ w.ownsRow S 52 5 (.slice (some ⟨g, 0, none⟩) (rs.length + 1) c) (rs.length + 1) (dC (rs ++ [fW]))
structure LentL (w : World) (S : Nat) (LL : List (List Rule)) (k : Nat) (us : List Value) : Prop where
 len : us.length = k
 at_ : ∀ (i : Nat) rs u, LL[i]? = some rs → us[i]? = some u → hY w S u rs
 nd : ∀ (i j : Nat) u u', us[i]? = some u → us[j]? = some u' → i ≠ j → u.ownBlock ≠ u'.ownBlock
 lt : ∀ u ∈ us, ∀ g, u.ownBlock = some g → g < w.heap.size
theorem hY.keep {w w' : World} {S : Nat} {u : Value} {rs : List Rule} (h : hY w S u rs) (k : ∀ g, u.ownBlock = some g → w'.heap[g]? = w.heap[g]?) : hY w' S u rs := by
 obtain ⟨g, c, rfl, h⟩ := h
 exact ⟨g, c, rfl, aJ h fun i _ p q => k i q⟩
theorem oZ (z0 z1 z2 z3 lim : Int) (w : World) :
  Calls Tryz.prog 85 #[.agg #[.int .i64 z0, .int .i64 z1, .int .i64 z2, .int .i64 z3, .int .i64 lim, .slice none 0 0]] w fun e w' => e = .returned (.agg #[.int .i64 z0, .int .i64 z1, .int .i64 z2, .int .i64 z3, .int .i64 lim, .slice none 0 0]) ∧ Below w.heap.size w w' := by
 have q56 : ∀ (w : World) (a : Option Addr) (n c n' c' : Nat), (binOp .eql 56 (.slice a n c) (.slice none n' c')).run Tryz.prog w = .ok (.bool a.isNone) w := fun w a n c n' c' => Lib.run_eql_slice_nil w _ _ a n c n' c' Tryz.underlying56
 go_enter Tryz.func85, Tryz.ntmps85
 go_wp2
 have hb : Below w.heap.size w ((w.alloc (.cells #[.int .i64 z0, .int .i64 z1, .int .i64 z2, .int .i64 z3, .int .i64 lim, .slice none 0 0] 58)).alloc (.cells #[.int .i64 z0, .int .i64 z1, .int .i64 z2, .int .i64 z3, .int .i64 lim, .slice none 0 0] 58)) := bL (bL (Below.refl _ _) _) _
 have hr := heap_alloc_new (w.alloc (.cells #[.int .i64 z0, .int .i64 z1, .int .i64 z2, .int .i64 z3, .int .i64 lim, .slice none 0 0] 58)) (.cells #[.int .i64 z0, .int .i64 z1, .int .i64 z2, .int .i64 z3, .int .i64 lim, .slice none 0 0] 58)
 rw [show (w.alloc (.cells #[.int .i64 z0, .int .i64 z1, .int .i64 z2, .int .i64 z3, .int .i64 lim, .slice none 0 0] 58)).heap.size = w.heap.size + 1 by simp] at hr
 exact bodyPost_ret (v := .agg #[.int .i64 z0, .int .i64 z1, .int .i64 z2, .int .i64 z3, .int .i64 lim, .slice none 0 0]) (results_cell_row Tryz.results85 _ _ (w.heap.size + 1) 58 _ (0, 0) _ rfl hr Tryz.underlying58 rfl yM) rfl ⟨rfl, hb⟩
def wO (w : World) (S : Nat) (v : Value) (LL : List (List Rule)) : Prop := ∃ g c us x gx cx, v = .slice (some ⟨g, 0, none⟩) LL.length c ∧ w.ownsRow S 55 1 (.slice (some ⟨g, 0, none⟩) (LL.length + 1) c) (LL.length + 1) (us ++ [x]) ∧ x = .slice (some ⟨gx, 0, none⟩) 1 cx ∧ w.ownsRow S 52 5 x 1 (dC [fW]) ∧ LentL w S LL LL.length us
theorem LentL.nil (w : World) (S : Nat) (LL : List (List Rule)) : LentL w S LL 0 [] := ⟨rfl, fun i rs u _ e => by simp at e, fun i j u u' e => by simp at e, fun u m => by simp at m⟩
theorem LentL.more {w w3 w' : World} {S : Nat} {LL : List (List Rule)} {k : Nat} {us : List Value} {rs : List Rule} {u : Value} {D : Nat → Prop} (h : LentL w S LL k us) (hrs : LL[k]? = some rs) (hb : Below w.heap.size w w3) (hu : hY w3 w.heap.size u rs) (hS : S ≤ w.heap.size) (c : Chg w3 w' D) (hD : ∀ g, D g → ∀ cs fr, w3.heap[g]? ≠ some (.cells cs 52 fr)) : LentL w' S LL (k + 1) (us ++ [u]) := by
 have own : ∀ {B : Nat} {u : Value} {rs : List Rule}, hY w3 B u rs → ∀ g, u.ownBlock = some g → ∃ cs fr, w3.heap[g]? = some (.cells cs 52 fr) := fun h g e => by
  obtain ⟨g', c, rfl, h⟩ := h
  exact bH h (by simpa [Value.ownBlock] using e)
 have ltR : ∀ {W : World} {B : Nat} {u : Value} {rs : List Rule}, hY W B u rs → ∀ g, u.ownBlock = some g → B ≤ g ∧ g < W.heap.size := fun h g e => by
  obtain ⟨g', c, rfl, h⟩ := h
  exact World.ownsRow.lt h g (by simpa [Value.ownBlock] using e)
 have z1 := hb.size
 have z2 := c.size
 have kk : k < LL.length := (List.getElem?_eq_some_iff.1 hrs).1
 have old : ∀ (i : Nat) rs u, LL[i]? = some rs → us[i]? = some u → hY w3 S u rs := fun i rs u e1 e2 => (h.at_ i rs u e1 e2).keep fun g e => hb.block g (ltR (h.at_ i rs u e1 e2) g e).2
 have stay : ∀ {B : Nat} {u : Value} {rs : List Rule}, hY w3 B u rs → hY w' B u rs := fun q => q.keep fun g e => by
  obtain ⟨cs, fr, hh⟩ := own q g e
  exact c.block g (ltR q g e).2 (fun d => hD g d cs fr hh)
 have weak : hY w' S u rs := by
  obtain ⟨g, cc, rfl, q⟩ := stay hu
  exact ⟨g, cc, rfl, fH q hS⟩
 have ul : ∀ g, u.ownBlock = some g → w.heap.size ≤ g ∧ g < w3.heap.size := fun g e => ltR hu g e
 have hl := h.len
 refine ⟨by simp [hl], fun i rs' u' e1 e2 => ?_, fun i j u1 u2 e1 e2 n q => ?_, fun u' m g e => ?_⟩
 ·by_cases hi : i < us.length
  ·rw [List.getElem?_append_left hi] at e2
   exact stay (old i rs' u' e1 e2)
  ·have : i = k := by
    have := (List.getElem?_eq_some_iff.1 e2).1
    simp at this
    omega
   subst this
   rw [List.getElem?_append_right (by omega)] at e2
   rw [hrs] at e1
   cases e1
   rw [hl, Nat.sub_self] at e2
   cases e2
   exact weak
 ·have lt1 : ∀ (i : Nat) u1, (us ++ [u])[i]? = some u1 → (us[i]? = some u1 ∧ i < k) ∨ (u1 = u ∧ i = k) := fun i u1 e => by
   by_cases hi : i < us.length
   ·rw [List.getElem?_append_left hi] at e
    exact .inl ⟨e, by omega⟩
   ·have h1 := (List.getElem?_eq_some_iff.1 e).1
    simp at h1
    have : i = us.length := by omega
    subst this
    rw [List.getElem?_append_right (by omega), Nat.sub_self] at e
    cases e
    exact .inr ⟨rfl, hl⟩
  obtain ⟨g, cg, hu', _⟩ := hu
  rcases lt1 i u1 e1 with ⟨a1, b1⟩ | ⟨rfl, b1⟩ <;> rcases lt1 j u2 e2 with ⟨a2, b2⟩ | ⟨rfl, b2⟩
  ·exact h.nd i j u1 u2 a1 a2 n q
  ·rw [hu'] at q
   have := h.lt u1 (List.mem_of_getElem? a1) g q
   have := ul g (by rw [hu']; rfl)
   omega
  ·rw [hu'] at q
   have := h.lt u2 (List.mem_of_getElem? a2) g q.symm
   have := ul g (by rw [hu']; rfl)
   omega
  ·exact n (b1.trans b2.symm)
 ·rcases List.mem_append.1 m with m | m
  ·have := h.lt u' m g e
   omega
  ·rw [List.mem_singleton.1 m] at e
   have := ul g e
   omega
theorem aHk (b o j : Nat) : (⟨b, o, none⟩ : Addr).add j = ⟨b, o + j, none⟩ := by unfold Addr.add; split <;> simp_all
theorem wZ {w : World} {b o : Nat} {rs : List Rule} (h : ∀ (i : Nat) x, rs[i]? = some x → ∀ (j : Nat) u, x.cells[j]? = some u → w.cell? ⟨b, o + i * 5 + j, none⟩ = some u) : ∀ (j : Nat) u, (dC rs)[j]? = some u → w.cell? ((⟨b, o, none⟩ : Addr).add j) = some u := fun j u hj => by
 have hl := (List.getElem?_eq_some_iff.1 hj).1
 rw [oN] at hl
 have hi : j / 5 < rs.length := by omega
 have hx := List.getElem?_eq_getElem hi
 have e : j = j / 5 * 5 + j % 5 := by omega
 rw [e] at hj
 have hj2 : rs[j / 5].cells[j % 5]? = some u := (gA rs (j / 5) (j % 5) _ hx (by omega)).symm.trans hj
 have := h _ _ hx _ _ hj2
 rw [aHk, show o + j = o + j / 5 * 5 + j % 5 by omega]
 exact this
theorem xB (rs : List Rule) : ∀ u ∈ dC rs, u.oneCell' = true := qO rs
theorem mW (rs : List Rule) (x : Rule) : dC rs ++ x.cells.toList = dC (rs ++ [x]) := by simp [dC]
theorem gY {w w' : World} {base n m : Nat} {v v' : Value} (h : Kept w w' base v v' n m) : Chg w w' (fun k => v.ownBlock = some k) := Chg.of_grown h.grown
structure LCI (w : World) (cfg : Array Value) (LL : List (List Rule)) (k : Nat) (al : Value) (us : List Value) (wr : World) : Prop where
 cfg : wr.heap[w.heap.size]? = some (.cells cfg 58 (0, 0))
 res : wr.heap[w.heap.size + 1]? = some (.cells #[.int .i64 0, .int .i64 0, .int .i64 0, .int .i64 0, .int .i64 0, .slice none 0 0] 58 (0, 0))
 row : wr.ownsRow w.heap.size 55 1 al k us
 ls : LentL wr w.heap.size LL k us
 below : Below w.heap.size w wr
theorem LCI.more {w wr w3 w5 : World} {cfg : Array Value} {LL : List (List Rule)} {k : Nat} {al al' u : Value} {us : List Value} {rs : List Rule} (h : LCI w cfg LL k al us wr) (hrs : LL[k]? = some rs) (hb : Below wr.heap.size wr w3) (hu : hY w3 wr.heap.size u rs) (o : Obj) (hk : Kept (w3.alloc o) w5 w.heap.size al al' k 1) (r : w5.ownsRow w.heap.size 55 1 al' (k + 1) (us ++ [u])) : LCI w cfg LL (k + 1) al' (us ++ [u]) w5 := by
 have z := h.below.size
 have z3 := hb.size
 have hr3 : w3.ownsRow w.heap.size 55 1 al k us := aJ h.row fun i _ p q => hb.block i p
 have c : Chg w3 w5 (fun g => al.ownBlock = some g) := (Chg.of_below (bL (Below.refl _ _) _) _).trans (gY hk) (fun _ e _ => e)
 have nc : ∀ {g : Nat} {cs : Array Value} {T : TypeId} {fr : Nat × Nat}, w3.heap[g]? = some (.cells cs T fr) → T ≠ 55 → ¬ al.ownBlock = some g := fun hh n e => by
  obtain ⟨cs', fr', q⟩ := bH hr3 e
  exact bG hh q n rfl
 have keep : ∀ {g : Nat} {cs : Array Value} {T : TypeId} {fr : Nat × Nat}, wr.heap[g]? = some (.cells cs T fr) → T ≠ 55 → w5.heap[g]? = some (.cells cs T fr) := fun hh n => by
  have hl := (Array.getElem?_eq_some_iff.1 hh).1
  have h3 := (hb.block _ hl).trans hh
  exact (c.block _ (by omega) (nc h3 n)).trans h3
 refine ⟨keep h.cfg (by decide), keep h.res (by decide), r, h.ls.more hrs hb hu z c (fun g e cs fr hh => nc hh (by decide) e), ?_⟩
 exact bT (aD (aD h.below hb) (bL (Below.refl _ _) _)) (fun j e => (World.ownsRow.lt hr3 j e).1) hk
theorem nF (z0 z1 z2 z3 lim : Int) (ad : Addr) (c : Nat) (LL : List (List Rule)) (w : World) (h : bZ w (.slice (some ad) LL.length c) LL) (hn : LL.length ≤ 100000000) (hr : ∀ rs ∈ LL, rs.length ≤ 100000000) :
  Calls Tryz.prog 85 #[.agg #[.int .i64 z0, .int .i64 z1, .int .i64 z2, .int .i64 z3, .int .i64 lim, .slice (some ad) LL.length c]] w fun e w' => ∃ v, e = .returned (.agg #[.int .i64 z0, .int .i64 z1, .int .i64 z2, .int .i64 z3, .int .i64 lim, v]) ∧ wO w' w.heap.size v LL ∧ Below w.heap.size w w' := by
 have q56 : ∀ (w : World) (a : Option Addr) (n c n' c' : Nat), (binOp .eql 56 (.slice a n c) (.slice none n' c')).run Tryz.prog w = .ok (.bool a.isNone) w := fun w a n c n' c' => Lib.run_eql_slice_nil w _ _ a n c n' c' Tryz.underlying56
 obtain ⟨i5, hi5, hz50, hz51, hz52⟩ := info_parts zR
 obtain ⟨i2, hi2, hz20, hz21, hz22⟩ := info_parts tI
 obtain ⟨cfg, hcfg⟩ : ∃ cfg : Array Value, cfg = #[.int .i64 z0, .int .i64 z1, .int .i64 z2, .int .i64 z3, .int .i64 lim, .slice (some ad) LL.length c] := ⟨_, rfl⟩
 have H := hide h
 have HR := hide hr
 have HCFG := hide hcfg
 clear h hr hcfg
 go_enter Tryz.func85, Tryz.ntmps85
 go_wp2_with fail
 go_loopw [3, 4] (fun al i wr => ∃ (k : Nat) (us : List Value), k ≤ LL.length ∧ i = .int .i64 k ∧ Hid (LCI w cfg LL k al us wr)) (fun al i _ => LL.length - (intOf i).toNat)
 case atStart =>
  refine ⟨0, [], by omega, rfl, ?_⟩
  have e1 := heap_alloc_new (w.alloc (.cells #[.int .i64 z0, .int .i64 z1, .int .i64 z2, .int .i64 z3, .int .i64 lim, .slice (some ad) LL.length c] 58)) (.cells #[.int .i64 0, .int .i64 0, .int .i64 0, .int .i64 0, .int .i64 0, .slice none 0 0] 58)
  rw [show (w.alloc (.cells #[.int .i64 z0, .int .i64 z1, .int .i64 z2, .int .i64 z3, .int .i64 lim, .slice (some ad) LL.length c] 58)).heap.size = w.heap.size + 1 by simp] at e1
  refine ⟨(Below.heap_alloc _ _ _ (by simp)).trans ?_, e1, World.ownsRow_nil _ _ _ _, LentL.nil _ _ _, bL (bL (Below.refl _ _) _) _⟩
  rw [aA HCFG]
  exact heap_alloc_new w _
 case round =>
  obtain ⟨k, us, hk, rfl, HI⟩ := hrel
  have rc := (aA HI).cfg
  rw [aA HCFG] at rc
  have q5 := cell_of_row _ _ 5 _ _ _ rc
  simp at q5
  obtain ⟨aa, an, ac, rfl⟩ := aP (aA HI).row
  have hz := (aA HI).below.size
  clear rc
  by_cases hlt : k < LL.length
  ·obtain ⟨rs, hrs⟩ : ∃ rs, LL[k]? = some rs := ⟨_, List.getElem?_eq_getElem hlt⟩
   obtain ⟨b, o, had, hbl, hu⟩ : ∃ b o, ad = ⟨b, o, none⟩ ∧ b < w.heap.size ∧ ∃ u, w.cell? ⟨b, o + k, none⟩ = some u ∧ cK w u rs := by
    obtain ⟨a', c', e, hh⟩ := aA H
    cases e
    rcases hh with hh | ⟨b, o, e, hb, hc⟩
    ·rw [hh] at hlt
     simp at hlt
    ·cases e
     exact ⟨b, o, rfl, hb, hc k rs hrs⟩
   subst had
   obtain ⟨u, hcu, a', c', rfl, hlist⟩ := hu
   have cu := ((aA HI).below.cell (by exact hbl)).trans hcu
   have hrl := aA HR rs (List.mem_of_getElem? hrs)
   have HRS := hide hrs
   have hlt' : (k : Int) < (LL.length : Int) := by omega
   clear hcu hrs
   by_cases hx : rs = []
   ·subst hx
    clear hlist
    cases a' with
    | none =>
     go_wp2_with (at_builtin; (refine aT _ rfl (.tmp 24) (.tmp 26) 55 rfl wr.heap.size 52 i2 (.agg #[.int .i64 0, .int .i64 0, .int .i64 0, .bool false, .bool false]) 5 32 Tryz.underlying55 hi2 hz20 hz21 hz22 rfl (by decide) _ 0 [] rfl (World.ownsRow_nil _ _ _ _) ⟨wr.heap.size, 0, none⟩ 1 1 [.int .i64 (-77), .int .i64 0, .int .i64 0, .bool false, .bool false] rfl rfl (eE _ #[.int .i64 (-77), .int .i64 0, .int .i64 0, .bool false, .bool false] 52) (by simp [Value.oneCell']) (by decide) (by unfold maxLen; omega) (by omega) (by simp) ?_))
     intro v3 w3 r3 k3
     have hb3 : Below wr.heap.size wr w3 := bT (bL (Below.refl _ _) _) (fun j e => by simp [Value.ownBlock] at e) k3
     have r3' : w3.ownsRow wr.heap.size 52 5 v3 (([] : List Rule).length + 1) (dC ([] ++ [fW])) := r3
     obtain ⟨a3, c3, rfl, h1, h2⟩ := bU r3'
     have HR3 := hide r3'
     clear r3 r3' k3
     obtain ⟨y3, rfl⟩ : ∃ y, a3 = some y := by
      cases a3 with
      | none => have := h1 rfl; omega
      | some y => exact ⟨y, rfl⟩
     obtain ⟨g3, rfl, hc3⟩ := h2 y3 rfl
     have cu3 := (hb3.cell (p := ⟨b, o + k, none⟩) (by show b < wr.heap.size; omega)).trans cu
     have q53 := (hb3.cell (p := ⟨w.heap.size, 5, none⟩) (World.block_lt_of_cell? wr _ q5)).trans q5
     have HB3 := hide hb3
     have HROW : Hid (w3.ownsRow w.heap.size 55 1 (.slice aa an ac) k us) := aJ (aA HI).row fun i _ p q => hb3.block i p
     have hz3 := hb3.size
     clear hb3 h1 h2 q5 cu
     have hc3' : (0 : Int) ≤ (c3 : Int) := by simp
     go_wp2_with (at_builtin; (refine aT _ rfl (.tmp 28) (.tmp 37) 56 rfl w.heap.size 55 i5 (.slice none 0 0) 1 24 Tryz.underlying56 hi5 hz50 hz51 hz52 rfl (by decide) _ k us rfl (World.ownsRow.alloc (aA HROW) _) ⟨w3.heap.size, 0, none⟩ 1 1 [.slice (some ⟨g3, 0, none⟩) 0 c3] rfl rfl (eE _ #[.slice (some ⟨g3, 0, none⟩) 0 c3] 55) (by simp [Value.oneCell']) (by decide) (by unfold maxLen; omega) (by omega) (by simp; omega) ?_))
     intro v5 w5 r5 k5
     have HI5 := hide ((aA HI).more (aA HRS) (aA HB3) ⟨g3, c3, rfl, aA HR3⟩ _ k5 r5)
     obtain ⟨a5, n5, c5, rfl⟩ := aP r5
     clear r5 k5 HI HB3 HROW HR3 HRS
     go_wp2
     go_roundw
     case rel => exact ⟨k + 1, _, by omega, by go_num, HI5⟩
     case measure => simp [intOf]; omega
    | some ad' =>
     go_wp2_with (at_builtin; (refine aT _ rfl (.tmp 24) (.tmp 26) 55 rfl wr.heap.size 52 i2 (.agg #[.int .i64 0, .int .i64 0, .int .i64 0, .bool false, .bool false]) 5 32 Tryz.underlying55 hi2 hz20 hz21 hz22 rfl (by decide) _ 0 [] rfl (World.ownsRow_nil _ _ _ _) ⟨wr.heap.size, 0, none⟩ 1 1 [.int .i64 (-77), .int .i64 0, .int .i64 0, .bool false, .bool false] rfl rfl (eE _ #[.int .i64 (-77), .int .i64 0, .int .i64 0, .bool false, .bool false] 52) (by simp [Value.oneCell']) (by decide) (by unfold maxLen; omega) (by omega) (by simp) ?_))
     intro v3 w3 r3 k3
     have hb3 : Below wr.heap.size wr w3 := bT (bL (Below.refl _ _) _) (fun j e => by simp [Value.ownBlock] at e) k3
     have r3' : w3.ownsRow wr.heap.size 52 5 v3 (([] : List Rule).length + 1) (dC ([] ++ [fW])) := r3
     obtain ⟨a3, c3, rfl, h1, h2⟩ := bU r3'
     have HR3 := hide r3'
     clear r3 r3' k3
     obtain ⟨y3, rfl⟩ : ∃ y, a3 = some y := by
      cases a3 with
      | none => have := h1 rfl; omega
      | some y => exact ⟨y, rfl⟩
     obtain ⟨g3, rfl, hc3⟩ := h2 y3 rfl
     have cu3 := (hb3.cell (p := ⟨b, o + k, none⟩) (by show b < wr.heap.size; omega)).trans cu
     have q53 := (hb3.cell (p := ⟨w.heap.size, 5, none⟩) (World.block_lt_of_cell? wr _ q5)).trans q5
     have HB3 := hide hb3
     have HROW : Hid (w3.ownsRow w.heap.size 55 1 (.slice aa an ac) k us) := aJ (aA HI).row fun i _ p q => hb3.block i p
     have hz3 := hb3.size
     clear hb3 h1 h2 q5 cu
     have hc3' : (0 : Int) ≤ (c3 : Int) := by simp
     go_wp2_with (at_builtin; (refine aT _ rfl (.tmp 28) (.tmp 37) 56 rfl w.heap.size 55 i5 (.slice none 0 0) 1 24 Tryz.underlying56 hi5 hz50 hz51 hz52 rfl (by decide) _ k us rfl (World.ownsRow.alloc (aA HROW) _) ⟨w3.heap.size, 0, none⟩ 1 1 [.slice (some ⟨g3, 0, none⟩) 0 c3] rfl rfl (eE _ #[.slice (some ⟨g3, 0, none⟩) 0 c3] 55) (by simp [Value.oneCell']) (by decide) (by unfold maxLen; omega) (by omega) (by simp; omega) ?_))
     intro v5 w5 r5 k5
     have HI5 := hide ((aA HI).more (aA HRS) (aA HB3) ⟨g3, c3, rfl, aA HR3⟩ _ k5 r5)
     obtain ⟨a5, n5, c5, rfl⟩ := aP r5
     clear r5 k5 HI HB3 HROW HR3 HRS
     go_wp2
     go_roundw
     case rel => exact ⟨k + 1, _, by omega, by go_num, HI5⟩
     case measure => simp [intOf]; omega
   ·obtain ⟨b2, o2, e2, hbl2, hcc⟩ := hlist.resolve_left hx
    subst e2
    have hp0 : 0 < rs.length := List.length_pos_iff.2 hx
    have HNw : Hid (∀ (j : Nat) u, (dC rs)[j]? = some u → wr.cell? ((⟨b2, o2, none⟩ : Addr).add j) = some u) := wZ fun i x hx j u hu => ((aA HI).below.cell (by exact hbl2)).trans (hcc i x hx j u hu)
    have HOne := hide (xB rs)
    have HLn := hide (oN rs)
    clear hcc hlist
    generalize hRC : dC rs = RC at HNw HOne HLn
    have HRC := hide hRC
    clear hRC
    go_wp2_with (at_builtin; (refine aT _ rfl (.tmp 17) (.tmp 22) 55 rfl wr.heap.size 52 i2 (.agg #[.int .i64 0, .int .i64 0, .int .i64 0, .bool false, .bool false]) 5 32 Tryz.underlying55 hi2 hz20 hz21 hz22 rfl (by decide) _ 0 [] rfl (World.ownsRow_nil _ _ _ _) ⟨b2, o2, none⟩ rs.length c' RC rfl (aA HLn) (aA HNw) (aA HOne) hp0 (by unfold maxLen; omega) (by omega) (Nat.le_refl _) ?_))
    intro v2 w2 r2 k2
    obtain ⟨a2, n2', c2, rfl⟩ := aP r2
    have hb2 : Below wr.heap.size wr w2 := bT (Below.refl _ _) (fun j e => by simp [Value.ownBlock] at e) k2
    have HR2 : Hid (w2.ownsRow wr.heap.size 52 5 (.slice a2 n2' c2) rs.length RC) := r2
    have hz2' := hb2.size
    have HB2 := hide hb2
    clear r2 k2 HNw HOne HLn hb2
    go_wp2_with (at_builtin; (refine aT _ rfl (.tmp 24) (.tmp 26) 55 rfl wr.heap.size 52 i2 (.agg #[.int .i64 0, .int .i64 0, .int .i64 0, .bool false, .bool false]) 5 32 Tryz.underlying55 hi2 hz20 hz21 hz22 rfl (by decide) _ rs.length RC rfl (World.ownsRow.alloc (aA HR2) _) ⟨w2.heap.size, 0, none⟩ 1 1 [.int .i64 (-77), .int .i64 0, .int .i64 0, .bool false, .bool false] rfl rfl (eE _ #[.int .i64 (-77), .int .i64 0, .int .i64 0, .bool false, .bool false] 52) (by simp [Value.oneCell']) (by decide) (by unfold maxLen; omega) (by omega) (by simp; omega) ?_))
    intro v3 w3 r3 k3
    have hb3 : Below wr.heap.size wr w3 := bT (aD (aA HB2) (bL (Below.refl _ _) _)) (fun j e => (World.ownsRow.lt (aA HR2) j e).1) k3
    have r3' : w3.ownsRow wr.heap.size 52 5 v3 (rs.length + 1) (dC (rs ++ [fW])) := by
     rw [← mW, aA HRC]
     exact r3
    obtain ⟨a3, c3, rfl, h1, h2⟩ := bU r3'
    have HR3 := hide r3'
    clear r3 r3' k3 HR2 HB2 HRC
    obtain ⟨y3, rfl⟩ : ∃ y, a3 = some y := by
     cases a3 with
     | none => have := h1 rfl; omega
     | some y => exact ⟨y, rfl⟩
    obtain ⟨g3, rfl, hc3⟩ := h2 y3 rfl
    have cu3 := (hb3.cell (p := ⟨b, o + k, none⟩) (by show b < wr.heap.size; omega)).trans cu
    have q53 := (hb3.cell (p := ⟨w.heap.size, 5, none⟩) (World.block_lt_of_cell? wr _ q5)).trans q5
    have HB3 := hide hb3
    have HROW : Hid (w3.ownsRow w.heap.size 55 1 (.slice aa an ac) k us) := aJ (aA HI).row fun i _ p q => hb3.block i p
    have hz3 := hb3.size
    clear hb3 h1 h2 q5 cu
    have hc3' : (rs.length : Int) ≤ (c3 : Int) := by simp at hc3 ⊢; omega
    go_wp2_with (at_builtin; (refine aT _ rfl (.tmp 28) (.tmp 37) 56 rfl w.heap.size 55 i5 (.slice none 0 0) 1 24 Tryz.underlying56 hi5 hz50 hz51 hz52 rfl (by decide) _ k us rfl (World.ownsRow.alloc (aA HROW) _) ⟨w3.heap.size, 0, none⟩ 1 1 [.slice (some ⟨g3, 0, none⟩) rs.length c3] rfl rfl (eE _ #[.slice (some ⟨g3, 0, none⟩) rs.length c3] 55) (by simp [Value.oneCell']) (by decide) (by unfold maxLen; omega) (by omega) (by simp; omega) ?_))
    intro v5 w5 r5 k5
    have HI5 := hide ((aA HI).more (aA HRS) (aA HB3) ⟨g3, c3, rfl, aA HR3⟩ _ k5 r5)
    obtain ⟨a5, n5, c5, rfl⟩ := aP r5
    clear r5 k5 HI HB3 HROW HR3 HRS
    go_wp2
    go_roundw
    case rel => exact ⟨k + 1, _, by omega, by go_num, HI5⟩
    case measure => simp [intOf]; omega
  ·have hke : k = LL.length := by omega
   subst hke
   have HROW : Hid (wr.ownsRow w.heap.size 55 1 (.slice aa an ac) LL.length us) := (aA HI).row
   go_wp2_with (at_builtin; (refine aT _ rfl (.tmp 39) (.tmp 42) 56 rfl w.heap.size 55 i5 (.slice none 0 0) 1 24 Tryz.underlying56 hi5 hz50 hz51 hz52 rfl (by decide) _ LL.length us rfl (World.ownsRow.alloc (World.ownsRow.alloc (aA HROW) _) _) ⟨wr.heap.size + 1, 0, none⟩ 1 1 [.slice (some ⟨wr.heap.size, 0, none⟩) 1 1] rfl rfl (fun j u hj => ?_) (by simp [Value.oneCell']) (by decide) (by unfold maxLen; omega) (by omega) (by simp; omega) ?_))
   ·have := eE (wr.alloc (.cells #[.int .i64 (-77), .int .i64 0, .int .i64 0, .bool false, .bool false] 52)) #[.slice (some ⟨wr.heap.size, 0, none⟩) 1 1] 55 j u hj
    rw [show (wr.alloc (.cells #[.int .i64 (-77), .int .i64 0, .int .i64 0, .bool false, .bool false] 52)).heap.size = wr.heap.size + 1 by simp] at this
    exact this
   intro v5 w5 r5 k5
   have hI := aA HI
   have hbA : Below wr.heap.size wr ((wr.alloc (.cells #[.int .i64 (-77), .int .i64 0, .int .i64 0, .bool false, .bool false] 52)).alloc (.cells #[.slice (some ⟨wr.heap.size, 0, none⟩) 1 1] 55)) := bL (bL (Below.refl _ _) _) _
   have c5 : Chg wr w5 (fun g => (Value.slice aa an ac).ownBlock = some g) := (Chg.of_below hbA _).trans (gY k5) (fun _ e _ => e)
   have nc : ∀ {g : Nat} {cs : Array Value} {T : TypeId} {fr : Nat × Nat}, wr.heap[g]? = some (.cells cs T fr) → T ≠ 55 → ¬ (Value.slice aa an ac).ownBlock = some g := fun hh n e => by
    obtain ⟨cs', fr', q⟩ := bH hI.row e
    exact bG hh q n rfl
   have keep : ∀ {g : Nat} {cs : Array Value} {T : TypeId} {fr : Nat × Nat}, wr.heap[g]? = some (.cells cs T fr) → T ≠ 55 → w5.heap[g]? = some (.cells cs T fr) := fun hh n => (c5.block _ (Array.getElem?_eq_some_iff.1 hh).1 (nc hh n)).trans hh
   have R0 := keep hI.cfg (by decide)
   rw [aA HCFG] at R0
   have R1 := keep hI.res (by decide)
   have hb5 : Below w.heap.size w w5 := bT (aD hI.below hbA) (fun j e => (World.ownsRow.lt hI.row j e).1) k5
   have hX : w5.heap[wr.heap.size]? = some (.cells #[.int .i64 (-77), .int .i64 0, .int .i64 0, .bool false, .bool false] 52 (0, 0)) := by
    have e0 : ((wr.alloc (.cells #[.int .i64 (-77), .int .i64 0, .int .i64 0, .bool false, .bool false] 52)).alloc (.cells #[.slice (some ⟨wr.heap.size, 0, none⟩) 1 1] 55)).heap[wr.heap.size]? = some (.cells #[.int .i64 (-77), .int .i64 0, .int .i64 0, .bool false, .bool false] 52 (0, 0)) := (Below.heap_alloc _ _ _ (by simp)).trans (heap_alloc_new wr _)
    refine ((gY k5).block wr.heap.size (by simp; omega) (fun e => ?_)).trans e0
    have := (World.ownsRow.lt hI.row _ e).2
    omega
   have hLs : LentL w5 w.heap.size LL LL.length us := ⟨hI.ls.len, fun i rs u e1 e2 => (hI.ls.at_ i rs u e1 e2).keep fun g e => by
    obtain ⟨g', c', rfl, q⟩ := hI.ls.at_ i rs u e1 e2
    have e' : (Value.slice (some ⟨g', 0, none⟩) (rs.length + 1) c').ownBlock = some g := by simpa [Value.ownBlock] using e
    obtain ⟨cs', fr', qq⟩ := bH q e'
    exact (keep qq (by decide)).trans qq.symm, hI.ls.nd, fun u m g e => Nat.lt_of_lt_of_le (hI.ls.lt u m g e) c5.size⟩
   obtain ⟨a5, n5, rfl, h51, h52⟩ := bU r5
   obtain ⟨y5, rfl⟩ : ∃ y, a5 = some y := by
    cases a5 with
    | none => have := h51 rfl; omega
    | some y => exact ⟨y, rfl⟩
   obtain ⟨g5, rfl, hc5⟩ := h52 y5 rfl
   have HL := hide hLs
   have HX := hide hX
   have HR5 := hide r5
   have HB5 := hide hb5
   have m0 := cell_of_row _ _ 0 _ _ _ R0
   have m1 := cell_of_row _ _ 1 _ _ _ R0
   have m2 := cell_of_row _ _ 2 _ _ _ R0
   have m3 := cell_of_row _ _ 3 _ _ _ R0
   have m4 := cell_of_row _ _ 4 _ _ _ R0
   have m5 := cell_of_row _ _ 5 _ _ _ R0
   have f5 := frozen_of_row _ _ 5 _ _ R0
   simp at m0 m1 m2 m3 m4 m5
   have hc5' : (LL.length : Int) ≤ (n5 : Int) := by omega
   have HR0 := hide R0
   have HR1 := hide R1
   clear R0 R1 hLs hX r5 hb5 c5 k5 keep nc hbA hI q5 h51 h52 HI HROW
   have HR6 : Hid ((w5.setCell ⟨w.heap.size, 5, none⟩ (.slice (some ⟨g5, 0, none⟩) LL.length n5)).heap[w.heap.size + 1]? = some (.cells #[.int .i64 0, .int .i64 0, .int .i64 0, .int .i64 0, .int .i64 0, .slice none 0 0] 58 (0, 0))) := (heap_setCell_other _ _ _ _ (by show w.heap.size + 1 ≠ w.heap.size; omega)).trans (aA HR1)
   go_wp2_with (first | (refine wpList_store_row rfl 58 _ _ rfl (w.heap.size + 1) #[.int .i64 z0, .int .i64 z1, .int .i64 z2, .int .i64 z3, .int .i64 lim, .slice (some ⟨g5, 0, none⟩) LL.length n5] rfl rfl 58 _ (aA HR6) yM rfl (by simp [Value.oneCell']) ?_))
   go_wp2
   have hr := setRow_heap (w5.setCell ⟨w.heap.size, 5, none⟩ (.slice (some ⟨g5, 0, none⟩) LL.length n5)) (w.heap.size + 1) _ #[.int .i64 z0, .int .i64 z1, .int .i64 z2, .int .i64 z3, .int .i64 lim, .slice (some ⟨g5, 0, none⟩) LL.length n5] _ _ (aA HR6)
   have hb6 := below_setRow ((aA HB5).setCell (p := ⟨w.heap.size, 5, none⟩) (Nat.le_refl _) (.slice (some ⟨g5, 0, none⟩) LL.length n5)) (show w.heap.size ≤ w.heap.size + 1 by omega) #[.int .i64 z0, .int .i64 z1, .int .i64 z2, .int .i64 z3, .int .i64 lim, .slice (some ⟨g5, 0, none⟩) LL.length n5]
   have keep : ∀ {g : Nat} {cs : Array Value} {T : TypeId} {fr : Nat × Nat}, w5.heap[g]? = some (.cells cs T fr) → T ≠ 58 → ((w5.setCell ⟨w.heap.size, 5, none⟩ (.slice (some ⟨g5, 0, none⟩) LL.length n5)).setRow (w.heap.size + 1) #[.int .i64 z0, .int .i64 z1, .int .i64 z2, .int .i64 z3, .int .i64 lim, .slice (some ⟨g5, 0, none⟩) LL.length n5]).heap[g]? = w5.heap[g]? := fun {g} {cs} {T} {fr} hh n =>
    (setRow_other _ _ _ _ (bG hh (aA HR1) n)).trans (heap_setCell_other _ _ _ _ (bG hh (aA HR0) n))
   have hz6 : ((w5.setCell ⟨w.heap.size, 5, none⟩ (.slice (some ⟨g5, 0, none⟩) LL.length n5)).setRow (w.heap.size + 1) #[.int .i64 z0, .int .i64 z1, .int .i64 z2, .int .i64 z3, .int .i64 lim, .slice (some ⟨g5, 0, none⟩) LL.length n5]).heap.size = w5.heap.size := by simp [World.setCell]
   refine bodyPost_ret (v := .agg #[.int .i64 z0, .int .i64 z1, .int .i64 z2, .int .i64 z3, .int .i64 lim, .slice (some ⟨g5, 0, none⟩) LL.length n5]) (results_cell_row Tryz.results85 _ _ (w.heap.size + 1) 58 _ (0, 0) _ rfl hr Tryz.underlying58 rfl yM) rfl ⟨_, rfl, ⟨g5, n5, us, _, wr.heap.size, 1, rfl, ?_, rfl, ?_, ?_⟩, hb6⟩
   ·refine aJ (aA HR5) fun g _ p q => ?_
    obtain ⟨cs, fr, hh⟩ := bH (aA HR5) q
    exact keep hh (by decide)
   ·have hlt := (Array.getElem?_eq_some_iff.1 (aA HX)).1
    exact ⟨rfl, .inr ⟨wr.heap.size, 1, _, rfl, by omega, (keep (aA HX) (by decide)).trans (aA HX), Nat.le_refl _, by unfold maxLen; omega, rfl, rfl⟩⟩
   ·exact ⟨(aA HL).len, fun i rs u e1 e2 => ((aA HL).at_ i rs u e1 e2).keep fun g e => by
     obtain ⟨g', c', rfl, q⟩ := (aA HL).at_ i rs u e1 e2
     have e' : (Value.slice (some ⟨g', 0, none⟩) (rs.length + 1) c').ownBlock = some g := by simpa [Value.ownBlock] using e
     obtain ⟨cs', fr', qq⟩ := bH q e'
     exact keep qq (by decide), (aA HL).nd, fun u m g e => by rw [hz6]; exact (aA HL).lt u m g e⟩
end Go.Proofs.YtfekelmldebplaaGreatDoor
