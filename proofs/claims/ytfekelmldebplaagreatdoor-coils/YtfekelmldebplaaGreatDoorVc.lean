import Derived.Test.YtfekelmldebplaaGreatDoorUk
import Derived.Test.YtfekelmldebplaaGreatDoorUd
import Derived.Test.YtfekelmldebplaaGreatDoorTj
namespace Go.Proofs.YtfekelmldebplaaGreatDoor
open Go.RowKit

theorem ListAt.chg {w w' : World} {v : Value} {rs : List Rule} {D : Nat → Prop} (h : ListAt w v rs) (c : Chg w w' D) (hD : ∀ b, v.ownBlock = some b → ¬ D b) : ListAt w' v rs := by
  obtain ⟨a, cc, rfl, h⟩ := h
  refine ⟨a, cc, rfl, h.imp id fun ⟨b, o, e, hl, hc⟩ => ⟨b, o, e, Nat.lt_of_lt_of_le hl c.size, fun i x hx j u hu => ?_⟩⟩
  rw [← hc i x hx j u hu]
  exact World.cell?_of_block (c.block b hl (hD b (by rw [e]; rfl)))

/-- What check sees. -/
structure Sees (w : World) (sb tb kb e g cl : Nat) (l lm : Int) (X T : TypeId) (hi : Int) (L : List Int) (t : Nat) (us : List Value) (u : Value) (rs : List Rule) : Prop where
  row : w.heap[sb]? = some (.cells (srow l tb (.slice (some ⟨kb, 0, none⟩) us.length us.length) lm) 143 (0, 0))
  tabs : ∃ tc, w.heap[tb]? = some (.cells tc 145 (0, 0)) ∧ tc[t]? = some (.iface X (.pointer (some ⟨e, 0, none⟩)))
  tab : TabAt w e g T hi L
  kind : (X = 221 ∧ T = 299) ∨ (X = 223 ∧ T = 300)
  cls : w.heap[kb]? = some (.cells us.toArray 220 (0, 0))
  at_ : us[cl]? = some u
  list : ListAt w u rs
  few : rs.length ≤ 8
  t4 : t < 4
theorem Sees.below {w w' : World} {sb tb kb e g cl : Nat} {l lm : Int} {X T : TypeId} {hi : Int} {L : List Int} {t : Nat} {us : List Value} {u : Value} {rs : List Rule} (h : Sees w sb tb kb e g cl l lm X T hi L t us u rs) (hb : Below w.heap.size w w') : Sees w' sb tb kb e g cl l lm X T hi L t us u rs := by
  have b : ∀ {g : Nat} {o : Obj}, w.heap[g]? = some o → w'.heap[g]? = some o := fun q => (hb.block _ (Array.getElem?_eq_some_iff.1 q).1).trans q
  obtain ⟨tc, h1, h2⟩ := h.tabs
  exact ⟨b h.row, ⟨tc, b h1, h2⟩, h.tab.below hb, h.kind, b h.cls, h.at_, h.list.below hb, h.few, h.t4⟩

/-- What check answers. -/
def Checks (w : World) (f x : Int) (e : Ending) (w' : World) : Prop :=
  Below w.heap.size w w' ∧ if x = 0 then e = .returned .nilIface else ∃ n T p, e = .returned (.iface T (.pointer (some ⟨p, 0, none⟩))) ∧ ErrAt w' f x n (.iface T (.pointer (some ⟨p, 0, none⟩)))

/-- In the midst of check. -/
structure Mid (w W : World) (sb tb kb e g cl : Nat) (l lm : Int) (X T : TypeId) (hi : Int) (L : List Int) (us : List Value) (u : Value) (rs : List Rule) (q : Req) (vv ve : Value) : Prop where
  bel : Below w.heap.size w W
  sees : Sees W sb tb kb e g cl l lm X T hi L q.t us u rs
  row : W.heap[w.heap.size]? = some (.cells (rrow q.f q.t q.ra q.rc q.wa q.wc vv q.keep ve) 273 (0, 0))
theorem Mid.step {w W W' : World} {sb tb kb e g cl : Nat} {l lm : Int} {X T : TypeId} {hi : Int} {L : List Int} {us : List Value} {u : Value} {rs : List Rule} {q : Req} {vv ve : Value} (h : Mid w W sb tb kb e g cl l lm X T hi L us u rs q vv ve) (hb : Below W.heap.size W W') : Mid w W' sb tb kb e g cl l lm X T hi L us u rs q vv ve :=
  ⟨bl_trans h.bel hb, h.sees.below hb, (hb.block _ (Array.getElem?_eq_some_iff.1 h.row).1).trans h.row⟩
theorem Checks.bad {w w' : World} {f x y : Int} {n : Nat} {T : TypeId} {p : Nat} (hx : x = y) (h0 : y ≠ 0) (hb : Below w.heap.size w w') (he : ErrAt w' f y n (.iface T (.pointer (some ⟨p, 0, none⟩)))) : Checks w f x (.returned (.iface T (.pointer (some ⟨p, 0, none⟩)))) w' := by
  subst hx
  refine ⟨hb, ?_⟩
  rw [if_neg h0]
  exact ⟨n, T, p, rfl, he⟩

set_option maxRecDepth 10000 in
set_option maxHeartbeats 4000000 in
theorem check_any (sb tb kb e g cl : Nat) (l lm : Int) (X T : TypeId) (hi : Int) (L : List Int) (us : List Value) (u : Value) (rs : List Rule) (q : Req) (vv ve : Value) (w : World) (h : Sees w sb tb kb e g cl l lm X T hi L q.t us u rs) (hq : q.Ok) :
    Calls Tryz.prog 157 #[.pointer (some ⟨sb, 0, none⟩), .int .i64 cl, .agg (rrow q.f q.t q.ra q.rc q.wa q.wc vv q.keep ve)] w fun r w' => Checks w q.f (excL L.length rs q) r w' := by
  obtain ⟨av, cv, rfl, _⟩ := id h.list
  have hcl : cl < us.length := (List.getElem?_eq_some_iff.1 h.at_).1
  have hra := hq.ra
  have hrc := hq.rc
  have hwa := hq.wa
  have hwc := hq.wc
  have ht4 := h.t4
  clear hq
  have m1 : ∀ w, (method 484 X (.pointer (some ⟨e, 0, none⟩)) "Has").run Tryz.prog w = .ok (261, .pointer (some ⟨e, 0, none⟩)) w := fun w => by
    rcases h.kind with ⟨rfl, _⟩ | ⟨rfl, _⟩
    · exact meth_HasB e w
    · exact meth_HasW e w
  have HM : Hid (Mid w (w.alloc (.cells (rrow q.f q.t q.ra q.rc q.wa q.wc vv q.keep ve) 273)) sb tb kb e g cl l lm X T hi L us (.slice av rs.length cv) rs q vv ve) := ⟨rule_alloc w _, h.below (rule_alloc w _), heap_alloc_new w _⟩
  clear h
  have H1 := (unhide HM).sees.row
  have s2 := cell_of_row _ _ 2 _ _ _ H1
  have s3 := cell_of_row _ _ 3 _ _ _ H1
  obtain ⟨tc, H2, H3⟩ := (unhide HM).sees.tabs
  have st := cell_of_row _ _ q.t _ _ _ H2
  rw [H3] at st
  have sk := cell_of_row _ _ cl _ _ _ (unhide HM).sees.cls
  rw [List.getElem?_toArray, (unhide HM).sees.at_] at sk
  simp [srow] at s2 s3
  have a1 := cell_of_row _ _ 1 _ _ _ (unhide HM).row
  simp only [rrow] at a1
  have hcl' : (cl : Int) < (us.length : Int) := by omega
  have ht4' : (q.t : Int) < 4 := by omega
  clear H1 H2 H3
  unfold rrow at HM s2 s3 st sk ⊢
  go_enter Tryz.func157, Tryz.ntmps157
  go_wp2_with fail
  generalize w.alloc (.cells #[.int .u8 q.f, .int .i64 q.t, .int .i64 q.ra, .int .i64 q.rc, .int .i64 q.wa, .int .i64 q.wc, vv, .int .i64 q.keep, ve] 273) = W at HM s2 s3 st sk a1 ⊢
  go_region
  replace HM := hide ((unhide HM).step (Below.refl _ _).drew)
  clear s2 s3 st sk a1 tc
  generalize W.drew = W1 at HM ⊢
  clear W
  have a2 := cell_of_row _ _ 2 _ _ _ (unhide HM).row
  have a3 := cell_of_row _ _ 3 _ _ _ (unhide HM).row
  simp [rrow] at a2 a3
  have HH1 := hide (has_any W1 e g T hi L (q.ra : Int) (q.rc : Int) (unhide HM).sees.tab (by omega))
  generalize hh1 : hasB L.length (q.ra : Int) (q.rc : Int) = h1 at HH1
  go_wp2_with fail
  refine (unhide HH1).mono ?_
  rintro r w2 ⟨rfl, hb2⟩
  replace HM := hide ((unhide HM).step hb2)
  clear HH1 hb2 a2 a3
  cases h1 with
  | false =>
    have HX : Hid (excL L.length rs q = 2) := by
      show _ = _
      unfold excL
      rw [hh1]
      simp
    clear hh1
    have a0 := cell_of_row _ _ 0 _ _ _ (unhide HM).row
    have a1 := cell_of_row _ _ 1 _ _ _ (unhide HM).row
    have a2 := cell_of_row _ _ 2 _ _ _ (unhide HM).row
    have a3 := cell_of_row _ _ 3 _ _ _ (unhide HM).row
    have a4 := cell_of_row _ _ 4 _ _ _ (unhide HM).row
    have a5 := cell_of_row _ _ 5 _ _ _ (unhide HM).row
    have a6 := cell_of_row _ _ 6 _ _ _ (unhide HM).row
    have a7 := cell_of_row _ _ 7 _ _ _ (unhide HM).row
    have a8 := cell_of_row _ _ 8 _ _ _ (unhide HM).row
    simp [rrow] at a0 a1 a2 a3 a4 a5 a6 a7 a8
    go_wp2_with fail
    refine (refuse_any q.f q.t q.ra q.rc q.wa q.wc vv q.keep ve 2 _).mono ?_
    rintro r w7 ⟨v7, rfl, he7, hb7⟩
    obtain ⟨T7, p7, rfl⟩ := he7.iface
    have HE7 := hide he7
    have HB7 := hide (bl_trans (unhide HM).bel hb7)
    clear he7 hb7 a0 a1 a2 a3 a4 a5 a6 a7 a8 HM
    go_wp2_with fail
    refine (wrap_some _ _ _ _ _ _ (unhide HE7)).mono ?_
    rintro r w8 ⟨v8, rfl, he8, hb8⟩
    obtain ⟨T8, p8, rfl⟩ := he8.iface
    have HE8 := hide he8
    clear he8
    go_wp2
    go_ret
    exact Checks.bad (unhide HX) (by decide) (bl_trans (unhide HB7) hb8) (unhide HE8)
  | true =>
    have a4 := cell_of_row _ _ 4 _ _ _ (unhide HM).row
    have a5 := cell_of_row _ _ 5 _ _ _ (unhide HM).row
    simp [rrow] at a4 a5
    have HH1 := hide (has_any w2 e g T hi L (q.wa : Int) (q.wc : Int) (unhide HM).sees.tab (by omega))
    generalize hh2 : hasB L.length (q.wa : Int) (q.wc : Int) = h2 at HH1
    go_wp2_with fail
    refine (unhide HH1).mono ?_
    rintro r w3 ⟨rfl, hb3⟩
    replace HM := hide ((unhide HM).step hb3)
    clear HH1 hb3 a4 a5
    cases h2 with
    | false =>
      have HX : Hid (excL L.length rs q = 2) := by
        show _ = _
        unfold excL
        rw [hh1, hh2]
        simp
      clear hh1 hh2
      have a0 := cell_of_row _ _ 0 _ _ _ (unhide HM).row
      have a1 := cell_of_row _ _ 1 _ _ _ (unhide HM).row
      have a2 := cell_of_row _ _ 2 _ _ _ (unhide HM).row
      have a3 := cell_of_row _ _ 3 _ _ _ (unhide HM).row
      have a4 := cell_of_row _ _ 4 _ _ _ (unhide HM).row
      have a5 := cell_of_row _ _ 5 _ _ _ (unhide HM).row
      have a6 := cell_of_row _ _ 6 _ _ _ (unhide HM).row
      have a7 := cell_of_row _ _ 7 _ _ _ (unhide HM).row
      have a8 := cell_of_row _ _ 8 _ _ _ (unhide HM).row
      simp [rrow] at a0 a1 a2 a3 a4 a5 a6 a7 a8
      go_wp2_with fail
      refine (refuse_any q.f q.t q.ra q.rc q.wa q.wc vv q.keep ve 2 _).mono ?_
      rintro r w7 ⟨v7, rfl, he7, hb7⟩
      obtain ⟨T7, p7, rfl⟩ := he7.iface
      have HE7 := hide he7
      have HB7 := hide (bl_trans (unhide HM).bel hb7)
      clear he7 hb7 a0 a1 a2 a3 a4 a5 a6 a7 a8 HM
      go_wp2_with fail
      refine (wrap_some _ _ _ _ _ _ (unhide HE7)).mono ?_
      rintro r w8 ⟨v8, rfl, he8, hb8⟩
      obtain ⟨T8, p8, rfl⟩ := he8.iface
      have HE8 := hide he8
      clear he8
      go_wp2
      go_ret
      exact Checks.bad (unhide HX) (by decide) (bl_trans (unhide HB7) hb8) (unhide HE8)
    | true =>
      have a1 := cell_of_row _ _ 1 _ _ _ (unhide HM).row
      have a2 := cell_of_row _ _ 2 _ _ _ (unhide HM).row
      have a3 := cell_of_row _ _ 3 _ _ _ (unhide HM).row
      simp [rrow] at a1 a2 a3
      have HH1 := hide (mayRead_any _ rs (q.t : Int) q.ra q.rc w3 (unhide HM).sees.list (by have := (unhide HM).sees.few; omega) (by omega) (by omega))
      generalize hm1 : mayB false rs (q.t : Int) (q.ra : Int) q.rc = b1 at HH1
      go_wp2_with fail
      refine (unhide HH1).mono ?_
      rintro r w4 ⟨rfl, hb4⟩
      replace HM := hide ((unhide HM).step hb4)
      clear HH1 hb4 a1 a2 a3
      cases b1 with
      | false =>
        have HX : Hid (excL L.length rs q = 4) := by
          show _ = _
          unfold excL
          rw [hh1, hh2, hm1]
          simp
        clear hh1 hh2 hm1
        have a0 := cell_of_row _ _ 0 _ _ _ (unhide HM).row
        have a1 := cell_of_row _ _ 1 _ _ _ (unhide HM).row
        have a2 := cell_of_row _ _ 2 _ _ _ (unhide HM).row
        have a3 := cell_of_row _ _ 3 _ _ _ (unhide HM).row
        have a4 := cell_of_row _ _ 4 _ _ _ (unhide HM).row
        have a5 := cell_of_row _ _ 5 _ _ _ (unhide HM).row
        have a6 := cell_of_row _ _ 6 _ _ _ (unhide HM).row
        have a7 := cell_of_row _ _ 7 _ _ _ (unhide HM).row
        have a8 := cell_of_row _ _ 8 _ _ _ (unhide HM).row
        simp [rrow] at a0 a1 a2 a3 a4 a5 a6 a7 a8
        go_wp2_with fail
        refine (refuse_any q.f q.t q.ra q.rc q.wa q.wc vv q.keep ve 4 _).mono ?_
        rintro r w7 ⟨v7, rfl, he7, hb7⟩
        obtain ⟨T7, p7, rfl⟩ := he7.iface
        have HE7 := hide he7
        have HB7 := hide (bl_trans (unhide HM).bel hb7)
        clear he7 hb7 a0 a1 a2 a3 a4 a5 a6 a7 a8 HM
        go_wp2_with fail
        refine (wrap_some _ _ _ _ _ _ (unhide HE7)).mono ?_
        rintro r w8 ⟨v8, rfl, he8, hb8⟩
        obtain ⟨T8, p8, rfl⟩ := he8.iface
        have HE8 := hide he8
        clear he8
        go_wp2
        go_ret
        exact Checks.bad (unhide HX) (by decide) (bl_trans (unhide HB7) hb8) (unhide HE8)
      | true =>
        have a1 := cell_of_row _ _ 1 _ _ _ (unhide HM).row
        have a4 := cell_of_row _ _ 4 _ _ _ (unhide HM).row
        have a5 := cell_of_row _ _ 5 _ _ _ (unhide HM).row
        simp [rrow] at a1 a4 a5
        have HH1 := hide (mayWrite_any _ rs (q.t : Int) q.wa q.wc w4 (unhide HM).sees.list (by have := (unhide HM).sees.few; omega) (by omega) (by omega))
        generalize hm2 : mayB true rs (q.t : Int) (q.wa : Int) q.wc = b2 at HH1
        go_wp2_with fail
        refine (unhide HH1).mono ?_
        rintro r w5 ⟨rfl, hb5⟩
        replace HM := hide ((unhide HM).step hb5)
        clear HH1 hb5 a1 a4 a5
        cases b2 with
        | false =>
          have HX : Hid (excL L.length rs q = 4) := by
            show _ = _
            unfold excL
            rw [hh1, hh2, hm1, hm2]
            simp
          clear hh1 hh2 hm1 hm2
          have a0 := cell_of_row _ _ 0 _ _ _ (unhide HM).row
          have a1 := cell_of_row _ _ 1 _ _ _ (unhide HM).row
          have a2 := cell_of_row _ _ 2 _ _ _ (unhide HM).row
          have a3 := cell_of_row _ _ 3 _ _ _ (unhide HM).row
          have a4 := cell_of_row _ _ 4 _ _ _ (unhide HM).row
          have a5 := cell_of_row _ _ 5 _ _ _ (unhide HM).row
          have a6 := cell_of_row _ _ 6 _ _ _ (unhide HM).row
          have a7 := cell_of_row _ _ 7 _ _ _ (unhide HM).row
          have a8 := cell_of_row _ _ 8 _ _ _ (unhide HM).row
          simp [rrow] at a0 a1 a2 a3 a4 a5 a6 a7 a8
          go_wp2_with fail
          refine (refuse_any q.f q.t q.ra q.rc q.wa q.wc vv q.keep ve 4 _).mono ?_
          rintro r w7 ⟨v7, rfl, he7, hb7⟩
          obtain ⟨T7, p7, rfl⟩ := he7.iface
          have HE7 := hide he7
          have HB7 := hide (bl_trans (unhide HM).bel hb7)
          clear he7 hb7 a0 a1 a2 a3 a4 a5 a6 a7 a8 HM
          go_wp2_with fail
          refine (wrap_some _ _ _ _ _ _ (unhide HE7)).mono ?_
          rintro r w8 ⟨v8, rfl, he8, hb8⟩
          obtain ⟨T8, p8, rfl⟩ := he8.iface
          have HE8 := hide he8
          clear he8
          go_wp2
          go_ret
          exact Checks.bad (unhide HX) (by decide) (bl_trans (unhide HB7) hb8) (unhide HE8)
        | true =>
          have HX : Hid (excL L.length rs q = 0) := by
            show _ = _
            unfold excL
            rw [hh1, hh2, hm1, hm2]
            simp
          clear hh1 hh2 hm1 hm2
          go_wp2
          go_ret
          refine ⟨(unhide HM).bel, ?_⟩
          rw [if_pos (unhide HX)]
          rfl
end Go.Proofs.YtfekelmldebplaaGreatDoor
