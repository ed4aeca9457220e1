import Derived.Test.YtfekelmldebplaaGreatDoorXe
import Derived.Test.YtfekelmldebplaaGreatDoorUl
import Derived.Test.YtfekelmldebplaaGreatDoorEd
import Derived.Test.YtfekelmldebplaaGreatDoorLd
import Derived.Test.YtfekelmldebplaaGreatDoorLl
set_option maxRecDepth 100000
set_option maxHeartbeats 8000000
namespace Go.Proofs.YtfekelmldebplaaGreatDoor
open Go.RowKit Go.MuLone
def aAi (w : World) (e : Ending) (w' : World) : Prop := ∃ s : ByteArray, e = .returned (.string s) ∧ s.size ≤ 5 ∧ Below w.heap.size w w'
theorem aAq (k : Nat) (hk : k ≤ 5) (w : World) : Calls Tryz.prog 211 #[.int .i64 (k : Int)] w fun e w' => aAi w e w' := by
 have hk6 : k = 0 ∨ k = 1 ∨ k = 2 ∨ k = 3 ∨ k = 4 ∨ k = 5 := by omega
 rcases hk6 with rfl | rfl | rfl | rfl | rfl | rfl
 all_goals
  go_enter Tryz.func211, Tryz.ntmps211
  go_wp2
  go_ret
  exact ⟨_, rfl, by decide, Below.refl _ _⟩
theorem qC (k : Nat) (hk : k ≤ 5) (w : World) : Calls Tryz.prog 194 #[.int .i64 (k : Int), .int .i64 10] w fun e w' => aAi w e w' := by
 have HS := hide (fun w => aAq k hk w)
 have h1 : (k : Int) < 100 := by omega
 go_enter Tryz.func194, Tryz.ntmps194
 go_wp2_with fail
 refine (aA HS _).mono ?_
 rintro e w2 ⟨s, rfl, hs, hb⟩
 go_wp2
 go_ret
 exact ⟨_, rfl, hs, hb⟩
theorem aBs (k : Nat) (hk : k ≤ 5) (w : World) : Calls Tryz.prog 159 #[.int .i64 (k : Int)] w fun e w' => aAi w e w' := by
 have HS := hide (fun w => qC k hk w)
 go_enter Tryz.func159, Tryz.ntmps159
 go_wp2_with fail
 refine (aA HS _).mono ?_
 rintro e w2 ⟨s, rfl, hs, hb⟩
 go_wp2
 go_ret
 exact ⟨_, rfl, hs, hb⟩
theorem pD (k : Nat) (hk : k ≤ 5) (w : World) : Calls Tryz.prog 107 #[.int .i64 (k : Int)] w fun e w' => aAi w e w' := by
 have HS := hide (fun w => aBs k hk w)
 go_enter Tryz.func107, Tryz.ntmps107
 go_wp2_with fail
 refine (aA HS _).mono ?_
 rintro e w2 ⟨s, rfl, hs, hb⟩
 go_wp2
 go_ret
 exact ⟨_, rfl, hs, hb⟩
theorem dN.chg {w w' : World} {f x : Int} {D : Nat → Prop} (c : Chg w w' D) (hD : ∀ k cs T fr, w.heap[k]? = some (.cells cs T fr) → T = 216 ∨ T = 280 → ¬ D k) : ∀ {n : Nat} {v : Value}, dN w f x n v → dN w' f x n v
 | 0, _, ⟨r, e, h⟩ => ⟨r, e, (c.block _ (Array.getElem?_eq_some_iff.1 h).1 (hD r _ _ _ h (.inl rfl))).trans h⟩
 | _ + 1, _, ⟨l, s, u, e, h, k⟩ => ⟨l, s, u, e, (c.block _ (Array.getElem?_eq_some_iff.1 h).1 (hD l _ _ _ h (.inr rfl))).trans h, dN.chg c hD k⟩
def Told (w : World) (f x : Int) (D : Nat → Prop) (r : Ending) (w' : World) : Prop := ∃ n T p, r = .returned (.tuple #[.slice none 0 0, .iface T (.pointer (some ⟨p, 0, none⟩))]) ∧ dN w' f x n (.iface T (.pointer (some ⟨p, 0, none⟩))) ∧ Chg w w' D
theorem aFv (sb : Nat) (cl f x : Int) (a : Option Addr) (m c : Nat) (w : World)
  (HP : Calls Tryz.prog 156 #[.int .u8 f, .slice a m c] w fun r w' => Below w.heap.size w w' ∧ ∃ n T p, r = .returned (.tuple #[.agg (rrow 0 0 0 0 0 0 (.slice none 0 0) 0 (.slice none 0 0)), .iface T (.pointer (some ⟨p, 0, none⟩))]) ∧ dN w' f x n (.iface T (.pointer (some ⟨p, 0, none⟩)))) :
  Calls Tryz.prog 105 #[.pointer (some ⟨sb, 0, none⟩), .int .i64 cl, .int .u8 f, .slice a m c] w fun r w' => Told w f x (fun _ => False) r w' := by
 have H := hide HP
 clear HP
 go_enter_defers Tryz.func105, Tryz.ntmps105
 go_wp2_with fail
 refine (aA H).mono ?_
 rintro r w1 ⟨hb1, n, T, p, rfl, he⟩
 have HB1 := hide (aD hb1 (aZ w1 (.cells #[.int .u8 0, .int .i64 0, .int .i64 0, .int .i64 0, .int .i64 0, .int .i64 0, .slice none 0 0, .int .i64 0, .slice none 0 0] 273)))
 have HE := hide (he.below (aZ w1 (.cells #[.int .u8 0, .int .i64 0, .int .i64 0, .int .i64 0, .int .i64 0, .int .i64 0, .slice none 0 0, .int .i64 0, .slice none 0 0] 273)))
 clear hb1 he H
 unfold rrow
 go_wp2_with fail
 refine (eW _ _ f x n _ (aA HE)).mono ?_
 rintro r w2 ⟨v2, rfl, he2, hb2⟩
 obtain ⟨T2, p2, rfl⟩ := he2.iface
 have HE2 := hide he2
 have HB2 := hide (aD (aA HB1) hb2)
 clear he2 hb2 HE HB1
 go_wp2
 exact ⟨_, results_tmp2 rfl _ _ _, _, T2, p2, rfl, aA HE2, Chg.of_below (aA HB2) _⟩
theorem aFw (sb tb kb e g cl : Nat) (lm : Int) (X T : TypeId) (hi : Int) (L : List Int) (us : List Value) (u : Value) (rs : List Rule) (f : Int) (v : Value) (bs : List Int) (q : Req) (w : World) (h : Sees w sb tb kb e g cl 0 lm X T hi L q.t us u rs) 
  (hq : q.Ok) (hv : Lies w v bs) (hvb : ∀ b, v.ownBlock = some b → ∃ cs fr, w.heap[b]? = some (.cells cs 5 fr)) (hx : excL L.length rs q ≠ 0) (hqf : q.f = f) (hub : ∀ b, u.ownBlock = some b → ∃ cs fr, w.heap[b]? = some (.cells cs 52 fr))
  (HP : Calls Tryz.prog 156 #[.int .u8 f, v] w fun r w' => Below w.heap.size w w' ∧ ∃ vv ve, r = .returned (.tuple #[.agg (rrow q.f q.t q.ra q.rc q.wa q.wc vv q.keep ve), .nilIface]) ∧ cB w' vv q.vals ∧ Lies w' ve q.echo ∧ (∀ b, vv.ownBlock = some b → w.heap.size ≤ b) ∧ (∀ b, ve.ownBlock = some b → v.ownBlock = some b)) :
  Calls Tryz.prog 105 #[.pointer (some ⟨sb, 0, none⟩), .int .i64 cl, .int .u8 f, v] w fun r w' => Told w f (excL L.length rs q) (fun k => k = sb) r w' ∧ w'.heap[sb]? = w.heap[sb]? := by
 have HPP := hide HP
 have HS := hide h
 have HQF := hide hqf
 have HX := hide hx
 clear hqf hx
 obtain ⟨av, cv, rfl⟩ := hv.slice
 have lsb := (Array.getElem?_eq_some_iff.1 h.row).1
 have ltg := (Array.getElem?_eq_some_iff.1 h.tab.ent).1
 clear HP h
 go_enter_defers Tryz.func105, Tryz.ntmps105
 go_wp2_with fail
 refine (aA HPP).mono ?_
 rintro r w1 ⟨hb1, vv, ve, rfl, h2, h3, h4, h5⟩
 obtain ⟨a6, c6, rfl, _⟩ := id h2
 obtain ⟨a8, c8, rfl⟩ := h3.slice
 have H2 := hide h2
 have H3 := hide h3
 have H4 := hide h4
 have H5 := hide h5
 have HB1 := hide hb1
 clear h2 h3 h4 h5 hb1 HPP
 unfold rrow
 go_wp2_with fail
 have HB2 := hide (aD (aA HB1) (aZ w1 (.cells #[.int .u8 q.f, .int .i64 q.t, .int .i64 q.ra, .int .i64 q.rc, .int .i64 q.wa, .int .i64 q.wc, .slice a6 q.vals.length c6, .int .i64 q.keep, .slice a8 q.echo.length c8] 273)))
 have HA2 : Hid ((w1.alloc (.cells #[.int .u8 q.f, .int .i64 q.t, .int .i64 q.ra, .int .i64 q.rc, .int .i64 q.wa, .int .i64 q.wc, .slice a6 q.vals.length c6, .int .i64 q.keep, .slice a8 q.echo.length c8] 273)).heap[w1.heap.size]? = some (.cells #[.int .u8 q.f, .int .i64 q.t, .int .i64 q.ra, .int .i64 q.rc, .int .i64 q.wa, .int .i64 q.wc, .slice a6 q.vals.length c6, .int .i64 q.keep, .slice a8 q.echo.length c8] 273 (0, 0))) := heap_alloc_new w1 _
 have HV2 := hide ((aA H2).below (aZ w1 (.cells #[.int .u8 q.f, .int .i64 q.t, .int .i64 q.ra, .int .i64 q.rc, .int .i64 q.wa, .int .i64 q.wc, .slice a6 q.vals.length c6, .int .i64 q.keep, .slice a8 q.echo.length c8] 273)))
 have HE2 := hide ((aA H3).below (aZ w1 (.cells #[.int .u8 q.f, .int .i64 q.t, .int .i64 q.ra, .int .i64 q.rc, .int .i64 q.wa, .int .i64 q.wc, .slice a6 q.vals.length c6, .int .i64 q.keep, .slice a8 q.echo.length c8] 273)))
 have hrq : w.heap.size ≤ w1.heap.size := (aA HB1).size
 generalize w1.alloc (.cells #[.int .u8 q.f, .int .i64 q.t, .int .i64 q.ra, .int .i64 q.rc, .int .i64 q.wa, .int .i64 q.wc, .slice a6 q.vals.length c6, .int .i64 q.keep, .slice a8 q.echo.length c8] 273) = w2 at HB2 HA2 HV2 HE2 ⊢
 generalize w1.heap.size = rq at HA2 hrq ⊢
 clear H2 H3 HB1
 have HS2 := hide ((aA HS).below (aA HB2))
 have q0 := cell_of_row _ _ 0 _ _ _ (aA HS2).row
 have f0 := frozen_of_row _ _ 0 _ _ (aA HS2).row
 simp [srow] at q0
 refine (lock_free Tryz.muLib ⟨sb, 0, none⟩ _ q0 f0).mono ?_
 rintro r w' ⟨rfl, rfl⟩
 have hub2 : ∀ b, u.ownBlock = some b → ∃ cs fr, w2.heap[b]? = some (.cells cs 52 fr) := fun b e => by
  obtain ⟨cs, fr, q⟩ := hub b e
  exact ⟨cs, fr, ((aA HB2).block b (Array.getElem?_eq_some_iff.1 q).1).trans q⟩
 have HS3 := hide ((aA HS2).lock hub2 1)
 have hc3 : Chg w2 (w2.setCell ⟨sb, 0, none⟩ (.int .i32 1)) (fun k => k = sb) := Chg.set w2 sb 0 _
 have HC3 := hide ((Chg.of_below (aA HB2) (fun k => k = sb)).trans hc3 (fun _ e _ => e))
 have HA3 := hide ((hc3.block rq (Array.getElem?_eq_some_iff.1 (aA HA2)).1 (fun e => by have e' : rq = sb := e; omega)).trans (aA HA2))
 have HV3 := hide (fB (aA HV2) hc3 (fun b e e2 => by have := aA H4 b e; have e3 : b = sb := e2; omega))
 have nve : ∀ b, (Value.slice a8 q.echo.length c8).ownBlock = some b → b ≠ sb ∧ b ≠ g := fun b e => by
  obtain ⟨cs, fr, qq⟩ := hvb b (aA H5 b e)
  exact ⟨bG qq (aA HS).row (by decide), bG qq (aA HS).tab.ent (by decide)⟩
 have HE3 := hide ((aA HE2).chg hc3 (fun b e => (nve b e).1))
 clear hub2 hc3 q0 f0 HV2 HE2 HA2 HS2 H4 H5
 generalize w2.setCell ⟨sb, 0, none⟩ (.int .i32 1) = w3 at HS3 HC3 HA3 HV3 HE3 ⊢
 clear HB2
 have HCk := hide (rG sb tb kb e g cl 1 lm X T hi L us u rs q (.slice a6 q.vals.length c6) (.slice a8 q.echo.length c8) w3 (aA HS3) hq)
 unfold rrow at HCk
 have z0 := cell_of_row _ _ 0 _ _ _ (aA HA3)
 have z1 := cell_of_row _ _ 1 _ _ _ (aA HA3)
 have z2 := cell_of_row _ _ 2 _ _ _ (aA HA3)
 have z3 := cell_of_row _ _ 3 _ _ _ (aA HA3)
 have z4 := cell_of_row _ _ 4 _ _ _ (aA HA3)
 have z5 := cell_of_row _ _ 5 _ _ _ (aA HA3)
 have z6 := cell_of_row _ _ 6 _ _ _ (aA HA3)
 have z7 := cell_of_row _ _ 7 _ _ _ (aA HA3)
 have z8 := cell_of_row _ _ 8 _ _ _ (aA HA3)
 simp at z0 z1 z2 z3 z4 z5 z6 z7 z8
 go_wp2_with fail
 refine (aA HCk).mono ?_
 rintro r w4 ⟨hb4, hr4⟩
 rw [if_neg (aA HX)] at hr4
 obtain ⟨n4, T4, p4, rfl, he4⟩ := hr4
 have HE4 := hide he4
 have HC4 := hide ((aA HC3).trans (Chg.of_below hb4 (fun _ => False)) (fun _ e _ => e.elim))
 have HS4 := hide ((hb4.block sb (Array.getElem?_eq_some_iff.1 (aA HS3).row).1).trans (aA HS3).row)
 have HA4 := hide ((hb4.block rq (Array.getElem?_eq_some_iff.1 (aA HA3)).1).trans (aA HA3))
 have ht3 : q.t ≤ 5 := by have := (aA HS3).t4; omega
 clear hb4 he4 HCk z0 z1 z2 z3 z4 z5 z6 z7 z8 HC3 HA3 HV3 HE3
 have z1 := cell_of_row _ _ 1 _ _ _ (aA HA4)
 simp at z1
 go_wp2_with fail
 refine (pD q.t ht3 w4).mono ?_
 rintro r w5 ⟨s5, rfl, hs5, hb5⟩
 have hs5' : ¬ 9223372036854775807 < 6 + s5.size := by omega
 have HE5 := hide ((aA HE4).below hb5)
 have HC5 := hide ((aA HC4).trans (Chg.of_below hb5 (fun _ => False)) (fun _ e _ => e.elim))
 have HS5 := hide ((hb5.block sb (Array.getElem?_eq_some_iff.1 (aA HS4)).1).trans (aA HS4))
 clear hb5 HE4 HC4 HS4 HA4 z1
 go_wp2_with fail
 refine (eW _ _ q.f _ n4 w5 (aA HE5)).mono ?_
 rintro r w6 ⟨v6, rfl, he6, hb6⟩
 obtain ⟨T6, p6, rfl⟩ := he6.iface
 have HE6 := hide he6
 have HC6 := hide ((aA HC5).trans (Chg.of_below hb6 (fun _ => False)) (fun _ e _ => e.elim))
 have hS6 := (hb6.block sb (Array.getElem?_eq_some_iff.1 (aA HS5)).1).trans (aA HS5)
 have lk := cell_of_row _ _ 0 _ _ _ hS6
 have fk := frozen_of_row _ _ 0 _ _ hS6
 simp [srow] at lk
 have HS6 := hide hS6
 clear he6 hb6 hS6 HE5 HC5 HS5
 go_wp2_with fail
 refine leaves_cons (f := 65) (args := #[.pointer (some ⟨sb, 0, none⟩)]) (by simp) (by simp [go_sem]) ?_
 refine (unlock_deferred Tryz.muLib ⟨sb, 0, none⟩ .returning _ lk fk).mono ?_
 rintro r u' w'' ⟨rfl, rfl, rfl⟩
 have cS : Chg w6 (w6.setCell ⟨sb, 0, none⟩ (.int .i32 0)) (fun k => k = sb) := Chg.set w6 sb 0 _
 refine ⟨_, results_tmp2 rfl _ _ _, ⟨n4 + 1, T6, p6, rfl, ?_, (aA HC6).trans cS (fun _ e _ => e)⟩, (dI (aA HS6)).trans (aA HS).row.symm⟩
 rw [← aA HQF]
 refine dN.chg cS (fun k cs T fr hk hT e => ?_) (aA HE6)
 have e2 : k = sb := e
 rcases hT with rfl | rfl
 ·exact bG hk (aA HS6) (by decide) e2
 ·exact bG hk (aA HS6) (by decide) e2
theorem aHm (sb cl : Nat) (hcl : cl ≤ 5) (f x : Int) (a : Option Addr) (m c : Nat) (w : World) (D : Nat → Prop) (Q : World → Prop) (hQ : ∀ w1 w2, Q w1 → Below w1.heap.size w1 w2 → Q w2)
  (HD : Calls Tryz.prog 105 #[.pointer (some ⟨sb, 0, none⟩), .int .i64 (cl : Int), .int .u8 f, .slice a m c] w fun r w' => Told w f x D r w' ∧ Q w') :
  Calls Tryz.prog 67 #[.pointer (some ⟨sb, 0, none⟩), .int .i64 (cl : Int), .int .u8 f, .slice a m c] w fun r w' => Told w f x D r w' ∧ Q w' := by
 have H := hide HD
 have HQQ := hide hQ
 clear HD hQ
 go_enter Tryz.func67, Tryz.ntmps67
 go_wp2_with fail
 refine (aA H).mono ?_
 rintro r w1 ⟨⟨n, T, p, rfl, he, hc⟩, hq⟩
 have HE := hide he
 have HC := hide hc
 have HQ := hide hq
 clear he hc hq H
 go_wp2_with fail
 refine (pD cl hcl w1).mono ?_
 rintro r w2 ⟨s2, rfl, hs2, hb2⟩
 have hs2' : ¬ 9223372036854775807 < 7 + s2.size := by omega
 have HE2 := hide ((aA HE).below hb2)
 have HB2 := hide hb2
 clear hb2 HE
 go_wp2_with fail
 refine (eW _ _ f x n w2 (aA HE2)).mono ?_
 rintro r w3 ⟨v3, rfl, he3, hb3⟩
 obtain ⟨T3, p3, rfl⟩ := he3.iface
 have HE3 := hide he3
 have HB3 := hide (aD (aA HB2) hb3)
 clear he3 hb3 HE2
 go_wp2
 exact bodyPost_ret (by simp [results, Tryz.results67]) rfl ⟨⟨n + 1, T3, p3, rfl, aA HE3, (aA HC).trans (Chg.of_below (aA HB3) (fun _ => False)) (fun _ e _ => e.elim)⟩, aA HQQ _ _ (aA HQ) (aA HB3)⟩
theorem aHl (sb cl : Nat) (hcl : cl ≤ 5) (f : Int) (v : Value) (w : World) (hv : ∃ a n c, v = .slice a n c) (Q : World → Value → Prop)
  (HD : Calls Tryz.prog 105 #[.pointer (some ⟨sb, 0, none⟩), .int .i64 (cl : Int), .int .u8 f, v] w fun r w' => ∃ a n c, r = .returned (.tuple #[.slice a n c, .nilIface]) ∧ Q w' (.slice a n c) ∧ (∀ k, v.ownBlock = some k → k < w'.heap.size ∧ w'.heap[k]? = w.heap[k]?)) :
  Calls Tryz.prog 67 #[.pointer (some ⟨sb, 0, none⟩), .int .i64 (cl : Int), .int .u8 f, v] w fun r w' => ∃ a n c w1, r = .returned (.tuple #[.slice a n c, .nilIface]) ∧ Q w1 (.slice a n c) ∧ Below w1.heap.size w1 w' ∧ ∀ k, v.ownBlock = some k → w'.heap[k]? = w.heap[k]? := by
 have H := hide HD
 clear HD
 obtain ⟨a, n, c, rfl⟩ := hv
 go_enter Tryz.func67, Tryz.ntmps67
 go_wp2_with fail
 refine (aA H).mono ?_
 rintro r w1 ⟨a1, n1, c1, rfl, hq, hk⟩
 have HQ := hide hq
 have HKK := hide hk
 clear hq H hk
 go_wp2_with fail
 refine (pD cl hcl w1).mono ?_
 rintro r w2 ⟨s2, rfl, hs2, hb2⟩
 have hs2' : ¬ 9223372036854775807 < 7 + s2.size := by omega
 go_wp2_with fail
 refine (aB9 _ w2).mono ?_
 rintro r w3 ⟨rfl, hb3⟩
 have HB := hide (aD hb2 hb3)
 clear hb2 hb3
 go_wp2
 exact bodyPost_ret (by simp [results, Tryz.results67]) rfl ⟨a1, n1, c1, w1, rfl, aA HQ, aA HB, fun k e => ((aA HB).block k (aA HKK k e).1).trans (aA HKK k e).2⟩
def excB (f x : Int) : List Int := [bits BinOp.or IntKind.u8 f 128, x]
theorem iC (r : Nat) (f x : Int) (w : World) (h : w.heap[r]? = some (.cells #[.int .u8 f, .int .u8 x] 216 (0, 0))) :
  Calls Tryz.prog 69 #[.pointer (some ⟨r, 0, none⟩)] w fun e w' => ∃ a n c, e = .returned (.slice a n c) ∧ Owns w' w.heap.size (.slice a n c) (excB f x) ∧ Below w.heap.size w w' := by
 have q0 := cell_of_row _ _ 0 _ _ _ h
 have q1 := cell_of_row _ _ 1 _ _ _ h
 simp at q0 q1
 clear h
 go_enter Tryz.func69, Tryz.ntmps69
 go_wp2
 go_region
 go_wp2
 go_ret
 have hb := (Below.refl w.heap.size w).drew
 refine ⟨_, _, _, rfl, ?_, aD hb (aZ w.drew (.cells #[.int .u8 (bits BinOp.or IntKind.u8 f 128), .int .u8 x] 5))⟩
 refine ⟨by simp [excB], .inr ⟨w.heap.size, 2, #[.int .u8 (bits BinOp.or IntKind.u8 f 128), .int .u8 x], rfl, Nat.le_refl _, heap_alloc_new w.drew _, Nat.le_refl _, by unfold maxLen; omega, rfl, rfl⟩⟩
theorem pM {w W W' : World} {D : Nat → Prop} (hb : Below w.heap.size w W) (hc : Chg W W' D) (hD : ∀ k, D k → w.heap.size ≤ k) : Below w.heap.size w W' :=
 ⟨hc.os.trans hb.os, hc.tape.trans hb.tape, hc.output.trans hb.output, Nat.le_trans hb.size hc.size, fun k p => (hc.block k (Nat.lt_of_lt_of_le p hb.size) (fun e => by have := hD k e; omega)).trans (hb.block k p)⟩
theorem sA (rb sb cl : Nat) (f x : Int) (v : Value) (bs : List Int) (w : World) (D : Nat → Prop) (Q : World → Prop) (hrow : w.heap[rb]? = some (.cells #[.pointer (some ⟨sb, 0, none⟩)] 106 (0, 0))) (hv : Lies w v (f :: bs)) (hg : dF w) (hD0 : ¬ D 0) (hDk : ∀ k cs fr, w.heap[k]? = some (.cells cs 5 fr) → ¬ D k) (hvb : ∀ b, v.ownBlock = some b → ∃ cs fr, w.heap[b]? = some (.cells cs 5 fr)) (hQ : ∀ w1 w2, Q w1 → Below w1.heap.size w1 w2 → Q w2)
  (HD : ∀ w1 a m c, Below w.heap.size w w1 → Lies w1 (.slice a m c) bs → (∀ b, (Value.slice a m c).ownBlock = some b → v.ownBlock = some b) → Calls Tryz.prog 67 #[.pointer (some ⟨sb, 0, none⟩), .int .i64 (cl : Int), .int .u8 f, .slice a m c] w1 fun r w' => Told w1 f x D r w' ∧ Q w') :
  Calls Tryz.prog 46 #[.pointer (some ⟨rb, 0, none⟩), .int .i64 (cl : Int), v] w fun r w' => ∃ a n c, r = .returned (.slice a n c) ∧ Owns w' w.heap.size (.slice a n c) (excB f x) ∧ Chg w w' D ∧ Q w' := by
 obtain ⟨b, o, c1, rfl, hlc, hbl, hcc⟩ := hv.shape (by simp)
 have hx0 := hcc 0 (by simp)
 rw [Nat.add_zero] at hx0
 simp at hx0
 have hl1 : (f :: bs).length = bs.length + 1 := by simp
 rw [hl1] at hv hlc hvb ⊢
 have HLi := hide hv
 have HD' := hide HD
 have HK := hide (fR rb sb)
 have HR := hide hrow
 have HV := hide hvb
 have HQQ := hide hQ
 have HG := hide hg
 have HDK := hide hDk
 have hrbl := (Array.getElem?_eq_some_iff.1 hrow).1
 clear hrow HD hv hcc hl1 hvb hQ hg hDk
 have hlc' : (bs.length : Int) + 1 ≤ (c1 : Int) := by omega
 have hl1' : (1 : Int) ≤ (bs.length : Int) + 1 := by omega
 obtain ⟨cs0, fr0, hb5⟩ := aA HV b rfl
 have hnD : ¬ D b := aA HDK b _ _ hb5
 have HKd : Hid (Calls Tryz.prog 42 #[.pointer (some ⟨rb, 0, none⟩)] w.drew fun e w' => e = .returned (.pointer (some ⟨sb, 0, none⟩)) ∧ Below w.heap.size w w') := by
  refine (aA HK w.drew (aA HR)).mono ?_
  rintro r w' ⟨rfl, h3⟩
  exact ⟨rfl, ⟨h3.os, h3.tape, h3.output, h3.size, h3.block⟩⟩
 have HZ3 : Hid (∀ w3, Below w.heap.size w w3 → w3.cell? ⟨b, o, none⟩ = some (.int .u8 f)) := fun w3 h => (h.cell (by exact hbl)).trans hx0
 have HZ4 : Hid (∀ w3 w4 : World, Below w.heap.size w w3 → Chg w3 w4 D → w4.cell? ⟨b, o, none⟩ = some (.int .u8 f)) := fun w3 w4 h h2 => (World.cell?_of_block (h2.block b (Nat.lt_of_lt_of_le hbl h.size) hnD)).trans (aA HZ3 w3 h)
 have hv1 : ∃ ao co, Hid (∀ w3, Below w.heap.size w w3 → Calls Tryz.prog 67 #[.pointer (some ⟨sb, 0, none⟩), .int .i64 (cl : Int), .int .u8 f, .slice ao bs.length co] w3 fun r w' => Told w3 f x D r w' ∧ Q w') ∧ ((c1 = 1 ∧ bs.length = 0 ∧ ao = some ⟨b, o, none⟩ ∧ co = 0) ∨ (1 < c1 ∧ ao = some ⟨b, o + 1, none⟩ ∧ co = c1 - 1)) := by
  by_cases hc : c1 = 1
  ·have hb0 : bs = [] := List.eq_nil_of_length_eq_zero (by omega)
   refine ⟨some ⟨b, o, none⟩, 0, fun w3 hb3 => ?_, .inl ⟨hc, by omega, rfl, rfl⟩⟩
   subst hb0
   exact aA HD' w3 _ _ _ hb3 (.inl ⟨_, _, rfl, rfl⟩) (fun b' e => e)
  ·refine ⟨some ⟨b, o + 1, none⟩, c1 - 1, fun w3 hb3 => ?_, .inr ⟨by omega, rfl, rfl⟩⟩
   have hl := kJ (n := 1) (bs := f :: bs) (o := o) (c := c1) ((aA HLi).below hb3) (by simp) (by omega)
   simp at hl
   exact aA HD' w3 _ _ _ hb3 hl (fun b' e => e)
 obtain ⟨ao, co, HDo, hcase⟩ := hv1
 clear HD' HLi HV HK
 rcases hcase with ⟨rfl, hb0, rfl, rfl⟩ | ⟨h1c, rfl, rfl⟩
 ·obtain rfl : bs = [] := List.eq_nil_of_length_eq_zero hb0
  have HDo' : Hid (∀ w3, Below w.heap.size w w3 → Calls Tryz.prog 67 #[.pointer (some ⟨sb, 0, none⟩), .int .i64 (cl : Int), .int .u8 f, .slice (some ⟨b, o, none⟩) 0 0] w3 fun r w' => Told w3 f x D r w' ∧ Q w') := HDo
  clear HDo hb0 hlc' hl1' hlc
  rw [show ([] : List Int).length + 1 = 1 from rfl]
  go_enter Tryz.func46, Tryz.ntmps46
  go_wp2_with fail
  go_region_held3 (fun w' => w'.cell? ⟨b, o, none⟩ = some (.int .u8 f))
   (first
     | exact hx0
     | exact aA HZ3 _ (by assumption)
     | exact aA HZ4 _ _ (by assumption) (by assumption))
   (first
     | (go_at_call 42; refine (aA HKd).mono ?_; rintro r w3 ⟨rfl, hb3⟩)
     | (go_at_call 67; refine (aA HDo' _ (by assumption)).mono ?_; rintro r w4 ⟨⟨n4, T4, p4, rfl, he4, hc4⟩, hq4⟩)
     | fail)
  all_goals
   have hlt3 := hb3.size
   have hg4 : dF w4 := (World.cell?_of_block (hc4.block 0 (World.block_lt_of_cell? w3 _ ((aA HG).below hb3)) hD0)).trans ((aA HG).below hb3)
   have HG4 := hide hg4
   have HE4 := hide he4
   have HC4 := hide ((Chg.of_below hb3 D).trans hc4 (fun _ e _ => e))
   have HQ4 := hide hq4
   clear hg4 he4 hc4 hq4 hb3
   have hbn := aZ w4 (.cells #[.pointer none] 154)
   have hAs := aAh n4 _ f x w4.heap.size (.pointer none) _ ((aA HE4).below hbn) (heap_alloc_new w4 _) ((aA HG4).below hbn)
   have HAs := hide hAs
   have HBn := hide hbn
   clear hAs hbn
   go_wp2_with fail
   refine (aA HAs).mono ?_
   rintro r w5 ⟨rfl, rr, h51, h52, h53⟩
   have hcr := cell_of_row _ _ 0 _ _ _ h51
   simp at hcr
   have HAn := hide (iC rr f x w5 h52)
   have HB5 := hide (pM (aA HBn) h53 (fun k e => by have e2 : k = w4.heap.size := e; omega))
   clear h51 h52 h53 HAs
   go_wp2_with fail
   refine (aA HAn).mono ?_
   rintro r w6 ⟨a6, n6, c6, rfl, ho6, hb6⟩
   have HO6 := hide ho6
   have HB6 := hide (aD (aA HB5) hb6)
   have hz5 := (aA HB5).size
   have hz4 := (aA HC4).size
   clear ho6 hb6 HAn
   go_wp2
   go_ret
   exact ⟨a6, n6, c6, rfl, (aA HO6).weak (by omega), (aA HC4).trans (Chg.of_below (aA HB6) (fun _ => False)) (fun _ e _ => e.elim), aA HQQ _ _ (aA HQ4) (aA HB6)⟩
 ·have h1c' : (1 : Int) < (c1 : Int) := by omega
  go_enter Tryz.func46, Tryz.ntmps46
  go_wp2_with fail
  go_region_held3 (fun w' => w'.cell? ⟨b, o, none⟩ = some (.int .u8 f))
   (first
     | exact hx0
     | exact aA HZ3 _ (by assumption)
     | exact aA HZ4 _ _ (by assumption) (by assumption))
   (first
     | (go_at_call 42; refine (aA HKd).mono ?_; rintro r w3 ⟨rfl, hb3⟩)
     | (go_at_call 67; refine (aA HDo _ (by assumption)).mono ?_; rintro r w4 ⟨⟨n4, T4, p4, rfl, he4, hc4⟩, hq4⟩)
     | fail)
  all_goals
   have hlt3 := hb3.size
   have hg4 : dF w4 := (World.cell?_of_block (hc4.block 0 (World.block_lt_of_cell? w3 _ ((aA HG).below hb3)) hD0)).trans ((aA HG).below hb3)
   have HG4 := hide hg4
   have HE4 := hide he4
   have HC4 := hide ((Chg.of_below hb3 D).trans hc4 (fun _ e _ => e))
   have HQ4 := hide hq4
   clear hg4 he4 hc4 hq4 hb3
   have hbn := aZ w4 (.cells #[.pointer none] 154)
   have hAs := aAh n4 _ f x w4.heap.size (.pointer none) _ ((aA HE4).below hbn) (heap_alloc_new w4 _) ((aA HG4).below hbn)
   have HAs := hide hAs
   have HBn := hide hbn
   clear hAs hbn
   go_wp2_with fail
   refine (aA HAs).mono ?_
   rintro r w5 ⟨rfl, rr, h51, h52, h53⟩
   have hcr := cell_of_row _ _ 0 _ _ _ h51
   simp at hcr
   have HAn := hide (iC rr f x w5 h52)
   have HB5 := hide (pM (aA HBn) h53 (fun k e => by have e2 : k = w4.heap.size := e; omega))
   clear h51 h52 h53 HAs
   go_wp2_with fail
   refine (aA HAn).mono ?_
   rintro r w6 ⟨a6, n6, c6, rfl, ho6, hb6⟩
   have HO6 := hide ho6
   have HB6 := hide (aD (aA HB5) hb6)
   have hz5 := (aA HB5).size
   have hz4 := (aA HC4).size
   clear ho6 hb6 HAn
   go_wp2
   go_ret
   exact ⟨a6, n6, c6, rfl, (aA HO6).weak (by omega), (aA HC4).trans (Chg.of_below (aA HB6) (fun _ => False)) (fun _ e _ => e.elim), aA HQQ _ _ (aA HQ4) (aA HB6)⟩
def eT (t : T4) (rs : List Rule) (f : Int) (bs : List Int) : Int ⊕ Req := match aO f bs with
 | .inl x => .inl x
 | .inr q => if excL (t.at q.t).L.length rs q = 0 then .inr q else .inl (excL (t.at q.t).L.length rs q)
theorem gU (f : Int) (bs : List Int) (q : Req) (h : aO f bs = .inr q) : q.f = f := by
 have hR : ∀ t m, aW f bs t m = .inr q → q.f = f := fun t m h => by
  unfold aW at h
  split at h
  ·cases h; rfl
  ·cases h
 have h5 : dK f bs = .inr q → q.f = f := fun h => by
  unfold dK at h
  split at h
  ·cases h; rfl
  ·cases h
 have h6 : eD f bs = .inr q → q.f = f := fun h => by
  unfold eD at h
  split at h
  ·cases h; rfl
  ·cases h
 have h15 : eQ f bs = .inr q → q.f = f := fun h => by
  unfold eQ at h
  split at h
  ·cases h; rfl
  ·cases h
 have h16 : eP f bs = .inr q → q.f = f := fun h => by
  unfold eP at h
  split at h
  ·cases h; rfl
  ·cases h
 have h22 : dE f bs = .inr q → q.f = f := fun h => by
  unfold dE at h
  split at h
  ·cases h; rfl
  ·cases h
 have h23 : cM f bs = .inr q → q.f = f := fun h => by
  unfold cM at h
  split at h
  ·cases h; rfl
  ·cases h
 unfold aO at h
 split at h
 ·exact hR _ _ h
 split at h
 ·exact hR _ _ h
 split at h
 ·exact hR _ _ h
 split at h
 ·exact hR _ _ h
 split at h
 ·exact h5 h
 split at h
 ·exact h6 h
 split at h
 ·exact h15 h
 split at h
 ·exact h16 h
 split at h
 ·exact h22 h
 split at h
 ·exact h23 h
 ·cases h
def aHn (w : World) (B rb sb tb kb : Nat) (t : T4) (LL : List (List Rule)) (us : List Value) (f x : Int) (r : Ending) (w' : World) : Prop :=
 ∃ a n c, r = .returned (.tuple #[.slice a n c, .int .i64 0]) ∧ Owns w' w.heap.size (.slice a n c) (excB f x) ∧ BankAt w' B rb sb tb kb t LL us ∧ Chg w w' (fun k => k = sb)
theorem zG (B rb sb tb kb : Nat) (t : T4) (LL : List (List Rule)) (us : List Value) (cl : Nat) (rs : List Rule) (u : Value) (f x : Int) (v : Value) (bs : List Int) (w : World) (h : BankAt w B rb sb tb kb t LL us) (hcl : cl ≤ 5) (h1 : LL[cl]? = some rs) (h2 : us[cl]? = some u) (h8 : rs.length ≤ 8)
  (hv : Lies w v (f :: bs)) (hvb : ∀ b, v.ownBlock = some b → ∃ cs fr, w.heap[b]? = some (.cells cs 5 fr)) (hlen : bs.length ≤ 252) (hbs : Bys bs) (hj : eT t rs f bs = .inl x) (hg : dF w) (hB : 0 < B)
  (HPf : ∀ rp v W, QNew W rp f → Lies W v bs → (∀ b, v.ownBlock = some b → b ≠ rp) → Calls Tryz.prog 188 #[.pointer (some ⟨rp, 0, none⟩), v] W fun e w' => bK W rp f v (aO f bs) e w') :
  Calls Tryz.prog 28 #[.pointer (some ⟨rb, 0, none⟩), .int .i64 (cl : Int), v] w fun r w' => aHn w B rb sb tb kb t LL us f x r w' := by
 have hn : cl < LL.length := (List.getElem?_eq_some_iff.1 h1).1
 have lsb := (Array.getElem?_eq_some_iff.1 h.st.row).1
 have hc3 := cell_of_row _ _ 3 _ _ _ h.st.row
 simp at hc3
 have hlo := h.st.lo
 refine (jO rb sb cl v (f :: bs) _ _ _ w h.row hc3 lsb hn hv.slice (by simp) (by simp; omega) (fun w1 w' y => Owns w' w1.heap.size y (excB f x) ∧ Chg w1 w' (fun k => k = sb) ∧ w'.heap[sb]? = w.heap[sb]?) ?_).mono ?_
 ·intro w1 hb1
  have hB1 := h.below hb1
  have hvb1 : ∀ b, v.ownBlock = some b → ∃ cs fr, w1.heap[b]? = some (.cells cs 5 fr) := fun b e => by
   obtain ⟨cs, fr, qq⟩ := hvb b e
   exact ⟨cs, fr, (hb1.block b (Array.getElem?_eq_some_iff.1 qq).1).trans qq⟩
  refine (sA rb sb cl f x v bs w1 (fun k => k = sb) (fun w' => w'.heap[sb]? = w.heap[sb]?) hB1.row (hv.below hb1) (hg.below hb1) (fun e => by have e2 : 0 = sb := e; omega) (fun k cs fr q e => bG q hB1.st.row (by decide) e) hvb1 (fun a b q hb => by
   have hla : sb < a.heap.size := by
    have := q.trans h.st.row
    exact (Array.getElem?_eq_some_iff.1 this).1
   exact (hb.block sb hla).trans q) ?_).mono ?_
  ·intro w2 a m c hb2 hl2 hob
   have hB2 := hB1.below hb2
   have hvb2 : ∀ b, (Value.slice a m c).ownBlock = some b → ∃ cs fr, w2.heap[b]? = some (.cells cs 5 fr) := fun b e => by
    obtain ⟨cs, fr, qq⟩ := hvb1 b (hob b e)
    exact ⟨cs, fr, (hb2.block b (Array.getElem?_eq_some_iff.1 qq).1).trans qq⟩
   have hs2 : w2.heap[sb]? = w.heap[sb]? := hB2.st.row.trans h.st.row.symm
   refine aHm sb cl hcl f x a m c w2 _ _ (fun a b q hb => by
    have hla : sb < a.heap.size := (Array.getElem?_eq_some_iff.1 (q.trans h.st.row)).1
    exact (hb.block sb hla).trans q) ?_
   have hpar := mX f (.slice a m c) bs w2 hl2 (fun b e => by obtain ⟨cs, fr, qq⟩ := hvb2 b e; exact (Array.getElem?_eq_some_iff.1 qq).1) (fun rp W x y z => HPf rp _ W x y z)
   unfold eT at hj
   cases hpp : aO f bs with
   | inl x' =>
    rw [hpp] at hj hpar
    obtain rfl : x' = x := by simpa using hj
    refine (aFv sb (cl : Int) f x' a m c w2 (hpar.mono (fun r w' hh => hh))).mono ?_
    rintro r w' ⟨n, T, p, rfl, he, hc⟩
    exact ⟨⟨n, T, p, rfl, he, hc.mono (fun _ _ e => e.elim)⟩, (hc.block sb (Array.getElem?_eq_some_iff.1 hB2.st.row).1 (fun e => e)).trans hs2⟩
   | inr q =>
    rw [hpp] at hj hpar
    have hq := cZ f bs hbs hlen q hpp
    have hqf : q.f = f := gU f bs q hpp
    have hS2 := hB2.sees q.t cl hq.t rs u h1 h2 h8
    have hub : ∀ b, u.ownBlock = some b → ∃ cs fr, w2.heap[b]? = some (.cells cs 52 fr) := fun b e => ((hB2.st.cl.at_ cl rs u h1 h2).2 b e).2
    have hex : excL (t.at q.t).L.length rs q ≠ 0 ∧ excL (t.at q.t).L.length rs q = x := by
     by_cases e : excL (t.at q.t).L.length rs q = 0
     ·simp [e] at hj
     ·simp [e] at hj
      exact ⟨e, hj⟩
    refine (aFw sb tb kb _ _ cl t.lim _ _ _ _ us u rs f (.slice a m c) bs q w2 hS2 hq hl2 hvb2 hex.1 hqf hub (hpar.mono (fun r w' hh => hh))).mono ?_
    rintro r w' ⟨ht, hs⟩
    rw [hex.2] at ht
    exact ⟨ht, hs.trans hs2⟩
  ·rintro r w' ⟨a, n, c, rfl, ho, hc, hq⟩
   exact ⟨a, n, c, rfl, ho, hc, hq⟩
 ·rintro r w' ⟨a, n, c, w1, rfl, hb1, ho, hc, hs⟩
  have C : Chg w w' (fun k => k = sb) := (Chg.of_below hb1 (fun k => k = sb)).trans hc (fun _ e _ => e)
  refine ⟨a, n, c, rfl, ho.weak hb1.size, ?_, C⟩
  have := h.put 0 (by omega) (C.mono (E := fun k => k = sb ∨ k = (t.at 0).g) (fun _ _ e => .inl e)) hs ((h.tab 0 (by omega)).2.1.chg C (bG (h.tab 0 (by omega)).2.1.row h.st.row (by decide)) (bG (h.tab 0 (by omega)).2.1.ent h.st.row (by decide)))
  rw [iS t 0 (by omega)] at this
  exact this
theorem zE (B rb sb tb kb : Nat) (t : T4) (LL : List (List Rule)) (us : List Value) (cl : Nat) (hcl : cl ≤ 5) (rs : List Rule) (u : Value) (f : Int) (v : Value) (bs : List Int) (q : Req) (w : World) (h : BankAt w B rb sb tb kb t LL us) (h1 : LL[cl]? = some rs) (h2 : us[cl]? = some u) (h8 : rs.length ≤ 8)
  (hv : Lies w v (f :: bs)) (hvb : ∀ b, v.ownBlock = some b → ∃ cs fr, w.heap[b]? = some (.cells cs 5 fr)) (hb0 : bs ≠ []) (hlen : bs.length ≤ 252) (hbs : Bys bs)
  (hp : aO f bs = .inr q) (hx : excL (t.at q.t).L.length rs q = 0) (hL : ∀ x ∈ (t.at q.t).L, 0 ≤ x ∧ x ≤ cT q.t)
  (HPf : ∀ rp v W, QNew W rp f → Lies W v bs → (∀ b, v.ownBlock = some b → b ≠ rp) → Calls Tryz.prog 188 #[.pointer (some ⟨rp, 0, none⟩), v] W fun e w' => bK W rp f v (aO f bs) e w') :
  Calls Tryz.prog 28 #[.pointer (some ⟨rb, 0, none⟩), .int .i64 (cl : Int), v] w fun r w' => aE0 w B rb sb tb kb t LL us q r w' := by
 have hq := cZ f bs hbs hlen q hp
 have hq2 := xJ f bs q hp
 have hi := hq.t
 have hn : cl < LL.length := (List.getElem?_eq_some_iff.1 h1).1
 have lsb := (Array.getElem?_eq_some_iff.1 h.st.row).1
 have hc3 := cell_of_row _ _ 3 _ _ _ h.st.row
 simp at hc3
 have hk : (ifOf q.t = 221 ∧ q.t ≤ 1) ∨ (ifOf q.t = 223 ∧ 1 < q.t) := by
  unfold ifOf
  split
  ·exact .inl ⟨rfl, by omega⟩
  ·exact .inr ⟨rfl, by omega⟩
 have hS0 := h.sees q.t cl hi rs u h1 h2 h8
 refine (oL rb sb cl f v bs _ _ _ w h.row hc3 lsb hn hv hb0 hlen (fun w1 w2 x => (w2.heap[sb]? = w1.heap[sb]?) ∧ TabAt w2 (t.at q.t).e (t.at q.t).g (tyOf q.t) (hiOf q.t) (bI (t.at q.t).L q) ∧ Chg w1 w2 (fun k => k = sb ∨ k = (t.at q.t).g) ∧ Owns w2 w1.heap.size x (dS q (cV q.t (bM (bI (t.at q.t).L q) q.ra q.rc)))) ?_).mono ?_
 ·intro w1 v1 hb hl ho
  have hS1 := hS0.below hb
  have hvb1 : ∀ b, v1.ownBlock = some b → ∃ cs fr, w1.heap[b]? = some (.cells cs 5 fr) := fun b e => by
   obtain ⟨cs, fr, qq⟩ := hvb b (ho ▸ e)
   exact ⟨cs, fr, (hb.block b (Array.getElem?_eq_some_iff.1 qq).1).trans qq⟩
  have hub : ∀ b, u.ownBlock = some b → ∃ cs fr, w1.heap[b]? = some (.cells cs 52 fr) := fun b e => by
   obtain ⟨cs, fr, qq⟩ := ((h.st.cl.at_ cl rs u h1 h2).2 b e).2
   exact ⟨cs, fr, (hb.block b (Array.getElem?_eq_some_iff.1 qq).1).trans qq⟩
  have hpar : Calls Tryz.prog 156 #[.int .u8 f, v1] w1 fun r w' => Below w1.heap.size w1 w' ∧ ∃ vv ve, r = .returned (.tuple #[.agg (rrow q.f q.t q.ra q.rc q.wa q.wc vv q.keep ve), .nilIface]) ∧ cB w' vv q.vals ∧ Lies w' ve q.echo ∧ (∀ b, vv.ownBlock = some b → w1.heap.size ≤ b) ∧ (∀ b, ve.ownBlock = some b → v1.ownBlock = some b) := by
   refine (mX f v1 bs w1 hl (fun b e => by obtain ⟨cs, fr, qq⟩ := hvb1 b e; exact (Array.getElem?_eq_some_iff.1 qq).1) (fun rp W a b c => HPf rp v1 W a b c)).mono ?_
   rintro r w' ⟨hb', hm⟩
   rw [hp] at hm
   exact ⟨hb', hm⟩
  have hd := aHv sb tb kb _ _ cl t.lim _ _ _ _ us u rs f v1 bs q w1 hS1 hk hL hq hq2 hl hvb1 hx hub hpar
  obtain ⟨a1, c1, e1⟩ := hl.slice
  refine (aHl sb cl hcl f v1 w1 ⟨_, _, _, e1⟩ (fun w2 x => (w2.heap[sb]? = w1.heap[sb]?) ∧ TabAt w2 (t.at q.t).e (t.at q.t).g (tyOf q.t) (hiOf q.t) (bI (t.at q.t).L q) ∧ Chg w1 w2 (fun k => k = sb ∨ k = (t.at q.t).g) ∧ Owns w2 w1.heap.size x (dS q (cV q.t (bM (bI (t.at q.t).L q) q.ra q.rc)))) ?_)
  refine hd.mono ?_
  rintro r w' D
  obtain ⟨a, n, c, rfl, ho2⟩ := D.ans
  refine ⟨a, n, c, rfl, ⟨D.sbk, D.tab, D.chg, ho2⟩, fun k e => ?_⟩
  obtain ⟨cs, fr, qq⟩ := hvb1 k e
  have hlk := (Array.getElem?_eq_some_iff.1 qq).1
  exact ⟨Nat.lt_of_lt_of_le hlk D.chg.size, D.chg.block k hlk (fun e => e.elim (bG qq hS1.row (by decide)) (bG qq hS1.tab.ent (by decide)))⟩
 ·rintro r w' ⟨a, n, c, w1, w2, rfl, hb1, ⟨q1, q2, q3, q4⟩, hb2⟩
  have C2 : Chg w w2 (fun k => k = sb ∨ k = (t.at q.t).g) := (Chg.of_below hb1 (fun k => k = sb ∨ k = (t.at q.t).g)).trans q3 (fun _ e _ => e)
  have hsb : w2.heap[sb]? = w.heap[sb]? := q1.trans (hb1.block sb lsb)
  have hB2 := h.put q.t hi C2 hsb q2
  refine ⟨a, n, c, rfl, ?_, hB2.below hb2, C2.trans (Chg.of_below hb2 (fun _ => False)) (fun _ e _ => e.elim)⟩
  exact (q4.kept hb2).weak hb1.size
theorem xK (f : Int) (q : Req) (h : aO f [] = .inr q) : False := by
 unfold aO at h
 split at h
 ·simp [aW] at h
 split at h
 ·simp [aW] at h
 split at h
 ·simp [aW] at h
 split at h
 ·simp [aW] at h
 split at h
 ·simp [dK] at h
 split at h
 ·simp [eD] at h
 split at h
 ·simp [eQ] at h
 split at h
 ·simp [eP] at h
 split at h
 ·simp [dE] at h
 split at h
 ·simp [cM] at h
 ·cases h
theorem xG (f : Int) (rp : Nat) (v : Value) (bs : List Int) (w : World) (hr : QNew w rp f) (h : Lies w v bs) (hf : f ≠ 1 ∧ f ≠ 2 ∧ f ≠ 3 ∧ f ≠ 4 ∧ f ≠ 5 ∧ f ≠ 6 ∧ f ≠ 15 ∧ f ≠ 16 ∧ f ≠ 22 ∧ f ≠ 23) :
  Calls Tryz.prog 188 #[.pointer (some ⟨rp, 0, none⟩), v] w fun e w' => bK w rp f v (aO f bs) e w' := by
 obtain ⟨n1, n2, n3, n4, n5, n6, n15, n16, n22, n23⟩ := hf
 have hp : aO f bs = .inl 1 := by
  unfold aO
  rw [if_neg n1, if_neg n2, if_neg n3, if_neg n4, if_neg n5, if_neg n6, if_neg n15, if_neg n16, if_neg n22, if_neg n23]
 have c0 := cell_of_row _ _ 0 _ _ _ hr.row
 have c1 := cell_of_row _ _ 1 _ _ _ hr.row
 have c2 := cell_of_row _ _ 2 _ _ _ hr.row
 have c3 := cell_of_row _ _ 3 _ _ _ hr.row
 have c4 := cell_of_row _ _ 4 _ _ _ hr.row
 have c5 := cell_of_row _ _ 5 _ _ _ hr.row
 have c6 := cell_of_row _ _ 6 _ _ _ hr.row
 have c7 := cell_of_row _ _ 7 _ _ _ hr.row
 have c8 := cell_of_row _ _ 8 _ _ _ hr.row
 simp [rrow] at c0 c1 c2 c3 c4 c5 c6 c7 c8
 obtain ⟨a, c, rfl⟩ := h.slice
 have HP := hide hp
 clear hr h hp
 go_enter Tryz.func188, Tryz.ntmps188
 go_wp2_with fail
 refine (gB f 0 0 0 0 0 (.slice none 0 0) 0 (.slice none 0 0) 1 w).mono ?_
 rintro e w1 ⟨v1, rfl, h1, hb1⟩
 obtain ⟨T, p, rfl⟩ := h1.iface
 have H1 := hide h1
 have HB1 := hide hb1
 clear h1 hb1
 go_wp2_with fail
 refine (eW _ _ f 1 0 w1 (aA H1)).mono ?_
 rintro e w2 ⟨v2, rfl, h2, hb2⟩
 obtain ⟨T2, p2, rfl⟩ := h2.iface
 have H2 := hide h2
 have HB2 := hide (aD (aA HB1) hb2)
 clear h2 hb2
 go_wp2
 go_ret
 exact bK.err (aA HP) (aA H2) (aA HB2)
theorem aBj (f : Int) (bs : List Int) (hx : Bys bs) (hl : bs.length ≤ 252) (rp : Nat) (v : Value) (w : World) (hr : QNew w rp f) (h : Lies w v bs) (hv : ∀ b, v.ownBlock = some b → b ≠ rp) :
  Calls Tryz.prog 188 #[.pointer (some ⟨rp, 0, none⟩), v] w fun e w' => bK w rp f v (aO f bs) e w' := by
 by_cases h1 : f = 1
 ·subst h1; exact aFk rp v bs w hr h hx hl
 by_cases h2 : f = 2
 ·subst h2; exact aFj rp v bs w hr h hx hl
 by_cases h3 : f = 3
 ·subst h3; exact aFi rp v bs w hr h hx hl
 by_cases h4 : f = 4
 ·subst h4; exact aFh rp v bs w hr h hx hl
 by_cases h5 : f = 5
 ·subst h5; exact aFg rp v bs w hr h hx hl hv
 by_cases h6 : f = 6
 ·subst h6; exact aFf rp v bs w hr h hx hl hv
 by_cases h15 : f = 15
 ·subst h15; exact aDq rp v bs w hr h hx hl hv
 by_cases h16 : f = 16
 ·subst h16; exact aDp rp v bs w hr h hx hl hv
 by_cases h22 : f = 22
 ·subst h22; exact aDo rp v bs w hr h hx hl hv
 by_cases h23 : f = 23
 ·subst h23; exact aDn rp v bs w hr h hx hl hv
 exact xG f rp v bs w hr h ⟨h1, h2, h3, h4, h5, h6, h15, h16, h22, h23⟩
def gJ (t : T4) (rs : List Rule) (f : Int) (bs : List Int) : List Int := match eT t rs f bs with
 | .inl x => excB f x
 | .inr q => dS q (cV q.t (bM (bI (t.at q.t).L q) q.ra q.rc))
def iG (t : T4) (rs : List Rule) (f : Int) (bs : List Int) : T4 := match eT t rs f bs with
 | .inl _ => t
 | .inr q => t.put q.t (bI (t.at q.t).L q)
def iM (t : T4) (sb : Nat) (k : Nat) : Prop := k = sb ∨ ∃ i, i < 4 ∧ k = (t.at i).g
def aGl (w : World) (B rb sb tb kb : Nat) (t : T4) (LL : List (List Rule)) (us : List Value) (rs : List Rule) (f : Int) (bs : List Int) (r : Ending) (w' : World) : Prop :=
 ∃ a n c, r = .returned (.tuple #[.slice a n c, .int .i64 0]) ∧ Owns w' w.heap.size (.slice a n c) (gJ t rs f bs) ∧ BankAt w' B rb sb tb kb (iG t rs f bs) LL us ∧ Chg w w' (iM t sb)
theorem zH (B rb sb tb kb : Nat) (t : T4) (LL : List (List Rule)) (us : List Value) (cl : Nat) (rs : List Rule) (u : Value) (f : Int) (v : Value) (bs : List Int) (w : World) (h : BankAt w B rb sb tb kb t LL us) (hcl : cl ≤ 5) (h1 : LL[cl]? = some rs) (h2 : us[cl]? = some u) (h8 : rs.length ≤ 8)
  (hv : Lies w v (f :: bs)) (hvb : ∀ b, v.ownBlock = some b → ∃ cs fr, w.heap[b]? = some (.cells cs 5 fr)) (hlen : bs.length ≤ 252) (hbs : Bys bs) (hg : dF w) (hB : 0 < B) (hL : ∀ i, i < 4 → ∀ x ∈ (t.at i).L, 0 ≤ x ∧ x ≤ cT i) :
  Calls Tryz.prog 28 #[.pointer (some ⟨rb, 0, none⟩), .int .i64 (cl : Int), v] w fun r w' => aGl w B rb sb tb kb t LL us rs f bs r w' := by
 have HPf := fun rp v W hr hl hd => aBj f bs hbs hlen rp v W hr hl hd
 cases hj : eT t rs f bs with
 | inl x =>
  refine (zG B rb sb tb kb t LL us cl rs u f x v bs w h hcl h1 h2 h8 hv hvb hlen hbs hj hg hB HPf).mono ?_
  rintro r w' ⟨a, n, c, rfl, ho, hb, hc⟩
  refine ⟨a, n, c, rfl, ?_, ?_, hc.mono (fun _ _ e => .inl e)⟩
  ·unfold gJ; rw [hj]; exact ho
  ·unfold iG; rw [hj]; exact hb
 | inr q =>
  have hp : aO f bs = .inr q ∧ excL (t.at q.t).L.length rs q = 0 := by
   unfold eT at hj
   cases hpp : aO f bs with
   | inl x => rw [hpp] at hj; cases hj
   | inr q' =>
    rw [hpp] at hj
    simp only at hj
    split at hj
    ·cases hj; exact ⟨rfl, by assumption⟩
    ·cases hj
  have hq := cZ f bs hbs hlen q hp.1
  have hb0 : bs ≠ [] := fun e => by
   subst e
   exact xK f q hp.1
  refine (zE B rb sb tb kb t LL us cl hcl rs u f v bs q w h h1 h2 h8 hv hvb hb0 hlen hbs hp.1 hp.2 (hL q.t hq.t) HPf).mono ?_
  rintro r w' ⟨a, n, c, rfl, ho, hb, hc⟩
  refine ⟨a, n, c, rfl, ?_, ?_, hc.mono (fun _ _ e => e.elim .inl (fun e => .inr ⟨q.t, hq.t, e⟩))⟩
  ·unfold gJ; rw [hj]; exact ho
  ·unfold iG; rw [hj]; exact hb
def dV (x : Tab) : Value := .slice (some ⟨x.g, 0, none⟩) x.L.length x.L.length
structure RefAt (w : World) (yb : Nat) (s0 s1 s2 s3 rv : Value) (y : T4) (LL : List (List Rule)) : Prop where
 row : w.heap[yb]? = some (.cells #[s0, s1, s2, s3, .int .i64 y.lim, rv, dV y.t0, dV y.t1, dV y.t2, dV y.t3] 248 (0, 0))
 rules : bZ w rv LL
 ent : ∀ i, i < 4 → w.heap[(y.at i).g]? = some (.cells ((y.at i).L.map (Value.int .i64)).toArray 3 (0, 0))
 len : ∀ i, i < 4 → (y.at i).L.length ≤ 200
 nd : ∀ i j, i < 4 → j < 4 → i ≠ j → (y.at i).g ≠ (y.at j).g
theorem RefAt.tab {w : World} {yb : Nat} {s0 s1 s2 s3 rv : Value} {y : T4} {LL : List (List Rule)} (h : RefAt w yb s0 s1 s2 s3 rv y LL) (i : Nat) (hi : i < 4) : w.cell? ⟨yb, 6 + i, none⟩ = some (dV (y.at i)) := by
 rw [cell_of_row _ _ _ _ _ _ h.row]
 have hk : i = 0 ∨ i = 1 ∨ i = 2 ∨ i = 3 := by omega
 rcases hk with rfl | rfl | rfl | rfl <;> rfl
theorem lW (yb i N : Nat) (v : Option Addr) (c : Nat) (a n : Int) (w : World) (hi : i < 4) (hc : w.cell? ⟨yb, 6 + i, none⟩ = some (.slice v N c)) (hN : N ≤ 200) (hn : 0 ≤ n) :
  Calls Tryz.prog 143 #[.pointer (some ⟨yb, 0, none⟩), .int .i64 (i : Int), .int .i64 a, .int .i64 n] w fun e w' => e = .returned (.bool (hasB N a n)) ∧ w' = w := by
 have hi' : (i : Int) < 4 := by omega
 go_enter Tryz.func143, Tryz.ntmps143
 go_wp2
 ·go_ret
  refine ⟨aV ?_, rfl⟩
  rw [Bool.eq_iff_iff]
  simp [hasB]
  omega
 ·go_ret
  refine ⟨aV ?_, rfl⟩
  rw [Bool.eq_iff_iff]
  simp [hasB]
  omega
 ·go_ret
  refine ⟨aV ?_, rfl⟩
  rw [Bool.eq_iff_iff]
  simp [hasB]
  omega
theorem rL {α : Type} (f : α → Bool) (l : List α) (k : Nat) (x : α) (h : l[k]? = some x) (hx : f x = true) : l.any f = true := List.any_eq_true.2 ⟨x, List.mem_of_getElem? h, hx⟩
theorem wK {α : Type} (f : α → Bool) (l : List α) (k : Nat) (x : α) (h : l[k]? = some x) (h0 : (l.take k).any f = false) (hx : f x = false) : (l.take (k + 1)).any f = false := by
 rw [List.take_add_one, h, List.any_append, h0]
 simp [hx]
theorem aC3 (yb rb ro cl : Nat) (n c : Nat) (t a : Int) (md : Bool) (u : Value) (rs : List Rule) (w : World) (h : w.cell? ⟨yb, 5, none⟩ = some (.slice (some ⟨rb, ro, none⟩) n c)) (hn : cl < n) (hu : w.cell? ⟨rb, ro + cl, none⟩ = some u) (hl : cK w u rs) (h8 : rs.length ≤ 8) :
  Calls Tryz.prog 180 #[.pointer (some ⟨yb, 0, none⟩), .int .i64 (cl : Int), .int .i64 t, .int .i64 a, .bool md] w fun e w' => e = .returned (.bool (rs.any fun x => lets md x && x.over t a)) ∧ Below w.heap.size w w' := by
 obtain ⟨ra, rc, rfl, hcell⟩ := hl
 have hn' : (cl : Int) < (n : Int) := by omega
 have HC := hide hcell
 clear hcell
 go_enter Tryz.func180, Tryz.ntmps180
 go_wp2
 go_loopw [12] (fun i wr => ∃ k : Nat, k ≤ rs.length ∧ i = .int .i64 k ∧ Hid (Below w.heap.size w wr) ∧ Hid ((rs.take k).any (fun x => lets md x && x.over t a) = false)) (fun i _ => rs.length - (intOf i).toNat)
 case atStart => exact ⟨0, by omega, rfl, Below.refl _ _, rfl⟩
 case round =>
  obtain ⟨k, hk, rfl, hbl, hno⟩ := hrel
  by_cases hlt : k < rs.length
  ·obtain ⟨x, hx⟩ : ∃ x, rs[k]? = some x := ⟨_, List.getElem?_eq_getElem hlt⟩
   rcases aA HC with e | ⟨b, o, rfl, hb, hcell⟩
   ·subst e
    simp at hlt
   ·have g : ∀ j u, x.cells[j]? = some u → wr.cell? ⟨b, o + k * 5 + j, none⟩ = some u := fun j u e => by
     rw [← hcell k x hx j u e]
     exact (aA hbl).cell hb
    obtain ⟨xt, xl, xh, xr, xw⟩ := x
    have g0 : wr.cell? ⟨b, o + k * 5 + 0, none⟩ = some (.int .i64 xt) := g 0 _ rfl
    have g1 : wr.cell? ⟨b, o + k * 5 + 1, none⟩ = some (.int .i64 xl) := g 1 _ rfl
    have g2 : wr.cell? ⟨b, o + k * 5 + 2, none⟩ = some (.int .i64 xh) := g 2 _ rfl
    have g3 : wr.cell? ⟨b, o + k * 5 + 3, none⟩ = some (.bool xr) := g 3 _ rfl
    have g4 : wr.cell? ⟨b, o + k * 5 + 4, none⟩ = some (.bool xw) := g 4 _ rfl
    simp only [Nat.add_zero] at g0
    have HX := hide hx
    clear hx
    have hlt' : (k : Int) < (rs.length : Int) := by omega
    clear g hcell
    have HH := hide (rL (fun x => lets md x && x.over t a) rs k ⟨xt, xl, xh, xr, xw⟩ (aA HX))
    have HM := hide (wK (fun x => lets md x && x.over t a) rs k ⟨xt, xl, xh, xr, xw⟩ (aA HX) (aA hno))
    by_cases e1 : xt = t
    ·by_cases e2 : xl ≤ a
     ·by_cases e3 : a ≤ xh
      ·cases md with
       | true =>
        cases xw with
        | true =>
         have hT := aA HH (by simp [lets, Rule.over, e1, e2, e3])
         clear HH HM
         subst e1
         go_wp2
         go_ret
         exact ⟨aV hT.symm, (aA hbl).alloc (aA hbl).size _⟩
        | false =>
         have hT := hide (aA HM (by simp [lets]))
         clear HH HM
         subst e1
         go_wp2
         exact ⟨⟨k + 1, by omega, by go_num, (aA hbl).alloc (aA hbl).size _, hT⟩, by simp [intOf]; omega⟩
       | false =>
        cases xr with
        | true =>
         have hT := aA HH (by simp [lets, Rule.over, e1, e2, e3])
         clear HH HM
         subst e1
         go_wp2
         go_ret
         exact ⟨aV hT.symm, (aA hbl).alloc (aA hbl).size _⟩
        | false =>
         have hT := hide (aA HM (by simp [lets]))
         clear HH HM
         subst e1
         go_wp2
         exact ⟨⟨k + 1, by omega, by go_num, (aA hbl).alloc (aA hbl).size _, hT⟩, by simp [intOf]; omega⟩
      ·have e3b : decide (a ≤ xh) = false := decide_eq_false e3
       have hT := hide (aA HM (by simp [Rule.over, e3]))
       clear HH HM
       subst e1
       go_wp2
       exact ⟨⟨k + 1, by omega, by go_num, (aA hbl).alloc (aA hbl).size _, hT⟩, by simp [intOf]; omega⟩
     ·have e2b : decide (xl ≤ a) = false := decide_eq_false e2
      have hT := hide (aA HM (by simp [Rule.over, e2]))
      clear HH HM
      subst e1
      go_wp2
      exact ⟨⟨k + 1, by omega, by go_num, (aA hbl).alloc (aA hbl).size _, hT⟩, by simp [intOf]; omega⟩
    ·have hT := hide (aA HM (by simp [Rule.over, e1]))
     clear HH HM
     have e1b : (xt == t) = false := by simpa using e1
     go_wp2
     exact ⟨⟨k + 1, by omega, by go_num, (aA hbl).alloc (aA hbl).size _, hT⟩, by simp [intOf]; omega⟩
  ·obtain rfl : k = rs.length := by omega
   have hT := aA hno
   rw [List.take_length] at hT
   go_wp2
   go_ret
   exact ⟨aV hT.symm, aA hbl⟩
end Go.Proofs.YtfekelmldebplaaGreatDoor
namespace Go.Proofs.YtfekelmldebplaaGreatDoor
open Go.RowKit
theorem rY (x : Rule) (w : World) : Calls Tryz.prog 142 #[.agg x.cells] w fun e w' => e = .returned (.bool (!x.bad)) ∧ Below w.heap.size w w' := by
 obtain ⟨t, lo, hi, r, ww⟩ := x
 unfold Rule.cells
 have hb : Below w.heap.size w (w.alloc (.cells #[.int .i64 t, .int .i64 lo, .int .i64 hi, .bool r, .bool ww] 52)) := (Below.refl _ _).alloc (Nat.le_refl _) _
 have HB := hide hb
 clear hb
 by_cases h0 : 0 ≤ t
 ·by_cases h1 : t < 4
  ·by_cases h2 : 0 ≤ lo
   ·by_cases h3 : lo ≤ hi
    ·go_enter Tryz.func142, Tryz.ntmps142
     go_wp2
     go_ret
     refine ⟨aV ?_, aA HB⟩
     have e1 : decide (t < 0) = false := by simp; omega
     have e2 : decide (4 ≤ t) = false := by simp; omega
     have e3 : decide (lo < 0) = false := by simp; omega
     have e4 : decide (hi < lo) = false := by simp; omega
     show _ = !(decide (t < 0) || (decide (4 ≤ t) || (decide (lo < 0) || (decide (hi < lo) || decide (65535 < hi)))))
     rw [e1, e2, e3, e4]
     by_cases h4 : hi ≤ 65535
     ·rw [decide_eq_true h4, decide_eq_false (by omega)]; rfl
     ·rw [decide_eq_false h4, decide_eq_true (by omega)]; rfl
    ·have h3' : decide (lo ≤ hi) = false := by simpa using h3
     go_enter Tryz.func142, Tryz.ntmps142
     go_wp2
     go_ret
     refine ⟨aV ?_, aA HB⟩
     simp [Rule.bad]; omega
   ·have h2' : decide (0 ≤ lo) = false := by simpa using h2
    go_enter Tryz.func142, Tryz.ntmps142
    go_wp2
    go_ret
    refine ⟨aV ?_, aA HB⟩
    simp [Rule.bad]; omega
  ·have h1' : decide (t < 4) = false := by simpa using h1
   go_enter Tryz.func142, Tryz.ntmps142
   go_wp2
   go_ret
   refine ⟨aV ?_, aA HB⟩
   simp [Rule.bad]; omega
 ·have h0' : decide (0 ≤ t) = false := by simpa using h0
  go_enter Tryz.func142, Tryz.ntmps142
  go_wp2
  go_ret
  refine ⟨aV ?_, aA HB⟩
  simp [Rule.bad]; omega
structure RulesOf (w : World) (S : Nat) (rv : Value) (LL : List (List Rule)) (us : List Value) : Prop where
 row : w.ownsRow S 55 1 rv LL.length us
 at_ : ∀ (i : Nat) (rs : List Rule) (u : Value), LL[i]? = some rs → us[i]? = some u → w.ownsRow S 52 5 u rs.length (rs.flatMap fun x => x.cells.toList)
theorem RulesOf.chg {w w' : World} {S : Nat} {rv : Value} {LL : List (List Rule)} {us : List Value} {D : Nat → Prop} (h : RulesOf w S rv LL us) (c : Chg w w' D) (h1 : ∀ i, rv.ownBlock = some i → ¬ D i) (h2 : ∀ u ∈ us, ∀ i, u.ownBlock = some i → ¬ D i) : RulesOf w' S rv LL us :=
 ⟨aJ h.row fun i _ p q => c.block i p (h1 i q), fun i rs u e1 e2 => aJ (h.at_ i rs u e1 e2) fun k _ p q => c.block k p (h2 u (List.mem_of_getElem? e2) k q)⟩
theorem aA6 {w : World} {S : Nat} {u : Value} {rs : List Rule} (h : w.ownsRow S 52 5 u rs.length (rs.flatMap fun x => x.cells.toList)) : cK w u rs := by
 obtain ⟨a, c, rfl, h1, h2⟩ := bU h
 refine ⟨a, c, rfl, ?_⟩
 cases a with
 | none => exact .inl (List.eq_nil_of_length_eq_zero (h1 rfl))
 | some x0 =>
  obtain ⟨g, rfl, _⟩ := h2 x0 rfl
  have hlt : g < w.heap.size := (World.ownsRow.lt h g rfl).2
  refine .inr ⟨g, 0, rfl, hlt, fun i x hx j u hu => ?_⟩
  have hj : j < 5 := by
   have := (Array.getElem?_eq_some_iff.1 hu).1
   simpa [Rule.cells] using this
  have hi := (List.getElem?_eq_some_iff.1 hx).1
  rw [Nat.zero_add, h.cellAt (i * 5 + j) (by omega), gA rs i j x hx hj]
  exact hu
theorem RulesOf.lists {w : World} {S : Nat} {rv : Value} {LL : List (List Rule)} {us : List Value} (h : RulesOf w S rv LL us) : bZ w rv LL := by
 obtain ⟨a, c, rfl, h1, h2⟩ := bU h.row
 refine ⟨a, c, rfl, ?_⟩
 cases a with
 | none => exact .inl (List.eq_nil_of_length_eq_zero (h1 rfl))
 | some x0 =>
  obtain ⟨g, rfl, _⟩ := h2 x0 rfl
  have hlt : g < w.heap.size := (World.ownsRow.lt h.row g rfl).2
  refine .inr ⟨g, 0, rfl, hlt, fun i rs hi => ?_⟩
  have hil := (List.getElem?_eq_some_iff.1 hi).1
  have hul : us.length = LL.length := by have := h.row.1; omega
  obtain ⟨u, hu⟩ : ∃ u, us[i]? = some u := ⟨_, List.getElem?_eq_getElem (by omega)⟩
  refine ⟨u, ?_, aA6 (h.at_ i rs u hi hu)⟩
  rw [Nat.zero_add, h.row.cellAt i (by omega)]
  exact hu
def tabV (k j g : Nat) (n : Nat) : Value := if j < k then .slice (some ⟨g, 0, none⟩) n n else .slice none 0 0
def bJ (n : Nat) : List Int := List.replicate n 0
structure NT (w : World) (z0 z1 z2 z3 : Int) (lim : Int) (v : Value) (k : Nat) (wr : World) : Prop where
 cfg : wr.heap[w.heap.size]? = some (.cells #[.int .i64 z0, .int .i64 z1, .int .i64 z2, .int .i64 z3, .int .i64 lim, v] 58 (0, 0))
 bank : wr.heap[w.heap.size + 1]? = some (.cells #[.int .i64 z0, .int .i64 z1, .int .i64 z2, .int .i64 z3, .int .i64 lim, .slice none 0 0, tabV k 0 (w.heap.size + 2) z0.toNat, tabV k 1 (w.heap.size + 3) z1.toNat, tabV k 2 (w.heap.size + 4) z2.toNat, tabV k 3 (w.heap.size + 5) z3.toNat] 248 (0, 0))
 size : wr.heap.size = w.heap.size + 2 + k
 t0 : 0 < k → szOk z0 = true ∧ wr.heap[w.heap.size + 2]? = some (.cells ((bJ z0.toNat).map (Value.int .i64)).toArray 3 (0, 0))
 t1 : 1 < k → szOk z1 = true ∧ wr.heap[w.heap.size + 3]? = some (.cells ((bJ z1.toNat).map (Value.int .i64)).toArray 3 (0, 0))
 t2 : 2 < k → szOk z2 = true ∧ wr.heap[w.heap.size + 4]? = some (.cells ((bJ z2.toNat).map (Value.int .i64)).toArray 3 (0, 0))
 t3 : 3 < k → szOk z3 = true ∧ wr.heap[w.heap.size + 5]? = some (.cells ((bJ z3.toNat).map (Value.int .i64)).toArray 3 (0, 0))
 below : Below w.heap.size w wr
theorem NT.next0 {w wr : World} {z0 z1 z2 z3 lim : Int} {v : Value} (h : NT w z0 z1 z2 z3 lim v 0 wr) (e : szOk z0 = true) : NT w z0 z1 z2 z3 lim v 1 ((wr.alloc (.cells ((bJ z0.toNat).map (Value.int .i64)).toArray 3)).setCell ⟨w.heap.size + 1, 6, none⟩ (.slice (some ⟨wr.heap.size, 0, none⟩) z0.toNat z0.toNat)).drew := by
 have hs := h.size
 have ha : ∀ j, j < wr.heap.size → j ≠ w.heap.size + 1 → ((wr.alloc (.cells ((bJ z0.toNat).map (Value.int .i64)).toArray 3)).setCell ⟨w.heap.size + 1, 6, none⟩ (.slice (some ⟨wr.heap.size, 0, none⟩) z0.toNat z0.toNat)).drew.heap[j]? = wr.heap[j]? := fun j hj hn =>
  (heap_setCell_other _ _ _ _ (fun e => hn e)).trans (Below.heap_alloc _ _ _ hj)
 have hnew : ((wr.alloc (.cells ((bJ z0.toNat).map (Value.int .i64)).toArray 3)).setCell ⟨w.heap.size + 1, 6, none⟩ (.slice (some ⟨wr.heap.size, 0, none⟩) z0.toNat z0.toNat)).drew.heap[w.heap.size + 2]? = some (.cells ((bJ z0.toNat).map (Value.int .i64)).toArray 3 (0, 0)) := by
  refine (heap_setCell_other _ _ _ _ (by show w.heap.size + 2 ≠ w.heap.size + 1; omega)).trans ?_
  rw [show w.heap.size + 2 = wr.heap.size by omega]
  exact heap_alloc_new wr _
 refine ⟨(ha _ (by omega) (by omega)).trans h.cfg, ?_, by simp [World.setCell]; omega, fun _ => ⟨e, hnew⟩, fun q => absurd q (by omega), fun q => absurd q (by omega), fun q => absurd q (by omega), ((h.below.alloc h.below.size _).setCell (by show w.heap.size ≤ w.heap.size + 1; omega) _).drew⟩
 have r := heap_setCell_same (wr.alloc (.cells ((bJ z0.toNat).map (Value.int .i64)).toArray 3)) (w.heap.size + 1) 6 _ 248 (.slice (some ⟨wr.heap.size, 0, none⟩) z0.toNat z0.toNat) ((Below.heap_alloc _ _ _ (by omega)).trans h.bank)
 rw [hs] at r ⊢
 exact r
theorem NT.next1 {w wr : World} {z0 z1 z2 z3 lim : Int} {v : Value} (h : NT w z0 z1 z2 z3 lim v 1 wr) (e : szOk z1 = true) : NT w z0 z1 z2 z3 lim v 2 ((wr.alloc (.cells ((bJ z1.toNat).map (Value.int .i64)).toArray 3)).setCell ⟨w.heap.size + 1, 7, none⟩ (.slice (some ⟨wr.heap.size, 0, none⟩) z1.toNat z1.toNat)).drew := by
 have hs := h.size
 have ha : ∀ j, j < wr.heap.size → j ≠ w.heap.size + 1 → ((wr.alloc (.cells ((bJ z1.toNat).map (Value.int .i64)).toArray 3)).setCell ⟨w.heap.size + 1, 7, none⟩ (.slice (some ⟨wr.heap.size, 0, none⟩) z1.toNat z1.toNat)).drew.heap[j]? = wr.heap[j]? := fun j hj hn =>
  (heap_setCell_other _ _ _ _ (fun e => hn e)).trans (Below.heap_alloc _ _ _ hj)
 have hnew : ((wr.alloc (.cells ((bJ z1.toNat).map (Value.int .i64)).toArray 3)).setCell ⟨w.heap.size + 1, 7, none⟩ (.slice (some ⟨wr.heap.size, 0, none⟩) z1.toNat z1.toNat)).drew.heap[w.heap.size + 3]? = some (.cells ((bJ z1.toNat).map (Value.int .i64)).toArray 3 (0, 0)) := by
  refine (heap_setCell_other _ _ _ _ (by show w.heap.size + 3 ≠ w.heap.size + 1; omega)).trans ?_
  rw [show w.heap.size + 3 = wr.heap.size by omega]
  exact heap_alloc_new wr _
 refine ⟨(ha _ (by omega) (by omega)).trans h.cfg, ?_, by simp [World.setCell]; omega, fun _ => ⟨(h.t0 (by omega)).1, (ha _ (by omega) (by omega)).trans (h.t0 (by omega)).2⟩, fun _ => ⟨e, hnew⟩, fun q => absurd q (by omega), fun q => absurd q (by omega), ((h.below.alloc h.below.size _).setCell (by show w.heap.size ≤ w.heap.size + 1; omega) _).drew⟩
 have r := heap_setCell_same (wr.alloc (.cells ((bJ z1.toNat).map (Value.int .i64)).toArray 3)) (w.heap.size + 1) 7 _ 248 (.slice (some ⟨wr.heap.size, 0, none⟩) z1.toNat z1.toNat) ((Below.heap_alloc _ _ _ (by omega)).trans h.bank)
 rw [hs] at r ⊢
 exact r
theorem NT.next2 {w wr : World} {z0 z1 z2 z3 lim : Int} {v : Value} (h : NT w z0 z1 z2 z3 lim v 2 wr) (e : szOk z2 = true) : NT w z0 z1 z2 z3 lim v 3 ((wr.alloc (.cells ((bJ z2.toNat).map (Value.int .i64)).toArray 3)).setCell ⟨w.heap.size + 1, 8, none⟩ (.slice (some ⟨wr.heap.size, 0, none⟩) z2.toNat z2.toNat)).drew := by
 have hs := h.size
 have ha : ∀ j, j < wr.heap.size → j ≠ w.heap.size + 1 → ((wr.alloc (.cells ((bJ z2.toNat).map (Value.int .i64)).toArray 3)).setCell ⟨w.heap.size + 1, 8, none⟩ (.slice (some ⟨wr.heap.size, 0, none⟩) z2.toNat z2.toNat)).drew.heap[j]? = wr.heap[j]? := fun j hj hn =>
  (heap_setCell_other _ _ _ _ (fun e => hn e)).trans (Below.heap_alloc _ _ _ hj)
 have hnew : ((wr.alloc (.cells ((bJ z2.toNat).map (Value.int .i64)).toArray 3)).setCell ⟨w.heap.size + 1, 8, none⟩ (.slice (some ⟨wr.heap.size, 0, none⟩) z2.toNat z2.toNat)).drew.heap[w.heap.size + 4]? = some (.cells ((bJ z2.toNat).map (Value.int .i64)).toArray 3 (0, 0)) := by
  refine (heap_setCell_other _ _ _ _ (by show w.heap.size + 4 ≠ w.heap.size + 1; omega)).trans ?_
  rw [show w.heap.size + 4 = wr.heap.size by omega]
  exact heap_alloc_new wr _
 refine ⟨(ha _ (by omega) (by omega)).trans h.cfg, ?_, by simp [World.setCell]; omega, fun _ => ⟨(h.t0 (by omega)).1, (ha _ (by omega) (by omega)).trans (h.t0 (by omega)).2⟩, fun _ => ⟨(h.t1 (by omega)).1, (ha _ (by omega) (by omega)).trans (h.t1 (by omega)).2⟩, fun _ => ⟨e, hnew⟩, fun q => absurd q (by omega), ((h.below.alloc h.below.size _).setCell (by show w.heap.size ≤ w.heap.size + 1; omega) _).drew⟩
 have r := heap_setCell_same (wr.alloc (.cells ((bJ z2.toNat).map (Value.int .i64)).toArray 3)) (w.heap.size + 1) 8 _ 248 (.slice (some ⟨wr.heap.size, 0, none⟩) z2.toNat z2.toNat) ((Below.heap_alloc _ _ _ (by omega)).trans h.bank)
 rw [hs] at r ⊢
 exact r
theorem NT.next3 {w wr : World} {z0 z1 z2 z3 lim : Int} {v : Value} (h : NT w z0 z1 z2 z3 lim v 3 wr) (e : szOk z3 = true) : NT w z0 z1 z2 z3 lim v 4 ((wr.alloc (.cells ((bJ z3.toNat).map (Value.int .i64)).toArray 3)).setCell ⟨w.heap.size + 1, 9, none⟩ (.slice (some ⟨wr.heap.size, 0, none⟩) z3.toNat z3.toNat)).drew := by
 have hs := h.size
 have ha : ∀ j, j < wr.heap.size → j ≠ w.heap.size + 1 → ((wr.alloc (.cells ((bJ z3.toNat).map (Value.int .i64)).toArray 3)).setCell ⟨w.heap.size + 1, 9, none⟩ (.slice (some ⟨wr.heap.size, 0, none⟩) z3.toNat z3.toNat)).drew.heap[j]? = wr.heap[j]? := fun j hj hn =>
  (heap_setCell_other _ _ _ _ (fun e => hn e)).trans (Below.heap_alloc _ _ _ hj)
 have hnew : ((wr.alloc (.cells ((bJ z3.toNat).map (Value.int .i64)).toArray 3)).setCell ⟨w.heap.size + 1, 9, none⟩ (.slice (some ⟨wr.heap.size, 0, none⟩) z3.toNat z3.toNat)).drew.heap[w.heap.size + 5]? = some (.cells ((bJ z3.toNat).map (Value.int .i64)).toArray 3 (0, 0)) := by
  refine (heap_setCell_other _ _ _ _ (by show w.heap.size + 5 ≠ w.heap.size + 1; omega)).trans ?_
  rw [show w.heap.size + 5 = wr.heap.size by omega]
  exact heap_alloc_new wr _
 refine ⟨(ha _ (by omega) (by omega)).trans h.cfg, ?_, by simp [World.setCell]; omega, fun _ => ⟨(h.t0 (by omega)).1, (ha _ (by omega) (by omega)).trans (h.t0 (by omega)).2⟩, fun _ => ⟨(h.t1 (by omega)).1, (ha _ (by omega) (by omega)).trans (h.t1 (by omega)).2⟩, fun _ => ⟨(h.t2 (by omega)).1, (ha _ (by omega) (by omega)).trans (h.t2 (by omega)).2⟩, fun _ => ⟨e, hnew⟩, ((h.below.alloc h.below.size _).setCell (by show w.heap.size ≤ w.heap.size + 1; omega) _).drew⟩
 have r := heap_setCell_same (wr.alloc (.cells ((bJ z3.toNat).map (Value.int .i64)).toArray 3)) (w.heap.size + 1) 9 _ 248 (.slice (some ⟨wr.heap.size, 0, none⟩) z3.toNat z3.toNat) ((Below.heap_alloc _ _ _ (by omega)).trans h.bank)
 rw [hs] at r ⊢
 exact r
end Go.Proofs.YtfekelmldebplaaGreatDoor
