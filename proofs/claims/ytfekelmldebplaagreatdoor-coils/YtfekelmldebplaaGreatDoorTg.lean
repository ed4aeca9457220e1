import Derived.Test.YtfekelmldebplaaGreatDoorTf
namespace Go.Proofs.YtfekelmldebplaaGreatDoor
open Go.RowKit Go.MuLone

/-- What Get answers. -/
def getErr (n : Nat) (a c : Int) : Int := if c < 0 then 5 else if hasB n a c then 0 else 4
/-- The list that comes out. -/
def GotV (w0 w : World) (er : Int) (v : Value) (xs : List Int) : Prop := (er = 0 → LiesI w v xs ∧ ∀ b, v.ownBlock = some b → w0.heap.size ≤ b ∧ b < w.heap.size) ∧ (er ≠ 0 → v = .slice none 0 0)

set_option maxRecDepth 10000 in
set_option maxHeartbeats 2000000 in
theorem banksGet_core (sb tb e g i : Nat) (cv : Value) (lm : Int) (tc : Array Value) (X T : TypeId) (hi : Int) (L : List Int) (a c : Int) (w : World) (hs : w.heap[sb]? = some (.cells (srow 0 tb cv lm) 143 (0, 0))) (ht : w.heap[tb]? = some (.cells tc 145 (0, 0))) (hti : tc[i]? = some (.iface X (.pointer (some ⟨e, 0, none⟩)))) (hi4 : i < 4)
    (hT : TabAt w e g T hi L) (hX : (X = 221 ∧ T = 299) ∨ (X = 223 ∧ T = 300)) (ha : a ≤ 9223372036854775807) :
    Calls Tryz.prog 44 #[.pointer (some ⟨sb, 0, none⟩), .int .i64 i, .int .i64 a, .int .i64 c] w fun r w' => ∃ v, r = .returned (.tuple #[v, .int .i64 (getErr L.length a c)]) ∧ GotV w w' (getErr L.length a c) v ((L.drop a.toNat).take c.toNat) ∧ w'.heap[sb]? = some (.cells (srow 0 tb cv lm) 143 (0, 0)) ∧ TabAt w' e g T hi L ∧ Chg w w' (fun k => k = sb) := by
  obtain ⟨er, hER⟩ : ∃ er, er = getErr L.length a c := ⟨_, rfl⟩
  rw [← hER]
  have HER := hide hER
  clear hER
  have q0 := cell_of_row _ _ 0 _ _ _ hs
  have f0 := frozen_of_row _ _ 0 _ _ hs
  simp [srow] at q0
  have nT113 : T ≠ 143 := by rcases hX with ⟨_, rfl⟩ | ⟨_, rfl⟩ <;> decide
  have nes : e ≠ sb := rows_ne hT.row hs nT113
  have ngs : g ≠ sb := rows_ne hT.ent hs (by decide)
  have nts : tb ≠ sb := rows_ne ht hs (by decide)
  have lsb := (Array.getElem?_eq_some_iff.1 hs).1
  have c1 : Chg w (w.setCell ⟨sb, 0, none⟩ (.int .i32 1)) (fun k => k = sb) := Chg.set w sb 0 _
  have HS1 := hide (srow_set (l' := 1) hs)
  have HT1 := hide (hT.chg c1 nes ngs)
  have ht1 := (c1.block tb (Array.getElem?_eq_some_iff.1 ht).1 nts).trans ht
  have HTR := hide ht1
  have HTI := hide hti
  have C1 := hide c1
  clear c1 ht1 hs hT ht hti
  go_enter_defers Tryz.func44, Tryz.ntmps44
  go_wp2_with (go_at_call 64; refine (lock_free Tryz.muLib ⟨sb, 0, none⟩ _ q0 f0).mono ?_; rintro e w' ⟨rfl, rfl⟩)
  generalize w.setCell ⟨sb, 0, none⟩ (.int .i32 1) = W1 at HS1 HT1 HTR C1 ⊢
  have c2 := cell_of_row _ _ 2 _ _ _ (unhide HS1)
  simp [srow] at c2
  have hd : (decide ((0 : Int) ≤ (i : Int)) && decide ((i : Int) < 4)) = true := by simp; omega
  refine (hasTable_any sb tb (i : Int) W1 c2).mono ?_
  rintro r w2 ⟨rfl, hb2⟩
  rw [hd]
  have hS2 := (hb2.block sb (Array.getElem?_eq_some_iff.1 (unhide HS1)).1).trans (unhide HS1)
  have hTR2 := (hb2.block tb (Array.getElem?_eq_some_iff.1 (unhide HTR)).1).trans (unhide HTR)
  have c2 := cell_of_row _ _ 2 _ _ _ hS2
  have lk := cell_of_row _ _ 0 _ _ _ hS2
  have fk := frozen_of_row _ _ 0 _ _ hS2
  have ci := cell_of_row _ _ i _ _ _ hTR2
  rw [unhide HTI] at ci
  simp [srow] at c2 lk
  have hi4' : (i : Int) < 4 := by omega
  have HS2 := hide hS2
  have HTR2 := hide hTR2
  clear hS2 hTR2 hd
  have HT2 := hide ((unhide HT1).below hb2)
  have C2 := hide ((unhide C1).trans (Chg.of_below hb2 (fun _ => False)) (fun _ e _ => e.elim))
  clear HT1 C1 HS1 HTR hb2
  have m1 : ∀ w, (method 484 X (.pointer (some ⟨e, 0, none⟩)) "Has").run Tryz.prog w = .ok (261, .pointer (some ⟨e, 0, none⟩)) w := fun w => by
    rcases hX with ⟨rfl, _⟩ | ⟨rfl, _⟩
    · exact meth_HasB e w
    · exact meth_HasW e w
  have m2 : ∀ w, (method 484 X (.pointer (some ⟨e, 0, none⟩)) "Get").run Tryz.prog w = .ok (260, .pointer (some ⟨e, 0, none⟩)) w := fun w => by
    rcases hX with ⟨rfl, _⟩ | ⟨rfl, _⟩
    · exact meth_GetB e w
    · exact meth_GetW e w
  clear hX
  by_cases hc0 : c < 0
  · have HC0 := hide hc0
    go_wp2_with fail
    refine leaves_cons (f := 65) (args := #[.pointer (some ⟨sb, 0, none⟩)]) (by simp) (by simp [go_sem]) ?_
    refine (unlock_deferred Tryz.muLib ⟨sb, 0, none⟩ .returning _ lk fk).mono ?_
    rintro r u' w'' ⟨rfl, rfl, rfl⟩
    have e0 : er = 5 := by rw [unhide HER]; simp [getErr, unhide HC0]
    have cS : Chg w2 (w2.setCell ⟨sb, 0, none⟩ (.int .i32 0)) (fun k => k = sb) := Chg.set w2 sb 0 _
    refine ⟨_, results_tmp2 rfl _ _ _, .slice none 0 0, by rw [e0]; rfl, ⟨fun h => absurd h (by rw [e0]; decide), fun _ => rfl⟩, srow_set (unhide HS2), (unhide HT2).chg cS nes ngs, (unhide C2).trans cS (fun _ e _ => e)⟩
  · have hc0' : decide (c < 0) = false := by simpa using hc0
    have HC0 := hide hc0
    clear hc0
    go_wp2_with fail
    refine (has_any w2 e g T hi L a c (unhide HT2) ha).mono ?_
    rintro r w3 ⟨rfl, hb3⟩
    have hS3 := (hb3.block sb (Array.getElem?_eq_some_iff.1 (unhide HS2)).1).trans (unhide HS2)
    have hTR3 := (hb3.block tb (Array.getElem?_eq_some_iff.1 (unhide HTR2)).1).trans (unhide HTR2)
    have HT3 := hide ((unhide HT2).below hb3)
    have C3 := hide ((unhide C2).trans (Chg.of_below hb3 (fun _ => False)) (fun _ e _ => e.elim))
    have HS3 := hide hS3
    have c2 := cell_of_row _ _ 2 _ _ _ hS3
    have lk := cell_of_row _ _ 0 _ _ _ hS3
    have fk := frozen_of_row _ _ 0 _ _ hS3
    have ci := cell_of_row _ _ i _ _ _ hTR3
    rw [unhide HTI] at ci
    simp [srow] at c2 lk
    clear hS3 hTR3 hb3 HT2 C2 HS2 HTR2
    by_cases hh : hasB L.length a c = true
    · have HH := hide hh
      rw [hh]
      clear hh
      have hac : 0 ≤ a ∧ 0 ≤ c ∧ (a.toNat + c.toNat ≤ L.length) := by
        have := unhide HH
        simp [hasB] at this
        omega
      have haa : (a.toNat : Int) = a := by omega
      have hcc : (c.toNat : Int) = c := by omega
      have HE := hide (getE_any w3 e g T hi L a.toNat c.toNat (unhide HT3) hac.2.2)
      rw [haa, hcc] at HE
      go_wp2_with fail
      refine (unhide HE).mono ?_
      rintro r w5 ⟨k5, rfl, hk5, hr5, hb5⟩
      have hS5 := (hb5.block sb (Array.getElem?_eq_some_iff.1 (unhide HS3)).1).trans (unhide HS3)
      have HT5 := hide ((unhide HT3).below hb5)
      have HS5 := hide hS5
      have C5 := hide ((unhide C3).trans (Chg.of_below hb5 (fun _ => False)) (fun _ e _ => e.elim))
      have HR5 := hide hr5
      have lk := cell_of_row _ _ 0 _ _ _ hS5
      have fk := frozen_of_row _ _ 0 _ _ hS5
      simp [srow] at lk
      clear hS5 hb5 hr5 HE haa hcc c2 ci
      go_wp2_with fail
      refine leaves_cons (f := 65) (args := #[.pointer (some ⟨sb, 0, none⟩)]) (by simp) (by simp [go_sem]) ?_
      refine (unlock_deferred Tryz.muLib ⟨sb, 0, none⟩ .returning _ lk fk).mono ?_
      rintro r u' w'' ⟨rfl, rfl, rfl⟩
      have e0 : er = 0 := by rw [unhide HER]; simp [getErr, unhide HC0, unhide HH]
      have cS : Chg w5 (w5.setCell ⟨sb, 0, none⟩ (.int .i32 0)) (fun k => k = sb) := Chg.set w5 sb 0 _
      have lk5 := (Array.getElem?_eq_some_iff.1 (unhide HR5)).1
      have zw := (unhide C3).size
      have nk : k5 ≠ sb := by omega
      have r6 := (cS.block k5 lk5 nk).trans (unhide HR5)
      have hlen : ((L.drop a.toNat).take c.toNat).length = c.toNat := by simp; omega
      generalize (L.drop a.toNat).take c.toNat = ys at hlen r6 ⊢
      have hlies : LiesI (w5.setCell ⟨sb, 0, none⟩ (.int .i32 0)) (.slice (some ⟨k5, 0, none⟩) c.toNat c.toNat) ys := by
        refine ⟨some ⟨k5, 0, none⟩, c.toNat, by rw [hlen], .inr ⟨k5, 0, rfl, (Array.getElem?_eq_some_iff.1 r6).1, fun j hj => ?_⟩⟩
        rw [Nat.zero_add, cell_of_row _ _ _ _ _ _ r6]
        simp [List.getD, List.getElem?_eq_getElem hj]
      refine ⟨_, results_tmp2 rfl _ _ _, .slice (some ⟨k5, 0, none⟩) c.toNat c.toNat, by rw [e0]; rfl, ⟨fun _ => ⟨hlies, fun b hb => ?_⟩, fun h => absurd e0 h⟩, srow_set (unhide HS5), (unhide HT5).chg cS nes ngs, (unhide C5).trans cS (fun _ e _ => e)⟩
      simp [Value.ownBlock] at hb
      subst hb
      exact ⟨by omega, (Array.getElem?_eq_some_iff.1 r6).1⟩
    · have hh' : hasB L.length a c = false := by simpa using hh
      have HH := hide hh'
      rw [hh']
      clear hh hh'
      go_wp2_with fail
      refine leaves_cons (f := 65) (args := #[.pointer (some ⟨sb, 0, none⟩)]) (by simp) (by simp [go_sem]) ?_
      refine (unlock_deferred Tryz.muLib ⟨sb, 0, none⟩ .returning _ lk fk).mono ?_
      rintro r u' w'' ⟨rfl, rfl, rfl⟩
      have e0 : er = 4 := by rw [unhide HER]; simp [getErr, unhide HC0, unhide HH]
      have cS : Chg w3 (w3.setCell ⟨sb, 0, none⟩ (.int .i32 0)) (fun k => k = sb) := Chg.set w3 sb 0 _
      refine ⟨_, results_tmp2 rfl _ _ _, .slice none 0 0, by rw [e0]; rfl, ⟨fun h => absurd h (by rw [e0]; decide), fun _ => rfl⟩, srow_set (unhide HS3), (unhide HT3).chg cS nes ngs, (unhide C3).trans cS (fun _ e _ => e)⟩
end Go.Proofs.YtfekelmldebplaaGreatDoor
