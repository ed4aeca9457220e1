import Derived.Test.YtfekelmldebplaaGreatDoorTe
import Derived.Test.YtfekelmldebplaaGreatDoorKb
namespace Go.Proofs.YtfekelmldebplaaGreatDoor
open Go.RowKit Go.MuLone

set_option maxRecDepth 10000 in
set_option maxHeartbeats 400000 in
theorem hasTable_any (sb tb : Nat) (t : Int) (w : World) (h : w.cell? ⟨sb, 2, none⟩ = some (.slice (some ⟨tb, 0, none⟩) 4 4)) :
    Calls Tryz.prog 66 #[.pointer (some ⟨sb, 0, none⟩), .int .i64 t] w fun e w' => e = .returned (.bool (decide (0 ≤ t) && decide (t < 4))) ∧ Below w.heap.size w w' := by
  by_cases h0 : 0 ≤ t
  · go_enter Tryz.func66, Tryz.ntmps66
    go_wp2
    go_ret
    exact ⟨ret_bool (by simp [h0]), Below.refl _ _⟩
  · have h0' : decide (0 ≤ t) = false := by simpa using h0
    go_enter Tryz.func66, Tryz.ntmps66
    go_wp2
    go_ret
    exact ⟨ret_bool (by simp), Below.refl _ _⟩

theorem meth_HasB (e : Nat) (w : World) : (method 484 221 (.pointer (some ⟨e, 0, none⟩)) "Has").run Tryz.prog w = .ok (261, .pointer (some ⟨e, 0, none⟩)) w := by kernel_rfl
theorem meth_HasW (e : Nat) (w : World) : (method 484 223 (.pointer (some ⟨e, 0, none⟩)) "Has").run Tryz.prog w = .ok (261, .pointer (some ⟨e, 0, none⟩)) w := by kernel_rfl
theorem meth_AllowsB (e : Nat) (w : World) : (method 484 221 (.pointer (some ⟨e, 0, none⟩)) "Allows").run Tryz.prog w = .ok (259, .pointer (some ⟨e, 0, none⟩)) w := by kernel_rfl
theorem meth_AllowsW (e : Nat) (w : World) : (method 484 223 (.pointer (some ⟨e, 0, none⟩)) "Allows").run Tryz.prog w = .ok (259, .pointer (some ⟨e, 0, none⟩)) w := by kernel_rfl
theorem meth_GetB (e : Nat) (w : World) : (method 484 221 (.pointer (some ⟨e, 0, none⟩)) "Get").run Tryz.prog w = .ok (260, .pointer (some ⟨e, 0, none⟩)) w := by kernel_rfl
theorem meth_GetW (e : Nat) (w : World) : (method 484 223 (.pointer (some ⟨e, 0, none⟩)) "Get").run Tryz.prog w = .ok (260, .pointer (some ⟨e, 0, none⟩)) w := by kernel_rfl
theorem meth_SetB (e : Nat) (w : World) : (method 484 221 (.pointer (some ⟨e, 0, none⟩)) "Set").run Tryz.prog w = .ok (263, .pointer (some ⟨e, 0, none⟩)) w := by kernel_rfl
theorem meth_SetW (e : Nat) (w : World) : (method 484 223 (.pointer (some ⟨e, 0, none⟩)) "Set").run Tryz.prog w = .ok (263, .pointer (some ⟨e, 0, none⟩)) w := by kernel_rfl

/-- The row of a store, under its lock. -/
def srow (l : Int) (tb : Nat) (cv : Value) (lm : Int) : Array Value := #[.int .i32 l, .int .u32 0, .slice (some ⟨tb, 0, none⟩) 4 4, cv, .int .i64 lm]
theorem srow_set {w : World} {sb tb : Nat} {l l' lm : Int} {cv : Value} (h : w.heap[sb]? = some (.cells (srow l tb cv lm) 143 (0, 0))) : (w.setCell ⟨sb, 0, none⟩ (.int .i32 l')).heap[sb]? = some (.cells (srow l' tb cv lm) 143 (0, 0)) := by
  rw [heap_setCell_same w sb 0 _ 143 _ h]
  simp [srow]
theorem TabAt.chg {w w' : World} {e g : Nat} {T : TypeId} {hi : Int} {L : List Int} {D : Nat → Prop} (h : TabAt w e g T hi L) (c : Chg w w' D) (he : ¬ D e) (hg : ¬ D g) : TabAt w' e g T hi L :=
  ⟨(c.block e (Array.getElem?_eq_some_iff.1 h.row).1 he).trans h.row, (c.block g (Array.getElem?_eq_some_iff.1 h.ent).1 hg).trans h.ent, h.len⟩
theorem LiesI.chg {w w' : World} {v : Value} {xs : List Int} {D : Nat → Prop} (h : LiesI w v xs) (c : Chg w w' D) (hD : ∀ b, v.ownBlock = some b → ¬ D b) : LiesI w' v xs := by
  obtain ⟨a, cc, rfl, h⟩ := h
  refine ⟨a, cc, rfl, ?_⟩
  rcases h with h | ⟨b, o, e, hl, hc⟩
  · exact .inl h
  · exact .inr ⟨b, o, e, Nat.lt_of_lt_of_le hl c.size, fun i hi => by rw [← hc i hi]; exact World.cell?_of_block (c.block b hl (hD b (by rw [e]; rfl)))⟩

/-- What Set answers. -/
def setErr (n : Nat) (hi a : Int) (xs : List Int) : Int := if hasB n a xs.length then (if allowsB hi xs then 0 else 5) else 4

set_option maxRecDepth 10000 in
set_option maxHeartbeats 2000000 in
theorem banksSet_core (sb tb e g i : Nat) (cv : Value) (lm : Int) (tc : Array Value) (X T : TypeId) (hi : Int) (L : List Int) (a : Int) (v : Value) (xs : List Int) (w : World) (hs : w.heap[sb]? = some (.cells (srow 0 tb cv lm) 143 (0, 0))) (ht : w.heap[tb]? = some (.cells tc 145 (0, 0))) (hti : tc[i]? = some (.iface X (.pointer (some ⟨e, 0, none⟩)))) (hi4 : i < 4)
    (hT : TabAt w e g T hi L) (hX : (X = 221 ∧ T = 299) ∨ (X = 223 ∧ T = 300)) (hx : LiesI w v xs) (hxs : ∀ b, v.ownBlock = some b → b ≠ sb) (hn : xs.length ≤ 1000000000) (ha : a ≤ 9223372036854775807) :
    Calls Tryz.prog 43 #[.pointer (some ⟨sb, 0, none⟩), .int .i64 i, .int .i64 a, v] w fun r w' => r = .returned (.int .i64 (setErr L.length hi a xs)) ∧ w'.heap[sb]? = some (.cells (srow 0 tb cv lm) 143 (0, 0)) ∧ TabAt w' e g T hi (if setErr L.length hi a xs = 0 then setL L a.toNat xs else L) ∧ Chg w w' (fun k => k = sb ∨ k = g) := by
  obtain ⟨LR, hLR⟩ : ∃ LR, LR = if setErr L.length hi a xs = 0 then setL L a.toNat xs else L := ⟨_, rfl⟩
  obtain ⟨er, hER⟩ : ∃ er, er = setErr L.length hi a xs := ⟨_, rfl⟩
  rw [← hLR, ← hER]
  have HLR := hide hLR
  have HER := hide hER
  clear hLR hER
  have q0 := cell_of_row _ _ 0 _ _ _ hs
  have f0 := frozen_of_row _ _ 0 _ _ hs
  simp [srow] at q0
  have nT3 : T ≠ 3 := by rcases hX with ⟨_, rfl⟩ | ⟨_, rfl⟩ <;> decide
  have nT113 : T ≠ 143 := by rcases hX with ⟨_, rfl⟩ | ⟨_, rfl⟩ <;> decide
  have neg : e ≠ g := rows_ne hT.row hT.ent nT3
  have nes : e ≠ sb := rows_ne hT.row hs nT113
  have ngs : g ≠ sb := rows_ne hT.ent hs (by decide)
  have nts : tb ≠ sb := rows_ne ht hs (by decide)
  -- behind the lock
  have c1 : Chg w (w.setCell ⟨sb, 0, none⟩ (.int .i32 1)) (fun k => k = sb) := Chg.set w sb 0 _
  have HS1 := hide (srow_set (l' := 1) hs)
  have HT1 := hide (hT.chg c1 nes ngs)
  have HX1 := hide (hx.chg c1 hxs)
  have ht1 := (c1.block tb (Array.getElem?_eq_some_iff.1 ht).1 nts).trans ht
  have HTR := hide ht1
  have HTI := hide hti
  have C1 := hide c1
  obtain ⟨av, cc, rfl, _⟩ := id hx
  clear c1 ht1 hx hs hT ht hti hxs
  go_enter_defers Tryz.func43, Tryz.ntmps43
  go_wp2_with (go_at_call 64; refine (lock_free Tryz.muLib ⟨sb, 0, none⟩ _ q0 f0).mono ?_; rintro e w' ⟨rfl, rfl⟩)
  generalize w.setCell ⟨sb, 0, none⟩ (.int .i32 1) = W1 at HS1 HT1 HX1 HTR C1 ⊢
  have c2 := cell_of_row _ _ 2 _ _ _ (unhide HS1)
  simp [srow] at c2
  have hd : (decide ((0 : Int) ≤ (i : Int)) && decide ((i : Int) < 4)) = true := by simp; omega
  refine (hasTable_any sb tb (i : Int) W1 c2).mono ?_
  rintro r w2 ⟨rfl, hb2⟩
  rw [hd]
  have hS2 := (hb2.block sb (Array.getElem?_eq_some_iff.1 (unhide HS1)).1).trans (unhide HS1)
  have hTR2 := (hb2.block tb (Array.getElem?_eq_some_iff.1 (unhide HTR)).1).trans (unhide HTR)
  have c2 := cell_of_row _ _ 2 _ _ _ hS2
  have ci := cell_of_row _ _ i _ _ _ hTR2
  rw [unhide HTI] at ci
  simp [srow] at c2
  have hi4' : (i : Int) < 4 := by omega
  have HS2 := hide hS2
  have HTR2 := hide hTR2
  clear hS2 hTR2 hd
  have HT2 := hide ((unhide HT1).below hb2)
  have HX2 := hide ((unhide HX1).below hb2)
  have C2 := hide ((unhide C1).trans (Chg.of_below hb2 (fun _ => False)) (fun _ e _ => e.elim))
  clear HT1 HX1 C1 HS1 HTR hb2
  have m1 : ∀ w, (method 484 X (.pointer (some ⟨e, 0, none⟩)) "Has").run Tryz.prog w = .ok (261, .pointer (some ⟨e, 0, none⟩)) w := fun w => by
    rcases hX with ⟨rfl, _⟩ | ⟨rfl, _⟩
    · exact meth_HasB e w
    · exact meth_HasW e w
  have m2 : ∀ w, (method 484 X (.pointer (some ⟨e, 0, none⟩)) "Allows").run Tryz.prog w = .ok (259, .pointer (some ⟨e, 0, none⟩)) w := fun w => by
    rcases hX with ⟨rfl, _⟩ | ⟨rfl, _⟩
    · exact meth_AllowsB e w
    · exact meth_AllowsW e w
  have m3 : ∀ w, (method 484 X (.pointer (some ⟨e, 0, none⟩)) "Set").run Tryz.prog w = .ok (263, .pointer (some ⟨e, 0, none⟩)) w := fun w => by
    rcases hX with ⟨rfl, _⟩ | ⟨rfl, _⟩
    · exact meth_SetB e w
    · exact meth_SetW e w
  clear hX
  go_wp2_with fail
  refine (has_any w2 e g T hi L a xs.length (unhide HT2) ha).mono ?_
  rintro r w3 ⟨rfl, hb3⟩
  have hS3 := (hb3.block sb (Array.getElem?_eq_some_iff.1 (unhide HS2)).1).trans (unhide HS2)
  have hTR3 := (hb3.block tb (Array.getElem?_eq_some_iff.1 (unhide HTR2)).1).trans (unhide HTR2)
  have HT3 := hide ((unhide HT2).below hb3)
  have HX3 := hide ((unhide HX2).below hb3)
  have C3 := hide ((unhide C2).trans (Chg.of_below hb3 (fun _ => False)) (fun _ e _ => e.elim))
  have HS3 := hide hS3
  have HTR3 := hide hTR3
  have c2 := cell_of_row _ _ 2 _ _ _ hS3
  have lk := cell_of_row _ _ 0 _ _ _ hS3
  have fk := frozen_of_row _ _ 0 _ _ hS3
  have ci := cell_of_row _ _ i _ _ _ hTR3
  rw [unhide HTI] at ci
  simp [srow] at c2 lk
  clear hS3 hTR3 hb3 HT2 HX2 C2 HS2 HTR2
  by_cases hh : hasB L.length a xs.length = true
  · have HH := hide hh
    rw [hh]
    clear hh
    go_wp2_with fail
    refine (allows_any w3 e g T hi L _ xs (unhide HT3) (unhide HX3) hn).mono ?_
    rintro r w4 ⟨rfl, hb4⟩
    have hS4 := (hb4.block sb (Array.getElem?_eq_some_iff.1 (unhide HS3)).1).trans (unhide HS3)
    have hTR4 := (hb4.block tb (Array.getElem?_eq_some_iff.1 (unhide HTR3)).1).trans (unhide HTR3)
    have HT4 := hide ((unhide HT3).below hb4)
    have HX4 := hide ((unhide HX3).below hb4)
    have C4 := hide ((unhide C3).trans (Chg.of_below hb4 (fun _ => False)) (fun _ e _ => e.elim))
    have HS4 := hide hS4
    have c2 := cell_of_row _ _ 2 _ _ _ hS4
    have lk := cell_of_row _ _ 0 _ _ _ hS4
    have fk := frozen_of_row _ _ 0 _ _ hS4
    have ci := cell_of_row _ _ i _ _ _ hTR4
    rw [unhide HTI] at ci
    simp [srow] at c2 lk
    clear hS4 hTR4 hb4 HT3 HX3 C3 HS3 HTR3
    by_cases hal : allowsB hi xs = true
    · have HAl := hide hal
      rw [hal]
      clear hal
      have hac : 0 ≤ a ∧ (a.toNat + xs.length ≤ L.length) := by
        have := unhide HH
        simp [hasB] at this
        omega
      have haa : (a.toNat : Int) = a := by omega
      have HE := hide (setE_any w4 e g T hi L a.toNat _ xs (unhide HT4) (unhide HX4) hac.2 neg)
      rw [haa] at HE
      go_wp2_with fail
      refine (unhide HE).mono ?_
      rintro r w5 ⟨rfl, hT5, hc5⟩
      have hS5 := (hc5.block sb (Array.getElem?_eq_some_iff.1 (unhide HS4)).1 (fun e => ngs e.symm)).trans (unhide HS4)
      have HT5 := hide hT5
      have HS5 := hide hS5
      have C5 := hide (((unhide C4).mono (E := fun k => k = sb ∨ k = g) (fun _ _ e => .inl e)).trans hc5 (fun _ e _ => .inr e))
      have lk := cell_of_row _ _ 0 _ _ _ hS5
      have fk := frozen_of_row _ _ 0 _ _ hS5
      simp [srow] at lk
      clear hS5 hT5 hc5 HE haa c2 ci
      go_wp2_with fail
      refine leaves_cons (f := 65) (args := #[.pointer (some ⟨sb, 0, none⟩)]) (by simp) (by simp [go_sem]) ?_
      refine (unlock_deferred Tryz.muLib ⟨sb, 0, none⟩ .returning _ lk fk).mono ?_
      rintro r u' w'' ⟨rfl, rfl, rfl⟩
      have e0 : setErr L.length hi a xs = 0 := by simp [setErr, unhide HH, unhide HAl]
      have cS : Chg w5 (w5.setCell ⟨sb, 0, none⟩ (.int .i32 0)) (fun k => k = sb) := Chg.set w5 sb 0 _
      refine ⟨_, results_tmp rfl _ _ _, by rw [unhide HER, e0]; rfl, srow_set (unhide HS5), ?_, (unhide C5).trans cS (fun _ e _ => .inl e)⟩
      rw [unhide HLR, if_pos e0]
      exact (unhide HT5).chg cS nes ngs
    · have hal' : allowsB hi xs = false := by simpa using hal
      have HAl := hide hal'
      rw [hal']
      clear hal hal'
      go_wp2_with fail
      refine leaves_cons (f := 65) (args := #[.pointer (some ⟨sb, 0, none⟩)]) (by simp) (by simp [go_sem]) ?_
      refine (unlock_deferred Tryz.muLib ⟨sb, 0, none⟩ .returning _ lk fk).mono ?_
      rintro r u' w'' ⟨rfl, rfl, rfl⟩
      have e0 : setErr L.length hi a xs = 5 := by simp [setErr, unhide HH, unhide HAl]
      have cS : Chg w4 (w4.setCell ⟨sb, 0, none⟩ (.int .i32 0)) (fun k => k = sb) := Chg.set w4 sb 0 _
      refine ⟨_, results_tmp rfl _ _ _, by rw [unhide HER, e0]; rfl, srow_set (unhide HS4), ?_, ((unhide C4).trans cS (fun _ e _ => e)).mono (fun _ _ e => .inl e)⟩
      rw [unhide HLR, if_neg (by rw [e0]; decide)]
      exact (unhide HT4).chg cS nes ngs
  · have hh' : hasB L.length a xs.length = false := by simpa using hh
    have HH := hide hh'
    rw [hh']
    clear hh hh'
    go_wp2_with fail
    refine leaves_cons (f := 65) (args := #[.pointer (some ⟨sb, 0, none⟩)]) (by simp) (by simp [go_sem]) ?_
    refine (unlock_deferred Tryz.muLib ⟨sb, 0, none⟩ .returning _ lk fk).mono ?_
    rintro r u' w'' ⟨rfl, rfl, rfl⟩
    have e0 : setErr L.length hi a xs = 4 := by simp [setErr, unhide HH]
    have cS : Chg w3 (w3.setCell ⟨sb, 0, none⟩ (.int .i32 0)) (fun k => k = sb) := Chg.set w3 sb 0 _
    refine ⟨_, results_tmp rfl _ _ _, by rw [unhide HER, e0]; rfl, srow_set (unhide HS3), ?_, ((unhide C3).trans cS (fun _ e _ => e)).mono (fun _ _ e => .inl e)⟩
    rw [unhide HLR, if_neg (by rw [e0]; decide)]
    exact (unhide HT3).chg cS nes ngs
end Go.Proofs.YtfekelmldebplaaGreatDoor
