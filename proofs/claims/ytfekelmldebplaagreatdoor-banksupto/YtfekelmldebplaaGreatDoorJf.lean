import Derived.Test.YtfekelmldebplaaGreatDoorJe
import Derived.Test.YtfekelmldebplaaGreatDoorJo
set_option maxRecDepth 100000
set_option maxHeartbeats 8000000
namespace Go.Proofs.YtfekelmldebplaaGreatDoor
open Go.RowKit
theorem four {P : Nat → Prop} (p0 : P 0) (p1 : P 1) (p2 : P 2) (p3 : P 3) (i : Nat) (hi : i < 4) : P i := by
 have hk : i = 0 ∨ i = 1 ∨ i = 2 ∨ i = 3 := by omega
 rcases hk with rfl | rfl | rfl | rfl <;> assumption
theorem aHr (t : T4) (i : Nat) (L : List Int) (j : Nat) (hj : j < 4) : ((t.put i L).at j).g = (t.at j).g := by
 revert j
 refine four ?_ ?_ ?_ ?_
 ·show (ite (i = 0) _ _ : Tab).g = _; split <;> rfl
 ·show (ite (i = 1) _ _ : Tab).g = _; split <;> rfl
 ·show (ite (i = 2) _ _ : Tab).g = _; split <;> rfl
 ·show (ite (i = 3) _ _ : Tab).g = _; split <;> rfl
theorem aDk (t : T4) (i : Nat) (L : List Int) (j : Nat) (hj : j < 4) : ((t.put i L).at j).L = if i = j then L else (t.at j).L := by
 revert j
 refine four ?_ ?_ ?_ ?_
 ·show (ite (i = 0) _ _ : Tab).L = _; split <;> rfl
 ·show (ite (i = 1) _ _ : Tab).L = _; split <;> rfl
 ·show (ite (i = 2) _ _ : Tab).L = _; split <;> rfl
 ·show (ite (i = 3) _ _ : Tab).L = _; split <;> rfl
def fP (t y : T4) : Prop := ∀ i, i < 4 → (t.at i).L = (y.at i).L
def gC (t : T4) : Prop := ∀ i, i < 4 → ∀ x ∈ (t.at i).L, 0 ≤ x ∧ x ≤ cT i
def fT (t t' : T4) : Prop := ∀ i, i < 4 → (t'.at i).g = (t.at i).g
theorem fT.refl (t : T4) : fT t t := fun _ _ => rfl
theorem fT.put (t : T4) (i : Nat) (L : List Int) : fT t (t.put i L) := fun j hj => aHr t i L j hj
theorem fP.put {t y : T4} (h : fP t y) (i : Nat) (L : List Int) : fP (t.put i L) (y.put i L) := fun j hj => by
 rw [aDk t i L j hj, aDk y i L j hj, h j hj]
theorem gC.put {t : T4} (h : gC t) (i : Nat) (L : List Int) (hL : ∀ x ∈ L, 0 ≤ x ∧ x ≤ cT i) : gC (t.put i L) := fun j hj x hx => by
 rw [aDk t i L j hj] at hx
 split at hx
 ·rename_i e
  subst e
  exact hL x hx
 ·exact h j hj x hx
theorem aG8 (i : Nat) : hiOf i = cT i := by
 unfold hiOf cT
 by_cases h : i < 2
 ·rw [if_pos h, if_pos (by omega)]
 ·rw [if_neg h, if_neg (by omega)]
def setR (t : T4) (tb a : Int) (xs : List Int) : Int := if 0 ≤ tb ∧ tb < 4 then cP (t.at tb.toNat).L.length (hiOf tb.toNat) a xs else 3
def setT (t : T4) (tb a : Int) (xs : List Int) : T4 := if 0 ≤ tb ∧ tb < 4 then t.put tb.toNat (if cP (t.at tb.toNat).L.length (hiOf tb.toNat) a xs = 0 then setL (t.at tb.toNat).L a.toNat xs else (t.at tb.toNat).L) else t
theorem aAs {t y : T4} (h : fP t y) (tb a : Int) (xs : List Int) : setR t tb a xs = setR y tb a xs := by
 unfold setR
 split
 ·rw [h tb.toNat (by omega)]
 ·rfl
theorem aAr {t y : T4} (h : fP t y) (tb a : Int) (xs : List Int) : fP (setT t tb a xs) (setT y tb a xs) := by
 unfold setT
 split
 ·rw [h tb.toNat (by omega)]
  exact h.put _ _
 ·exact h
theorem aCg (t : T4) (tb a : Int) (xs : List Int) : fT t (setT t tb a xs) := by
 unfold setT
 split
 ·exact fT.put _ _ _
 ·exact fT.refl _
theorem aE2 {t : T4} (h : gC t) (tb a : Int) (xs : List Int) : gC (setT t tb a xs) := by
 unfold setT
 split
 ·rename_i ht
  refine h.put _ _ fun x hx => ?_
  split at hx
  ·rename_i he
   unfold cP at he
   split at he
   ·split at he
    ·rename_i hal
     unfold setL at hx
     rcases List.mem_append.1 hx with hx | hx
     ·rcases List.mem_append.1 hx with hx | hx
      ·exact h _ (by omega) x (List.mem_of_mem_take hx)
      ·have := List.all_eq_true.1 hal x hx
       rw [← aG8]
       simpa using this
     ·exact h _ (by omega) x (List.mem_of_mem_drop hx)
    ·cases he
   ·cases he
  ·exact h _ (by omega) x hx
 ·exact h
theorem sD (B rb sb tb kb : Nat) (t : T4) (LL : List (List Rule)) (us : List Value) (i a : Int) (v : Value) (xs : List Int) (w : World) (h : BankAt w B rb sb tb kb t LL us) (hx : cB w v xs) (hxs : ∀ b, v.ownBlock = some b → ∃ cs fr, w.heap[b]? = some (.cells cs 3 fr)) (hn : xs.length ≤ 1000000000) (ha : a ≤ 9223372036854775807) :
  Calls Tryz.prog 18 #[.pointer (some ⟨rb, 0, none⟩), .int .i64 i, .int .i64 a, v] w fun r w' => r = .returned (.int .i64 (setR t i a xs)) ∧ BankAt w' B rb sb tb kb (setT t i a xs) LL us ∧ Chg w w' (iM t sb) := by
 by_cases hi : 0 ≤ i ∧ i < 4
 ·obtain ⟨n, rfl⟩ := Int.eq_ofNat_of_zero_le hi.1
  have hn4 : n < 4 := by omega
  refine (sC B rb sb tb kb t LL us n hn4 a v xs w h hx hxs hn ha).mono ?_
  rintro r w' ⟨rfl, hB, hC⟩
  have e1 : setR t (n : Int) a xs = cP (t.at n).L.length (hiOf n) a xs := by unfold setR; rw [if_pos hi]; rfl
  have e2 : setT t (n : Int) a xs = t.put n (if cP (t.at n).L.length (hiOf n) a xs = 0 then setL (t.at n).L a.toNat xs else (t.at n).L) := by unfold setT; rw [if_pos hi]; rfl
  rw [e1, e2]
  exact ⟨rfl, hB, hC.mono fun k _ e => e.elim .inl (fun e => .inr ⟨n, hn4, e⟩)⟩
 ·obtain ⟨va, vc, rfl, _⟩ := hx
  refine (sB B rb sb tb kb t LL us i (by omega) a _ w h ⟨_, _, _, rfl⟩).mono ?_
  rintro r w' ⟨rfl, hB, hC⟩
  have e1 : setR t i a xs = 3 := if_neg hi
  have e2 : setT t i a xs = t := if_neg hi
  rw [e1, e2]
  exact ⟨rfl, hB, hC.mono fun k _ e => .inl e⟩
theorem aC2 (yb : Nat) (s0 s1 s2 s3 rv : Value) (y : T4) (LL : List (List Rule)) (i a : Int) (v : Value) (xs : List Int) (w : World) (h : RefAt w yb s0 s1 s2 s3 rv y LL) (hx : cB w v xs) (hxs : xs ≠ [] → ∀ b, v.ownBlock = some b → ∀ i, i < 4 → b ≠ (y.at i).g) (hn : xs.length ≤ 1000000000) (ha : -9223372036854775808 ≤ a ∧ a ≤ 9223372036854775807) :
  Calls Tryz.prog 90 #[.pointer (some ⟨yb, 0, none⟩), .int .i64 i, .int .i64 a, v] w fun r w' => r = .returned (.int .i64 (setR y i a xs)) ∧ RefAt w' yb s0 s1 s2 s3 rv (setT y i a xs) LL ∧ Chg w w' (fun k => ∃ i, i < 4 ∧ k = (y.at i).g) := by
 by_cases hi : 0 ≤ i ∧ i < 4
 ·obtain ⟨n, rfl⟩ := Int.eq_ofNat_of_zero_le hi.1
  have hn4 : n < 4 := by omega
  refine (aC1 yb s0 s1 s2 s3 rv y LL n hn4 a v xs w h hx (fun e0 b e => hxs e0 b e n hn4) hn ha).mono ?_
  rintro r w' ⟨rfl, hB, hC⟩
  have e1 : setR y (n : Int) a xs = cP (y.at n).L.length (hiOf n) a xs := by unfold setR; rw [if_pos hi]; rfl
  have e2 : setT y (n : Int) a xs = y.put n (if cP (y.at n).L.length (hiOf n) a xs = 0 then setL (y.at n).L a.toNat xs else (y.at n).L) := by unfold setT; rw [if_pos hi]; rfl
  rw [e1, e2]
  exact ⟨rfl, hB, hC.mono fun k _ e => ⟨n, hn4, e⟩⟩
 ·obtain ⟨va, vc, rfl, _⟩ := hx
  refine (aA5 yb i a _ w (by omega) ⟨_, _, _, rfl⟩).mono ?_
  rintro r w' ⟨rfl, rfl⟩
  have e1 : setR y i a xs = 3 := if_neg hi
  have e2 : setT y i a xs = y := if_neg hi
  rw [e1, e2]
  exact ⟨rfl, h, Chg.refl _ _⟩
def getR (t : T4) (tb a n : Int) : Int := if 0 ≤ tb ∧ tb < 4 then eL (t.at tb.toNat).L.length a n else 3
def getL (t : T4) (tb a n : Int) : List Int := if getR t tb a n = 0 then ((t.at tb.toNat).L.drop a.toNat).take n.toNat else []
theorem rD {t y : T4} (h : fP t y) (tb a n : Int) : getR t tb a n = getR y tb a n := by
 unfold getR
 split
 ·rw [h tb.toNat (by omega)]
 ·rfl
theorem aBt {t y : T4} (h : fP t y) (tb a n : Int) : getL t tb a n = getL y tb a n := by
 unfold getL
 rw [rD h]
 by_cases hr : getR y tb a n = 0
 ·rw [if_pos hr, if_pos hr]
  have : 0 ≤ tb ∧ tb < 4 := by
   unfold getR at hr
   split at hr
   ·assumption
   ·cases hr
  rw [h tb.toNat (by omega)]
 ·rw [if_neg hr, if_neg hr]
theorem sI (B rb sb tb kb : Nat) (t : T4) (LL : List (List Rule)) (us : List Value) (i a n : Int) (w : World) (h : BankAt w B rb sb tb kb t LL us) (ha : a ≤ 9223372036854775807) :
  Calls Tryz.prog 19 #[.pointer (some ⟨rb, 0, none⟩), .int .i64 i, .int .i64 a, .int .i64 n] w fun r w' => ∃ v, r = .returned (.tuple #[v, .int .i64 (getR t i a n)]) ∧ aS w' w.heap.size v (getL t i a n) ∧ (getR t i a n ≠ 0 → v = .slice none 0 0) ∧ BankAt w' B rb sb tb kb t LL us ∧ Chg w w' (fun k => k = sb) := by
 by_cases hi : 0 ≤ i ∧ i < 4
 ·obtain ⟨m, rfl⟩ := Int.eq_ofNat_of_zero_le hi.1
  have hn4 : m < 4 := by omega
  refine (sG B rb sb tb kb t LL us m hn4 a n w h ha).mono ?_
  rintro r w' ⟨v, rfl, ⟨h1, h2⟩, hB, hC⟩
  have e1 : getR t (m : Int) a n = eL (t.at m).L.length a n := by unfold getR; rw [if_pos hi]; rfl
  unfold getL
  rw [e1]
  refine ⟨v, rfl, ?_, h2, hB, hC⟩
  split
  ·rename_i e
   exact h1 e
  ·rename_i e
   rw [h2 e]
   exact World.ownsRow_nil _ _ _ _
 ·refine (sH B rb sb tb kb t LL us i (by omega) a n w h).mono ?_
  rintro r w' ⟨rfl, hB, hC⟩
  have e1 : getR t i a n = 3 := if_neg hi
  unfold getL
  rw [e1]
  exact ⟨_, rfl, World.ownsRow_nil _ _ _ _, fun _ => rfl, hB, hC⟩
theorem aC5 (yb : Nat) (s0 s1 s2 s3 rv : Value) (y : T4) (LL : List (List Rule)) (i a n : Int) (w : World) (h : RefAt w yb s0 s1 s2 s3 rv y LL) (ha : -9223372036854775808 ≤ a ∧ a ≤ 9223372036854775807) :
  Calls Tryz.prog 91 #[.pointer (some ⟨yb, 0, none⟩), .int .i64 i, .int .i64 a, .int .i64 n] w fun r w' => ∃ v, r = .returned (.tuple #[v, .int .i64 (getR y i a n)]) ∧ aS w' w.heap.size v (getL y i a n) ∧ Below w.heap.size w w' := by
 by_cases hi : 0 ≤ i ∧ i < 4
 ·obtain ⟨m, rfl⟩ := Int.eq_ofNat_of_zero_le hi.1
  have hn4 : m < 4 := by omega
  refine (aC4 yb s0 s1 s2 s3 rv y LL m hn4 a n w h ha).mono ?_
  rintro r w' ⟨v, rfl, h1, h2, hb⟩
  have e1 : getR y (m : Int) a n = eL (y.at m).L.length a n := by unfold getR; rw [if_pos hi]; rfl
  unfold getL
  rw [e1]
  refine ⟨v, rfl, ?_, hb⟩
  split
  ·rename_i e
   exact h1 e
  ·rename_i e
   rw [h2 e]
   exact World.ownsRow_nil _ _ _ _
 ·refine (aA7 yb i a n w (by omega)).mono ?_
  rintro r w' ⟨rfl, rfl⟩
  have e1 : getR y i a n = 3 := if_neg hi
  unfold getL
  rw [e1]
  exact ⟨_, rfl, World.ownsRow_nil _ _ _ _, Below.refl _ _⟩
theorem aEh (t : T4) (i a n : Int) (h : ∀ i, i < 4 → (t.at i).L.length ≤ 200) : (getL t i a n).length ≤ 200 := by
 unfold getL
 split
 ·rename_i hr
  have : 0 ≤ i ∧ i < 4 := by
   unfold getR at hr
   split at hr
   ·assumption
   ·cases hr
  have := h i.toNat (by omega)
  rw [List.length_take, List.length_drop]
  omega
 ·simp
end Go.Proofs.YtfekelmldebplaaGreatDoor
