import Derived.Test.YtfekelmldebplaaGreatDoorSa
namespace Go.Proofs.YtfekelmldebplaaGreatDoor
open Go.RowKit

/-! ### Splits, plain: what 'whole' finds is what feeding all bytes comes to -/
/-- The first k bytes may begin a frame, which is not whole by them. -/
def PreOk (r : List Int) (k : Nat) : Prop :=
  (2 < k → r.getD 2 0 = 0) ∧ (3 < k → r.getD 3 0 = 0) ∧ (4 < k → r.getD 4 0 = 0) ∧ (5 < k → 2 ≤ r.getD 5 0 ∧ r.getD 5 0 ≤ 254 ∧ (k : Int) < 6 + r.getD 5 0)
theorem PreOk.pred {r : List Int} {k : Nat} (h : PreOk r (k + 1)) : PreOk r k := by
  obtain ⟨h1, h2, h3, h4⟩ := h
  exact ⟨fun e => h1 (by omega), fun e => h2 (by omega), fun e => h3 (by omega), fun e => by have := h4 (by omega); omega⟩

theorem take_getD_succ (r : List Int) (k : Nat) (hk : k < r.length) : r.take k ++ [r.getD k 0] = r.take (k + 1) := by
  rw [List.take_succ_eq_append_getElem hk]
  simp [List.getD, List.getElem?_eq_getElem hk]

theorem fits_pre {r : List Int} {k : Nat} (hk : k < r.length) (h : PreOk r (k + 1)) : fitsL (r.take k) (r.getD k 0) = true := by
  have hl : (r.take k).length = k := by rw [List.length_take]; omega
  obtain ⟨h1, h2, h3, h4⟩ := h
  unfold fitsL
  rw [hl]
  by_cases e2 : k = 2
  · subst e2; rw [h1 (by omega)]; simp
  by_cases e3 : k = 3
  · subst e3; rw [h2 (by omega)]; simp
  by_cases e4 : k = 4
  · subst e4; rw [h3 (by omega)]; simp
  by_cases e5 : k = 5
  · subst e5
    rw [getD_take _ _ _ (by omega), h3 (by omega)]
    have := h4 (by omega)
    simp only [show ¬ (5 = 2 ∨ 5 = 3) by omega, show ¬ (5 = 4) by omega, if_false, if_true]
    exact inB_true (by omega) (by omega)
  · simp [e2, e3, e4, e5]

theorem whole_pre {r : List Int} {k : Nat} (hk : k < r.length) (h : PreOk r (k + 1)) : wholeL (r.take (k + 1)) = false := by
  have hl : (r.take (k + 1)).length = k + 1 := by rw [List.length_take]; omega
  unfold wholeL
  rw [hl]
  by_cases h7 : 7 ≤ k + 1
  · rw [getD_take _ _ _ (by omega), getD_take _ _ _ (by omega), h.2.2.1 (by omega)]
    have := h.2.2.2 (by omega)
    generalize r.getD 5 0 = y at *
    simp [h7]
    omega
  · simp [h7]

theorem feed_pre (gs : List Fr) (r : List Int) : ∀ k, k ≤ r.length → PreOk r k → feedF (gs, [], false) (r.take k) = (gs, r.take k, false)
  | 0, _, _ => by simp [feedF]
  | k + 1, hk, h => by
    rw [feedF_take_succ _ _ _ (by omega), feed_pre gs r k (by omega) h.pred]
    unfold stepF
    simp only [Bool.false_eq_true, if_false, fits_pre (by omega) h, if_true, take_getD_succ r k (by omega), whole_pre (by omega) h]

theorem feed_break (gs : List Fr) (r : List Int) (k : Nat) (hk : k < r.length) (h : PreOk r k) (hf : fitsL (r.take k) (r.getD k 0) = false) : feedF (gs, [], false) r = (gs, [], true) := by
  rw [feedF_split _ r (k + 1), feedF_take_succ _ _ _ hk, feed_pre gs r k (by omega) h]
  have e : stepF (gs, r.take k, false) (r.getD k 0) = (gs, [], true) := by simp only [stepF, Bool.false_eq_true, if_false, hf]
  rw [e]
  exact feedF_broken _ rfl _

theorem break2 (gs : List Fr) (r : List Int) (hk : 2 < r.length) (h2 : r.getD 2 0 ≠ 0) : feedF (gs, [], false) r = (gs, [], true) :=
  feed_break gs r 2 hk ⟨by omega, by omega, by omega, by omega⟩ (by
    have hl : (r.take 2).length = 2 := by rw [List.length_take]; omega
    simp only [fitsL, hl]
    generalize r.getD 2 0 = y at *
    simp [h2])
theorem break3 (gs : List Fr) (r : List Int) (hk : 3 < r.length) (h2 : r.getD 2 0 = 0) (h3 : r.getD 3 0 ≠ 0) : feedF (gs, [], false) r = (gs, [], true) :=
  feed_break gs r 3 hk ⟨fun _ => h2, by omega, by omega, by omega⟩ (by
    have hl : (r.take 3).length = 3 := by rw [List.length_take]; omega
    simp only [fitsL, hl]
    generalize r.getD 3 0 = y at *
    simp [h3])
theorem break4 (gs : List Fr) (r : List Int) (hr : Bys r) (hk : 4 < r.length) (h2 : r.getD 2 0 = 0) (h3 : r.getD 3 0 = 0) (h4 : r.getD 4 0 ≠ 0) : feedF (gs, [], false) r = (gs, [], true) :=
  feed_break gs r 4 hk ⟨fun _ => h2, fun _ => h3, by omega, by omega⟩ (by
    have hl : (r.take 4).length = 4 := by rw [List.length_take]; omega
    have := hr.at 4
    simp only [fitsL, hl]
    generalize r.getD 4 0 = y at *
    simp
    omega)
theorem break5 (gs : List Fr) (r : List Int) (hk : 5 < r.length) (h2 : r.getD 2 0 = 0) (h3 : r.getD 3 0 = 0) (h4 : r.getD 4 0 = 0) (h5 : r.getD 5 0 < 2 ∨ 254 < r.getD 5 0) : feedF (gs, [], false) r = (gs, [], true) :=
  feed_break gs r 5 hk ⟨fun _ => h2, fun _ => h3, fun _ => h4, by omega⟩ (by
    have hl : (r.take 5).length = 5 := by rw [List.length_take]; omega
    simp only [fitsL, hl]
    rw [getD_take _ _ _ (by omega), h4]
    simp only [show ¬ (5 = 2 ∨ 5 = 3) by omega, show ¬ (5 = 4) by omega, if_false, if_true, inB]
    generalize r.getD 5 0 = y at *
    simp
    omega)
theorem feed_short (gs : List Fr) (r : List Int) (h : PreOk r r.length) : feedF (gs, [], false) r = (gs, r, false) := by
  have := feed_pre gs r r.length (Nat.le_refl _) h
  rwa [List.take_length] at this

/-- A frame that is whole ahead. -/
theorem feed_one (gs : List Fr) (r : List Int) (n : Nat) (h2 : r.getD 2 0 = 0) (h3 : r.getD 3 0 = 0) (h4 : r.getD 4 0 = 0) (hn : r.getD 5 0 = (n : Int)) (n2 : 2 ≤ n) (n254 : n ≤ 254) (hl : 6 + n ≤ r.length) :
    feedF (gs, [], false) r = feedF (gs ++ [⟨256 * r.getD 0 0 + r.getD 1 0, r.getD 6 0, (r.drop 7).take (n - 1)⟩], [], false) (r.drop (6 + n)) := by
  have hp : PreOk r (5 + n) := ⟨fun _ => h2, fun _ => h3, fun _ => h4, fun _ => by rw [hn]; omega⟩
  rw [feedF_split _ r (6 + n), show 6 + n = (5 + n) + 1 by omega, feedF_take_succ _ _ _ (by omega), feed_pre gs r (5 + n) (by omega) hp]
  have hlen : (r.take (5 + n)).length = 5 + n := by rw [List.length_take]; omega
  have hlen' : (r.take (5 + n + 1)).length = 5 + n + 1 := by rw [List.length_take]; omega
  have hf : fitsL (r.take (5 + n)) (r.getD (5 + n) 0) = true := by
    unfold fitsL
    rw [hlen]
    rw [if_neg (by omega), if_neg (by omega), if_neg (by omega)]
  have hw : wholeL (r.take (5 + n + 1)) = true := by
    unfold wholeL
    rw [hlen', getD_take _ _ _ (by omega), getD_take _ _ _ (by omega), h4, hn]
    simp
    omega
  have ht : toFr (r.take (5 + n + 1)) = ⟨256 * r.getD 0 0 + r.getD 1 0, r.getD 6 0, (r.drop 7).take (n - 1)⟩ := by
    unfold toFr
    rw [getD_take _ _ _ (by omega), getD_take _ _ _ (by omega), getD_take _ _ _ (by omega), List.drop_take]
    rw [show 5 + n + 1 - 7 = n - 1 by omega]
  unfold stepF
  simp only [Bool.false_eq_true, if_false, hf, if_true, take_getD_succ r (5 + n) (by omega), hw, ht]
end Go.Proofs.YtfekelmldebplaaGreatDoor
