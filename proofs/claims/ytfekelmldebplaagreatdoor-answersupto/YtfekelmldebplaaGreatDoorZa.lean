import Derived.Orders
import Derived.Test.YtfekelmldebplaaGreatDoorA
set_option maxRecDepth 100000
set_option maxHeartbeats 8000000
namespace Go.Proofs.YtfekelmldebplaaGreatDoor
open Go.RowKit
def over (a : Act) : List (Option Nat) → (Nat → Value) → Act
 | [], _ => a
 | d :: ds, u => over (match d with | some k => a.put (some k) (u k) | none => a) ds u
def upd (u : Nat → Value) (d : Option Nat) (v : Value) : Nat → Value := match d with | some k => fun j => if j = k then v else u j | none => u
def gF (d : Option Nat) (v : Value) : Value := match d with | some _ => v | none => undef
def bX (u : Nat → Value) (d : Option Nat) : Value := match d with | some k => u k | none => undef
theorem aAd {a b : Act} (h1 : a.tmps = b.tmps) (h2 : a.defers = b.defers) : a = b := by
 cases a; cases b; simp at h1 h2; simp [h1, h2]
theorem bP (u : Nat → Value) : ∀ (ds : List (Option Nat)) (a : Act), (over a ds u).defers = a.defers
 | [], _ => rfl
 | none :: ds, a => bP u ds a
 | some k :: ds, a => (bP u ds (a.put (some k) (u k))).trans rfl
theorem dG (u : Nat → Value) : ∀ (ds : List (Option Nat)) (a : Act), (over a ds u).tmps.size = a.tmps.size
 | [], _ => rfl
 | none :: ds, a => dG u ds a
 | some k :: ds, a => (dG u ds (a.put (some k) (u k))).trans (by simp [Act.put])
theorem fI (u : Nat → Value) (j : Nat) : ∀ (ds : List (Option Nat)) (a : Act), j < a.tmps.size → (over a ds u).tmps[j]? = if some j ∈ ds then some (u j) else a.tmps[j]?
 | [], _, _ => by simp [over]
 | none :: ds, a, h => by
  show (over a ds u).tmps[j]? = _
  rw [fI u j ds a h]
  simp
 | some k :: ds, a, h => by
  show (over (a.put (some k) (u k)) ds u).tmps[j]? = _
  rw [fI u j ds _ (by simpa [Act.put] using h)]
  by_cases e : some j ∈ ds
  ·simp [e]
  ·by_cases e2 : j = k
   ·subst e2
    simp [e, Act.put, h]
   ·have e3 : k ≠ j := fun e => e2 e.symm
    simp [e, e2, Act.put, Array.getElem?_setIfInBounds_ne e3]
theorem gG (a : Act) (ds : List (Option Nat)) (u : Nat → Value) (d : Option Nat) (v : Value) (hd : d = none ∨ d ∈ ds) : (over a ds u).put d v = over a ds (upd u d v) := by
 cases d with
 | none => rfl
 | some k =>
  have hk : some k ∈ ds := by
   rcases hd with hd | hd
   ·cases hd
   ·exact hd
  refine aAd ?_ ?_
  ·apply Array.ext_getElem?
   intro j
   by_cases hj : j < a.tmps.size
   ·rw [fI _ _ _ _ hj]
    show ((over a ds u).tmps.setIfInBounds k v)[j]? = _
    by_cases e : j = k
    ·subst e
     simp [upd, hk, dG, hj]
    ·have e3 : k ≠ j := fun e' => e e'.symm
     rw [Array.getElem?_setIfInBounds_ne e3, fI _ _ _ _ hj]
     simp [upd, e]
   ·rw [Array.getElem?_eq_none (by show ((over a ds u).tmps.setIfInBounds k v).size ≤ j; simp [dG]; omega), Array.getElem?_eq_none (by rw [dG]; omega)]
  ·rw [bP]
   show (over a ds u).defers = _
   rw [bP]
theorem iT (a : Act) (ds : List (Option Nat)) : over a ds (fun k => a.tmps.getD k undef) = a := by
 refine aAd ?_ (bP _ _ _)
 apply Array.ext_getElem?
 intro j
 by_cases hj : j < a.tmps.size
 ·rw [fI _ _ _ _ hj]
  split
  ·simp [hj]
  ·rfl
 ·rw [Array.getElem?_eq_none (by rw [dG]; omega), Array.getElem?_eq_none (by omega)]
def Deps (ds : List (Option Nat)) (R : Nat → Value → World → Prop) (u : Nat → Value) (w : World) : List Edge → Prop
 | [] => True
 | e :: l => R e.on (bX u (ds.getD e.on none)) w ∧ Deps ds R u w l
structure Does (P : Program) (o : Oper) (A : Act) (w : World) (R : Value → World → Prop) (Le : World → World → Prop) (S : World → Prop) (Q : Exit → Act → World → Prop) : Prop where
 go : o.wp P A w (fun a' w' => ∃ v, a' = A.put o.dst v ∧ R (gF o.dst v) w' ∧ Le w w' ∧ S w') Q
def aGk (P : Program) (Q : Exit → Act → World → Prop) (a : Act) (ds : List (Option Nat)) (S : World → Prop) (Le : World → World → Prop) (R : Nat → Value → World → Prop) : Nat → List Oper → Prop
 | _, [] => True
 | i, o :: l => (o.guard = none ∧ o.dst = ds.getD i none ∧ (∀ u w, S w → Deps ds R u w o.after.toList → Does P o (over a ds u) w (R i) Le S Q)) ∧ aGk P Q a ds S Le R (i + 1) l
def cO : Nat → List Oper → Bool
 | _, [] => true
 | i, o :: l => (o.after.toList.all fun e => decide (e.on < i) && Region.binds .any e) && cO (i + 1) l
theorem cO.at : ∀ (l : List Oper) (k i : Nat) (o : Oper), cO k l = true → l[i]? = some o → ∀ e ∈ o.after, e.on < k + i ∧ Region.binds .any e = true
 | [], _, _, _, _, e => by simp at e
 | x :: l, k, 0, o, h, e => by
  simp at e
  subst e
  intro e he
  simp only [cO, Bool.and_eq_true, List.all_eq_true] at h
  have := h.1 e (by simpa using he)
  simp at this
  exact this
 | x :: l, k, i + 1, o, h, e => by
  simp only [cO, Bool.and_eq_true] at h
  have := cO.at l (k + 1) i o h.2 (by simpa using e)
  intro e he
  have := this e he
  exact ⟨by omega, this.2⟩
theorem gX {p q : Nat → Bool} {i : Nat} (h1 : ∀ x, q x = true → p x = true) (hp : p i = true) (hq : q i = false) : ∀ l : List Nat, i ∈ l → l.countP q < l.countP p
 | [], h => by simp at h
 | x :: l, h => by
  have mono : l.countP q ≤ l.countP p := List.countP_mono_left (fun x _ => h1 x)
  rcases List.mem_cons.1 h with rfl | h
  ·rw [List.countP_cons_of_pos hp, List.countP_cons_of_neg (by simp [hq])]
   omega
  ·have ih := gX h1 hp hq l h
   by_cases e : q x = true
   ·rw [List.countP_cons_of_pos e, List.countP_cons_of_pos (h1 x e)]
    omega
   ·rw [List.countP_cons_of_neg e]
    have := List.countP_le_length (p := p) (l := l)
    by_cases e2 : p x = true
    ·rw [List.countP_cons_of_pos e2]
     omega
    ·rw [List.countP_cons_of_neg e2]
     exact ih
def ndB : List (Option Nat) → Bool
 | [] => true
 | none :: l => ndB l
 | some k :: l => !l.contains (some k) && ndB l
theorem ndB.spec : ∀ (ds : List (Option Nat)), ndB ds = true → ∀ (i j k : Nat), ds[i]? = some (some k) → ds[j]? = some (some k) → i = j
 | [], _, i, _, _, h, _ => by simp at h
 | none :: l, h, i, j, k, h1, h2 => by
  cases i with
  | zero => simp at h1
  | succ i =>
   cases j with
   | zero => simp at h2
   | succ j => rw [ndB.spec l h i j k (by simpa using h1) (by simpa using h2)]
 | some m :: l, h, i, j, k, h1, h2 => by
  simp only [ndB, Bool.and_eq_true, Bool.not_eq_true'] at h
  cases i with
  | zero =>
   cases j with
   | zero => rfl
   | succ j =>
    simp at h1 h2
    subst h1
    have := List.mem_of_getElem? h2
    simp [this] at h
  | succ i =>
   cases j with
   | zero =>
    simp at h1 h2
    subst h2
    have := List.mem_of_getElem? h1
    simp [this] at h
   | succ j => rw [ndB.spec l h.2 i j k (by simpa using h1) (by simpa using h2)]
end Go.Proofs.YtfekelmldebplaaGreatDoor
