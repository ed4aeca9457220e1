import Derived.Test.YtfekelmldebplaaGreatDoorG
namespace Go.Proofs.YtfekelmldebplaaGreatDoor
open Go.RowKit

/-! ### Plain: what feeding bytes comes to -/
/-- A frame: mark, unit, data. -/
structure Fr where
  mark : Int
  unit : Int
  data : List Int
def toFr (h : List Int) : Fr := ⟨256 * h.getD 0 0 + h.getD 1 0, h.getD 6 0, h.drop 7⟩
/-- One byte: the frames so far, what is held, whether it has broken. -/
def stepF (s : List Fr × List Int × Bool) (x : Int) : List Fr × List Int × Bool :=
  if s.2.2 = true then s else if fitsL s.2.1 x = true then (if wholeL (s.2.1 ++ [x]) = true then (s.1 ++ [toFr (s.2.1 ++ [x])], [], false) else (s.1, s.2.1 ++ [x], false)) else (s.1, [], true)
def feedF (s : List Fr × List Int × Bool) (xs : List Int) : List Fr × List Int × Bool := xs.foldl stepF s

/-- What is held is the head of a frame that is not whole. -/
def Held (h : List Int) : Prop := Bys h ∧ (5 ≤ h.length → h.getD 4 0 = 0) ∧ (6 ≤ h.length → 2 ≤ h.getD 5 0 ∧ h.getD 5 0 ≤ 254 ∧ (h.length : Int) < 6 + h.getD 5 0)
theorem Held.nil : Held [] := ⟨Bys.nil, by simp, by simp⟩
theorem Held.len {h : List Int} (k : Held h) : h.length < 260 := by
  by_cases h6 : 6 ≤ h.length
  · have := k.2.2 h6; omega
  · omega

theorem getD_append_left (h : List Int) (x : Int) (i : Nat) (hi : i < h.length) : (h ++ [x]).getD i 0 = h.getD i 0 := by
  simp only [List.getD, List.getElem?_append_left hi]
theorem getD_append_last (h : List Int) (x : Int) (i : Nat) (hi : i = h.length) : (h ++ [x]).getD i 0 = x := by
  subst hi; simp [List.getD]

theorem Held.push {h : List Int} (k : Held h) {x : Int} (x0 : 0 ≤ x) (x1 : x < 256) (hf : fitsL h x = true) : Bys (h ++ [x]) ∧ (wholeL (h ++ [x]) = false → Held (h ++ [x])) ∧ (wholeL (h ++ [x]) = true → 8 ≤ (h ++ [x]).length) := by
  have hb : Bys (h ++ [x]) := k.1.append (Bys.one x0 x1)
  have hl : (h ++ [x]).length = h.length + 1 := by simp
  have k5 : 5 ≤ (h ++ [x]).length → (h ++ [x]).getD 4 0 = 0 := by
    intro h5
    by_cases e : h.length = 4
    · rw [getD_append_last h x 4 e.symm]
      simp [fitsL, e] at hf
      omega
    · rw [getD_append_left h x 4 (by omega)]
      exact k.2.1 (by omega)
  have k6 : 6 ≤ (h ++ [x]).length → 2 ≤ (h ++ [x]).getD 5 0 ∧ (h ++ [x]).getD 5 0 ≤ 254 := by
    intro h6
    by_cases e : h.length = 5
    · rw [getD_append_last h x 5 e.symm]
      have z := k.2.1 (by omega)
      simp only [fitsL, e, z] at hf
      have := inB_iff.1 (by simpa using hf)
      omega
    · rw [getD_append_left h x 5 (by omega)]
      have := k.2.2 (by omega)
      omega
  have kl : 6 ≤ h.length → (h.length : Int) < 6 + (h ++ [x]).getD 5 0 := by
    intro h6
    rw [getD_append_left h x 5 (by omega)]
    exact (k.2.2 h6).2.2
  refine ⟨hb, fun hw => ⟨hb, k5, fun h6 => ?_⟩, fun hw => ?_⟩
  · have a := k6 h6
    have z := k5 (by omega)
    refine ⟨a.1, a.2, ?_⟩
    simp only [wholeL, z, Bool.and_eq_false_iff, decide_eq_false_iff_not] at hw
    rcases hw with hw | hw
    · omega
    · have c : (h.length : Int) < 6 + (h ++ [x]).getD 5 0 ∨ h.length = 5 := by
        by_cases e : 6 ≤ h.length
        · exact .inl (kl e)
        · exact .inr (by omega)
      rw [hl] at hw ⊢
      omega
  · simp only [wholeL, Bool.and_eq_true, decide_eq_true_eq] at hw
    have a := k6 (by omega)
    have z := k5 (by omega)
    omega

/-- A frame as it lies: its data's block and capacity with it. -/
structure FD where
  fr : Fr
  g : Nat
  cap : Nat
def FD.val (d : FD) : Value := .slice (some ⟨d.g, 0, none⟩) d.fr.data.length d.cap
def FD.cells (d : FD) : List Value := [.int .i64 d.fr.mark, .int .i64 d.fr.unit, d.val]

/-- The frames that were given, as they lie. -/
structure Gave (w : World) (base : Nat) (v : Value) (ds : List FD) : Prop where
  row : w.ownsRow base 185 3 v ds.length (ds.flatMap FD.cells)
  own : ∀ d ∈ ds, Owns w base d.val d.fr.data
  nodup : (ds.map (·.g)).Nodup
  apart : ∀ d ∈ ds, v.ownBlock ≠ some d.g

theorem Gave.nil (w : World) (base : Nat) : Gave w base (.slice none 0 0) [] := ⟨World.ownsRow_nil _ _ _ _, by simp, by simp, by simp⟩

theorem ownsRow_keep {w w' : World} {base : Nat} {e : TypeId} {size : Nat} {v : Value} {n : Nat} {xs : List Value} (h : w.ownsRow base e size v n xs) (hk : ∀ k, base ≤ k → k < w.heap.size → v.ownBlock = some k → w'.heap[k]? = w.heap[k]?) : w'.ownsRow base e size v n xs := by
  have hlt := h.lt
  obtain ⟨h1, h2⟩ := h
  refine ⟨h1, h2.imp id ?_⟩
  rintro ⟨g, cap, cur, hv, hg, hh, r⟩
  have hl := hlt g (by rw [hv]; rfl)
  exact ⟨g, cap, cur, hv, hg, by rw [hk g hl.1 hl.2 (by rw [hv]; rfl)]; exact hh, r⟩

theorem Gave.kept {w w' : World} {base : Nat} {v : Value} {ds : List FD} (h : Gave w base v ds) (hk : ∀ k, base ≤ k → k < w.heap.size → w'.heap[k]? = w.heap[k]?) : Gave w' base v ds :=
  ⟨ownsRow_keep h.row fun k h1 h2 _ => hk k h1 h2, fun d hd => ownsRow_keep (h.own d hd) fun k h1 h2 _ => hk k h1 h2, h.nodup, h.apart⟩

theorem Gave.lt {w : World} {base : Nat} {v : Value} {ds : List FD} (h : Gave w base v ds) (d : FD) (hd : d ∈ ds) : base ≤ d.g ∧ d.g < w.heap.size := World.ownsRow.lt (h.own d hd) d.g rfl

/-- One frame more: 'give' has made its data in a world w2 behind w1 (w1: as w, above base), the append has laid it behind the others. -/
theorem Gave.push {w w2 w4 : World} {base : Nat} {v v' : Value} {ds : List FD} {d : FD} (h : Gave w base v ds) (hb : base ≤ w.heap.size) (hs : w.heap.size ≤ w2.heap.size) (hk : ∀ k, base ≤ k → k < w.heap.size → w2.heap[k]? = w.heap[k]?)
    (ho : Owns w2 w.heap.size d.val d.fr.data) (C : Obj) (hg : (w2.alloc C).grownBy w4 v.ownBlock) (hr : w4.ownsRow base 185 3 v' (ds.length + 1) (ds.flatMap FD.cells ++ d.cells)) (hat : v'.ownBlock = v.ownBlock ∨ v'.ownBlock = some (w2.heap.size + 1)) :
    Gave w4 base v' (ds ++ [d]) := by
  have hd := World.ownsRow.lt ho d.g rfl
  have hvb : ∀ k, v.ownBlock = some k → base ≤ k ∧ k < w.heap.size := h.row.lt
  have hblk : ∀ k, k < w2.heap.size → v.ownBlock ≠ some k → w4.heap[k]? = w2.heap[k]? := fun k h1 h2 => by
    rw [hg.block k (by simp; omega) (Ne.symm h2)]
    exact Below.heap_alloc _ _ _ h1
  have hdne : v.ownBlock ≠ some d.g := fun e => by have := hvb _ e; omega
  refine ⟨by simpa using hr, ?_, ?_, ?_⟩
  · intro e he
    rcases List.mem_append.1 he with he | he
    · have hl := h.lt e he
      have a := h.apart e he
      refine ownsRow_keep (h.own e he) fun k h1 h2 h3 => ?_
      have : k = e.g := by simp [FD.val, Value.ownBlock] at h3; omega
      subst this
      rw [hblk e.g (by omega) a, hk e.g hl.1 hl.2]
    · have : e = d := by simpa using he
      subst this
      have q : Owns w4 w.heap.size e.val e.fr.data := ownsRow_keep ho fun k h1 h2 h3 => by
        have : k = e.g := by simp [FD.val, Value.ownBlock] at h3; omega
        subst this
        exact hblk e.g hd.2 hdne
      exact Owns.base q (by omega)
  · rw [List.map_append]
    refine List.nodup_append.2 ⟨h.nodup, by simp, ?_⟩
    intro a ha c hc
    obtain ⟨e, he, rfl⟩ := List.mem_map.1 ha
    have hl := h.lt e he
    simp at hc
    omega
  · intro e he e'
    have hv' : v'.ownBlock = v.ownBlock ∨ v'.ownBlock = some (w2.heap.size + 1) := hat
    rcases List.mem_append.1 he with he | he
    · have hl := h.lt e he
      rcases hv' with q | q
      · exact h.apart e he (q ▸ e')
      · rw [q] at e'; simp at e'; omega
    · have : e = d := by simpa using he
      subst this
      rcases hv' with q | q
      · exact hdne (q ▸ e')
      · rw [q] at e'; simp at e'; omega
end Go.Proofs.YtfekelmldebplaaGreatDoor
