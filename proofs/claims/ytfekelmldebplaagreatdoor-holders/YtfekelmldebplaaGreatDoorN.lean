import Derived.Test.YtfekelmldebplaaGreatDoorL
namespace Go.Proofs.YtfekelmldebplaaGreatDoor
open Go.RowKit

theorem due_exists (fs : List Fr) (p : Nat) : ∃ d, Due fs p d := by
  have key : ∀ n, n ≤ fs.length → ∃ d, d ≤ n ∧ endAt fs d ≤ p ∧ (d = n ∨ p < endAt fs (d + 1)) := by
    intro n
    induction n with
    | zero => intro _; exact ⟨0, Nat.le_refl _, by simp [endAt, stream], .inl rfl⟩
    | succ n ih =>
      intro hn
      obtain ⟨d, h1, h2, h3⟩ := ih (by omega)
      rcases h3 with rfl | h3
      · by_cases e : endAt fs (d + 1) ≤ p
        · exact ⟨d + 1, Nat.le_refl _, e, .inl rfl⟩
        · exact ⟨d, by omega, h2, .inr (by omega)⟩
      · exact ⟨d, by omega, h2, .inr h3⟩
  obtain ⟨d, h1, h2, h3⟩ := key fs.length (Nat.le_refl _)
  exact ⟨d, h1, h2, h3⟩

theorem endAt_lt (fs : List Fr) (d : Nat) (h : d < fs.length) : endAt fs d < endAt fs (d + 1) := by
  rw [endAt_succ fs d h, bytesOf_len]
  omega

theorem due_mono {fs : List Fr} {p n d d' : Nat} (h : Due fs p d) (h' : Due fs (p + n) d') : d ≤ d' := by
  rcases Nat.lt_or_ge d' d with hlt | hge
  · have h1 := endAt_mono fs (d' + 1) d (by omega)
    have h2 := h.2.1
    have h3 := h'.2.2.resolve_left (by have := h.1; omega)
    omega
  · exact hge

theorem rfeed_n (b : Nat) (h : List Int) (br : Bool) (T : TypeId) (cb co cc n : Nat) (xs : List Int) (w : World) (hn : xs.length = n) (hb : w.heap[b]? = some (.cells (spl h br) T (0, 0))) (hh : Held h) (hc : ∀ i, i < xs.length → w.cell? ⟨cb, co + i, none⟩ = some (.int .u8 (xs.getD i 0))) (hne : xs = [] ∨ cb < w.heap.size ∧ cb ≠ b)
    (bx : Bys xs) (hm : n ≤ 1000000000) :
    Calls Tryz.prog 82 #[.pointer (some ⟨b, 0, none⟩), .slice (some ⟨cb, co, none⟩) n cc] w fun e w' => FeedPost w b T (feedF ([], h, br) xs) e w' := by
  subst hn
  exact rfeed_any b h br T cb co cc xs w hb hh hc hne bx hm

theorem flatMap_cells (ds : List FD) (k j : Nat) (hj : j < 3) (d : FD) (hd : ds[k]? = some d) : (ds.flatMap FD.cells)[k * 3 + j]? = d.cells[j]? := by
  induction ds generalizing k with
  | nil => simp at hd
  | cons e ds ih =>
    cases k with
    | zero =>
      simp at hd
      subst hd
      simp only [List.flatMap_cons]
      rw [List.getElem?_append_left (by simp [FD.cells]; omega)]
      simp
    | succ k =>
      simp at hd
      simp only [List.flatMap_cons]
      rw [List.getElem?_append_right (by simp [FD.cells]; omega)]
      have e1 : (k + 1) * 3 + j - e.cells.length = k * 3 + j := by simp [FD.cells]; omega
      rw [e1]
      exact ih k hd

/-- The cells of the k-th frame that was given. -/
theorem Gave.at {w : World} {base g cap : Nat} {ds : List FD} {k : Nat} {d : FD} (h : Gave w base (.slice (some ⟨g, 0, none⟩) ds.length cap) ds) (hd : ds[k]? = some d) :
    w.cell? ⟨g, k * 3, none⟩ = some (.int .i64 d.fr.mark) ∧ w.cell? ⟨g, k * 3 + 1, none⟩ = some (.int .i64 d.fr.unit) ∧ w.cell? ⟨g, k * 3 + 2, none⟩ = some d.val ∧ Lies w d.val d.fr.data := by
  have hk : k < ds.length := (List.getElem?_eq_some_iff.1 hd).1
  have c : ∀ j, j < 3 → w.cell? ⟨g, k * 3 + j, none⟩ = d.cells[j]? := fun j hj => by
    rw [h.row.cellAt _ (by omega)]
    exact flatMap_cells ds k j hj d hd
  exact ⟨c 0 (by omega), c 1 (by omega), c 2 (by omega), Owns.lies (h.own d (List.mem_of_getElem? hd))⟩

/-- Behind a round of loop 2. -/
theorem L2.next {w wr w1 w2 : World} {fs : List Fr} {a en v : Value} {p d n d' : Nat} {q' : List Int} {ds : List FD} (h : L2 w fs a en p d wr) (hd' : Due fs (p + n) d') (hle : p + n ≤ (stream fs).length)
    (hq : feedF ([], [], false) ((stream fs).take (p + n)) = (fs.take d', q', false)) (hv : ∀ f ∈ fs, Valid f)
    (R : FeedAt wr w.heap.size 181 ((fs.take d').drop d, q', false) v w1 ds) (hb : Below w1.heap.size w1 w2) : L2 w fs a en (p + n) d' w2 := by
  have hz := R.grown.size
  have hz2 := hb.size
  obtain ⟨q1, _, _, _, hspl⟩ := h.spl
  have hlt : w.heap.size < wr.heap.size := (Array.getElem?_eq_some_iff.1 hspl).1
  have blk : ∀ k, k < wr.heap.size → k ≠ w.heap.size → w2.heap[k]? = wr.heap[k]? := fun k h1 h2 => by
    rw [hb.block k (by omega), R.grown.block k h1 (fun e => by cases e; exact h2 rfl)]
  have hw1 := h.below.size
  refine ⟨ownsRow_keep h.own fun k h1 h2 _ => blk k h2 (by omega), ownsRow_keep h.ends fun k h1 h2 _ => blk k h2 (by omega), hd', hle, ?_, ?_⟩
  · obtain ⟨q2, e2, hh, he⟩ := feed_upto hv hd' hle
    rw [hq] at e2
    have : q' = q2 := by simpa using e2
    subst this
    exact ⟨q', hq, hh, he, by rw [hb.block _ (by omega)]; exact R.row⟩
  · refine ⟨?_, ?_, ?_, by omega, fun k hk => ?_⟩
    · exact hb.os.trans (R.grown.os.trans h.below.os)
    · exact hb.tape.trans (R.grown.tape.trans h.below.tape)
    · exact hb.output.trans (R.grown.output.trans h.below.output)
    · rw [blk k (by omega) (by omega)]; exact h.below.block k hk
end Go.Proofs.YtfekelmldebplaaGreatDoor
