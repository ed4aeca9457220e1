import Derived.Test.YtfekelmldebplaaN
namespace Go.Proofs.Ytfekelmldebplaa
open Go.RowKit

/-- What can't be a frame. -/
def wrongs : List (List Int) := [[1, 2, 1], [1, 2, 0, 9], [1, 2, 0, 0, 1], [1, 2, 0, 0, 0, 1], [1, 2, 0, 0, 0, 255], [1, 2, 0, 0, 0, 0]]

structure Wrong (ws : List Int) : Prop where
  l0 : 1 ≤ ws.length
  l1 : ws.length ≤ 6
  bys : Bys ws
  one : feedF ([], [], false) (ws.take (ws.length - 1)) = ([], ws.take (ws.length - 1), false)
  held : Held (ws.take (ws.length - 1))
  two : feedF ([], ws.take (ws.length - 1), false) (ws.drop (ws.length - 1)) = ([], [], true)

theorem held_short {h : List Int} (hb : Bys h) (h4 : 5 ≤ h.length → h.getD 4 0 = 0) (hl : h.length ≤ 5) : Held h := ⟨hb, h4, fun h6 => by omega⟩

theorem wrong_of {ws : List Int} (h : ws ∈ wrongs) : Wrong ws := by
  simp only [wrongs, List.mem_cons, List.not_mem_nil, or_false] at h
  rcases h with rfl | rfl | rfl | rfl | rfl | rfl
  all_goals refine ⟨by decide, by decide, ?_, by rfl, ?_, by rfl⟩
  all_goals first
    | (intro x hx; simp at hx; omega)
    | (refine held_short ?_ (by decide) (by decide); intro x hx; simp at hx; omega)

/-- Which of them, and where it lies. -/
structure WrongAt (wr : World) (v : Value) (wq : World) (g : Nat) (ws : List Int) : Prop where
  mem : ws ∈ wrongs
  val : v = .slice (some ⟨g, 0, none⟩) ws.length ws.length
  ge : wr.heap.size ≤ g
  lt : g < wq.heap.size
  cells : ∀ i, i < ws.length → wq.cell? ⟨g, i, none⟩ = some (.int .u8 (ws.getD i 0))
  below : Below wr.heap.size wr wq

theorem feed_true (h : List Int) (xs : List Int) : feedF ([], h, true) xs = ([], h, true) := feedF_broken _ rfl _

theorem f3_valid : Valid ⟨1, 2, [3]⟩ := ⟨by decide, by decide, by decide, by decide, (fun x hx => by simp at hx; omega), by decide, by decide⟩

/-- A Feed in the tail: nothing came; what is then in the splitter. -/
theorem FeedAt.none {w : World} {b : Nat} {T : TypeId} {h : List Int} {br : Bool} {v : Value} {wr : World} {ds : List FD} (R : FeedAt w b T ([], h, br) v wr ds) : ∃ ol c, v = .slice ol 0 c := by
  have e : ds = [] := by
    have := R.fs
    cases ds with
    | nil => rfl
    | cons d ds => simp at this
  subst e
  obtain ⟨ol, c, hv, _⟩ := ownsRow_opt R.gave.row
  exact ⟨ol, c, hv⟩

def wrongW (w : World) (A B C D E F G : Obj) : World := ((((((w.alloc A).alloc B).alloc C).alloc D).alloc E).alloc F).alloc G
theorem wrongW_at (w : World) (A B C D E F G : Obj) : (wrongW w A B C D E F G).heap[w.heap.size]? = some A ∧ (wrongW w A B C D E F G).heap[w.heap.size + 1]? = some B ∧ (wrongW w A B C D E F G).heap[w.heap.size + 1 + 1]? = some C ∧
    (wrongW w A B C D E F G).heap[w.heap.size + 1 + 1 + 1]? = some D ∧ (wrongW w A B C D E F G).heap[w.heap.size + 1 + 1 + 1 + 1]? = some E ∧ (wrongW w A B C D E F G).heap[w.heap.size + 1 + 1 + 1 + 1 + 1]? = some F ∧
    (wrongW w A B C D E F G).heap.size = w.heap.size + 7 ∧ Below w.heap.size w (wrongW w A B C D E F G) := by
  have e : (wrongW w A B C D E F G).heap = ((((((w.heap.push A).push B).push C).push D).push E).push F).push G := rfl
  refine ⟨?_, ?_, ?_, ?_, ?_, ?_, ?_, ?_⟩
  · rw [e]; simp only [Array.getElem?_push, Array.size_push]; rw [if_neg (by omega), if_neg (by omega), if_neg (by omega), if_neg (by omega), if_neg (by omega), if_neg (by omega), if_pos trivial]
  · rw [e]; simp only [Array.getElem?_push, Array.size_push]; rw [if_neg (by omega), if_neg (by omega), if_neg (by omega), if_neg (by omega), if_neg (by omega), if_pos trivial]
  · rw [e]; simp only [Array.getElem?_push, Array.size_push]; rw [if_neg (by omega), if_neg (by omega), if_neg (by omega), if_neg (by omega), if_pos trivial]
  · rw [e]; simp only [Array.getElem?_push, Array.size_push]; rw [if_neg (by omega), if_neg (by omega), if_neg (by omega), if_pos trivial]
  · rw [e]; simp only [Array.getElem?_push, Array.size_push]; rw [if_neg (by omega), if_neg (by omega), if_pos trivial]
  · rw [e]; simp only [Array.getElem?_push, Array.size_push]; rw [if_neg (by omega), if_pos trivial]
  · rw [e]; simp
  · exact (((((((Below.refl _ _).alloc (Nat.le_refl _) _).alloc (by simp) _).alloc (by simp; omega) _).alloc (by simp; omega) _).alloc (by simp; omega) _).alloc (by simp; omega) _).alloc (by simp; omega) _

theorem wrong_mk {wr wq : World} {g : Nat} {cs : Array Value} (ws : List Int) (hm : ws ∈ wrongs) (hg : wr.heap.size ≤ g) (hh : wq.heap[g]? = some (.cells cs 5 (0, 0))) (hc : cs.toList = ws.map (Value.int .u8)) (hb : Below wr.heap.size wr wq) : WrongAt wr (.slice (some ⟨g, 0, none⟩) ws.length ws.length) wq g ws :=
  ⟨hm, rfl, hg, (Array.getElem?_eq_some_iff.1 hh).1, fun i hi => by
    rw [cell_of_row _ _ _ _ _ _ hh, ← Array.getElem?_toList, hc]
    simp [List.getD, List.getElem?_eq_getElem hi], hb⟩

theorem wrong_at (wr : World) (qb : Nat) (hq : qb < 6) (G : Obj) : ∃ g ws, WrongAt wr ([Value.slice (some ⟨wr.heap.size, 0, none⟩) 3 3, Value.slice (some ⟨wr.heap.size + 1, 0, none⟩) 4 4, Value.slice (some ⟨wr.heap.size + 1 + 1, 0, none⟩) 5 5, Value.slice (some ⟨wr.heap.size + 1 + 1 + 1, 0, none⟩) 6 6,
    Value.slice (some ⟨wr.heap.size + 1 + 1 + 1 + 1, 0, none⟩) 6 6, Value.slice (some ⟨wr.heap.size + 1 + 1 + 1 + 1 + 1, 0, none⟩) 6 6][qb]'(by simpa using hq))
    (((((((wr.alloc (.cells #[.int .u8 1, .int .u8 2, .int .u8 1] 5)).alloc (.cells #[.int .u8 1, .int .u8 2, .int .u8 0, .int .u8 9] 5)).alloc (.cells #[.int .u8 1, .int .u8 2, .int .u8 0, .int .u8 0, .int .u8 1] 5)).alloc (.cells #[.int .u8 1, .int .u8 2, .int .u8 0, .int .u8 0, .int .u8 0, .int .u8 1] 5)).alloc
      (.cells #[.int .u8 1, .int .u8 2, .int .u8 0, .int .u8 0, .int .u8 0, .int .u8 255] 5)).alloc (.cells #[.int .u8 1, .int .u8 2, .int .u8 0, .int .u8 0, .int .u8 0, .int .u8 0] 5)).alloc G) g ws := by
  obtain ⟨a1, a2, a3, a4, a5, a6, _, hb⟩ := wrongW_at wr (.cells #[.int .u8 1, .int .u8 2, .int .u8 1] 5) (.cells #[.int .u8 1, .int .u8 2, .int .u8 0, .int .u8 9] 5) (.cells #[.int .u8 1, .int .u8 2, .int .u8 0, .int .u8 0, .int .u8 1] 5) (.cells #[.int .u8 1, .int .u8 2, .int .u8 0, .int .u8 0, .int .u8 0, .int .u8 1] 5)
      (.cells #[.int .u8 1, .int .u8 2, .int .u8 0, .int .u8 0, .int .u8 0, .int .u8 255] 5) (.cells #[.int .u8 1, .int .u8 2, .int .u8 0, .int .u8 0, .int .u8 0, .int .u8 0] 5) G
  match qb, hq with
  | 0, _ => exact ⟨_, _, wrong_mk [1, 2, 1] (by simp [wrongs]) (by omega) a1 rfl hb⟩
  | 1, _ => exact ⟨_, _, wrong_mk [1, 2, 0, 9] (by simp [wrongs]) (by omega) a2 rfl hb⟩
  | 2, _ => exact ⟨_, _, wrong_mk [1, 2, 0, 0, 1] (by simp [wrongs]) (by omega) a3 rfl hb⟩
  | 3, _ => exact ⟨_, _, wrong_mk [1, 2, 0, 0, 0, 1] (by simp [wrongs]) (by omega) a4 rfl hb⟩
  | 4, _ => exact ⟨_, _, wrong_mk [1, 2, 0, 0, 0, 255] (by simp [wrongs]) (by omega) a5 rfl hb⟩
  | 5, _ => exact ⟨_, _, wrong_mk [1, 2, 0, 0, 0, 0] (by simp [wrongs]) (by omega) a6 rfl hb⟩

theorem below_two {w wr wc w1 w2 : World} (h1 : Below w.heap.size w wr) (hlt : w.heap.size < wr.heap.size) (h2 : Below wr.heap.size wr wc) (h3 : wc.grownBy w1 (some w.heap.size)) (h4 : w1.grownBy w2 (some w.heap.size)) : Below w.heap.size w w2 := by
  have z1 := h1.size
  have z2 := h2.size
  have z3 := h3.size
  have z4 := h4.size
  refine ⟨h4.os.trans (h3.os.trans (h2.os.trans h1.os)), h4.tape.trans (h3.tape.trans (h2.tape.trans h1.tape)), h4.output.trans (h3.output.trans (h2.output.trans h1.output)), by omega, fun k hk => ?_⟩
  rw [h4.block k (by omega) (fun e => absurd (Option.some.inj e) (by omega)), h3.block k (by omega) (fun e => absurd (Option.some.inj e) (by omega)), h2.block k (by omega), h1.block k hk]

theorem below_three {w w2 w3 w4 : World} {C : Obj} (h : Below w.heap.size w w2) (h3 : Below (w2.alloc C).heap.size (w2.alloc C) w3) (h4 : w3.grownBy w4 (some w.heap.size)) : Below w.heap.size w w4 := by
  have z1 := h.size
  have z2 := h3.size
  have z4 := h4.size
  simp at z2
  refine ⟨h4.os.trans (h3.os.trans h.os), h4.tape.trans (h3.tape.trans h.tape), h4.output.trans (h3.output.trans h.output), by omega, fun k hk => ?_⟩
  rw [h4.block k (by omega) (fun e => absurd (Option.some.inj e) (by omega)), h3.block k (by simp; omega), Below.heap_alloc _ _ _ (by omega), h.block k hk]

/-- The second feed of what can't be a frame: its last byte, in the world behind the first. -/
theorem tail_two {wr : World} {v : Value} {wc : World} {g : Nat} {ws : List Int} {w1 : World} {b : Nat} (hW : WrongAt wr v wc g ws) (hb : g ≠ b) (hg : wc.grownBy w1 (some b)) : ∀ i, i < (ws.drop (ws.length - 1)).length → w1.cell? ⟨g, ws.length - 1 + i, none⟩ = some (.int .u8 ((ws.drop (ws.length - 1)).getD i 0)) := fun i hi => by
  have hi' : ws.length - 1 + i < ws.length := by rw [List.length_drop] at hi; omega
  rw [hg.cell (hW.cells (ws.length - 1 + i) hi') (fun e => hb (Option.some.inj e))]
  simp [List.getD]

/-- The third feed: a frame that may be, made behind the second. -/
theorem tail_three {w2 w3 : World} {v3 : Value} {b : Nat} {C : Array Value} (hb : w2.heap[b]? = some (.cells C 46 (0, 0))) {D : Obj} (ho : Owns w3 (w2.alloc D).heap.size v3 (frameL 1 2 [3])) (hB : Below (w2.alloc D).heap.size (w2.alloc D) w3) :
    ∃ g c, v3 = .slice (some ⟨g, 0, none⟩) (frameL 1 2 [3]).length c ∧ (∀ i, i < (frameL 1 2 [3]).length → w3.cell? ⟨g, 0 + i, none⟩ = some (.int .u8 ((frameL 1 2 [3]).getD i 0))) ∧ g < w3.heap.size ∧ g ≠ b ∧ w3.heap[b]? = some (.cells C 46 (0, 0)) := by
  have hlt : b < w2.heap.size := (Array.getElem?_eq_some_iff.1 hb).1
  obtain ⟨g, c, rfl, h1, h2⟩ := ho.shape (by decide)
  simp at h1
  refine ⟨g, c, rfl, ?_, h2, by omega, ?_⟩
  · intro i hi
    have := World.ownsRow.cellAt ho i (by omega)
    rw [Nat.zero_add, this]
    simp [List.getD, List.getElem?_eq_getElem hi]
  · rw [hB.block b (by simp; omega), Below.heap_alloc _ _ _ hlt, hb]
end Go.Proofs.Ytfekelmldebplaa
