import Derived.Test.YtfekelmldebplaaGreatDoorSv
namespace Go.Proofs.YtfekelmldebplaaGreatDoor
open Go.RowKit

theorem chg_drew {w w' : World} {D : Nat → Prop} (h : Chg w w' D) : Chg w w'.drew D := ⟨h.os, h.tape, h.output, h.size, h.block⟩
theorem chg_below {w w1 w2 : World} {D : Nat → Prop} (h : Chg w w1 D) (hb : Below w1.heap.size w1 w2) : Chg w w2 D := h.trans (Chg.of_below hb (fun _ => False)) (fun _ e _ => e.elim)
theorem chg_same {w w1 w2 : World} {D : Nat → Prop} (h : Chg w w1 D) (hb : Chg w1 w2 D) : Chg w w2 D := h.trans hb (fun _ e _ => e)
theorem lies_cells {w : World} {b n c : Nat} {xs : List Int} (h : Lies w (.slice (some ⟨b, 0, none⟩) n c) xs) : ∀ i, i < xs.length → w.cell? ⟨b, 0 + i, none⟩ = some (.int .u8 (xs.getD i 0)) := by
  rcases h with ⟨a, c', e, rfl⟩ | ⟨b', o, c', e, _, _, hc⟩
  · intro i hi
    simp at hi
  · simp only [Value.slice.injEq, Option.some.injEq, Addr.mk.injEq] at e
    obtain ⟨⟨rfl, rfl, _⟩, _, _⟩ := e
    exact hc
theorem ref_all' (x : SP) (B cb c n : Nat) (xs : List Int) (w : World) (hn : xs.length = n) (ht : w.heap[x.tb]? = some (.cells #[x.vA, .int .i64 x.st.1.length, .bool x.st.2.2] 118 (0, 0))) (ho : Owns w B x.vA x.all) (ba : Bys x.all)
    (hc : ∀ i, i < xs.length → w.cell? ⟨cb, 0 + i, none⟩ = some (.int .u8 (xs.getD i 0))) (bx : Bys xs) (hB : B ≤ w.heap.size) (hm : x.all.length + xs.length ≤ 1000000000) :
    Calls Tryz.prog 83 #[.pointer (some ⟨x.tb, 0, none⟩), .slice (some ⟨cb, 0, none⟩) n c] w fun e w' => ∃ vout x' cd, e = .returned (.tuple #[vout, .int .i64 cd]) ∧ Hid (cd = if (feedF ([], x.st.2) xs).2.2 = true then 1 else 0) ∧ Hid (Refd w B x xs vout x' w') ∧ Chg w w' (fun i => i = x.tb ∨ x.vA.ownBlock = some i) := by
  refine (ref_all x B cb c n xs w hn ht ho ba hc bx hB hm).mono ?_
  rintro e w' ⟨vout, x', rfl, h⟩
  exact ⟨vout, x', _, rfl, hide rfl, hide h, h.chg⟩
theorem gave5 {w1 w2 w3 w3' w4 w5 : World} {S : Nat} {v v2 : Value} {s : ByteArray} {ds : List FD} {D : Nat → Prop} (hL : LentV w1 S v s) (hG : Gave w2 w1.heap.size v2 ds) (g3 : w2.grownBy w3 v.ownBlock) (e3 : w3'.heap = w3.heap) (hb4 : Below w3'.heap.size w3' w4) (c5 : Chg w4 w5 D) (hD : ∀ i, D i → i < w1.heap.size) : Gave w5 w1.heap.size v2 ds := by
  have z3 := g3.size
  have z4 := hb4.size
  rw [e3] at z4
  refine hG.kept fun k h1 p => ?_
  rw [c5.block k (by omega) (fun e => by have := hD k e; omega), hb4.block k (by rw [e3]; omega), e3, g3.block k p (fun e => by have := hL.blk k e.symm; omega)]
theorem chg03 {W0 w1 w2 w3 : World} {v : Value} {s : ByteArray} {pb : Nat} (hb1 : Below W0.heap.size W0 w1) (hL : LentV w1 W0.heap.size v s) (g2 : w1.grownBy w2 (some pb)) (g3 : w2.grownBy w3 v.ownBlock) : Chg W0 w3 (fun i => i = pb) := by
  have c1 : Chg W0 w1 (fun i => i = pb) := Chg.of_below hb1 _
  have c2 := c1.trans (Chg.of_grown g2) (fun i e _ => by simpa using e.symm)
  exact c2.trans (Chg.of_grown g3) (fun i e hi => by have := hL.blk i e; omega)

theorem feedF_data (s : List Fr × List Int × Bool) (xs : List Int) : ∀ f ∈ (feedF s xs).1, f ∈ s.1 ∨ f.data.length ≤ s.2.1.length + xs.length := by
  induction xs generalizing s with
  | nil => intro f hf; exact .inl hf
  | cons x xs ih =>
    intro f hf
    have e : feedF s (x :: xs) = feedF (stepF s x) xs := rfl
    rw [e] at hf
    have hl : (stepF s x).2.1.length ≤ s.2.1.length + 1 := by
      unfold stepF
      split
      · omega
      · split
        · split <;> simp
        · simp
    rcases ih (stepF s x) f hf with m | m
    · have hm : f ∈ s.1 ∨ f.data.length ≤ s.2.1.length + 1 := by
        unfold stepF at m
        split at m
        · exact .inl m
        · split at m
          · split at m
            · rcases List.mem_append.1 m with q | q
              · exact .inl q
              · rw [List.mem_singleton.1 q]
                right
                simp [toFr]
                omega
            · exact .inl m
          · exact .inl m
      rcases hm with q | q
      · exact .inl q
      · right
        simp only [List.length_cons]
        omega
    · right
      simp only [List.length_cons]
      omega

/-- What both Feeds left, ahead of the book. -/
structure FedMid (W0 wr : World) (B bw : Nat) (xs : List SP) (vs vt vb vf : Value) (rb rf : List Rec) (k : Nat) (x x' : SP) (v2 : Value) (ds : List FD) (n : Nat) : Prop where
  inv : Inv wr B bw (xs.set k x') vs vt vb vf rb rf
  gave : Gave wr B v2 ds
  free : ∀ r, (r ∈ rb ∨ r ∈ rf) → ∀ i, r.has i → v2.ownBlock ≠ some i ∧ ∀ d ∈ ds, d.g ≠ i
  apart : ∀ y ∈ xs.set k x', ∀ d ∈ ds, y.vA.ownBlock ≠ some d.g
  chg : Chg W0 wr (fun i => i = x.pb ∨ i = x.tb ∨ x.vA.ownBlock = some i)
  new : ∀ i, (v2.ownBlock = some i ∨ ∃ d ∈ ds, d.g = i) → W0.heap.size ≤ i
  lens : ∀ d ∈ ds, d.fr.data.length ≤ 260 + n
  num : ds.length ≤ n
  pb : x'.pb = x.pb
  tb : x'.tb = x.tb
  len : x'.all.length ≤ x.all.length + n

theorem fed_mid {W0 w1 w2 w3 w3' w4 w5 wr : World} {B bw : Nat} {xs : List SP} {vs vt vb vf v v2 vout : Value} {rb rf : List Rec} {k : Nat} {x x' : SP} {ds : List FD} {s : ByteArray} (h : Inv W0 B bw xs vs vt vb vf rb rf) (hB : B ≤ W0.heap.size) (hx : xs[k]? = some x) (hb1 : Below W0.heap.size W0 w1) (hL : LentV w1 W0.heap.size v s)
    (hF : FeedAt w1 x.pb 181 (feedF ([], x.st.2.1, x.st.2.2) (sb s)) v2 w2 ds) (g3 : w2.grownBy w3 v.ownBlock) (c3 : Chg W0 w3 (fun i => i = x.pb)) (e3 : w3'.heap = w3.heap) (t3 : w3'.os = w3.os ∧ w3'.tape = w3.tape ∧ w3'.output = w3.output) (hb4 : Below w3'.heap.size w3' w4) (R : Refd w4 B x (sb s) vout x' w5) (G5 : Gave w5 w1.heap.size v2 ds) (hbr : Below w5.heap.size w5 wr) :
    FedMid W0 wr B bw xs vs vt vb vf rb rf k x x' v2 ds s.size := by
  have hm : x ∈ xs := List.mem_of_getElem? hx
  have ox := h.ok x hm
  have lp := (Array.getElem?_eq_some_iff.1 ox.prog).1
  have lt := (Array.getElem?_eq_some_iff.1 ox.ref).1
  have z1 := hb1.size
  have z2 := hF.grown.size
  have z3 := g3.size
  have z4 := hb4.size
  rw [e3] at z4
  have z5 := R.chg.size
  have zr := hbr.size
  have npt : x.pb ≠ x.tb := row_ne ox.prog ox.ref (by decide)
  have nva : x.vA.ownBlock ≠ some x.pb := fun e => absurd (own_elem ox.own ox.prog e) (by decide)
  have c4 : Chg W0 w4 (fun i => i = x.pb) := by
    refine ⟨hb4.os.trans (t3.1.trans c3.os), hb4.tape.trans (t3.2.1.trans c3.tape), hb4.output.trans (t3.2.2.trans c3.output), by omega, fun i p q => ?_⟩
    rw [hb4.block i (by rw [e3]; omega), e3, c3.block i p q]
  have c5 : Chg W0 w5 (fun i => i = x.pb ∨ i = x.tb ∨ x.vA.ownBlock = some i) := (c4.mono (fun i _ e => .inl e)).trans R.chg (fun i e _ => .inr e)
  have ok5 : x'.Ok w5 B := by
    refine ⟨?_, ?_, by rw [R.tb]; exact R.ref, R.own, R.bys⟩
    · rw [R.pb, R.chg.block x.pb (by omega) (fun e => e.elim npt nva), hb4.block x.pb (by rw [e3]; omega), e3, g3.block x.pb (by omega) (fun e => by have := hL.blk _ e.symm; omega), hF.row, R.st]
    · rw [R.st]
      exact hF.held
  have i5 := h.fed hx R.pb R.tb ok5 (R.at_.imp id fun ⟨i, p, q⟩ => ⟨i, by omega, q⟩) c5
  have gr : Gave wr w1.heap.size v2 ds := G5.kept fun i _ p => hbr.block i p
  have old : ∀ y ∈ xs, ∀ i, y.vA.ownBlock = some i → i < W0.heap.size := fun y m i e => (World.ownsRow.lt (h.ok y m).own i e).2
  have dn : ∀ d ∈ ds, w1.heap.size ≤ d.g ∧ d.g < w2.heap.size := fun d m => World.ownsRow.lt (hF.gave.own d m) d.g rfl
  have vn : ∀ i, v2.ownBlock = some i → w1.heap.size ≤ i ∧ i < w2.heap.size := fun i e => World.ownsRow.lt hF.gave.row i e
  have fe : ds.map (·.fr) = (feedF ([], x.st.2.1, x.st.2.2) (sb s)).1 := hF.fs
  refine ⟨i5.below hbr, ⟨own_weak gr.row (by omega), fun d m => own_weak (gr.own d m) (by omega), gr.nodup, gr.apart⟩, fun r m i e => ?_, fun y m d md => ?_, c5.trans (Chg.of_below hbr (fun _ => False)) (fun _ e _ => e.elim), fun i e => ?_, fun d m => ?_, ?_, R.pb, R.tb, by have := R.len; rw [sb_len] at this; exact this⟩
  · have q := (h.book.sep r m i e).2.1
    exact ⟨fun e' => by have := vn i e'; omega, fun d md e' => by have := dn d md; omega⟩
  · have q := dn d md
    rcases List.mem_or_eq_of_mem_set m with m | rfl
    · intro e
      have := old y m _ e
      omega
    · intro e
      rcases R.at_ with a | ⟨i, p, a⟩
      · have := old x hm d.g (by rw [← a]; exact e)
        omega
      · rw [a] at e
        simp at e
        omega
  · rcases e with e | ⟨d, m, e⟩
    · have := vn i e; omega
    · have := dn d m; omega
  · have q : d.fr ∈ (feedF ([], x.st.2.1, x.st.2.2) (sb s)).1 := by
      rw [← fe]
      exact List.mem_map.2 ⟨d, m, rfl⟩
    rcases feedF_data _ _ _ q with q | q
    · simp at q
    · have hh := ox.held.len
      rw [sb_len] at q
      simp only at q
      omega
  · have q := feedF_len ([], x.st.2.1, x.st.2.2) (sb s)
    rw [← fe, sb_len] at q
    simpa using q

/-- What 'fed' leaves. -/
def FedPost (w w' : World) (B bw : Nat) (xs : List SP) (vs vt vb vf : Value) (rb rf : List Rec) (n : Nat) : Prop :=
  ∃ xs' vb' vf' rb' rf', Inv w' B bw xs' vs vt vb' vf' rb' rf' ∧ xs'.length = xs.length ∧ (∀ y ∈ xs', ∃ x ∈ xs, y.pb = x.pb ∧ y.tb = x.tb ∧ y.all.length ≤ x.all.length + n) ∧ rb'.length ≤ rb.length + n ∧ rf'.length ≤ rf.length + 1 ∧
    Chg w w' (fun i => i = bw ∨ vb.ownBlock = some i ∨ vf.ownBlock = some i ∨ ∃ x ∈ xs, i = x.pb ∨ i = x.tb ∨ x.vA.ownBlock = some i)
theorem fed_done {w W0 wr w6 : World} {B bw : Nat} {xs : List SP} {vs vt vb vf v2 : Value} {rb rf : List Rec} {k : Nat} {x x' : SP} {ds : List FD} {n : Nat} (hx : xs[k]? = some x) (hB0 : Below w.heap.size w W0) (h : FedMid W0 wr B bw xs vs vt vb vf rb rf k x x' v2 ds n) (hk : Booked wr B bw vs vt (.slice none 0 0) vb vf rb rf v2 ds w6) : FedPost w w6 B bw xs vs vt vb vf rb rf n := by
  have hm : x ∈ xs := List.mem_of_getElem? hx
  obtain ⟨vb', vf', rb', rf', hi, l1, l2⟩ := h.inv.booked h.gave h.apart hk
  refine ⟨xs.set k x', vb', vf', rb', rf', hi, by simp, fun y m => ?_, by have := h.num; omega, by omega, ?_⟩
  · rcases List.mem_or_eq_of_mem_set m with m | rfl
    · exact ⟨y, m, rfl, rfl, by omega⟩
    · exact ⟨x, hm, h.pb, h.tb, h.len⟩
  · refine ((Chg.of_below hB0 _).trans h.chg (fun i e _ => ?_)).trans hk.chg (fun i e p => ?_)
    · exact .inr (.inr (.inr ⟨x, hm, e⟩))
    · have z := hB0.size
      rcases e with e | e | e | e | e
      · exact .inl e
      · exact .inr (.inl e)
      · exact .inr (.inr (.inl e))
      · have := h.new i (.inl e); omega
      · have := h.new i (.inr e); omega
end Go.Proofs.YtfekelmldebplaaGreatDoor
