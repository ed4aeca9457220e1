import Derived.Test.YtfekelmldebplaaGreatDoorSu
namespace Go.Proofs.YtfekelmldebplaaGreatDoor
open Go.RowKit

theorem feedF_app (s : List Fr × List Int × Bool) (a b : List Int) : feedF s (a ++ b) = feedF (feedF s a) b := by
  have := feedF_split s (a ++ b) a.length
  simpa using this
theorem st_app (x : SP) (xs : List Int) : feedF ([], [], false) (x.all ++ xs) = (x.st.1 ++ (feedF ([], x.st.2) xs).1, (feedF ([], x.st.2) xs).2) := by
  rw [feedF_app]
  have := feedF_shift x.st.1 ([], x.st.2) xs
  simpa [SP.st] using this

/-- What the document's Feed leaves. -/
structure Refd (w : World) (B : Nat) (x : SP) (xs : List Int) (vout : Value) (x' : SP) (w' : World) : Prop where
  pb : x'.pb = x.pb
  tb : x'.tb = x.tb
  st : x'.st.2 = (feedF ([], x.st.2) xs).2
  ref : w'.heap[x.tb]? = some (.cells #[x'.vA, .int .i64 x'.st.1.length, .bool x'.st.2.2] 118 (0, 0))
  own : Owns w' B x'.vA x'.all
  bys : Bys x'.all
  reads : Reads w' vout (feedF ([], x.st.2) xs).1
  chg : Chg w w' (fun i => i = x.tb ∨ x.vA.ownBlock = some i)
  at_ : x'.vA.ownBlock = x.vA.ownBlock ∨ ∃ k, w.heap.size ≤ k ∧ x'.vA.ownBlock = some k
  len : x'.all.length ≤ x.all.length + xs.length

theorem ref_all (x : SP) (B cb c n : Nat) (xs : List Int) (w : World) (hn : xs.length = n) (ht : w.heap[x.tb]? = some (.cells #[x.vA, .int .i64 x.st.1.length, .bool x.st.2.2] 118 (0, 0))) (ho : Owns w B x.vA x.all) (ba : Bys x.all)
    (hc : ∀ i, i < xs.length → w.cell? ⟨cb, 0 + i, none⟩ = some (.int .u8 (xs.getD i 0))) (bx : Bys xs) (hB : B ≤ w.heap.size) (hm : x.all.length + xs.length ≤ 1000000000) :
    Calls Tryz.prog 83 #[.pointer (some ⟨x.tb, 0, none⟩), .slice (some ⟨cb, 0, none⟩) n c] w fun e w' => ∃ vout x', e = .returned (.tuple #[vout, .int .i64 (if (feedF ([], x.st.2) xs).2.2 = true then 1 else 0)]) ∧ Refd w B x xs vout x' w' := by
  subst hn
  cases hbr : x.st.2.2 with
  | true =>
    rw [hbr] at ht
    have hf : feedF ([], x.st.2) xs = ([], x.st.2) := feedF_broken ([], x.st.2) hbr xs
    refine (rfeed_bad x.tb x.st.1.length x.vA _ _ _ w ht).mono ?_
    rintro e w' ⟨rfl, rfl⟩
    refine ⟨.slice none 0 0, x, by rw [hf]; simp [hbr], rfl, rfl, by rw [hf], by rw [hbr]; exact ht, ho, ba, by rw [hf]; exact Reads.empty _ _ _, Chg.refl _ _, .inl rfl, by omega⟩
  | false =>
    rw [hbr] at ht
    have hs := st_app x xs
    refine (rfeed_ok x.tb B x.st.1.length x.vA x.all xs cb 0 c w ht ho rfl hc ba bx hB hm).mono ?_
    rintro e w' ⟨v', vout, rfl, R⟩
    refine ⟨vout, ⟨x.pb, x.tb, v', x.all ++ xs⟩, by rw [hs], rfl, rfl, by show (feedF ([], [], false) (x.all ++ xs)).2 = _; rw [hs], R.row, R.own, fun y hy => ?_, ?_, ⟨R.os, R.tape, R.output, R.size, fun k p q => R.block k p (fun e => q (.inl e)) (fun e => q (.inr e.symm))⟩, R.at_, by simp⟩
    · rcases List.mem_append.1 hy with m | m
      · exact ba y m
      · exact bx y m
    · have := R.reads
      rw [hs] at this
      simpa using this

/-- Feed of what was lent. -/
theorem rfeed_all (b : Nat) (h : List Int) (br : Bool) (T : TypeId) (v : Value) (s : ByteArray) (B : Nat) (w : World) (hL : LentV w B v s) (hb : w.heap[b]? = some (.cells (spl h br) T (0, 0))) (hh : Held h) (hne : v.ownBlock ≠ some b) (hs : s.size ≤ 1000000000) :
    Calls Tryz.prog 82 #[.pointer (some ⟨b, 0, none⟩), v] w fun e w' => FeedPost w b T (feedF ([], h, br) (sb s)) e w' := by
  rcases hL with ⟨rfl, rfl⟩ | ⟨g, c, rfl, hL⟩
  · exact rfeed_none b h br T w hb hh
  · refine rfeed_n b h br T g 0 c s.size (sb s) w (sb_len s) hb hh (fun i hi => ?_) (.inr ⟨?_, fun e => hne (by rw [← e]; rfl)⟩) (sb_bys s) hs
    · have := hL.cells i (by rw [sb_len] at hi; omega)
      rw [Nat.zero_add, this]
      congr 2
      simp [List.getD, List.getElem?_append_left hi]
    · exact (World.ownsRow.lt hL.own g rfl).2
theorem LentV.grown {w w' : World} {B : Nat} {v : Value} {s : ByteArray} {b : Nat} (h : LentV w B v s) (g : w.grownBy w' (some b)) (hne : v.ownBlock ≠ some b) : LentV w' B v s := by
  rcases h with h | ⟨gg, c, e, h⟩
  · exact .inl h
  · refine .inr ⟨gg, c, e, ⟨ownsRow_keep h.own fun k _ p q => g.block k p fun e' => hne ?_⟩⟩
    have : gg = k := by simpa [Value.ownBlock] using q
    rw [e, this, ← e']
    rfl

end Go.Proofs.YtfekelmldebplaaGreatDoor
