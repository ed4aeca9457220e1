import Derived.Test.YtfekelmldebplaaGreatDoorSl
import Derived.Deep.RegionLaw
namespace Go.Proofs.YtfekelmldebplaaGreatDoor
open Go.RowKit

/-- What Book.frame leaves. -/
structure Booked (w : World) (B bw : Nat) (c0 c1 c2 vb vf : Value) (rb rf : List Rec) (v : Value) (ds : List FD) (w' : World) : Prop where
  out : ∃ vb' vf' rb' rf', BookIn w' B bw c0 c1 c2 vb' vf' rb' rf' ∧ rb'.length = rb.length + ds.length ∧ rf'.length = rf.length + 1 ∧
    (vb'.ownBlock = vb.ownBlock ∨ ∃ i, w.heap.size ≤ i ∧ vb'.ownBlock = some i) ∧ (vf'.ownBlock = vf.ownBlock ∨ ∃ i, w.heap.size ≤ i ∧ vf'.ownBlock = some i) ∧
    ∀ r, (r ∈ rb' ∨ r ∈ rf') → (r ∈ rb ∨ r ∈ rf) ∨ ∀ i, r.has i → (∃ d ∈ ds, d.g = i) ∨ v.ownBlock = some i ∨ w.heap.size ≤ i
  chg : Chg w w' (fun i => i = bw ∨ vb.ownBlock = some i ∨ vf.ownBlock = some i ∨ v.ownBlock = some i ∨ ∃ d ∈ ds, d.g = i)

theorem FLoop.start {w : World} {B bw : Nat} {c0 c1 c2 vb vf : Value} {rb rf : List Rec} {v : Value} {ds : List FD} (h : BookIn w B bw c0 c1 c2 vb vf rb rf) (hG : Gave w B v ds) (hfree : ∀ r, (r ∈ rb ∨ r ∈ rf) → ∀ i, r.has i → v.ownBlock ≠ some i ∧ ∀ d ∈ ds, d.g ≠ i) : FLoop w B bw c0 c1 c2 vb vf rb rf v ds 0 vb rb w :=
  ⟨h, by simp, .inl rfl, fun r m i e => by simpa using hfree r m i e, fun r m => .inl m, hG.row, fun d hd => hG.own d (by simpa using hd), Chg.refl _ _⟩
theorem FLoop.done {w : World} {B bw : Nat} {c0 c1 c2 vb vf : Value} {rb rf : List Rec} {v : Value} {ds : List FD} {vb' : Value} {rb' : List Rec} {wr w' : World} (h : FLoop w B bw c0 c1 c2 vb vf rb rf v ds ds.length vb' rb' wr) (hb : FrB wr B bw c0 c1 c2 vb' vf rb' rf v w') : Booked w B bw c0 c1 c2 vb vf rb rf v ds w' := by
  obtain ⟨vf', r, hbk, hbl, hr⟩ := hb.out
  have z := h.chg.size
  refine ⟨⟨vb', vf', rb', rf ++ [r], hbk, h.len, by simp, h.blk, ?_, ?_⟩, ?_⟩
  · rcases hbl with q | ⟨i, hi, q⟩
    · exact .inl q
    · exact .inr ⟨i, by omega, q⟩
  · rintro x (m | m)
    · rcases h.recs x m with q | q
      · exact .inl (.inl q)
      · refine .inr fun i hi => ?_
        rcases q i hi with q | q
        · exact .inl q
        · exact .inr (.inr q)
    · rcases List.mem_append.1 m with m | m
      · exact .inl (.inr m)
      · rw [List.mem_singleton.1 m]
        refine .inr fun i hi => .inr ?_
        rcases hr i hi with q | q
        · exact .inl q
        · exact .inr (by omega)
  · refine (h.chg.mono ?_).trans hb.chg ?_
    · rintro i _ (q | q | q)
      · exact .inl q
      · exact .inr (.inl q)
      · exact .inr (.inr (.inr (.inr q)))
    · rintro i (q | q | q) _
      · exact .inl q
      · exact .inr (.inr (.inl q))
      · exact .inr (.inr (.inr (.inl q)))

set_option maxRecDepth 100000 in
set_option maxHeartbeats 4000000 in
theorem bookFrame_any (B bw : Nat) (c0 c1 c2 vb vf v : Value) (rb rf : List Rec) (ds : List FD) (w : World) (h : BookIn w B bw c0 c1 c2 vb vf rb rf) (hG : Gave w B v ds) (hfree : ∀ r, (r ∈ rb ∨ r ∈ rf) → ∀ i, r.has i → v.ownBlock ≠ some i ∧ ∀ d ∈ ds, d.g ≠ i)
    (hn : ∀ d ∈ ds, d.fr.data.length ≤ 1000000000) (hb : rb.length + ds.length ≤ 1000000000) (hf : rf.length ≤ 1000000000) (hB : B ≤ w.heap.size) :
    Calls Tryz.prog 84 #[.pointer (some ⟨bw, 3, none⟩), v] w fun e w' => e = .returned (.tuple #[]) ∧ Booked w B bw c0 c1 c2 vb vf rb rf v ds w' := by
  obtain ⟨i0, hi, hz0, hz1, hz2⟩ := info_parts info94s
  obtain ⟨oa, ca, rfl, hoa1, hoa2⟩ := ownsRow_opt hG.row
  have HA1 := hide hoa1
  have HA2 := hide hoa2
  have HN := hide hn
  have HG := hide hG
  have HL := hide (FLoop.start h hG hfree)
  obtain ⟨ob, cb, rfl, hob1, hob2⟩ := ownsRow_opt h.rowF
  clear h hG hfree hoa1 hoa2 hn hob1 hob2
  go_enter Tryz.func84, Tryz.ntmps84
  go_wp2
  go_loopw [4] (fun i wr => ∃ (k : Nat) (vb' : Value) (rb' : List Rec), k ≤ ds.length ∧ i = .int .i64 k ∧ FLoop w B bw c0 c1 c2 vb (.slice ob rf.length cb) rb rf (.slice oa ds.length ca) ds k vb' rb' wr) (fun i _ => ds.length - (intOf i).toNat)
  case atStart => exact ⟨0, vb, rb, by omega, rfl, unhide HL⟩
  case round =>
    obtain ⟨k, vb', rb', hk, rfl, hl⟩ := hrel
    have hz := hl.chg.size
    have hlen := hl.len
    by_cases hlt : k < ds.length
    · obtain ⟨y0, rfl⟩ : ∃ x, oa = some x := by
        cases oa with
        | none => have := unhide HA1 rfl; omega
        | some x => exact ⟨x, rfl⟩
      obtain ⟨g, rfl, hcc⟩ := unhide HA2 y0 rfl
      obtain ⟨d, hd⟩ : ∃ d, ds[k]? = some d := ⟨_, List.getElem?_eq_getElem hlt⟩
      have q2 : wr.cell? ⟨g, k * 3 + 2, none⟩ = some d.val := by
        rw [hl.row.cellAt _ (by omega), flatMap_cells ds k 2 (by omega) d hd]
        rfl
      have hdd : d ∈ ds.drop k := by
        have := List.drop_eq_getElem_cons hlt
        rw [this, (List.getElem?_eq_some_iff.1 hd).2]
        simp
      have hsh : d.val = .slice (some ⟨d.g, 0, none⟩) d.fr.data.length d.cap := rfl
      have HD := hide hd
      have HDD := hide hdd
      have HLo := hide hl
      rw [hsh] at q2
      clear hl hd hdd hsh
      go_wp2_with fail
      refine (byte_any B bw c0 c1 c2 vb' (.slice ob rf.length cb) _ rb' rf d.fr.data wr (unhide HLo).book ((unhide HLo).own d (unhide HDD)) (fun r m i e e' => ((unhide HLo).free r m i e).2 d (unhide HDD) (by simpa [Value.ownBlock, FD.val] using e')) (unhide HN d (List.mem_of_getElem? (unhide HD))) (by omega) (by omega)).mono ?_
      rintro e w1 ⟨rfl, hby⟩
      have HBy := hide hby
      clear hby
      go_wp2
      go_roundw
      case rel =>
        obtain ⟨vb2, rb2, h2⟩ := (unhide HLo).step (unhide HD) (unhide HG).nodup (unhide HG).apart (unhide HBy)
        exact ⟨k + 1, vb2, rb2, by omega, by go_num, h2⟩
      case measure => simp [intOf]; omega
    · have hkn : k = ds.length := by omega
      subst hkn
      have q5 := hl.book.at.c5
      have HLo := hide hl
      clear hl
      go_wp2_with fail
      refine (ownFrames_any B _ ds.length _ rf.length wr (unhide HLo).row (by omega) (by omega) (by omega)).mono ?_
      rintro e w1 ⟨v1, v2, v3, rfl, hob⟩
      obtain ⟨a1, n1, k1, rfl, _, _⟩ := id hob.h1
      obtain ⟨a2, n2, k2, rfl, _, _⟩ := id hob.h2
      obtain ⟨a3, n3, k3, rfl, _, _⟩ := id hob.h3
      have hr1 : w1.heap[bw]? = some (.cells (wrow c0 c1 c2 vb' (.slice ob rf.length cb)) 91 (0, 0)) :=
        (hob.grown.block bw (Array.getElem?_eq_some_iff.1 (unhide HLo).book.row).1 (fun e => absurd (own_elem (unhide HLo).row (unhide HLo).book.row e.symm) (by decide))).trans (unhide HLo).book.row
      have q4 := cell_of_row _ _ 5 _ _ _ hr1
      have f4 := frozen_of_row _ _ 5 _ _ hr1
      simp [wrow] at q4
      have hbw : bw < w1.heap.size := (Array.getElem?_eq_some_iff.1 hr1).1
      have HS9 : Hid (∀ (M w9 : World), M.grownBy w9 (Value.slice ob rf.length cb).ownBlock → M.heap = ((w1.alloc (.cells #[.slice oa ds.length ca, .slice a1 n1 k1, .slice a2 n2 k2, .slice a3 n3 k3, .int .i64 rf.length] 130)).alloc (.cells #[.slice oa ds.length ca, .slice a1 n1 k1, .slice a2 n2 k2, .slice a3 n3 k3, .int .i64 rf.length] 130)).heap → w9.cell? ⟨bw, 5, none⟩ = some (.slice ob rf.length cb) ∧ w9.frozen? ⟨bw, 5, none⟩ = false) := fun M w9 g e => by
        have r9 := store_row hr1 e g (fun e => absurd (own_elem (unhide HLo).book.rowF (unhide HLo).book.row e.symm) (by decide))
        exact ⟨cell_of_row _ _ 5 _ _ _ r9, frozen_of_row _ _ 5 _ _ r9⟩
      have HOne : Hid (∀ u ∈ ([.slice oa ds.length ca, .slice a1 n1 k1, .slice a2 n2 k2, .slice a3 n3 k3, .int .i64 rf.length] : List Value), u.oneCell' = true) := by
        intro u hu
        simp at hu
        rcases hu with rfl | rfl | rfl | rfl | rfl <;> rfl
      have HRow : Hid (w1.ownsRow B 130 5 (.slice ob rf.length cb) rf.length (rf.flatMap Rec.cells)) := ownsRow_keep (unhide HLo).book.rowF fun i _ p q => hob.grown.block i p fun e => by
        obtain ⟨cs, fr, hh⟩ := own_cells (unhide HLo).book.rowF q
        exact absurd (own_elem (unhide HLo).row hh e.symm) (by decide)
      have hB1 : B ≤ w1.heap.size := Nat.le_trans hB (Nat.le_trans hz hob.grown.size)
      generalize eRC : rf.flatMap Rec.cells = RC at HRow
      have ERC := hide eRC
      have HOB := hide hob
      clear eRC q5 hr1 hob
      go_wp2_with fail
      go_region_law (first
        | (refine step_append_lies _ ?hg (.tmp 30) (.tmp 32) 86 ?ho B 130 i0 (.agg #[.slice none 0 0, .slice none 0 0, .slice none 0 0, .slice none 0 0, .int .i64 0]) 5 104 Tryz.underlying86 hi hz0 hz1 hz2 rfl (by decide) (.slice ob rf.length cb) rf.length RC ?hs ?hw
            ⟨w1.heap.size + 1, 0, none⟩ 1 1 [.slice oa ds.length ca, .slice a1 n1 k1, .slice a2 n2 k2, .slice a3 n3 k3, .int .i64 rf.length] ?hx rfl ?hc (unhide HOne) (by decide) ?h6 ?hb ?hz (w1.heap.size + 2) ?hH ?_
           case ho => exact rfl
           case hg => exact rfl
           case hs => exact rfl
           case hx => exact rfl
           case hw => exact own_heap (World.ownsRow.alloc (World.ownsRow.alloc (unhide HRow) (.cells #[.slice oa ds.length ca, .slice a1 n1 k1, .slice a2 n2 k2, .slice a3 n3 k3, .int .i64 rf.length] 130)) (.cells #[.slice oa ds.length ca, .slice a1 n1 k1, .slice a2 n2 k2, .slice a3 n3 k3, .int .i64 rf.length] 130)) rfl
           case hc => exact news_heap (cs := #[.slice oa ds.length ca, .slice a1 n1 k1, .slice a2 n2 k2, .slice a3 n3 k3, .int .i64 rf.length]) (t := 130) (heap_new_of' (w := w1) (o := .cells #[.slice oa ds.length ca, .slice a1 n1 k1, .slice a2 n2 k2, .slice a3 n3 k3, .int .i64 rf.length] 130) rfl)
           case h6 => unfold maxLen; omega
           case hb => omega
           case hz => simp; omega
           case hH => simp
           intro g9 cap9 w9 o9 gr9 h9 l9
           obtain ⟨s91, s92⟩ := unhide HS9 _ w9 gr9 rfl)
        | fail)
      all_goals
        refine bodyPost_end (v := .tuple #[]) (by simp [results, Tryz.results84]) rfl ⟨rfl, ?_⟩
        refine FLoop.done (unhide HLo) (frame_end (w1 := w1) (unhide HLo).book (unhide HLo).row (fun r m i e => ((unhide HLo).free r m i e).1) (unhide HOB) (by omega) ?_ gr9 (by rw [unhide ERC]; exact o9) ?_)
        · repeat (first | exact Below.refl _ _ | refine Below.drew ?_ | refine Below.alloc ?_ (by first | (simp; done) | (simp; omega)) _)
        · rcases h9 with h9 | h9
          · exact .inl h9
          · exact .inr ⟨g9, by omega, rfl⟩
end Go.Proofs.YtfekelmldebplaaGreatDoor
