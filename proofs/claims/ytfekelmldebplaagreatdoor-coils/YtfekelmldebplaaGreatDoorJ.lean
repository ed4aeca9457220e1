import Derived.Test.YtfekelmldebplaaGreatDoorH
namespace Go.Proofs.YtfekelmldebplaaGreatDoor
open Go.RowKit

theorem info42s : (Tryz.prog.info? 185).map (fun i => (i.zero, i.size, i.bytes)) = some (some (.agg #[.int .i64 0, .int .i64 0, .slice none 0 0]), 3, 40) := by kernel_rfl

theorem feedF_take_succ (s : List Fr × List Int × Bool) (xs : List Int) (k : Nat) (hk : k < xs.length) : feedF s (xs.take (k + 1)) = stepF (feedF s (xs.take k)) (xs.getD k 0) := by
  unfold feedF
  rw [List.take_succ_eq_append_getElem hk, List.foldl_append]
  simp [List.getD, List.getElem?_eq_getElem hk]

/-- What holds ahead of the byte k. -/
structure FeedAt (w : World) (b : Nat) (T : TypeId) (s : List Fr × List Int × Bool) (v : Value) (wr : World) (ds : List FD) : Prop where
  held : Held s.2.1
  row : wr.heap[b]? = some (.cells (spl s.2.1 s.2.2) T (0, 0))
  gave : Gave wr w.heap.size v ds
  fs : ds.map (·.fr) = s.1
  grown : w.grownBy wr (some b)

/-- What 'Feed' answers. -/
def FeedPost (w : World) (b : Nat) (T : TypeId) (s : List Fr × List Int × Bool) (e : Ending) (w' : World) : Prop := ∃ v ds, e = .returned (.tuple #[v, .int .i64 (if s.2.2 = true then 1 else 0)]) ∧ FeedAt w b T s v w' ds

theorem feedF_broken (s : List Fr × List Int × Bool) (h : s.2.2 = true) (xs : List Int) : feedF s xs = s := by
  induction xs with
  | nil => rfl
  | cons x xs ih =>
    have e : stepF s x = s := by simp [stepF, h]
    unfold feedF at ih ⊢
    rw [List.foldl_cons, e]
    exact ih
theorem feedF_len (s : List Fr × List Int × Bool) (xs : List Int) : (feedF s xs).1.length ≤ s.1.length + xs.length := by
  induction xs generalizing s with
  | nil => simp [feedF]
  | cons x xs ih =>
    have e : (stepF s x).1.length ≤ s.1.length + 1 := by
      unfold stepF
      split
      · omega
      · split
        · split <;> simp
        · simp
    have := ih (stepF s x)
    unfold feedF at this ⊢
    rw [List.foldl_cons]
    simp only [List.length_cons]
    omega
theorem feedF_split (s : List Fr × List Int × Bool) (xs : List Int) (k : Nat) : feedF s xs = feedF (feedF s (xs.take k)) (xs.drop k) := by
  unfold feedF
  rw [← List.foldl_append, List.take_append_drop]

theorem FeedAt.set {w : World} {b : Nat} {T : TypeId} {s : List Fr × List Int × Bool} {v : Value} {wr wr' : World} {ds : List FD} (R : FeedAt w b T s v wr ds) (hb : b < w.heap.size) (h' : List Int) (br' : Bool) (hh : Held h')
    (hr : wr'.heap[b]? = some (.cells (spl h' br') T (0, 0))) (hg : wr.grownBy wr' (some b)) : FeedAt w b T (s.1, h', br') v wr' ds :=
  ⟨hh, hr, R.gave.kept fun k h1 h2 => hg.block k h2 (fun e => by cases e; omega), R.fs, R.grown.trans hg⟩

theorem grown_setRow (w : World) (b : Nat) (C : Array Value) : w.grownBy (w.setRow b C) (some b) :=
  ⟨rfl, rfl, rfl, by simp, fun k _ hne => setRow_other w b k C (fun e => hne (by rw [e]))⟩
theorem grown_drewN {w w' : World} {r : Option Nat} (h : w.grownBy w' r) (n : Nat) : w.grownBy (w'.drewN n) r := ⟨h.os, h.tape, h.output, h.size, h.block⟩
theorem grown_drew {w w' : World} {r : Option Nat} (h : w.grownBy w' r) : w.grownBy w'.drew r := ⟨h.os, h.tape, h.output, h.size, h.block⟩

set_option maxRecDepth 100000 in
set_option maxHeartbeats 4000000 in
theorem feed_any (b : Nat) (h : List Int) (br : Bool) (T : TypeId) (cb co cc : Nat) (xs : List Int) (w : World) (hb : w.heap[b]? = some (.cells (spl h br) T (0, 0))) (hh : Held h) (hc : ∀ i, i < xs.length → w.cell? ⟨cb, co + i, none⟩ = some (.int .u8 (xs.getD i 0))) (hne : xs = [] ∨ cb < w.heap.size ∧ cb ≠ b)
    (bx : Bys xs) (hm : xs.length ≤ 1000000000) :
    Calls Tryz.prog 139 #[.pointer (some ⟨b, 0, none⟩), .slice (some ⟨cb, co, none⟩) xs.length cc] w fun e w' => FeedPost w b T (feedF ([], h, br) xs) e w' := by
  obtain ⟨i0, hi, hz0, hz1, hz2⟩ := info_parts info42s
  have HB := hide hb
  have HH := hide hh
  have HC := hide hc
  have HX := hide bx
  clear hb hh hc bx
  go_enter Tryz.func139, Tryz.ntmps139
  go_wp2
  go_loopw [6, 11] (fun v i wr => ∃ (k : Nat) (ds : List FD), k ≤ xs.length ∧ i = .int .i64 k ∧ FeedAt w b T (feedF ([], h, br) (xs.take k)) v wr ds) (fun _ i _ => xs.length - (intOf i).toNat)
  case atStart => exact ⟨0, [], Nat.zero_le _, rfl, unhide HH, unhide HB, Gave.nil _ _, rfl, rfl, rfl, rfl, Nat.le_refl _, fun _ _ _ => rfl⟩
  case round =>
    obtain ⟨k, ds, hk, rfl, R⟩ := hrel
    have HR := hide R
    have hbl : b < w.heap.size := (Array.getElem?_eq_some_iff.1 (unhide HB)).1
    have hl := R.held.len
    have c1 : wr.cell? ⟨b, 261, none⟩ = some (.bool (feedF ([], h, br) (xs.take k)).2.2) := by rw [cell_of_row _ _ _ _ _ _ R.row]; exact spl_broken _ _ (by omega)
    by_cases hlt : k < xs.length
    · have c2 : wr.cell? ⟨cb, co + k, none⟩ = some (.int .u8 (xs.getD k 0)) := by
        have q := hne.resolve_left (fun e => by simp [e] at hlt)
        exact R.grown.cell (unhide HC k hlt) (fun e => by cases e; exact q.2 rfl)
      have hx := (unhide HX).at k
      have HS := hide (feedF_take_succ ([], h, br) xs k hlt)
      have HF := hide (feedF_split ([], h, br) xs k)
      have HL : Hid (ds.length ≤ k) := by
        have q := feedF_len ([], h, br) (xs.take k)
        have e := congrArg List.length R.fs
        simp at q e
        show ds.length ≤ k
        omega
      generalize feedF ([], h, br) (xs.take k) = s at *
      generalize xs.getD k 0 = x at *
      obtain ⟨fs, h', br'⟩ := s
      cases br' with
      | true =>
        clear HC HX R
        simp only at c1 hl
        go_wp2
        go_ret2
        have e := (unhide HF).trans (feedF_broken _ rfl _)
        rw [e]
        exact ⟨_, ds, rfl, unhide HR⟩
      | false =>
        have hd := R.held
        have hrow := R.row
        simp only at c1 hl hd hrow
        by_cases hf : fitsL h' x = true
        · have hp := hd.push hx.1 hx.2 hf
          have HROW := hide hrow
          have HD := hide hd
          have HW := hide (setRow_heap wr b _ (spl (h' ++ [x]) false) T (0, 0) hrow)
          have HLn : (h' ++ [x]).length ≤ 260 := by simp; omega
          have HBy := hide hp.1
          by_cases hw : wholeL (h' ++ [x]) = true
          · have HE : Hid (stepF (fs, h', false) x = (fs ++ [toFr (h' ++ [x])], [], false)) := by show stepF (fs, h', false) x = _; simp [stepF, hf, hw]
            have h8 := hp.2.2 hw
            have hsz := R.grown.size
            clear HC HX R hrow hd hp
            go_wp2_with (first
              | (go_at_call 173; refine (take_good b h' false T x _ (unhide HROW) hl (unhide HD).1 hx.1 hx.2 hf).mono ?_; rintro e w1 ⟨rfl, rfl⟩)
              | (go_at_call 174; refine (isWhole_any b (h' ++ [x]) false T _ (by exact unhide HW) HLn (unhide HBy)).mono ?_; rintro e w1 ⟨rfl, nq, rfl⟩))
            refine (give_any b (h' ++ [x]) false T _ (by exact unhide HW) HLn h8 (unhide HBy)).mono ?_
            rintro e w2 ⟨g, cap, rfl, ho, hr2, hg2⟩
            have hgw : wr.grownBy w2 (some b) := (grown_drewN (grown_setRow wr b (spl (h' ++ [x]) false)) (1 + nq)).trans hg2
            have HG2 := hide ((unhide HR).gave.kept (w' := w2) fun k h1 h2 => hgw.block k h2 (fun e => by cases e; omega))
            have HO : Hid (Owns w2 wr.heap.size (FD.val ⟨toFr (h' ++ [x]), g, cap⟩) (toFr (h' ++ [x])).data) := by
              have e1 : ((wr.setRow b (spl (h' ++ [x]) false)).drewN (1 + nq)).heap.size = wr.heap.size := by simp
              rw [e1] at ho
              have e2 : (toFr (h' ++ [x])).data.length = (h' ++ [x]).length - 7 := by simp [toFr]
              show Owns w2 wr.heap.size (.slice (some ⟨g, 0, none⟩) (toFr (h' ++ [x])).data.length cap) (toFr (h' ++ [x])).data
              rw [e2]
              exact ho
            have HR2 := hide hr2
            have HGW := hide hgw
            have hz2' := hgw.size
            have hll : ds.length ≤ k := unhide HL
            have hown := (unhide HG2).row
            have EL : Hid ((h' ++ [x]).length - 7 = (toFr (h' ++ [x])).data.length) := by show _ = _; simp [toFr]
            clear ho hr2 hg2 hgw
            have E1 : Hid (256 * (h' ++ [x]).getD 0 0 + (h' ++ [x]).getD 1 0 = (toFr (h' ++ [x])).mark) := rfl
            have E2 : Hid ((h' ++ [x]).getD 6 0 = (toFr (h' ++ [x])).unit) := rfl
            generalize eDC : ds.flatMap FD.cells = DC at hown
            have EDC := hide eDC
            clear eDC
            generalize 256 * (h' ++ [x]).getD 0 0 + (h' ++ [x]).getD 1 0 = mk at E1 ⊢
            generalize (h' ++ [x]).getD 6 0 = un at E2 ⊢
            generalize (h' ++ [x]).length - 7 = nn at EL ⊢
            go_wp2_with (at_builtin; refine wpList_append_lies _ rfl (.tmp 24) (.tmp 27) 128 rfl w.heap.size 185 i0 (.agg #[.int .i64 0, .int .i64 0, .slice none 0 0]) 3 40 Tryz.underlying128 hi hz0 hz1 hz2 rfl (by decide) u6 ds.length DC rfl (hown.alloc _) ⟨w2.heap.size, 0, none⟩ 1 1 [.int .i64 mk, .int .i64 un, .slice (some ⟨g, 0, none⟩) nn cap] rfl rfl ?c1 ?c2 (by decide) ?c3 ?c4 ?c5 _ rfl ?_)
            case c1 =>
              intro j u hj
              match j, hj with
              | 0, hj => simp at hj; subst hj; simp [Addr.add]
              | 1, hj => simp at hj; subst hj; simp [Addr.add]
              | 2, hj => simp at hj; subst hj; simp [Addr.add]
            case c2 =>
              intro u hu
              simp at hu
              rcases hu with rfl | rfl | rfl <;> rfl
            case c3 => unfold maxLen; omega
            case c4 => omega
            case c5 => simp; omega
            intro g' cap' w4 h1 h2 h3 h4
            have F : FeedAt w b T (fs ++ [toFr (h' ++ [x])], [], false) (.slice (some ⟨g', 0, none⟩) (ds.length + 1) cap') w4 (ds ++ [⟨toFr (h' ++ [x]), g, cap⟩]) := by
              have hG2 := unhide HG2
              have hR := unhide HR
              have hub : ∀ k, u6.ownBlock = some k → w.heap.size ≤ k ∧ k < wr.heap.size := hR.gave.row.lt
              have hw2 : wr.grownBy w2 (some b) := unhide HGW
              have hw4 : w2.heap[b]? = w4.heap[b]? := by
                rw [h2.block b (by simp; omega) (fun e => by have := hub b e.symm; omega), Below.heap_alloc _ _ _ (by omega)]
              refine ⟨Held.nil, by rw [← hw4]; exact unhide HR2, ?_, ?_, ?_⟩
              · refine hR.gave.push hsz hw2.size (fun k p q => hw2.block k q (fun e => by cases e; omega)) (unhide HO) _ h2 ?_ ?_
                · rw [unhide EDC]
                  simpa [FD.cells, FD.val, unhide E1, unhide E2, unhide EL] using h1
                · rcases h3 with h3 | h3
                  · exact .inl h3.symm
                  · right
                    subst h3
                    rfl
              · simp [hR.fs]
              · have g3 := hR.grown.trans hw2
                refine ⟨h2.os.trans g3.os, h2.tape.trans g3.tape, h2.output.trans g3.output, by have := h2.size; have := g3.size; simp at *; omega, fun k hk hne => ?_⟩
                have := g3.size
                rw [h2.block k (by simp; omega) (fun e => by have := hub k e.symm; omega), Below.heap_alloc _ _ _ (by omega)]
                exact g3.block k hk hne
            clear h1 h2 h3 h4 hown
            go_wp2
            go_roundw
            case rel =>
              refine ⟨k + 1, ds ++ [⟨toFr (h' ++ [x]), g, cap⟩], by omega, by go_num, ?_⟩
              rw [unhide HS, unhide HE]
              exact F
            case measure => simp [intOf]; omega
          · have HE : Hid (stepF (fs, h', false) x = (fs, h' ++ [x], false)) := by show stepF (fs, h', false) x = _; simp [stepF, hf, hw]
            have hw' : wholeL (h' ++ [x]) = false := by simpa using hw
            have HQ := hide (hp.2.1 hw')
            clear HC HX R hrow hd hp hw
            go_wp2_with (first
              | (go_at_call 173; refine (take_good b h' false T x _ (unhide HROW) hl (unhide HD).1 hx.1 hx.2 hf).mono ?_; rintro e w1 ⟨rfl, rfl⟩)
              | (go_at_call 174; refine (isWhole_any b (h' ++ [x]) false T _ (by exact unhide HW) HLn (unhide HBy)).mono ?_; rintro e w1 ⟨rfl, nq, rfl⟩))
            go_roundw
            case rel =>
              refine ⟨k + 1, ds, by omega, by go_num, ?_⟩
              rw [unhide HS, unhide HE]
              exact (unhide HR).set hbl _ false (unhide HQ) (unhide HW) (grown_drewN (grown_setRow _ _ _) _)
            case measure => simp [intOf]; omega
        · have hf' : fitsL h' x = false := by simpa using hf
          have HE : Hid (stepF (fs, h', false) x = (fs, [], true)) := by show stepF (fs, h', false) x = (fs, [], true); simp [stepF, hf]
          have HROW := hide hrow
          have HD := hide hd
          have HW := hide (setRow_heap wr b _ (spl [] true) T (0, 0) hrow)
          have hwl : wholeL [] = false := rfl
          clear HC HX R hf hrow hd
          go_wp2_with (first
            | (go_at_call 173; refine (take_bad b h' false T x _ (unhide HROW) (by omega) (unhide HD).1 hx.1 hx.2 hf').mono ?_; rintro e w1 ⟨rfl, rfl⟩)
            | (go_at_call 174; refine (isWhole_any b [] true T _ (unhide HW) (by simp) Bys.nil).mono ?_; rintro e w1 ⟨rfl, nq, rfl⟩))
          go_roundw
          case rel =>
            refine ⟨k + 1, ds, by omega, by go_num, ?_⟩
            rw [unhide HS, unhide HE]
            exact (unhide HR).set hbl [] true Held.nil (unhide HW) (grown_drewN (grown_setRow _ _ _) _)
          case measure => simp [intOf]; omega
    · have e : xs.take k = xs := List.take_of_length_le (by omega)
      rw [e] at HR c1
      have HP : Hid (∀ v, FeedPost w b T (feedF ([], h, br) xs) (.returned (.tuple #[u6, v])) wr ↔ v = .int .i64 (if (feedF ([], h, br) xs).2.2 = true then 1 else 0)) := by
        intro v
        refine ⟨?_, ?_⟩
        · rintro ⟨v', ds', h1, _⟩
          simp at h1
          exact h1.2
        · rintro rfl
          exact ⟨_, ds, rfl, unhide HR⟩
      clear HC HX R hl
      cases hbr : (feedF ([], h, br) xs).2.2 with
      | true =>
        rw [hbr] at c1 HP
        have HBR := hide hbr
        clear hbr
        go_wp2
        go_ret2
        exact (unhide HP _).2 rfl
      | false =>
        rw [hbr] at c1 HP
        have HBR := hide hbr
        clear hbr
        go_wp2
        go_ret2
        exact (unhide HP _).2 rfl
end Go.Proofs.YtfekelmldebplaaGreatDoor

namespace Go.Proofs.YtfekelmldebplaaGreatDoor
open Go.RowKit

theorem built_some71 : (Tryz.prog.built 181 []).isSome = true := by kernel_rfl
theorem build_new {ops : Array Oper} {rest : List Oper} {o : Oper} {a : Act} {w : World} {Q : Exit → Act → World → Prop} (hg : o.guard = none) (ho : o.op = .build 181 #[])
    (h : wpList Tryz.prog ops Q rest (a.put o.dst (.agg (spl [] false))) w) : wpList Tryz.prog ops Q (o :: rest) a w := by
  have e : ((#[] : Array (Nat × Operand)).map (fun (i, x) => (i, a.eval x))).toList = [] := by simp
  refine wpList_build hg 181 _ ho ?_ ?_
  · rw [e]; exact built_some71
  · rw [e, built_fresh71]; exact h

set_option maxHeartbeats 400000 in
theorem newSplitter_any (w : World) : Calls Tryz.prog 55 #[] w fun e w' => e = .returned (.pointer (some ⟨w.heap.size, 0, none⟩)) ∧ w' = w.alloc (.cells (spl [] false) 181) := by
  go_enter Tryz.func55, Tryz.ntmps55
  go_wp2_with (refine build_new rfl rfl ?_)
  go_ret
  exact ⟨rfl, rfl⟩

set_option maxHeartbeats 400000 in
theorem rfeed_any (b : Nat) (h : List Int) (br : Bool) (T : TypeId) (cb co cc : Nat) (xs : List Int) (w : World) (hb : w.heap[b]? = some (.cells (spl h br) T (0, 0))) (hh : Held h) (hc : ∀ i, i < xs.length → w.cell? ⟨cb, co + i, none⟩ = some (.int .u8 (xs.getD i 0))) (hne : xs = [] ∨ cb < w.heap.size ∧ cb ≠ b)
    (bx : Bys xs) (hm : xs.length ≤ 1000000000) :
    Calls Tryz.prog 82 #[.pointer (some ⟨b, 0, none⟩), .slice (some ⟨cb, co, none⟩) xs.length cc] w fun e w' => FeedPost w b T (feedF ([], h, br) xs) e w' := by
  have HB := hide hb
  have HC := hide hc
  clear hb hc
  go_enter Tryz.func82, Tryz.ntmps82
  go_wp2_with fail
  refine (feed_any b h br T cb co cc xs w (unhide HB) hh (unhide HC) hne bx hm).mono ?_
  rintro e w' ⟨v, ds, rfl, R⟩
  have HR := hide R
  clear R
  generalize hI : (if (feedF ([], h, br) xs).2.2 = true then (1 : Int) else 0) = n
  have HI := hide hI
  clear hI
  go_wp2
  go_ret2
  exact ⟨v, ds, by rw [unhide HI]; rfl, unhide HR⟩
end Go.Proofs.YtfekelmldebplaaGreatDoor
