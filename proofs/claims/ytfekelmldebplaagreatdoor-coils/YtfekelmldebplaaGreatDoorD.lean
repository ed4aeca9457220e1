import Derived.Test.YtfekelmldebplaaGreatDoorB
namespace Go.Proofs.YtfekelmldebplaaGreatDoor
open Go.RowKit

theorem hide {p : Prop} (h : p) : Hid p := h
theorem unhide {p : Prop} (h : Hid p) : p := h

/-- A frame's bytes. -/
def frameL (mark unit : Int) (xs : List Int) : List Int := wd mark ++ [0, 0] ++ wd (xs.length + 1) ++ [unit] ++ xs
theorem frameL_len (mark unit : Int) (xs : List Int) : (frameL mark unit xs).length = 7 + xs.length := by simp [frameL, wd]; omega
theorem frameL_bys {mark unit : Int} {xs : List Int} (h0 : 0 ≤ mark) (h1 : mark ≤ 65535) (h2 : 0 ≤ unit) (h3 : unit ≤ 255) (hx : Bys xs) (hl : xs.length ≤ 253) : Bys (frameL mark unit xs) :=
  ((((Bys.wd h0 h1).append (fun x hx => by simp at hx; omega)).append (Bys.wd (by omega) (by omega))).append (Bys.one h2 (by omega))).append hx

theorem Owns.shape {w : World} {base : Nat} {v : Value} {xs : List Int} (h : Owns w base v xs) (hn : xs ≠ []) : ∃ g cap, v = .slice (some ⟨g, 0, none⟩) xs.length cap ∧ base ≤ g ∧ g < w.heap.size :=
  World.ownsRow.form h (List.length_pos_iff.2 hn)
theorem Lies.shape {w : World} {v : Value} {xs : List Int} (h : Lies w v xs) (hn : xs ≠ []) : ∃ b o c, v = .slice (some ⟨b, o, none⟩) xs.length c ∧ xs.length ≤ c ∧ b < w.heap.size ∧ ∀ i, i < xs.length → w.cell? ⟨b, o + i, none⟩ = some (.int .u8 (xs.getD i 0)) := by
  rcases h with ⟨_, _, _, h⟩ | ⟨b, o, c, hv, hl, hb, hc⟩
  · exact absurd h hn
  · exact ⟨b, o, c, hv, hl, hb.resolve_left hn, hc⟩

theorem flatten_take_succ (l : List (List Int)) (k : Nat) (h : k < l.length) : (l.take (k + 1)).flatten = (l.take k).flatten ++ l.getD k [] := by
  rw [List.take_succ_eq_append_getElem h, List.flatten_append]
  simp [List.getD, List.getElem?_eq_getElem h]
theorem flatten_take_le (l : List (List Int)) (k : Nat) : (l.take k).flatten.length ≤ l.flatten.length := by
  have : l.flatten = (l.take k).flatten ++ (l.drop k).flatten := by rw [← List.flatten_append, List.take_append_drop]
  rw [this]
  simp

set_option maxHeartbeats 800000 in
theorem join_any (L : Nat) (vs : List Value) (xss : List (List Int)) (n : Nat) (w : World) (hL : L < w.heap.size) (hv : vs.length = n) (hx : xss.length = n)
    (hc : ∀ i, i < n → w.cell? ⟨L, i, none⟩ = some (vs.getD i undef)) (hl : ∀ i, i < n → Lies w (vs.getD i undef) (xss.getD i [])) (hne : ∀ i, i < n → xss.getD i [] ≠ []) (hn : n ≤ 1000) (ht : xss.flatten.length ≤ 1000000) :
    Calls Tryz.prog 24 #[.slice (some ⟨L, 0, none⟩) n n] w fun e w' => ∃ v, e = .returned v ∧ Owns w' w.heap.size v xss.flatten ∧ Below w.heap.size w w' := by
  obtain ⟨i0, hi, hz0, hz1, hz2⟩ := info_parts info5
  go_enter Tryz.func24, Tryz.ntmps24
  go_wp2
  go_loopw [3, 4] (fun v i wr => ∃ k : Nat, k ≤ n ∧ i = .int .i64 k ∧ Owns wr w.heap.size v (xss.take k).flatten ∧ Below w.heap.size w wr) (fun _ i _ => n - (intOf i).toNat)
  case atStart => exact ⟨0, Nat.zero_le _, rfl, World.ownsRow_nil _ _ _ _, Below.refl _ _⟩
  case round =>
    obtain ⟨k, hk, rfl, hown, hb⟩ := hrel
    by_cases hlt : k < n
    · have hcx : wr.cell? ⟨L, k, none⟩ = some (vs.getD k undef) := (hb.cell (by exact hL)).trans (hc k hlt)
      obtain ⟨b, o, c, hvk, hlc, hbb, hcc⟩ := ((hl k hlt).below hb).shape (hne k hlt)
      rw [hvk] at hcx
      have HS : Hid ((xss.take (k + 1)).flatten = (xss.take k).flatten ++ xss.getD k []) := flatten_take_succ xss k (by omega)
      have hle := flatten_take_le xss (k + 1)
      rw [HS.out, List.length_append] at hle
      have hpos : 0 < (xss.getD k []).length := List.length_pos_iff.2 (hne k hlt)
      generalize xss.getD k [] = ys at *
      generalize (xss.take k).flatten = acc at *
      have hsz := hb.size
      have hown' := hown
      unfold Owns at hown'
      have HC := hide hcc
      have HV := hide hvk
      clear hcc hvk hown hc hl hne
      go_wp2_with (at_builtin; refine wpList_append_own _ rfl _ _ 37 rfl w.heap.size 5 i0 (.int .u8 0) 1 1 Tryz.underlying37 hi hz0 hz1 hz2 rfl (by decide) _ _ _ rfl hown' ⟨b, o, none⟩ ys.length c (ys.map (Value.int .u8)) rfl (by simp) (news_lies (unhide HC)) (one_bytes _) (by unfold maxLen; omega) (by omega) (by omega) ?_)
      intro v' w1 h1 h2 _
      have hb' : Below w.heap.size w w1 := hb.grown h2 hsz (fun k hk => (hown'.lt k hk).1)
      have ho' : Owns w1 w.heap.size v' (acc ++ ys) := by unfold Owns; simpa using h1
      clear h1 h2 hown' hcx HC HV
      go_wp2
      go_roundw
      case rel => exact ⟨k + 1, by omega, by go_num, by rw [HS.out]; exact ho', hb'⟩
      case measure => simp [intOf]; omega
    · go_wp2
      go_ret
      exact ⟨_, rfl, by rw [List.take_of_length_le (by omega)] at hown; exact hown, hb⟩
end Go.Proofs.YtfekelmldebplaaGreatDoor

namespace Go.Proofs.YtfekelmldebplaaGreatDoor
open Go.RowKit

theorem lies_block {w : World} {k : Nat} {cs : Array Value} {fr : Nat × Nat} (h : w.heap[k]? = some (.cells cs 5 fr)) (xs : List Int) (hx : cs.toList = xs.map (Value.int .u8)) : Lies w (.slice (some ⟨k, 0, none⟩) xs.length xs.length) xs := by
  refine .inr ⟨k, 0, xs.length, rfl, Nat.le_refl _, .inr (Array.getElem?_eq_some_iff.1 h).1, fun i hi => ?_⟩
  rw [cell_of_row _ _ _ _ _ _ h, ← Array.getElem?_toList, hx]
  simp [List.getD, List.getElem?_eq_getElem hi]

/-- What 'framed' hands to 'join', and in which world. -/
def joinW (w : World) (A B C D E : Obj) : World := ((((w.alloc A).alloc B).alloc C).alloc D).alloc E
theorem joinW_at (w : World) (A B C D E : Obj) : (joinW w A B C D E).heap[w.heap.size]? = some A ∧ (joinW w A B C D E).heap[w.heap.size + 1]? = some B ∧ (joinW w A B C D E).heap[w.heap.size + 1 + 1]? = some C ∧
    (joinW w A B C D E).heap[w.heap.size + 1 + 1 + 1]? = some D ∧ (joinW w A B C D E).heap[w.heap.size + 1 + 1 + 1 + 1]? = some E ∧ (joinW w A B C D E).heap.size = w.heap.size + 5 ∧ Below w.heap.size w (joinW w A B C D E) := by
  have e : (joinW w A B C D E).heap = ((((w.heap.push A).push B).push C).push D).push E := rfl
  refine ⟨?_, ?_, ?_, ?_, ?_, ?_, ?_⟩
  · rw [e]; simp only [Array.getElem?_push, Array.size_push]; rw [if_neg (by omega), if_neg (by omega), if_neg (by omega), if_neg (by omega), if_pos trivial]
  · rw [e]; simp only [Array.getElem?_push, Array.size_push]; rw [if_neg (by omega), if_neg (by omega), if_neg (by omega), if_pos trivial]
  · rw [e]; simp only [Array.getElem?_push, Array.size_push]; rw [if_neg (by omega), if_neg (by omega), if_pos trivial]
  · rw [e]; simp only [Array.getElem?_push, Array.size_push]; rw [if_neg (by omega), if_pos trivial]
  · rw [e]; simp only [Array.getElem?_push, Array.size_push]; rw [if_pos trivial]
  · rw [e]; simp
  · exact (((((Below.refl _ _).alloc (Nat.le_refl _) _).alloc (by simp) _).alloc (by simp; omega) _).alloc (by simp; omega) _).alloc (by simp; omega) _

theorem join5 (mark unit : Int) (b o c : Nat) (xs : List Int) (w : World) (h : Lies w (.slice (some ⟨b, o, none⟩) xs.length c) xs) (hp : xs ≠ []) (hl : xs.length ≤ 253) :
    Calls Tryz.prog 24 #[.slice (some ⟨w.heap.size + 1 + 1 + 1 + 1, 0, none⟩) 5 5]
      (((((w.alloc (.cells #[.int .u8 (mark / 256), .int .u8 (mark % 256)] 5)).alloc (.cells #[.int .u8 0, .int .u8 0] 5)).alloc (.cells #[.int .u8 (((xs.length : Int) + 1) / 256), .int .u8 (((xs.length : Int) + 1) % 256)] 5)).alloc (.cells #[.int .u8 unit] 5)).alloc
        (.cells #[.slice (some ⟨w.heap.size, 0, none⟩) 2 2, .slice (some ⟨w.heap.size + 1, 0, none⟩) 2 2, .slice (some ⟨w.heap.size + 1 + 1, 0, none⟩) 2 2, .slice (some ⟨w.heap.size + 1 + 1 + 1, 0, none⟩) 1 1, .slice (some ⟨b, o, none⟩) xs.length c] 37))
      fun e w' => ∃ v', e = .returned v' ∧ Owns w' w.heap.size v' (frameL mark unit xs) ∧ Below w.heap.size w w' := by
  obtain ⟨a1, a2, a3, a4, a5, hs, hb⟩ := joinW_at w (.cells #[.int .u8 (mark / 256), .int .u8 (mark % 256)] 5) (.cells #[.int .u8 0, .int .u8 0] 5) (.cells #[.int .u8 (((xs.length : Int) + 1) / 256), .int .u8 (((xs.length : Int) + 1) % 256)] 5) (.cells #[.int .u8 unit] 5)
    (.cells #[.slice (some ⟨w.heap.size, 0, none⟩) 2 2, .slice (some ⟨w.heap.size + 1, 0, none⟩) 2 2, .slice (some ⟨w.heap.size + 1 + 1, 0, none⟩) 2 2, .slice (some ⟨w.heap.size + 1 + 1 + 1, 0, none⟩) 1 1, .slice (some ⟨b, o, none⟩) xs.length c] 37)
  refine (join_any (w.heap.size + 1 + 1 + 1 + 1) [.slice (some ⟨w.heap.size, 0, none⟩) 2 2, .slice (some ⟨w.heap.size + 1, 0, none⟩) 2 2, .slice (some ⟨w.heap.size + 1 + 1, 0, none⟩) 2 2, .slice (some ⟨w.heap.size + 1 + 1 + 1, 0, none⟩) 1 1, .slice (some ⟨b, o, none⟩) xs.length c]
    [wd mark, [0, 0], wd (xs.length + 1), [unit], xs] 5 (joinW w _ _ _ _ _) (by rw [hs]; omega) rfl rfl ?_ ?_ ?_ (by omega) (by simp [wd]; omega)).mono ?_
  · intro i hi
    rw [cell_of_row _ _ _ _ _ _ a5]
    match i, hi with
    | 0, _ => rfl
    | 1, _ => rfl
    | 2, _ => rfl
    | 3, _ => rfl
    | 4, _ => rfl
  · intro i hi
    match i, hi with
    | 0, _ => exact lies_block a1 (wd mark) rfl
    | 1, _ => exact lies_block a2 [0, 0] rfl
    | 2, _ => exact lies_block a3 (wd (xs.length + 1)) rfl
    | 3, _ => exact lies_block a4 [unit] rfl
    | 4, _ => exact h.below hb
  · intro i hi
    match i, hi with
    | 0, _ => simp [wd]
    | 1, _ => simp
    | 2, _ => simp [wd]
    | 3, _ => simp
    | 4, _ => exact hp
  · rintro e w' ⟨v, rfl, ho, hb'⟩
    refine ⟨v, rfl, ?_, hb.trans (hb'.mono (by rw [hs]; omega))⟩
    have e : [wd mark, [0, 0], wd (xs.length + 1), [unit], xs].flatten = frameL mark unit xs := by simp [frameL]
    rw [e] at ho
    rcases ho with ⟨h1, h2⟩
    refine ⟨h1, h2.imp id ?_⟩
    rintro ⟨g, cap, cur, p1, p2, p3⟩
    exact ⟨g, cap, cur, p1, by omega, p3⟩

set_option maxHeartbeats 800000 in
theorem framed_any (mark unit : Int) (v : Value) (xs : List Int) (w : World) (h0 : 0 ≤ mark) (h1 : mark ≤ 65535) (h2 : 0 ≤ unit) (h3 : unit ≤ 255) (h : Lies w v xs) (hp : 0 < xs.length) (hl : xs.length ≤ 253) :
    Calls Tryz.prog 37 #[.int .i64 mark, .int .i64 unit, v] w fun e w' => ∃ v', e = .returned v' ∧ Owns w' w.heap.size v' (frameL mark unit xs) ∧ Below w.heap.size w w' := by
  have hne : xs ≠ [] := List.length_pos_iff.1 hp
  obtain ⟨b, o, c, rfl, hlc, hbb, hcc⟩ := h.shape hne
  have HL := hide h
  have HN := hide hne
  clear hcc h hne
  go_enter Tryz.func37, Tryz.ntmps37
  go_wp2_with fail
  refine (word_any mark _ h0 h1).mono ?_
  rintro e w1 ⟨rfl, rfl⟩
  go_wp2_with fail
  refine (word_any _ _ (by omega) (by omega)).mono ?_
  rintro e w2 ⟨rfl, rfl⟩
  go_wp2_with fail
  refine (join5 mark unit b o c xs w (unhide HL) (unhide HN) hl).mono ?_
  rintro e w' ⟨v, rfl, ho, hb⟩
  go_wp2
  go_ret
  exact ⟨v, rfl, ho, hb⟩

theorem makes (n : Nat) (hn : n ≤ 1000000) (u : World) : (Instr.makeSlice 37 (.int .i64 0) (.int .i64 (n : Int))).run Tryz.prog u =
      .ok (.slice (some ⟨u.heap.size, 0, none⟩) 0 n) (u.alloc (.cells (madeCells #[.int .u8 0] n) 5)) := by
  obtain ⟨i0, hi, hz0, hz1, hz2⟩ := info_parts info5
  have h := run_make (P := Tryz.prog) u 37 5 i0 (.int .u8 0) Tryz.underlying37 hi hz0 .i64 .i64 0 (n : Int) (by omega) (by omega) (by rw [hz2]; omega) (by omega)
  simpa [hz1, Value.cells] using h

theorem Below.ofGrown {B g : Nat} {w0 w w' : World} (h : Below B w0 w) (hg : w.grownBy w' (some g)) (hB : B ≤ w.heap.size) (hr : B ≤ g) : Below B w0 w' := h.grown hg hB (fun k e => by cases e; exact hr)

set_option maxHeartbeats 1600000 in
theorem encode_any (mark unit : Int) (v : Value) (xs : List Int) (w : World) (h0 : 0 ≤ mark) (h1 : mark ≤ 65535) (h2 : 0 ≤ unit) (h3 : unit ≤ 255) (h : Lies w v xs) (hp : 0 < xs.length) (hl : xs.length ≤ 253) :
    Calls Tryz.prog 79 #[.int .i64 mark, .int .i64 unit, v] w fun e w' => ∃ v', e = .returned (.tuple #[v', .int .i64 0]) ∧ Owns w' w.heap.size v' (frameL mark unit xs) ∧ Below w.heap.size w w' := by
  obtain ⟨i0, hi, hz0, hz1, hz2⟩ := info_parts info5
  have HL := hide h
  have hne : xs ≠ [] := List.length_pos_iff.1 hp
  obtain ⟨b, o, c, rfl, hlc, hbb, hcc⟩ := h.shape hne
  have b1 : inB 0 mark 65535 = true := inB_true h0 h1
  have b2 : inB 0 unit 255 = true := inB_true h2 h3
  have b3 : inB 2 ((xs.length : Int) + 1) 254 = true := inB_true (by omega) (by omega)
  have hmk : ∀ u : World, (Instr.makeSlice 37 (.int .i64 0) (.int .i64 (6 + ((xs.length : Int) + 1)))).run Tryz.prog u = .ok (.slice (some ⟨u.heap.size, 0, none⟩) 0 (xs.length + 7)) (u.alloc (.cells (madeCells #[.int .u8 0] (xs.length + 7)) 5)) := fun u => by
    rw [show (6 + ((xs.length : Int) + 1)) = ((xs.length + 7 : Nat) : Int) by omega]
    exact makes _ (by omega) u
  have HN := hide hne
  clear hcc h hne
  have o0 : Owns (w.alloc (.cells (madeCells #[.int .u8 0] (xs.length + 7)) 5)) w.heap.size (.slice (some ⟨w.heap.size, 0, none⟩) 0 (xs.length + 7)) [] := World.ownsRow_made w _ _ (Nat.le_refl _) (by unfold maxLen; omega) (by rw [size_madeCells]; omega)
  have q0 : Below w.heap.size w (w.alloc (.cells (madeCells #[.int .u8 0] (xs.length + 7)) 5)) := (Below.refl _ _).alloc (Nat.le_refl _) _
  have O0 := hide o0
  clear o0
  go_enter Tryz.func79, Tryz.ntmps79
  go_wp2_with (go_at_call 137; refine (within_any _ _ _ _).mono ?_; rintro e w ⟨rfl, rfl⟩)
  refine (appendWord_any _ 0 _ [] _ mark _ h0 h1 rfl (unhide O0) (by omega)).mono ?_
  rintro e w1 ⟨rfl, o1, g1⟩
  have q1 := Below.ofGrown q0 g1 (by simp) (Nat.le_refl _)
  have O1 := hide o1
  clear o1 q0 g1
  go_wp2_with fail
  refine (appendWord_any _ 2 _ (wd mark) _ 0 _ (by omega) (by omega) rfl (unhide O1) (by omega)).mono ?_
  rintro e w2 ⟨rfl, o2, g2⟩
  have q2 := Below.ofGrown q1 g2 q1.size (Nat.le_refl _)
  have O2 := hide o2
  clear o2 q1 g2
  go_wp2_with fail
  refine (appendWord_any _ 4 _ (wd mark ++ wd 0) _ _ _ (by omega) (by omega) rfl (unhide O2) (by omega)).mono ?_
  rintro e w3 ⟨rfl, o3, g3⟩
  have q3 := Below.ofGrown q2 g3 q2.size (Nat.le_refl _)
  clear q2 g3
  have eA : wd mark ++ wd 0 ++ wd ((xs.length : Int) + 1) ++ [unit] ++ xs = frameL mark unit xs := by simp [frameL, wd]
  have lA : (wd mark ++ wd 0 ++ wd ((xs.length : Int) + 1)).length = 6 := rfl
  generalize wd mark ++ wd 0 ++ wd ((xs.length : Int) + 1) = A at o3 eA lA
  unfold Owns at o3
  rw [lA] at o3
  have EA := hide eA
  have LA := hide lA
  clear eA lA O0 O1 O2
  generalize eV : A.map (Value.int .u8) = AV at o3
  have EV := hide eV
  clear eV
  have z3 := q3.size
  have z4 := (o3.lt _ rfl).2
  go_wp2_with (at_builtin; refine wpList_append_own_spare _ rfl (.tmp 37) (.tmp 40) 37 rfl w.heap.size 5 i0 1 Tryz.underlying37 hi hz1 w.heap.size 6 (xs.length + 7) AV rfl (o3.alloc _) ⟨w3.heap.size, 0, none⟩ 1 1 ([unit].map (Value.int .u8)) rfl rfl ?c1 (one_bytes _) (by omega) ?_)
  case c1 =>
    intro j u hj
    match j, hj with
    | 0, hj => simp at hj; subst hj; simp [Addr.add]
  intro w4 o4 g4
  have q4 := Below.ofGrown (q3.alloc z3 _) g4 (by simp; omega) (Nat.le_refl _)
  have l4 := (unhide HL).below q4
  clear o3 g4
  obtain ⟨b', o', c', e5, _, _, hcc⟩ := l4.shape (unhide HN)
  obtain ⟨⟨rfl, rfl⟩, rfl⟩ : (b = b' ∧ o = o') ∧ c = c' := by simpa using e5
  have HC := hide hcc
  clear hcc l4 e5
  go_wp2_with (at_builtin; refine wpList_append_own_spare _ rfl (.tmp 42) (.tmp 43) 37 rfl w.heap.size 5 i0 1 Tryz.underlying37 hi hz1 w.heap.size 7 (xs.length + 7) (AV ++ [.int .u8 unit]) rfl o4 ⟨b, o, none⟩ xs.length c (xs.map (Value.int .u8)) rfl (by simp) (news_lies (unhide HC)) (one_bytes _) (by omega) ?_)
  intro w5 o5 g5
  have q5 := Below.ofGrown q4 g5 q4.size (Nat.le_refl _)
  have F : Owns w5 w.heap.size (.slice (some ⟨w.heap.size, 0, none⟩) (7 + xs.length) (xs.length + 7)) (frameL mark unit xs) := by
    unfold Owns
    rw [frameL_len, ← unhide EA]
    simpa [unhide EV] using o5
  clear o5 o4 g5 q4 HC HL
  go_wp2
  go_ret2
  exact ⟨_, rfl, F, q5⟩

set_option maxHeartbeats 400000 in
theorem frame_any (mark unit : Int) (v : Value) (xs : List Int) (w : World) (h0 : 0 ≤ mark) (h1 : mark ≤ 65535) (h2 : 0 ≤ unit) (h3 : unit ≤ 255) (h : Lies w v xs) (hp : 0 < xs.length) (hl : xs.length ≤ 253) :
    Calls Tryz.prog 51 #[.int .i64 mark, .int .i64 unit, v] w fun e w' => ∃ v', e = .returned (.tuple #[v', .int .i64 0]) ∧ Owns w' w.heap.size v' (frameL mark unit xs) ∧ Below w.heap.size w w' := by
  go_enter Tryz.func51, Tryz.ntmps51
  go_wp2_with fail
  refine (encode_any mark unit v xs w h0 h1 h2 h3 h hp hl).mono ?_
  rintro e w' ⟨v', rfl, ho, hb⟩
  go_wp2
  go_ret2
  exact ⟨v', rfl, ho, hb⟩
end Go.Proofs.YtfekelmldebplaaGreatDoor
