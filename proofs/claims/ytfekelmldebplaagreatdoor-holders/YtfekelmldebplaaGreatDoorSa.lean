import Derived.Test.YtfekelmldebplaaGreatDoorN
namespace Go.Proofs.YtfekelmldebplaaGreatDoor
open Go.RowKit

/-! ### Splits: the leaves -/
/-- May it be a frame? -/
def frameOk (mark unit : Int) (n : Nat) : Bool := inB 0 mark 65535 && inB 0 unit 255 && inB 2 ((n : Int) + 1) 254
theorem frameOk_iff {mark unit : Int} {n : Nat} : frameOk mark unit n = true ↔ (0 ≤ mark ∧ mark ≤ 65535) ∧ (0 ≤ unit ∧ unit ≤ 255) ∧ 1 ≤ n ∧ n ≤ 253 := by
  simp only [frameOk, Bool.and_eq_true, inB_iff]
  omega

set_option maxHeartbeats 800000 in
theorem encode_err (mark unit : Int) (a : Option Addr) (n c : Nat) (w : World) (hn : n ≤ 140737488355328) (h : frameOk mark unit n = false) :
    Calls Tryz.prog 79 #[.int .i64 mark, .int .i64 unit, .slice a n c] w fun e w' => e = .returned (.tuple #[.slice none 0 0, .int .i64 1]) ∧ w' = w := by
  unfold frameOk at h
  by_cases b1 : inB 0 mark 65535 = true
  · by_cases b2 : inB 0 unit 255 = true
    · have b3 : inB 2 ((n : Int) + 1) 254 = false := by simpa [b1, b2] using h
      clear h
      go_enter Tryz.func79, Tryz.ntmps79
      go_wp2_with (go_at_call 137; refine (within_any _ _ _ _).mono ?_; rintro e w ⟨rfl, rfl⟩)
      go_ret2
      exact ⟨rfl, rfl⟩
    · have b2' : inB 0 unit 255 = false := by simpa using b2
      clear h b2
      go_enter Tryz.func79, Tryz.ntmps79
      go_wp2_with (go_at_call 137; refine (within_any _ _ _ _).mono ?_; rintro e w ⟨rfl, rfl⟩)
      go_ret2
      exact ⟨rfl, rfl⟩
  · have b1' : inB 0 mark 65535 = false := by simpa using b1
    clear h b1
    go_enter Tryz.func79, Tryz.ntmps79
    go_wp2_with (go_at_call 137; refine (within_any _ _ _ _).mono ?_; rintro e w ⟨rfl, rfl⟩)
    go_ret2
    exact ⟨rfl, rfl⟩

set_option maxHeartbeats 400000 in
theorem frame_err (mark unit : Int) (a : Option Addr) (n c : Nat) (w : World) (hn : n ≤ 140737488355328) (h : frameOk mark unit n = false) :
    Calls Tryz.prog 51 #[.int .i64 mark, .int .i64 unit, .slice a n c] w fun e w' => e = .returned (.tuple #[.slice none 0 0, .int .i64 1]) ∧ w' = w := by
  go_enter Tryz.func51, Tryz.ntmps51
  go_wp2_with fail
  refine (encode_err mark unit a n c w hn h).mono ?_
  rintro e w' ⟨rfl, rfl⟩
  go_wp2
  go_ret2
  exact ⟨rfl, rfl⟩

set_option maxHeartbeats 400000 in
theorem rword_any (n : Int) (w : World) (h0 : 0 ≤ n) (h1 : n ≤ 65535) :
    Calls Tryz.prog 80 #[.int .i64 n] w fun e w' => e = .returned (.slice (some ⟨w.heap.size, 0, none⟩) 2 2) ∧ w' = w.alloc (.cells #[.int .u8 (n / 256), .int .u8 (n % 256)] 5) := by
  go_enter Tryz.func80, Tryz.ntmps80
  go_wp2
  go_ret
  exact ⟨rfl, rfl⟩

set_option maxHeartbeats 400000 in
theorem lpick_any (c n : Int) (w : World) (h0 : 0 < n) (hn : n ≤ 4611686018427387904) (c0 : -9223372036854775808 ≤ c) (c1 : c ≤ 9223372036854775807) :
    Calls Tryz.prog 59 #[.int .i64 c, .int .i64 n] w fun e w' => e = .returned (.int .i64 (pickI c n)) ∧ w' = w := by
  by_cases h1 : c < 0
  · go_enter Tryz.func59, Tryz.ntmps59
    go_wp2
    go_ret
    exact ⟨ret_int (by unfold pickI; rw [if_pos h1]; rw [← Int.neg_tmod]; exact Int.tmod_eq_emod_of_nonneg (a := -(c + 1)) (by omega)), rfl⟩
  · go_enter Tryz.func59, Tryz.ntmps59
    go_wp2
    go_ret
    exact ⟨ret_int (by unfold pickI; rw [if_neg (by omega)]), rfl⟩

set_option maxHeartbeats 800000 in
theorem at_any (b o n c i : Nat) (x y : Int) (w : World) (hi : i + 1 < n) (hn : n ≤ 140737488355328) (hx : w.cell? ⟨b, o + i, none⟩ = some (.int .u8 x)) (hy : w.cell? ⟨b, o + (i + 1), none⟩ = some (.int .u8 y)) (bx : 0 ≤ x ∧ x < 256) (by_ : 0 ≤ y ∧ y < 256) :
    Calls Tryz.prog 176 #[.slice (some ⟨b, o, none⟩) n c, .int .i64 i] w fun e w' => e = .returned (.int .i64 (256 * x + y)) ∧ ∃ nq, w' = w.drewN nq := by
  have h1 : (i : Int) < (n : Int) := by omega
  have h2 : (i : Int) + 1 < (n : Int) := by omega
  go_enter Tryz.func176, Tryz.ntmps176
  go_wp2_with fail
  go_quiet (fail)
  go_wp2
  go_ret
  exact ⟨rfl, _, rfl⟩

theorem cells2 (w : World) (x y : Value) : ∀ (j : Nat) (u : Value), [x, y][j]? = some u → (w.alloc (.cells #[x, y] 5)).cell? ((⟨w.heap.size, 0, none⟩ : Addr).add j) = some u := fun j u hj => by
  have e : (⟨w.heap.size, 0, none⟩ : Addr).add j = ⟨w.heap.size, 0 + j, none⟩ := by unfold Addr.add; split <;> simp_all
  rw [e, Nat.zero_add, cell_of_row _ _ _ _ _ _ (heap_alloc_new w _)]
  simpa using hj
theorem cells1 (w : World) (x : Value) : ∀ (j : Nat) (u : Value), [x][j]? = some u → (w.alloc (.cells #[x] 5)).cell? ((⟨w.heap.size, 0, none⟩ : Addr).add j) = some u := fun j u hj => by
  have e : (⟨w.heap.size, 0, none⟩ : Addr).add j = ⟨w.heap.size, 0 + j, none⟩ := by unfold Addr.add; split <;> simp_all
  rw [e, Nat.zero_add, cell_of_row _ _ _ _ _ _ (heap_alloc_new w _)]
  simpa using hj
theorem one_of {l : List Int} {vs : List Value} (h : vs = l.map (Value.int .u8)) : ∀ u ∈ vs, u.oneCell' = true := by rw [h]; exact one_bytes l

/-- One append more, of bytes that the call owns. -/
theorem Owns.more {w w1 w2 : World} {B : Nat} {v v' : Value} {xs ys : List Int} (hb : Below B w w1) (hz : B ≤ w1.heap.size) (ho : Owns w1 B v xs) (hg : w1.grownBy w2 v.ownBlock) (hr : w2.ownsRow B 5 1 v' (xs.length + ys.length) (xs.map (Value.int .u8) ++ ys.map (Value.int .u8))) :
    Owns w2 B v' (xs ++ ys) ∧ Below B w w2 ∧ B ≤ w2.heap.size := by
  refine ⟨by unfold Owns; simpa using hr, hb.grown hg hz (fun k hk => (World.ownsRow.lt ho k hk).1), Nat.le_trans hz hg.size⟩

/-- append of bytes to bytes that the call owns: one law for this program. -/
theorem append_bytes {ops : Array Oper} {rest : List Oper} {o : Oper} {a : Act} {Q : Exit → Act → World → Prop} (w1 : World) (hgd : o.guard = none) (s x : Operand)
    (ho : o.op = .call { callee := .builtin .append, args := #[s, x], argTypes := #[37, 37] }) (B : Nat) (w : World) (v : Value) (xs ys : List Int) (hs : a.eval s = v) (hown : Owns w1 B v xs) (hb : Below B w w1) (hz : B ≤ w1.heap.size)
    (b o' c : Nat) (hx : a.eval x = .slice (some ⟨b, o', none⟩) ys.length c) (hc : ∀ i, i < ys.length → w1.cell? ⟨b, o' + i, none⟩ = some (.int .u8 (ys.getD i 0))) (hlen : xs.length + ys.length ≤ 100000000000)
    (h : ∀ v' w', Owns w' B v' (xs ++ ys) → Below B w w' → B ≤ w'.heap.size → wpList Tryz.prog ops Q rest (a.put o.dst v') w') : wpList Tryz.prog ops Q (o :: rest) a w1 := by
  obtain ⟨i0, hi, hz0, hz1, hz2⟩ := info_parts info5
  refine wpList_append_own w1 hgd s x 37 ho B 5 i0 (.int .u8 0) 1 1 Tryz.underlying37 hi hz0 hz1 hz2 rfl (by decide) v xs.length (xs.map (Value.int .u8)) hs hown ⟨b, o', none⟩ ys.length c (ys.map (Value.int .u8)) hx (by simp) (news_lies hc) (one_bytes _) (by unfold maxLen; omega) (by omega) hz ?_
  intro v' w' r g _
  obtain ⟨h1, h2, h3⟩ := Owns.more (ys := ys) hb hz hown g r
  exact h v' w' h1 h2 h3

theorem new_cells (w : World) (cs : Array Value) (ys : List Int) (h : cs.toList = ys.map (Value.int .u8)) : ∀ i, i < ys.length → (w.alloc (.cells cs 5)).cell? ⟨w.heap.size, 0 + i, none⟩ = some (.int .u8 (ys.getD i 0)) := fun i hi => by
  rw [Nat.zero_add, cell_of_row _ _ _ _ _ _ (heap_alloc_new w _), ← Array.getElem?_toList, h]
  simp [List.getD, List.getElem?_eq_getElem hi]

set_option maxRecDepth 100000 in
set_option maxHeartbeats 1600000 in
theorem rframe_any (mark unit : Int) (v : Value) (xs : List Int) (w : World) (h0 : 0 ≤ mark) (h1 : mark ≤ 65535) (h2 : 0 ≤ unit) (h3 : unit ≤ 255) (h : Lies w v xs) (hp : 0 < xs.length) (hl : xs.length ≤ 253) :
    Calls Tryz.prog 53 #[.int .i64 mark, .int .i64 unit, v] w fun e w' => ∃ v', e = .returned (.tuple #[v', .int .i64 0]) ∧ Owns w' w.heap.size v' (frameL mark unit xs) ∧ Below w.heap.size w w' := by
  have hne : xs ≠ [] := List.length_pos_iff.1 hp
  obtain ⟨b, o, c, rfl, hlc, hbb, hcc⟩ := h.shape hne
  have HL := hide h
  have HN := hide hne
  have HF : Hid (wd mark ++ [0, 0] ++ wd ((xs.length : Int) + 1) ++ [unit] ++ xs = frameL mark unit xs) := rfl
  have l1 : (wd mark).length = 2 := rfl
  clear hcc h hne
  go_enter Tryz.func53, Tryz.ntmps53
  go_wp2_with fail
  refine (rword_any mark _ h0 h1).mono ?_
  rintro e w1 ⟨rfl, rfl⟩
  have Q1 := hide ((Below.refl w.heap.size w).alloc (Nat.le_refl _) (.cells #[.int .u8 (mark / 256), .int .u8 (mark % 256)] 5))
  go_wp2_with (at_builtin; refine append_bytes _ rfl (.tmp 33) (.tmp 35) rfl w.heap.size w _ [] (wd mark) rfl (World.ownsRow_nil _ _ _ _) (unhide Q1) (by simp) w.heap.size 0 2 rfl (new_cells w _ (wd mark) rfl) (by simp [wd]) ?_)
  intro v2 w2 o2 q2 z2
  have O2 := hide o2
  have Q2 := hide (q2.alloc z2 (.cells #[.int .u8 0, .int .u8 0] 5))
  clear o2 q2 Q1
  go_wp2_with (at_builtin; refine append_bytes _ rfl (.tmp 37) (.tmp 38) rfl w.heap.size w v2 (wd mark) [0, 0] rfl (World.ownsRow.alloc (unhide O2) _) (unhide Q2) (by simp; omega) w2.heap.size 0 2 rfl (new_cells w2 _ [0, 0] rfl) (by simp [wd]) ?_)
  intro v3 w3 o3 q3 z3
  have O3 : Hid (Owns w3 w.heap.size v3 (wd mark ++ [0, 0])) := hide (by simpa using o3)
  have Q3 := hide q3
  clear o3 q3 O2 Q2
  go_wp2_with fail
  refine (rword_any _ _ (by omega) (by omega)).mono ?_
  rintro e w4 ⟨rfl, rfl⟩
  have Q4 := hide ((unhide Q3).alloc z3 (.cells #[.int .u8 (((xs.length : Int) + 1) / 256), .int .u8 (((xs.length : Int) + 1) % 256)] 5))
  go_wp2_with (at_builtin; (refine append_bytes _ rfl (.tmp 40) (.tmp 44) rfl w.heap.size w v3 (wd mark ++ [0, 0]) (wd ((xs.length : Int) + 1)) rfl (World.ownsRow.alloc (unhide O3) _) (unhide Q4) (by simp; omega) w3.heap.size 0 2 rfl (new_cells w3 _ (wd ((xs.length : Int) + 1)) rfl) (by simp [wd]) ?_))
  intro v5 w5 o5 q5 z5
  have O5 : Hid (Owns w5 w.heap.size v5 (wd mark ++ [0, 0] ++ wd ((xs.length : Int) + 1))) := hide (by simpa using o5)
  have Q5 := hide (q5.alloc z5 (.cells #[.int .u8 unit] 5))
  clear o5 q5 O3 Q3 Q4
  go_wp2_with (at_builtin; (refine append_bytes _ rfl (.tmp 46) (.tmp 49) rfl w.heap.size w v5 (wd mark ++ [0, 0] ++ wd ((xs.length : Int) + 1)) [unit] rfl (World.ownsRow.alloc (unhide O5) _) (unhide Q5) (by simp; omega) w5.heap.size 0 1 rfl (new_cells w5 _ [unit] rfl) (by simp [wd]) ?_))
  intro v6 w6 o6 q6 z6
  obtain ⟨b', o', c', e6, _, _, hc6⟩ := ((unhide HL).below q6).shape (unhide HN)
  obtain ⟨⟨rfl, rfl⟩, rfl⟩ : (b = b' ∧ o = o') ∧ c = c' := by simpa using e6
  have HC6 := hide hc6
  have O6 : Hid (Owns w6 w.heap.size v6 (wd mark ++ [0, 0] ++ wd ((xs.length : Int) + 1) ++ [unit])) := hide (by simpa using o6)
  have Q6 := hide q6
  clear o6 q6 O5 Q5 e6 hc6
  go_wp2_with (at_builtin; refine append_bytes _ rfl (.tmp 51) (.tmp 52) rfl w.heap.size w v6 (wd mark ++ [0, 0] ++ wd ((xs.length : Int) + 1) ++ [unit]) xs rfl (unhide O6) (unhide Q6) z6 b o c rfl (unhide HC6) (by simp [wd]; omega) ?_)
  intro v7 w7 o7 q7 _
  have O7 : Hid (Owns w7 w.heap.size v7 (frameL mark unit xs)) := hide (by rw [← unhide HF]; simpa using o7)
  have Q7 := hide q7
  clear o7 q7 O6 Q6 HC6
  go_wp2
  go_ret2
  exact ⟨v7, rfl, unhide O7, unhide Q7⟩
end Go.Proofs.YtfekelmldebplaaGreatDoor
