import Derived.Test.YtfekelmldebplaaGreatDoorSk
namespace Go.Proofs.YtfekelmldebplaaGreatDoor
open Go.RowKit

/-- A rule. -/
structure Rule where
  t : Int
  lo : Int
  hi : Int
  r : Bool
  w : Bool
def Rule.cells (x : Rule) : Array Value := #[.int .i64 x.t, .int .i64 x.lo, .int .i64 x.hi, .bool x.r, .bool x.w]
def Rule.bad (x : Rule) : Bool := decide (x.t < 0) || (decide (4 ≤ x.t) || (decide (x.lo < 0) || (decide (x.hi < x.lo) || decide (65535 < x.hi))))

/-- Rules, as they lie under a slice. -/
def ListAt (w : World) (v : Value) (rs : List Rule) : Prop := ∃ a c, v = .slice a rs.length c ∧ (rs = [] ∨ ∃ b o, a = some ⟨b, o, none⟩ ∧ b < w.heap.size ∧ ∀ (i : Nat) x, rs[i]? = some x → ∀ (j : Nat) u, x.cells[j]? = some u → w.cell? ⟨b, o + i * 5 + j, none⟩ = some u)

/-- Lists of rules, as they lie under a slice. -/
def ListsAt (w : World) (v : Value) (LL : List (List Rule)) : Prop := ∃ a c, v = .slice a LL.length c ∧ (LL = [] ∨ ∃ b o, a = some ⟨b, o, none⟩ ∧ b < w.heap.size ∧ ∀ (i : Nat) rs, LL[i]? = some rs → ∃ u, w.cell? ⟨b, o + i, none⟩ = some u ∧ ListAt w u rs)

theorem info66s : (Tryz.prog.info? 52).map (fun i => (i.zero, i.size, i.bytes)) = some (some (.agg #[.int .i64 0, .int .i64 0, .int .i64 0, .bool false, .bool false]), 5, 32) := by kernel_rfl
theorem rules_cells (rs : List Rule) : (rs.flatMap fun x => x.cells.toList).length = rs.length * 5 := by
  induction rs with
  | nil => rfl
  | cons x rs ih => simp [Rule.cells] at ih ⊢; omega
theorem rules_get (rs : List Rule) : ∀ (i j : Nat) (x : Rule), rs[i]? = some x → j < 5 → (rs.flatMap fun x => x.cells.toList)[i * 5 + j]? = x.cells[j]? := by
  induction rs with
  | nil => intro i j x h; simp at h
  | cons y rs ih =>
    intro i j x h hj
    have hy : y.cells.toList.length = 5 := rfl
    cases i with
    | zero =>
      obtain rfl : y = x := by simpa using h
      rw [List.flatMap_cons, List.getElem?_append_left (by omega)]
      simp
    | succ i =>
      rw [List.flatMap_cons, List.getElem?_append_right (by omega), hy, show (i + 1) * 5 + j - 5 = i * 5 + j by omega]
      exact ih i j x (by simpa using h) hj
theorem rules_one (rs : List Rule) : ∀ u ∈ (rs.flatMap fun x => x.cells.toList), u.oneCell' = true := fun u hu => by
  obtain ⟨x, _, hx⟩ := List.mem_flatMap.1 hu
  simp [Rule.cells] at hx
  rcases hx with rfl | rfl | rfl | rfl | rfl <;> rfl

/-- Rules of one's own. -/
def RulesIn (w : World) (B : Nat) (u : Value) (rs : List Rule) : Prop := ListAt w u rs ∧ ∀ g, u.ownBlock = some g → B ≤ g ∧ ∃ cs fr, w.heap[g]? = some (.cells cs 52 fr)

set_option maxRecDepth 10000 in
set_option maxHeartbeats 1000000 in
theorem cloneRules_any (v : Value) (rs : List Rule) (w : World) (h : ListAt w v rs) (hn : rs.length ≤ 1000) :
    Calls Tryz.prog 114 #[v] w fun e w' => ∃ a c, e = .returned (.slice a rs.length c) ∧ RulesIn w' w.heap.size (.slice a rs.length c) rs ∧ Below w.heap.size w w' := by
  obtain ⟨i0, hi, hz0, hz1, hz2⟩ := info_parts info66s
  obtain ⟨a, c, rfl, hl⟩ := h
  have q64 : ∀ (w : World) (a : Option Addr) (n c n' c' : Nat), (binOp .eql 55 (.slice a n c) (.slice none n' c')).run Tryz.prog w = .ok (.bool a.isNone) w := fun w a n c n' c' => Lib.run_eql_slice_nil w _ _ a n c n' c' Tryz.underlying55
  cases a with
  | none =>
    have hr : rs = [] := by
      rcases hl with h | ⟨b, o, e, _⟩
      · exact h
      · cases e
    subst hr
    go_enter Tryz.func114, Tryz.ntmps114
    go_wp2
    go_ret
    exact ⟨none, 0, rfl, ⟨⟨none, 0, rfl, .inl rfl⟩, fun g e => by simp [Value.ownBlock] at e⟩, Below.refl _ _⟩
  | some ad =>
    by_cases hr : rs = []
    · subst hr
      go_enter Tryz.func114, Tryz.ntmps114
      go_wp2
      go_ret
      exact ⟨some ⟨w.heap.size, 0, none⟩, 0, rfl, ⟨⟨_, _, rfl, .inl rfl⟩, fun g e => by simp [Value.ownBlock] at e; subst e; exact ⟨Nat.le_refl _, _, _, heap_alloc_new w _⟩⟩, (Below.refl _ _).alloc (Nat.le_refl _) _⟩
    · obtain ⟨b, o, e, hb, hc⟩ := hl.resolve_left hr
      cases e
      have hp : 0 < rs.length := List.length_pos_iff.2 hr
      have HNw : Hid (∀ j u, (rs.flatMap fun x => x.cells.toList)[j]? = some u → (w.alloc (.cells #[] 52)).cell? ((⟨b, o, none⟩ : Addr).add j) = some u) := fun j u hj => by
        have hjl : j < rs.length * 5 := by
          have := (List.getElem?_eq_some_iff.1 hj).1
          rw [rules_cells] at this
          exact this
        have e1 : (⟨b, o, none⟩ : Addr).add j = ⟨b, o + j / 5 * 5 + j % 5, none⟩ := by
          have : o + j / 5 * 5 + j % 5 = o + j := by omega
          rw [this]
          unfold Addr.add; split <;> simp_all
        have hx : j / 5 < rs.length := by omega
        have := rules_get rs (j / 5) (j % 5) _ (List.getElem?_eq_getElem hx) (by omega)
        rw [show j / 5 * 5 + j % 5 = j by omega, hj] at this
        rw [e1, World.cell?_of_block (Below.heap_alloc _ _ _ hb)]
        exact hc (j / 5) _ (List.getElem?_eq_getElem hx) (j % 5) u this.symm
      have HO : Hid ((w.alloc (.cells #[] 52)).ownsRow w.heap.size 52 5 (.slice (some ⟨w.heap.size, 0, none⟩) 0 0) 0 []) := World.ownsRow_made w #[] 0 (Nat.le_refl _) (by unfold maxLen; omega) rfl
      have HLn := hide (rules_cells rs)
      have HOne := hide (rules_one rs)
      generalize hXS : (rs.flatMap fun x => x.cells.toList) = XS at HNw HLn HOne
      have HXS := hide hXS
      clear hXS hl hc
      go_enter Tryz.func114, Tryz.ntmps114
      go_wp2_with (at_builtin; go_loud (refine wpList_append_lies _ rfl (.tmp 5) (.tmp 6) 55 rfl w.heap.size 52 i0 (.agg #[.int .i64 0, .int .i64 0, .int .i64 0, .bool false, .bool false]) 5 32 Tryz.underlying55 hi hz0 hz1 hz2 rfl (by decide) _ 0 [] rfl (unhide HO) ⟨b, o, none⟩ rs.length c XS rfl (unhide HLn) (unhide HNw) (unhide HOne) hp (by unfold maxLen; omega) (by omega) (by simp) _ rfl ?_))
      intro g cap w1 h1 h2 h3 h4
      have hg : w.heap.size ≤ g := (World.ownsRow.lt h1 g rfl).1
      have hb1 : Below w.heap.size w w1 := ((Below.refl _ _).alloc (Nat.le_refl _) _).grown h2 (by simp) (fun k e => by simp [Value.ownBlock] at e; omega)
      have HL1 : Hid (ListAt w1 (.slice (some ⟨g, 0, none⟩) rs.length cap) rs) := by
        refine ⟨_, _, rfl, .inr ⟨g, 0, rfl, h4, fun i x hx j u hu => ?_⟩⟩
        have hj : j < 5 := by
          have := (Array.getElem?_eq_some_iff.1 hu).1
          simpa [Rule.cells] using this
        have hil : i < rs.length := (List.getElem?_eq_some_iff.1 hx).1
        have e := rules_get rs i j x hx hj
        rw [unhide HXS, hu] at e
        have q := World.ownsRow.cellAt h1 (i * 5 + j) (by omega)
        rw [Nat.zero_add, q]
        simpa using e
      have HGr := hide (own_cells h1 (g := g) rfl)
      clear h1 h2 h3 HO HNw HLn HOne
      go_wp2
      go_ret
      refine ⟨some ⟨g, 0, none⟩, cap, by simp, ⟨unhide HL1, fun k e => ?_⟩, hb1⟩
      simp [Value.ownBlock] at e
      subst e
      exact ⟨hg, unhide HGr⟩
end Go.Proofs.YtfekelmldebplaaGreatDoor
