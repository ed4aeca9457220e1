import Derived.Test.YtfekelmldebplaaGreatDoorSi
namespace Go.Proofs.YtfekelmldebplaaGreatDoor
open Go.RowKit

/-- The mark as a frame. -/
def mf (m : Nat) : List Value := [.int .i64 (-1000 - (m : Int)), .int .i64 0, .slice none 0 0]
/-- So many times the mark. -/
def repF : Nat → Nat → List Value
  | 0, _ => []
  | n + 1, m => mf m ++ repF n m
theorem repF_len (n m : Nat) : (repF n m).length = n * 3 := by
  induction n with
  | zero => rfl
  | succ n ih => simp [repF, mf, ih]; omega
theorem repF_add (n k m : Nat) : repF n m ++ repF k m = repF (n + k) m := by
  induction n with
  | zero => simp [repF]
  | succ n ih => rw [Nat.succ_add]; simp only [repF, List.append_assoc, ih]
theorem repF_take (n k m : Nat) (h : k ≤ n) : (repF n m).take (k * 3) = repF k m := by
  obtain ⟨j, rfl⟩ : ∃ j, n = k + j := ⟨n - k, by omega⟩
  rw [← repF_add, List.take_append_of_le_length (by rw [repF_len]; omega), List.take_of_length_le (by rw [repF_len]; omega)]
theorem repF_set (k m : Nat) (ys : List Value) (h : k * 3 + 3 ≤ ys.length) : (((repF k m ++ ys.drop (k * 3)).set (k * 3) (.int .i64 (-1000 - (m : Int)))).set (k * 3 + 1) (.int .i64 0)).set (k * 3 + 2) (.slice none 0 0) = repF (k + 1) m ++ ys.drop ((k + 1) * 3) := by
  have l := repF_len k m
  have e : ys.drop (k * 3) = ys[k * 3] :: ys[k * 3 + 1] :: ys[k * 3 + 1 + 1] :: ys.drop ((k + 1) * 3) := by
    rw [List.drop_eq_getElem_cons (i := k * 3) (by omega), List.drop_eq_getElem_cons (i := k * 3 + 1) (by omega), List.drop_eq_getElem_cons (i := k * 3 + 1 + 1) (by omega), show (k + 1) * 3 = k * 3 + 1 + 1 + 1 by omega]
  rw [e, List.set_append_right _ _ (by omega), List.set_append_right _ _ (by omega), List.set_append_right _ _ (by omega), l, Nat.sub_self, show k * 3 + 1 - k * 3 = 1 by omega, show k * 3 + 2 - k * 3 = 2 by omega, ← repF_add k 1 m]
  simp [repF, mf]
theorem repF_cells (n m i j : Nat) (hi : i < n) (hj : j < 3) : (repF n m)[i * 3 + j]? = (mf m)[j]? := by
  induction n generalizing i with
  | zero => omega
  | succ n ih =>
    cases i with
    | zero => rw [repF, List.getElem?_append_left (by simp [mf]; omega)]; simp
    | succ i =>
      rw [repF, List.getElem?_append_right (by simp [mf]; omega)]
      have := ih i (by omega)
      rw [← this]
      congr 1
      simp [mf]
      omega
theorem repF_mark {w : World} {B : Nat} {v : Value} {n m : Nat} (h : w.ownsRow B 185 3 v n (repF n m)) (hn : n ≤ 1000000000000) : MarkF w v m := by
  obtain ⟨a, c, rfl, h1, h2⟩ := ownsRow_opt h
  refine ⟨a, n, c, rfl, hn, fun hp => ?_⟩
  cases a with
  | none => have := h1 rfl; omega
  | some x =>
    obtain ⟨g, rfl, _⟩ := h2 x rfl
    refine ⟨g, 0, rfl, (World.ownsRow.lt h g rfl).2, fun i hi => ?_⟩
    have c0 := h.cellAt (i * 3) (by omega)
    have c1 := h.cellAt (i * 3 + 1) (by omega)
    have c2 := h.cellAt (i * 3 + 2) (by omega)
    rw [show i * 3 = i * 3 + 0 by omega, repF_cells n m i 0 hi (by omega)] at c0
    rw [repF_cells n m i 1 hi (by omega)] at c1
    rw [repF_cells n m i 2 hi (by omega)] at c2
    rw [Nat.zero_add]
    exact ⟨c0, c1, c2⟩

/-- v' is v, or has been made of v by an append: all are marked. -/
structure OfF (w : World) (B S : Nat) (v : Value) (k : Nat) (v' : Value) (n m : Nat) : Prop where
  own : w.ownsRow B 185 3 v' n (repF n m)
  same : ∀ g cap, v = .slice (some ⟨g, 0, none⟩) k cap → v'.ownBlock = some g → v' = .slice (some ⟨g, 0, none⟩) n cap
  blk : v'.ownBlock = v.ownBlock ∨ ∃ j, S ≤ j ∧ v'.ownBlock = some j

theorem OfF.self {w : World} {B S k m : Nat} {v : Value} (h : w.ownsRow B 185 3 v k (repF k m)) : OfF w B S v k v k m := ⟨h, fun _ _ e _ => e, .inl rfl⟩
theorem OfF.alloc {w : World} {B S k n m : Nat} {v v' : Value} (h : OfF w B S v k v' n m) (o : Obj) : OfF (w.alloc o) B S v k v' n m := ⟨h.own.alloc o, h.same, h.blk⟩
theorem OfF.keep {w w' : World} {B S k n j m : Nat} {v v' vN : Value} (h : OfF w B S v k v' n m) (hk : Kept w w' B v vN k j) (r : w'.ownsRow B 185 3 vN (k + j) (repF (k + j) m)) (hn : n ≤ k + j) : OfF w' B S v k v' n m := by
  refine ⟨?_, h.same, h.blk⟩
  have e : (repF (k + j) m).take (n * 3) = repF n m := by rw [repF_take _ _ _ hn]
  have := Kept.old (n1 := n) (v1 := v') hk r (by rw [e]; exact h.own) hn h.same
  rwa [e] at this
theorem OfF.new {w w' : World} {B S k j m : Nat} {v vN : Value} (hv : w.ownsRow B 185 3 v k (repF k m)) (hk : Kept w w' B v vN k j) (r : w'.ownsRow B 185 3 vN (k + j) (repF (k + j) m)) (hS : S ≤ w.heap.size) : OfF w' B S v k vN (k + j) m := by
  refine ⟨r, fun g cap e hb => ?_, ?_⟩
  · rcases hk with ⟨g', cap', e1, e2, _⟩ | ⟨⟨i, hi, hb'⟩, _⟩
    · rw [e1] at e
      simp only [Value.slice.injEq, Option.some.injEq, Addr.mk.injEq] at e
      obtain ⟨⟨rfl, _⟩, _, rfl⟩ := e
      exact e2
    · rw [hb] at hb'
      cases hb'
      have := hv.lt g (by rw [e]; rfl)
      omega
  · rcases hk with ⟨g', cap', e1, e2, _⟩ | ⟨⟨i, hi, hb'⟩, _⟩
    · rw [e1, e2]
      exact .inl rfl
    · exact .inr ⟨i, by omega, hb'⟩
theorem OfF.step {w w' : World} {B S k n j m : Nat} {v v' vN : Value} (h : OfF w B S v k v' n m) (hk : Kept w w' B v vN k j) (r : w'.ownsRow B 185 3 vN (k + j) (repF k m ++ repF j m)) (hn : n ≤ k + j) : OfF w' B S v k v' n m := h.keep hk (by rw [← repF_add]; exact r) hn
theorem OfF.step' {w w' : World} {B S k j m : Nat} {v vN : Value} (hv : OfF w B S v k v k m) (hk : Kept w w' B v vN k j) (r : w'.ownsRow B 185 3 vN (k + j) (repF k m ++ repF j m)) (hS : S ≤ w.heap.size) : OfF w' B S v k vN (k + j) m := OfF.new hv.own hk (by rw [← repF_add]; exact r) hS
theorem OfF.mark {w : World} {B S k n m g : Nat} {v v' : Value} (h : OfF w B S v k v' n m) (hn : n ≤ 1000000000000) {cs : Array Value} {fr : Nat × Nat} (hg : w.heap[g]? = some (.cells cs 130 fr)) {w' : World} (hw : w.grownBy w' (some g)) : MarkF w' v' m := by
  refine repF_mark (ownsRow_keep h.own fun j _ p q => hw.block j p fun e => ?_) hn
  simp only [Option.some.injEq] at e
  subst e
  exact absurd (own_elem h.own hg q) (by decide)

/-- What 'ownFrames' gives. -/
structure OwnF (w : World) (B : Nat) (v v1 v2 v3 : Value) (m : Nat) (w' : World) : Prop where
  h0 : MarkF w' v m
  h1 : MarkF w' v1 m
  h2 : MarkF w' v2 m
  h3 : MarkF w' v3 m
  grown : w.grownBy w' v.ownBlock
  b1 : v1.ownBlock = v.ownBlock ∨ ∃ k, w.heap.size ≤ k ∧ v1.ownBlock = some k
  b2 : v2.ownBlock = v.ownBlock ∨ ∃ k, w.heap.size ≤ k ∧ v2.ownBlock = some k
  b3 : v3.ownBlock = v.ownBlock ∨ ∃ k, w.heap.size ≤ k ∧ v3.ownBlock = some k
  lt : ∀ k, (v.ownBlock = some k ∨ v1.ownBlock = some k ∨ v2.ownBlock = some k ∨ v3.ownBlock = some k) → B ≤ k ∧ k < w'.heap.size
theorem info94 : (Tryz.prog.info? 130).map (·.size) = some 5 := by kernel_rfl

/-- Three cells of a row of frames are set. -/
theorem stored3 {w : World} {B g n cap k m : Nat} {ys : List Value} (h : w.ownsRow B 185 3 (.slice (some ⟨g, 0, none⟩) n cap) n (repF k m ++ ys.drop (k * 3))) (hk : k < n) (hy : ys.length = n * 3) :
    (((w.setCell ⟨g, k * 3, none⟩ (.int .i64 (-1000 - (m : Int)))).setCell ⟨g, k * 3 + 1, none⟩ (.int .i64 0)).setCell ⟨g, k * 3 + 2, none⟩ (.slice none 0 0)).ownsRow B 185 3 (.slice (some ⟨g, 0, none⟩) n cap) n (repF (k + 1) m ++ ys.drop ((k + 1) * 3)) ∧ w.grownBy (((w.setCell ⟨g, k * 3, none⟩ (.int .i64 (-1000 - (m : Int)))).setCell ⟨g, k * 3 + 1, none⟩ (.int .i64 0)).setCell ⟨g, k * 3 + 2, none⟩ (.slice none 0 0)) (some g) := by
  have s0 := h.stored (k * 3) (.int .i64 (-1000 - (m : Int)))
  have s1 := s0.1.stored (k * 3 + 1) (.int .i64 0)
  have s2 := s1.1.stored (k * 3 + 2) (.slice none 0 0)
  have e := repF_set k m ys (by omega)
  refine ⟨?_, (s0.2.trans s1.2).trans s2.2⟩
  rw [← e]
  exact s2.1

theorem cellsL (w : World) (cs : Array Value) (t : TypeId) : ∀ (j : Nat) (u : Value), cs.toList[j]? = some u → (w.alloc (.cells cs t)).cell? ((⟨w.heap.size, 0, none⟩ : Addr).add j) = some u := fun j u hj => by
  have e : (⟨w.heap.size, 0, none⟩ : Addr).add j = ⟨w.heap.size, 0 + j, none⟩ := by unfold Addr.add; split <;> simp_all
  rw [e, Nat.zero_add, cell_of_row _ _ _ _ _ _ (heap_alloc_new w _)]
  simpa using hj
theorem ownF_end {w w3 : World} {B k m : Nat} {v v1 v2 v3 x0 x1 x2 x3 x4 : Value} {y0 y1 y2 y3 y4 : Value} {o o' : Obj} (s0 : OfF w3 B w.heap.size v k v k m) (s1 : OfF w3 B w.heap.size v k v1 (k + 1) m) (s2 : OfF w3 B w.heap.size v k v2 (k + 2) m) (s3 : OfF w3 B w.heap.size v k v3 (k + 3) m) (hk : k ≤ 1000000000)
    (g3 : ((w.alloc o).alloc o').grownBy w3 v.ownBlock) (r : w3.heap[w.heap.size]? = some (.cells #[y0, y1, y2, y3, y4] 130 (0, 0))) :
    (set5 w3 w.heap.size x0 x1 x2 x3 x4).heap[w.heap.size]? = some (.cells #[x0, x1, x2, x3, x4] 130 (0, 0)) ∧ OwnF w B v v1 v2 v3 m (set5 w3 w.heap.size x0 x1 x2 x3 x4) := by
  have hw := set5_grown w3 w.heap.size x0 x1 x2 x3 x4
  refine ⟨set5_same _ _ _ _ _ r, s0.mark (by omega) r hw, s1.mark (by omega) r hw, s2.mark (by omega) r hw, s3.mark (by omega) r hw, ?_, s1.blk, s2.blk, s3.blk, ?_⟩
  · exact (((World.grownBy_alloc w _ _).trans (World.grownBy_alloc _ _ _)).trans g3).andThen hw (fun j e => .inl (by cases e; exact Nat.le_refl _))
  · have hz := hw.size
    rintro k (e | e | e | e)
    · have := World.ownsRow.lt s0.own k e; exact ⟨this.1, by omega⟩
    · have := World.ownsRow.lt s1.own k e; exact ⟨this.1, by omega⟩
    · have := World.ownsRow.lt s2.own k e; exact ⟨this.1, by omega⟩
    · have := World.ownsRow.lt s3.own k e; exact ⟨this.1, by omega⟩
theorem frame_vars {w wr : World} {r : Option Nat} (m : Nat) (hv : ∀ j, w.heap.size ≤ j → some j ≠ r) (g : ((w.alloc (.cells #[.slice none 0 0, .slice none 0 0, .slice none 0 0, .slice none 0 0, .int .i64 0] 130)).alloc (.cells #[.int .i64 (-1000 - (m : Int)), .int .i64 0, .slice none 0 0] 185)).grownBy wr r) :
    wr.heap[w.heap.size + 1]? = some (.cells #[.int .i64 (-1000 - (m : Int)), .int .i64 0, .slice none 0 0] 185 (0, 0)) ∧ wr.heap[w.heap.size]? = some (.cells #[.slice none 0 0, .slice none 0 0, .slice none 0 0, .slice none 0 0, .int .i64 0] 130 (0, 0)) := by
  refine ⟨(g.block _ (by simp) (hv _ (by omega))).trans ?_, (g.block _ (by simp; omega) (hv _ (by omega))).trans ?_⟩
  · have := heap_alloc_new (w.alloc (.cells #[.slice none 0 0, .slice none 0 0, .slice none 0 0, .slice none 0 0, .int .i64 0] 130)) (.cells #[.int .i64 (-1000 - (m : Int)), .int .i64 0, .slice none 0 0] 185)
    rwa [show (w.alloc (.cells #[.slice none 0 0, .slice none 0 0, .slice none 0 0, .slice none 0 0, .int .i64 0] 130)).heap.size = w.heap.size + 1 by simp] at this
  · rw [Below.heap_alloc _ _ _ (by simp)]
    exact heap_alloc_new _ _

set_option maxRecDepth 100000 in
set_option maxHeartbeats 2000000 in
theorem ownFrames_any (B : Nat) (v : Value) (n : Nat) (ys : List Value) (m : Nat) (w : World) (h : w.ownsRow B 185 3 v n ys) (hn : n ≤ 1000000000) (hm : m ≤ 1000000000000) (hB : B ≤ w.heap.size) :
    Calls Tryz.prog 141 #[v, .int .i64 m] w fun e w' => ∃ v1 v2 v3, e = .returned (.agg #[v, v1, v2, v3, .int .i64 m]) ∧ OwnF w B v v1 v2 v3 m w' := by
  have hy : ys.length = n * 3 := h.1
  obtain ⟨i0, hi, hz0, hz1, hz2⟩ := info_parts info42s
  have H := hide h
  obtain ⟨oa, ca, rfl, hoa1, hoa2⟩ := ownsRow_opt h
  have HA1 := hide hoa1
  have HA2 := hide hoa2
  clear h hoa1 hoa2
  go_enter Tryz.func141, Tryz.ntmps141
  go_wp2
  have hvb : ∀ j, w.heap.size ≤ j → some j ≠ (Value.slice oa n ca).ownBlock := fun j hj e => by have := World.ownsRow.lt (unhide H) _ e.symm; omega
  have HVB := hide hvb
  clear hvb
  have HW := fun wr => frame_vars (wr := wr) m (unhide HVB)
  have HWH := hide HW
  clear HW
  go_loopw [6] (fun i wr => ∃ k : Nat, k ≤ n ∧ i = .int .i64 k ∧ wr.ownsRow B 185 3 (.slice oa n ca) n (repF k m ++ ys.drop (k * 3)) ∧ ((w.alloc (.cells #[.slice none 0 0, .slice none 0 0, .slice none 0 0, .slice none 0 0, .int .i64 0] 130)).alloc (.cells #[.int .i64 (-1000 - (m : Int)), .int .i64 0, .slice none 0 0] 185)).grownBy wr (Value.slice oa n ca).ownBlock) (fun i _ => n - (intOf i).toNat)
  case atStart =>
    refine ⟨0, by omega, rfl, ?_, World.grownBy.refl _ _⟩
    have := World.ownsRow.alloc (World.ownsRow.alloc (unhide H) (.cells #[.slice none 0 0, .slice none 0 0, .slice none 0 0, .slice none 0 0, .int .i64 0] 130)) (.cells #[.int .i64 (-1000 - (m : Int)), .int .i64 0, .slice none 0 0] 185)
    simpa [repF] using this
  case round =>
    obtain ⟨k, hk, rfl, hown, hgr⟩ := hrel
    have hx := (unhide HWH wr hgr).1
    have x0 := cell_of_row _ _ 0 _ _ _ hx
    have x1 := cell_of_row _ _ 1 _ _ _ hx
    have x2 := cell_of_row _ _ 2 _ _ _ hx
    simp at x0 x1 x2
    clear hx
    by_cases hlt : k < n
    · obtain ⟨y0, rfl⟩ : ∃ x, oa = some x := by
        cases oa with
        | none => have := unhide HA1 rfl; omega
        | some x => exact ⟨x, rfl⟩
      obtain ⟨g, rfl, hcc⟩ := unhide HA2 y0 rfl
      have f1 := hown.frozenAt (k * 3)
      have f2 := hown.frozenAt (k * 3 + 1)
      have f3 := hown.frozenAt (k * 3 + 2)
      have st := stored3 hown hlt hy
      have hcell : ∀ j, j < 3 → ∃ y, wr.cell? ⟨g, k * 3 + j, none⟩ = some y := by
        intro j hj
        rw [hown.cellAt (k * 3 + j) (by omega)]
        have : k * 3 + j < (repF k m ++ ys.drop (k * 3)).length := by simp [repF_len]; omega
        exact ⟨_, List.getElem?_eq_getElem this⟩
      obtain ⟨e0, d0⟩ := hcell 0 (by omega)
      obtain ⟨e1, d1⟩ := hcell 1 (by omega)
      obtain ⟨e2, d2⟩ := hcell 2 (by omega)
      rw [Nat.add_zero] at d0
      have HSt := hide st
      have HGr := hide hgr
      clear hown hgr hcell st
      go_wp2
      go_roundw
      case rel =>
        refine ⟨k + 1, by omega, by go_num, (unhide HSt).1, (unhide HGr).trans (unhide HSt).2⟩
      case measure => simp [intOf]; omega
    · have hkn : k = n := by omega
      subst hkn
      have hO : wr.ownsRow B 185 3 (.slice oa k ca) k (repF k m) := by
        have e : ys.drop (k * 3) = [] := List.drop_eq_nil_of_le (by omega)
        rw [e, List.append_nil] at hown
        exact hown
      have S0 := hide (OfF.self (S := w.heap.size) hO)
      have G0 := hide hgr
      have z0 := hgr.size
      simp at z0
      clear hown hgr hO
      go_wp2_with (at_builtin; refine append_keep _ rfl (.tmp 23) (.tmp 25) 128 rfl B 185 i0 (.agg #[.int .i64 0, .int .i64 0, .slice none 0 0]) 3 40 Tryz.underlying128 hi hz0 hz1 hz2 rfl (by decide) _ k (repF k m) rfl (World.ownsRow.alloc (unhide S0).own _) ⟨wr.heap.size, 0, none⟩ 1 1 [.int .i64 (-1000 - (m : Int)), .int .i64 0, .slice none 0 0] rfl rfl (cellsL _ #[.int .i64 (-1000 - (m : Int)), .int .i64 0, .slice none 0 0] 185) (by simp [Value.oneCell']) (by decide) (by unfold maxLen; omega) (by omega) (by simp; omega) ?_)
      intro v1 w1 r1 k1
      have al := World.grownBy_alloc wr (.cells #[.int .i64 (-1000 - (m : Int)), .int .i64 0, .slice none 0 0] 185) (Value.slice oa k ca).ownBlock
      have s0 := ((unhide S0).alloc (.cells #[.int .i64 (-1000 - (m : Int)), .int .i64 0, .slice none 0 0] 185)).step k1 r1 (by omega)
      have s1 := ((unhide S0).alloc (.cells #[.int .i64 (-1000 - (m : Int)), .int .i64 0, .slice none 0 0] 185)).step' k1 r1 (by simp; omega)
      have g1 := ((unhide G0).trans al).trans k1.grown
      have z1 := g1.size
      simp at z1
      obtain ⟨a1, n1, c1, rfl⟩ := own_shape s1.own
      clear S0 G0 al x0 x1 x2
      have hx := (unhide HWH w1 g1).1
      have x0 := cell_of_row _ _ 0 _ _ _ hx
      have x1 := cell_of_row _ _ 1 _ _ _ hx
      have x2 := cell_of_row _ _ 2 _ _ _ hx
      simp at x0 x1 x2
      clear hx
      have S0 := hide s0
      have S1 := hide s1
      have G1 := hide g1
      clear s0 s1 g1 k1 r1 z0
      go_wp2_with (at_builtin; refine append_keep _ rfl (.tmp 27) (.tmp 30) 128 rfl B 185 i0 (.agg #[.int .i64 0, .int .i64 0, .slice none 0 0]) 3 40 Tryz.underlying128 hi hz0 hz1 hz2 rfl (by decide) _ k (repF k m) rfl (World.ownsRow.alloc (unhide S0).own _) ⟨w1.heap.size, 0, none⟩ 2 2 [.int .i64 (-1000 - (m : Int)), .int .i64 0, .slice none 0 0, .int .i64 (-1000 - (m : Int)), .int .i64 0, .slice none 0 0] rfl rfl (cellsL _ #[.int .i64 (-1000 - (m : Int)), .int .i64 0, .slice none 0 0, .int .i64 (-1000 - (m : Int)), .int .i64 0, .slice none 0 0] 185) (by simp [Value.oneCell']) (by decide) (by unfold maxLen; omega) (by omega) (by simp; omega) ?_)
      intro v2 w2 r2 k2
      have al := World.grownBy_alloc w1 (.cells #[.int .i64 (-1000 - (m : Int)), .int .i64 0, .slice none 0 0, .int .i64 (-1000 - (m : Int)), .int .i64 0, .slice none 0 0] 185) (Value.slice oa k ca).ownBlock
      have s0 := ((unhide S0).alloc (.cells #[.int .i64 (-1000 - (m : Int)), .int .i64 0, .slice none 0 0, .int .i64 (-1000 - (m : Int)), .int .i64 0, .slice none 0 0] 185)).step k2 r2 (by omega)
      have s1 := ((unhide S1).alloc (.cells #[.int .i64 (-1000 - (m : Int)), .int .i64 0, .slice none 0 0, .int .i64 (-1000 - (m : Int)), .int .i64 0, .slice none 0 0] 185)).step k2 r2 (by omega)
      have s2 := ((unhide S0).alloc (.cells #[.int .i64 (-1000 - (m : Int)), .int .i64 0, .slice none 0 0, .int .i64 (-1000 - (m : Int)), .int .i64 0, .slice none 0 0] 185)).step' k2 r2 (by simp; omega)
      have g2 := ((unhide G1).trans al).trans k2.grown
      have z2 := g2.size
      simp at z2
      obtain ⟨a2, n2, c2, rfl⟩ := own_shape s2.own
      clear S0 S1 G1 al x0 x1 x2
      have hx := (unhide HWH w2 g2).1
      have x0 := cell_of_row _ _ 0 _ _ _ hx
      have x1 := cell_of_row _ _ 1 _ _ _ hx
      have x2 := cell_of_row _ _ 2 _ _ _ hx
      simp at x0 x1 x2
      clear hx
      have S0 := hide s0
      have S1 := hide s1
      have S2 := hide s2
      have G2 := hide g2
      clear s0 s1 s2 g2 k2 r2 z1
      go_wp2_with (at_builtin; refine append_keep _ rfl (.tmp 32) (.tmp 36) 128 rfl B 185 i0 (.agg #[.int .i64 0, .int .i64 0, .slice none 0 0]) 3 40 Tryz.underlying128 hi hz0 hz1 hz2 rfl (by decide) _ k (repF k m) rfl (World.ownsRow.alloc (unhide S0).own _) ⟨w2.heap.size, 0, none⟩ 3 3 [.int .i64 (-1000 - (m : Int)), .int .i64 0, .slice none 0 0, .int .i64 (-1000 - (m : Int)), .int .i64 0, .slice none 0 0, .int .i64 (-1000 - (m : Int)), .int .i64 0, .slice none 0 0] rfl rfl (cellsL _ #[.int .i64 (-1000 - (m : Int)), .int .i64 0, .slice none 0 0, .int .i64 (-1000 - (m : Int)), .int .i64 0, .slice none 0 0, .int .i64 (-1000 - (m : Int)), .int .i64 0, .slice none 0 0] 185) (by simp [Value.oneCell']) (by decide) (by unfold maxLen; omega) (by omega) (by simp; omega) ?_)
      intro v3 w3 r3 k3
      have al := World.grownBy_alloc w2 (.cells #[.int .i64 (-1000 - (m : Int)), .int .i64 0, .slice none 0 0, .int .i64 (-1000 - (m : Int)), .int .i64 0, .slice none 0 0, .int .i64 (-1000 - (m : Int)), .int .i64 0, .slice none 0 0] 185) (Value.slice oa k ca).ownBlock
      have s0 := ((unhide S0).alloc (.cells #[.int .i64 (-1000 - (m : Int)), .int .i64 0, .slice none 0 0, .int .i64 (-1000 - (m : Int)), .int .i64 0, .slice none 0 0, .int .i64 (-1000 - (m : Int)), .int .i64 0, .slice none 0 0] 185)).step k3 r3 (by omega)
      have s1 := ((unhide S1).alloc (.cells #[.int .i64 (-1000 - (m : Int)), .int .i64 0, .slice none 0 0, .int .i64 (-1000 - (m : Int)), .int .i64 0, .slice none 0 0, .int .i64 (-1000 - (m : Int)), .int .i64 0, .slice none 0 0] 185)).step k3 r3 (by omega)
      have s2 := ((unhide S2).alloc (.cells #[.int .i64 (-1000 - (m : Int)), .int .i64 0, .slice none 0 0, .int .i64 (-1000 - (m : Int)), .int .i64 0, .slice none 0 0, .int .i64 (-1000 - (m : Int)), .int .i64 0, .slice none 0 0] 185)).step k3 r3 (by omega)
      have s3 := ((unhide S0).alloc (.cells #[.int .i64 (-1000 - (m : Int)), .int .i64 0, .slice none 0 0, .int .i64 (-1000 - (m : Int)), .int .i64 0, .slice none 0 0, .int .i64 (-1000 - (m : Int)), .int .i64 0, .slice none 0 0] 185)).step' k3 r3 (by simp; omega)
      have g3 := ((unhide G2).trans al).trans k3.grown
      have z3 := g3.size
      simp at z3
      have hres := (unhide HWH w3 g3).2
      obtain ⟨a3, n3, c3, rfl⟩ := own_shape s3.own
      clear S0 S1 S2 G2 al x0 x1 x2
      have S0 := hide s0
      have S1 := hide s1
      have S2 := hide s2
      have S3 := hide s3
      have G3 := hide g3
      have R := hide hres
      have l0 := cell_of_row _ _ 0 _ _ _ hres
      have l1 := cell_of_row _ _ 1 _ _ _ hres
      have l2 := cell_of_row _ _ 2 _ _ _ hres
      have l3 := cell_of_row _ _ 3 _ _ _ hres
      have l4 := cell_of_row _ _ 4 _ _ _ hres
      have fz : ∀ j, w3.frozen? ⟨w.heap.size, j, none⟩ = false := fun j => frozen_of_row _ _ j _ _ hres
      simp at l0 l1 l2 l3 l4
      clear s0 s1 s2 s3 g3 k3 r3 z2 hres
      go_wp2_with (first | (refine build_fresh rfl rfl ?_))
      obtain ⟨f1, f2⟩ := ownF_end (x0 := .slice oa k ca) (x1 := .slice a1 n1 c1) (x2 := .slice a2 n2 c2) (x3 := .slice a3 n3 c3) (x4 := .int .i64 m) (unhide S0) (unhide S1) (unhide S2) (unhide S3) hn (unhide G3) (unhide R)
      exact bodyPost_ret (v := .agg #[.slice oa k ca, .slice a1 n1 c1, .slice a2 n2 c2, .slice a3 n3 c3, .int .i64 m]) (results_cell_row Tryz.results141 _ _ w.heap.size 130 _ (0, 0) _ rfl f1 Tryz.underlying130 rfl info94) rfl ⟨_, _, _, rfl, f2⟩
end Go.Proofs.YtfekelmldebplaaGreatDoor
