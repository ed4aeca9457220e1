import Derived.Test.YtfekelmldebplaaGreatDoorSh
namespace Go.Proofs.YtfekelmldebplaaGreatDoor
open Go.RowKit

theorem own_shape {w : World} {base : Nat} {e : TypeId} {size : Nat} {v : Value} {n : Nat} {xs : List Value} (h : w.ownsRow base e size v n xs) : ∃ a k c, v = .slice a k c := by
  rcases h.2 with ⟨rfl, _⟩ | ⟨g, cap, cur, rfl, _⟩
  · exact ⟨_, _, _, rfl⟩
  · exact ⟨_, _, _, rfl⟩
theorem cells3 (w : World) (x y z : Value) : ∀ (j : Nat) (u : Value), [x, y, z][j]? = some u → (w.alloc (.cells #[x, y, z] 5)).cell? ((⟨w.heap.size, 0, none⟩ : Addr).add j) = some u := fun j u hj => by
  have e : (⟨w.heap.size, 0, none⟩ : Addr).add j = ⟨w.heap.size, 0 + j, none⟩ := by unfold Addr.add; split <;> simp_all
  rw [e, Nat.zero_add, cell_of_row _ _ _ _ _ _ (heap_alloc_new w _)]
  simpa using hj

/-- So many times the mark. -/
def rep (n m : Nat) : List Value := List.replicate n (Value.int .u8 ((m : Int) % 251))
theorem rep_len (n m : Nat) : (rep n m).length = n := by simp [rep]
theorem rep_add (n k m : Nat) : rep n m ++ rep k m = rep (n + k) m := by simp [rep]
theorem rep_take (n k m : Nat) (h : k ≤ n) : (rep n m).take k = rep k m := by simp [rep, Nat.min_eq_left h]
theorem rep_mark {w : World} {B : Nat} {v : Value} {n m : Nat} (h : w.ownsRow B 5 1 v n (rep n m)) (hn : n ≤ 1000000000000) : MarkB w v m := by
  have : Owns w B v (List.replicate n ((m : Int) % 251)) := by
    unfold Owns
    simpa [rep] using h
  exact this.mark hn

theorem rep_set (k m : Nat) (ys : List Value) (h : k < ys.length) : (rep k m ++ ys.drop k).set k (.int .u8 ((m : Int) % 251)) = rep (k + 1) m ++ ys.drop (k + 1) := by
  rw [List.set_append_right _ _ (by rw [rep_len]; omega), rep_len, Nat.sub_self, List.drop_eq_getElem_cons h, List.set_cons_zero, ← rep_add k 1 m, List.append_assoc]
  rfl
/-- v' is v, or has been made of v by an append: all are marked. -/
structure Of (w : World) (B S : Nat) (v : Value) (k : Nat) (v' : Value) (n m : Nat) : Prop where
  own : w.ownsRow B 5 1 v' n (rep n m)
  same : ∀ g cap, v = .slice (some ⟨g, 0, none⟩) k cap → v'.ownBlock = some g → v' = .slice (some ⟨g, 0, none⟩) n cap
  blk : v'.ownBlock = v.ownBlock ∨ ∃ j, S ≤ j ∧ v'.ownBlock = some j

theorem Of.self {w : World} {B S k m : Nat} {v : Value} (h : w.ownsRow B 5 1 v k (rep k m)) : Of w B S v k v k m := ⟨h, fun _ _ e _ => e, .inl rfl⟩
theorem Of.alloc {w : World} {B S k n m : Nat} {v v' : Value} (h : Of w B S v k v' n m) (o : Obj) : Of (w.alloc o) B S v k v' n m := ⟨h.own.alloc o, h.same, h.blk⟩
theorem Kept.grown {w w' : World} {B k j : Nat} {v v' : Value} (h : Kept w w' B v v' k j) : w.grownBy w' v.ownBlock := by
  rcases h with ⟨g, cap, rfl, _, _, _, hg⟩ | ⟨_, hg⟩
  · exact hg
  · exact hg.but _
theorem Of.keep {w w' : World} {B S k n j m : Nat} {v v' vN : Value} (h : Of w B S v k v' n m) (hk : Kept w w' B v vN k j) (r : w'.ownsRow B 5 1 vN (k + j) (rep (k + j) m)) (hn : n ≤ k + j) : Of w' B S v k v' n m := by
  refine ⟨?_, h.same, h.blk⟩
  have e : (rep (k + j) m).take (n * 1) = rep n m := by rw [Nat.mul_one, rep_take _ _ _ hn]
  have := Kept.old (n1 := n) (v1 := v') hk r (by rw [e]; exact h.own) hn h.same
  rwa [e] at this
theorem Of.new {w w' : World} {B S k j m : Nat} {v vN : Value} (hv : w.ownsRow B 5 1 v k (rep k m)) (hk : Kept w w' B v vN k j) (r : w'.ownsRow B 5 1 vN (k + j) (rep (k + j) m)) (hS : S ≤ w.heap.size) : Of w' B S v k vN (k + j) m := by
  refine ⟨r, fun g cap e hb => ?_, ?_⟩
  · rcases hk with ⟨g', cap', e1, e2, _⟩ | ⟨⟨i, hi, hb'⟩, _⟩
    · rw [e1] at e
      simp only [Value.slice.injEq, Option.some.injEq, Addr.mk.injEq] at e
      obtain ⟨⟨rfl, _⟩, _, rfl⟩ := e
      exact e2
    · rw [hb] at hb'
      cases hb'
      have := hv.lt g (by rw [e]; rfl)
      omega
  · rcases hk with ⟨g', cap', e1, e2, _⟩ | ⟨⟨i, hi, hb'⟩, _⟩
    · rw [e1, e2]
      exact .inl rfl
    · exact .inr ⟨i, by omega, hb'⟩
/-- One append more: v, the two before, the new one. -/
theorem Of.step {w w' : World} {B S k n j m : Nat} {v v' vN : Value} (h : Of w B S v k v' n m) (hk : Kept w w' B v vN k j) (r : w'.ownsRow B 5 1 vN (k + j) (rep k m ++ rep j m)) (hn : n ≤ k + j) : Of w' B S v k v' n m := h.keep hk (by rw [← rep_add]; exact r) hn
theorem Of.step' {w w' : World} {B S k j m : Nat} {v vN : Value} (hv : Of w B S v k v k m) (hk : Kept w w' B v vN k j) (r : w'.ownsRow B 5 1 vN (k + j) (rep k m ++ rep j m)) (hS : S ≤ w.heap.size) : Of w' B S v k vN (k + j) m := Of.new hv.own hk (by rw [← rep_add]; exact r) hS

/-- What 'ownBytes' gives. -/
structure OwnB (w : World) (B : Nat) (v v1 v2 v3 : Value) (m : Nat) (w' : World) : Prop where
  h0 : MarkB w' v m
  h1 : MarkB w' v1 m
  h2 : MarkB w' v2 m
  h3 : MarkB w' v3 m
  grown : w.grownBy w' v.ownBlock
  b1 : v1.ownBlock = v.ownBlock ∨ ∃ k, w.heap.size ≤ k ∧ v1.ownBlock = some k
  b2 : v2.ownBlock = v.ownBlock ∨ ∃ k, w.heap.size ≤ k ∧ v2.ownBlock = some k
  b3 : v3.ownBlock = v.ownBlock ∨ ∃ k, w.heap.size ≤ k ∧ v3.ownBlock = some k
  lt : ∀ k, (v.ownBlock = some k ∨ v1.ownBlock = some k ∨ v2.ownBlock = some k ∨ v3.ownBlock = some k) → B ≤ k ∧ k < w'.heap.size

theorem info90 : (Tryz.prog.info? 125).map (·.size) = some 5 := by kernel_rfl
/-- Five cells are set. -/
def set5 (w : World) (g : Nat) (x0 x1 x2 x3 x4 : Value) : World := ((((w.setCell ⟨g, 0, none⟩ x0).setCell ⟨g, 1, none⟩ x1).setCell ⟨g, 2, none⟩ x2).setCell ⟨g, 3, none⟩ x3).setCell ⟨g, 4, none⟩ x4
theorem set5_same {w : World} {g : Nat} {t : TypeId} {y0 y1 y2 y3 y4 : Value} (x0 x1 x2 x3 x4 : Value) (h : w.heap[g]? = some (.cells #[y0, y1, y2, y3, y4] t (0, 0))) : (set5 w g x0 x1 x2 x3 x4).heap[g]? = some (.cells #[x0, x1, x2, x3, x4] t (0, 0)) := by
  have s0 := heap_setCell_same w g 0 _ t x0 h
  have s1 := heap_setCell_same _ g 1 _ t x1 s0
  have s2 := heap_setCell_same _ g 2 _ t x2 s1
  have s3 := heap_setCell_same _ g 3 _ t x3 s2
  have s4 := heap_setCell_same _ g 4 _ t x4 s3
  simpa [set5] using s4
theorem set5_grown (w : World) (g : Nat) (x0 x1 x2 x3 x4 : Value) : w.grownBy (set5 w g x0 x1 x2 x3 x4) (some g) :=
  grown_setCell (grown_setCell (grown_setCell (grown_setCell (grown_setCell (World.grownBy.refl _ _) 0 _) 1 _) 2 _) 3 _) 4 _
theorem own_elem {w : World} {B size g : Nat} {e : TypeId} {v : Value} {n : Nat} {xs : List Value} (h : w.ownsRow B e size v n xs) {cs : Array Value} {t : TypeId} {fr : Nat × Nat} (hg : w.heap[g]? = some (.cells cs t fr)) (hv : v.ownBlock = some g) : e = t := by
  rcases h.2 with ⟨rfl, _⟩ | ⟨g', cap, cur, rfl, _, hh, _⟩
  · simp [Value.ownBlock] at hv
  · have : g' = g := by simpa [Value.ownBlock] using hv
    subst this
    rw [hg] at hh
    simp at hh
    exact hh.2.1.symm
theorem Of.mark {w : World} {B S k n m g : Nat} {v v' : Value} (h : Of w B S v k v' n m) (hn : n ≤ 1000000000000) {cs : Array Value} {fr : Nat × Nat} (hg : w.heap[g]? = some (.cells cs 125 fr)) {w' : World} (hw : w.grownBy w' (some g)) : MarkB w' v' m := by
  refine rep_mark (ownsRow_keep h.own fun j _ p q => hw.block j p fun e => ?_) hn
  simp only [Option.some.injEq] at e
  subst e
  exact absurd (own_elem h.own hg q) (by decide)
theorem ownB_end {w w3 : World} {B k m : Nat} {v v1 v2 v3 x0 x1 x2 x3 x4 : Value} {y0 y1 y2 y3 y4 : Value} (s0 : Of w3 B w.heap.size v k v k m) (s1 : Of w3 B w.heap.size v k v1 (k + 1) m) (s2 : Of w3 B w.heap.size v k v2 (k + 2) m) (s3 : Of w3 B w.heap.size v k v3 (k + 3) m) (hk : k ≤ 1000000000)
    (g3 : (w.alloc (.cells #[y0, y1, y2, y3, y4] 125)).grownBy w3 v.ownBlock) (r : w3.heap[w.heap.size]? = some (.cells #[y0, y1, y2, y3, y4] 125 (0, 0))) :
    (set5 w3 w.heap.size x0 x1 x2 x3 x4).heap[w.heap.size]? = some (.cells #[x0, x1, x2, x3, x4] 125 (0, 0)) ∧ OwnB w B v v1 v2 v3 m (set5 w3 w.heap.size x0 x1 x2 x3 x4) := by
  have hw := set5_grown w3 w.heap.size x0 x1 x2 x3 x4
  refine ⟨set5_same _ _ _ _ _ r, s0.mark (by omega) r hw, s1.mark (by omega) r hw, s2.mark (by omega) r hw, s3.mark (by omega) r hw, ?_, s1.blk, s2.blk, s3.blk, ?_⟩
  · exact ((World.grownBy_alloc w _ _).trans g3).andThen hw (fun j e => .inl (by cases e; exact Nat.le_refl _))
  · have hz := hw.size
    rintro k (e | e | e | e)
    · have := World.ownsRow.lt s0.own k e; exact ⟨this.1, by omega⟩
    · have := World.ownsRow.lt s1.own k e; exact ⟨this.1, by omega⟩
    · have := World.ownsRow.lt s2.own k e; exact ⟨this.1, by omega⟩
    · have := World.ownsRow.lt s3.own k e; exact ⟨this.1, by omega⟩

set_option maxRecDepth 100000 in
set_option maxHeartbeats 2000000 in
theorem ownBytes_any (B : Nat) (v : Value) (xs : List Int) (m : Nat) (w : World) (h : Owns w B v xs) (hn : xs.length ≤ 1000000000) (hm : m ≤ 1000000000000) (hB : B ≤ w.heap.size) :
    Calls Tryz.prog 81 #[v, .int .i64 m] w fun e w' => ∃ v1 v2 v3, e = .returned (.agg #[v, v1, v2, v3, .int .i64 m]) ∧ OwnB w B v v1 v2 v3 m w' := by
  obtain ⟨i0, hi, hz0, hz1, hz2⟩ := info_parts info5
  have H := hide h
  obtain ⟨oa, ca, rfl, hoa1, hoa2⟩ := ownsRow_opt h
  have HA1 := hide hoa1
  have HA2 := hide hoa2
  clear h hoa1 hoa2
  generalize hnn : xs.length = n at *
  have hxb : (0 : Int) ≤ (m : Int) % 251 ∧ (m : Int) % 251 < 251 := by omega
  go_enter Tryz.func81, Tryz.ntmps81
  go_wp2
  go_loopw [6] (fun i wr => ∃ k : Nat, k ≤ n ∧ i = .int .i64 k ∧ wr.ownsRow B 5 1 (.slice oa n ca) n (rep k m ++ (xs.map (Value.int .u8)).drop k) ∧ (w.alloc (.cells #[.slice none 0 0, .slice none 0 0, .slice none 0 0, .slice none 0 0, .int .i64 0] 125)).grownBy wr (Value.slice oa n ca).ownBlock) (fun i _ => n - (intOf i).toNat)
  case atStart =>
    refine ⟨0, by omega, rfl, ?_, World.grownBy.refl _ _⟩
    have := World.ownsRow.alloc (unhide H) (.cells #[.slice none 0 0, .slice none 0 0, .slice none 0 0, .slice none 0 0, .int .i64 0] 125)
    rw [hnn] at this
    simpa [rep] using this
  case round =>
    obtain ⟨k, hk, rfl, hown, hgr⟩ := hrel
    by_cases hlt : k < n
    · obtain ⟨x0, rfl⟩ : ∃ x, oa = some x := by
        cases oa with
        | none => have := unhide HA1 rfl; omega
        | some x => exact ⟨x, rfl⟩
      obtain ⟨g, rfl, hcc⟩ := unhide HA2 x0 rfl
      have c1 := hown.cellAt k (by omega)
      have f1 := hown.frozenAt k
      have st := hown.stored k (.int .u8 ((m : Int) % 251))
      have hcell : ∃ y, wr.cell? ⟨g, k, none⟩ = some y := by
        rw [c1]
        have : k < (rep k m ++ (xs.map (Value.int .u8)).drop k).length := by simp [rep]; omega
        exact ⟨_, List.getElem?_eq_getElem this⟩
      obtain ⟨y, d1⟩ := hcell
      have HSt := hide st
      have HGr := hide hgr
      clear hown hgr c1 st
      go_wp2
      go_roundw
      case rel =>
        refine ⟨k + 1, by omega, by go_num, ?_, (unhide HGr).trans (unhide HSt).2⟩
        have hs := (unhide HSt).1
        rw [rep_set k m _ (by simp; omega)] at hs
        exact hs
      case measure => simp [intOf]; omega
    · have hkn : k = n := by omega
      subst hkn
      have hO : wr.ownsRow B 5 1 (.slice oa k ca) k (rep k m) := by
        have e : (xs.map (Value.int .u8)).drop k = [] := List.drop_eq_nil_of_le (by simp; omega)
        rw [e, List.append_nil] at hown
        exact hown
      have HO := hide hO
      have HGr := hide hgr
      have z0 := hgr.size
      simp at z0
      clear hown hgr hO
      go_wp2_with (at_builtin; refine append_keep _ rfl (.tmp 23) (.tmp 25) 37 rfl B 5 i0 (.int .u8 0) 1 1 Tryz.underlying37 hi hz0 hz1 hz2 rfl (by decide) _ k (rep k m) rfl (World.ownsRow.alloc (unhide HO) _) ⟨wr.heap.size, 0, none⟩ 1 1 [.int .u8 ((m : Int) % 251)] rfl rfl (cells1 _ _) (by simp [Value.oneCell']) (by decide) (by unfold maxLen; omega) (by omega) (by simp; omega) ?_)
      intro v1 w1 r1 k1
      have o0 := (Of.self (S := w.heap.size) (unhide HO)).alloc (.cells #[.int .u8 ((m : Int) % 251)] 5)
      have s0 := o0.step k1 r1 (by omega)
      have s1 := o0.step' k1 r1 (by simp; omega)
      have g1 := ((unhide HGr).trans (World.grownBy_alloc wr (.cells #[.int .u8 ((m : Int) % 251)] 5) _)).trans k1.grown
      have z1 := g1.size
      simp at z1
      obtain ⟨a1, n1, c1, rfl⟩ := own_shape s1.own
      have S0 := hide s0
      have S1 := hide s1
      have G1 := hide g1
      clear HO HGr o0 s0 s1 g1 k1 r1 z0
      go_wp2_with (at_builtin; refine append_keep _ rfl (.tmp 27) (.tmp 30) 37 rfl B 5 i0 (.int .u8 0) 1 1 Tryz.underlying37 hi hz0 hz1 hz2 rfl (by decide) _ k (rep k m) rfl (World.ownsRow.alloc (unhide S0).own _) ⟨w1.heap.size, 0, none⟩ 2 2 [.int .u8 ((m : Int) % 251), .int .u8 ((m : Int) % 251)] rfl rfl (cells2 _ _ _) (by simp [Value.oneCell']) (by decide) (by unfold maxLen; omega) (by omega) (by simp; omega) ?_)
      intro v2 w2 r2 k2
      have s0 := ((unhide S0).alloc (.cells #[.int .u8 ((m : Int) % 251), .int .u8 ((m : Int) % 251)] 5)).step k2 r2 (by omega)
      have s1 := ((unhide S1).alloc (.cells #[.int .u8 ((m : Int) % 251), .int .u8 ((m : Int) % 251)] 5)).step k2 r2 (by omega)
      have s2 := ((unhide S0).alloc (.cells #[.int .u8 ((m : Int) % 251), .int .u8 ((m : Int) % 251)] 5)).step' k2 r2 (by simp; omega)
      have g2 := ((unhide G1).trans (World.grownBy_alloc w1 (.cells #[.int .u8 ((m : Int) % 251), .int .u8 ((m : Int) % 251)] 5) _)).trans k2.grown
      have z2 := g2.size
      simp at z2
      obtain ⟨a2, n2, c2, rfl⟩ := own_shape s2.own
      clear S0 S1 G1
      have S0 := hide s0
      have S1 := hide s1
      have S2 := hide s2
      have G2 := hide g2
      clear s0 s1 s2 g2 k2 r2 z1
      go_wp2_with (at_builtin; refine append_keep _ rfl (.tmp 32) (.tmp 36) 37 rfl B 5 i0 (.int .u8 0) 1 1 Tryz.underlying37 hi hz0 hz1 hz2 rfl (by decide) _ k (rep k m) rfl (World.ownsRow.alloc (unhide S0).own _) ⟨w2.heap.size, 0, none⟩ 3 3 [.int .u8 ((m : Int) % 251), .int .u8 ((m : Int) % 251), .int .u8 ((m : Int) % 251)] rfl rfl (cells3 _ _ _ _) (by simp [Value.oneCell']) (by decide) (by unfold maxLen; omega) (by omega) (by simp; omega) ?_)
      intro v3 w3 r3 k3
      have s0 := ((unhide S0).alloc (.cells #[.int .u8 ((m : Int) % 251), .int .u8 ((m : Int) % 251), .int .u8 ((m : Int) % 251)] 5)).step k3 r3 (by omega)
      have s1 := ((unhide S1).alloc (.cells #[.int .u8 ((m : Int) % 251), .int .u8 ((m : Int) % 251), .int .u8 ((m : Int) % 251)] 5)).step k3 r3 (by omega)
      have s2 := ((unhide S2).alloc (.cells #[.int .u8 ((m : Int) % 251), .int .u8 ((m : Int) % 251), .int .u8 ((m : Int) % 251)] 5)).step k3 r3 (by omega)
      have s3 := ((unhide S0).alloc (.cells #[.int .u8 ((m : Int) % 251), .int .u8 ((m : Int) % 251), .int .u8 ((m : Int) % 251)] 5)).step' k3 r3 (by simp; omega)
      have g3 := ((unhide G2).trans (World.grownBy_alloc w2 (.cells #[.int .u8 ((m : Int) % 251), .int .u8 ((m : Int) % 251), .int .u8 ((m : Int) % 251)] 5) _)).trans k3.grown
      have z3 := g3.size
      simp at z3
      have hne : some w.heap.size ≠ (Value.slice oa k ca).ownBlock := fun e => by have := World.ownsRow.lt (unhide H) _ e.symm; omega
      have hres := (g3.block w.heap.size (by simp) hne).trans (heap_alloc_new w _)
      obtain ⟨a3, n3, c3, rfl⟩ := own_shape s3.own
      clear S0 S1 S2 G2
      have S0 := hide s0
      have S1 := hide s1
      have S2 := hide s2
      have S3 := hide s3
      have G3 := hide g3
      have R := hide hres
      have l0 := cell_of_row _ _ 0 _ _ _ hres
      have l1 := cell_of_row _ _ 1 _ _ _ hres
      have l2 := cell_of_row _ _ 2 _ _ _ hres
      have l3 := cell_of_row _ _ 3 _ _ _ hres
      have l4 := cell_of_row _ _ 4 _ _ _ hres
      have fz : ∀ j, w3.frozen? ⟨w.heap.size, j, none⟩ = false := fun j => frozen_of_row _ _ j _ _ hres
      simp at l0 l1 l2 l3 l4
      clear s0 s1 s2 s3 g3 k3 r3 z2 hres hne
      go_wp2_with (first | (refine build_fresh rfl rfl ?_))
      obtain ⟨f1, f2⟩ := ownB_end (x0 := .slice oa k ca) (x1 := .slice a1 n1 c1) (x2 := .slice a2 n2 c2) (x3 := .slice a3 n3 c3) (x4 := .int .i64 m) (unhide S0) (unhide S1) (unhide S2) (unhide S3) hn (unhide G3) (unhide R)
      exact bodyPost_ret (v := .agg #[.slice oa k ca, .slice a1 n1 c1, .slice a2 n2 c2, .slice a3 n3 c3, .int .i64 m]) (results_cell_row Tryz.results81 _ _ w.heap.size 125 _ (0, 0) _ rfl f1 Tryz.underlying125 rfl info90) rfl ⟨_, _, _, rfl, f2⟩
end Go.Proofs.YtfekelmldebplaaGreatDoor
