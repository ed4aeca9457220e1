import Derived.Test.YtfekelmldebplaaGreatDoorTg
namespace Go.Proofs.YtfekelmldebplaaGreatDoor
open Go.RowKit

/-- The four tables together. -/
structure T4 where
  t0 : Tab
  t1 : Tab
  t2 : Tab
  t3 : Tab
  lim : Int
def T4.at (t : T4) (i : Nat) : Tab := if i = 0 then t.t0 else if i = 1 then t.t1 else if i = 2 then t.t2 else t.t3
def T4.put (t : T4) (i : Nat) (L : List Int) : T4 := ⟨if i = 0 then ⟨t.t0.e, t.t0.g, L⟩ else t.t0, if i = 1 then ⟨t.t1.e, t.t1.g, L⟩ else t.t1, if i = 2 then ⟨t.t2.e, t.t2.g, L⟩ else t.t2, if i = 3 then ⟨t.t3.e, t.t3.g, L⟩ else t.t3, t.lim⟩
def hiOf (i : Nat) : Int := if i < 2 then 1 else 65535
def ifOf (i : Nat) : TypeId := if i < 2 then 221 else 223
def tyOf (i : Nat) : TypeId := if i < 2 then 299 else 300

/-- A bank, as it lies. -/
structure BankAt (w : World) (B rb sb tb kb : Nat) (t : T4) (LL : List (List Rule)) (us : List Value) : Prop where
  row : w.heap[rb]? = some (.cells #[.pointer (some ⟨sb, 0, none⟩)] 106 (0, 0))
  st : StoreAt w B sb tb kb t.lim t.t0 t.t1 t.t2 t.t3 LL us
  lo : B ≤ rb

theorem BankAt.tab {w : World} {B rb sb tb kb : Nat} {t : T4} {LL : List (List Rule)} {us : List Value} (h : BankAt w B rb sb tb kb t LL us) (i : Nat) (hi : i < 4) :
    (∃ tc, w.heap[tb]? = some (.cells tc 145 (0, 0)) ∧ tc[i]? = some (.iface (ifOf i) (.pointer (some ⟨(t.at i).e, 0, none⟩)))) ∧ TabAt w (t.at i).e (t.at i).g (tyOf i) (hiOf i) (t.at i).L ∧ ((ifOf i = 221 ∧ tyOf i = 299) ∨ (ifOf i = 223 ∧ tyOf i = 300)) := by
  have hk : i = 0 ∨ i = 1 ∨ i = 2 ∨ i = 3 := by omega
  rcases hk with rfl | rfl | rfl | rfl
  · exact ⟨⟨_, h.st.tabs.row, rfl⟩, h.st.tabs.a0, .inl ⟨rfl, rfl⟩⟩
  · exact ⟨⟨_, h.st.tabs.row, rfl⟩, h.st.tabs.a1, .inl ⟨rfl, rfl⟩⟩
  · exact ⟨⟨_, h.st.tabs.row, rfl⟩, h.st.tabs.a2, .inr ⟨rfl, rfl⟩⟩
  · exact ⟨⟨_, h.st.tabs.row, rfl⟩, h.st.tabs.a3, .inr ⟨rfl, rfl⟩⟩

theorem Clients.chg {w w' : World} {B kb : Nat} {LL : List (List Rule)} {us : List Value} {D : Nat → Prop} (h : Clients w B kb LL us) (c : Chg w w' D) (hk : ¬ D kb) (hD : ∀ g cs fr, w.heap[g]? = some (.cells cs 52 fr) → ¬ D g) : Clients w' B kb LL us :=
  ⟨(c.block kb (Array.getElem?_eq_some_iff.1 h.row).1 hk).trans h.row, h.len, h.lo, fun i rs u h1 h2 => (h.at_ i rs u h1 h2).chg c fun g e => by
    obtain ⟨cs, fr, q⟩ := ((h.at_ i rs u h1 h2).2 g e).2
    exact hD g cs fr q⟩

/-- What turned one table (and the lock's block, which is as it was). -/
theorem BankAt.put {w w' : World} {B rb sb tb kb : Nat} {t : T4} {LL : List (List Rule)} {us : List Value} (h : BankAt w B rb sb tb kb t LL us) (i : Nat) (hi : i < 4) {L : List Int} (c : Chg w w' (fun k => k = sb ∨ k = (t.at i).g))
    (hs : w'.heap[sb]? = w.heap[sb]?) (ht : TabAt w' (t.at i).e (t.at i).g (tyOf i) (hiOf i) L) : BankAt w' B rb sb tb kb (t.put i L) LL us := by
  have rg := (h.tab i hi).2.1.ent
  have nd : ∀ {g : Nat} {cs : Array Value} {T : TypeId} {fr : Nat × Nat}, w.heap[g]? = some (.cells cs T fr) → T ≠ 143 → T ≠ 3 → ¬ (g = sb ∨ g = (t.at i).g) := fun q n1 n2 e => e.elim (rows_ne q h.st.row n1) (rows_ne q rg n2)
  have keep : ∀ {e g : Nat} {T : TypeId} {hh : Int} {L : List Int}, TabAt w e g T hh L → T ≠ 143 → T ≠ 3 → g ≠ (t.at i).g → TabAt w' e g T hh L := fun q n1 n2 n3 => q.chg c (nd q.row n1 n2) (fun e => e.elim (rows_ne q.ent h.st.row (by decide)) n3)
  have ndg := h.st.tabs.nd
  simp only [List.nodup_cons, List.mem_cons, List.not_mem_nil, or_false, not_or, not_false_eq_true, List.nodup_nil, and_true] at ndg
  have a0 := h.st.tabs.a0
  have a1 := h.st.tabs.a1
  have a2 := h.st.tabs.a2
  have a3 := h.st.tabs.a3
  have lo := h.st.tabs.lo
  have hrow := (c.block tb (Array.getElem?_eq_some_iff.1 h.st.tabs.row).1 (nd h.st.tabs.row (by decide) (by decide))).trans h.st.tabs.row
  refine ⟨(c.block rb (Array.getElem?_eq_some_iff.1 h.row).1 (nd h.row (by decide) (by decide))).trans h.row, ⟨hs.trans h.st.row, ?_, h.st.cl.chg c (nd h.st.cl.row (by decide) (by decide)) (fun g cs fr q => nd q (by decide) (by decide)), h.st.lo⟩, h.lo⟩
  have hk : i = 0 ∨ i = 1 ∨ i = 2 ∨ i = 3 := by omega
  rcases hk with rfl | rfl | rfl | rfl
  · exact ⟨hrow, ht, keep a1 (by decide) (by decide) (Ne.symm ndg.1.1), keep a2 (by decide) (by decide) (Ne.symm ndg.1.2.1), keep a3 (by decide) (by decide) (Ne.symm ndg.1.2.2), h.st.tabs.nd, lo⟩
  · exact ⟨hrow, keep a0 (by decide) (by decide) ndg.1.1, ht, keep a2 (by decide) (by decide) (Ne.symm ndg.2.1.1), keep a3 (by decide) (by decide) (Ne.symm ndg.2.1.2), h.st.tabs.nd, lo⟩
  · exact ⟨hrow, keep a0 (by decide) (by decide) ndg.1.2.1, keep a1 (by decide) (by decide) ndg.2.1.1, ht, keep a3 (by decide) (by decide) (Ne.symm ndg.2.2), h.st.tabs.nd, lo⟩
  · exact ⟨hrow, keep a0 (by decide) (by decide) ndg.1.2.2, keep a1 (by decide) (by decide) ndg.2.1.2, keep a2 (by decide) (by decide) ndg.2.2, ht, h.st.tabs.nd, lo⟩

theorem put_same (t : T4) (i : Nat) (hi : i < 4) : t.put i (t.at i).L = t := by
  have hk : i = 0 ∨ i = 1 ∨ i = 2 ∨ i = 3 := by omega
  rcases hk with rfl | rfl | rfl | rfl <;> rfl

set_option maxRecDepth 10000 in
set_option maxHeartbeats 400000 in
theorem kept_any (rb sb : Nat) (w : World) (h : w.heap[rb]? = some (.cells #[.pointer (some ⟨sb, 0, none⟩)] 106 (0, 0))) :
    Calls Tryz.prog 42 #[.pointer (some ⟨rb, 0, none⟩)] w fun e w' => e = .returned (.pointer (some ⟨sb, 0, none⟩)) ∧ Below w.heap.size w w' := by
  have q := cell_of_row _ _ 0 _ _ _ h
  simp at q
  clear h
  go_enter Tryz.func42, Tryz.ntmps42
  go_wp2
  go_ret
  exact ⟨rfl, Below.refl _ _⟩

/-- What Set leaves. -/
def SetPost (w : World) (B rb sb tb kb : Nat) (t : T4) (LL : List (List Rule)) (us : List Value) (i : Nat) (a : Int) (xs : List Int) (r : Ending) (w' : World) : Prop :=
  r = .returned (.int .i64 (setErr (t.at i).L.length (hiOf i) a xs)) ∧ BankAt w' B rb sb tb kb (t.put i (if setErr (t.at i).L.length (hiOf i) a xs = 0 then setL (t.at i).L a.toNat xs else (t.at i).L)) LL us ∧ Chg w w' (fun k => k = sb ∨ k = (t.at i).g)

set_option maxRecDepth 10000 in
set_option maxHeartbeats 1000000 in
theorem relaySet_any (B rb sb tb kb : Nat) (t : T4) (LL : List (List Rule)) (us : List Value) (i : Nat) (hi : i < 4) (a : Int) (v : Value) (xs : List Int) (w : World) (h : BankAt w B rb sb tb kb t LL us) (hx : LiesI w v xs) (hxs : ∀ b, v.ownBlock = some b → ∃ cs fr, w.heap[b]? = some (.cells cs 3 fr)) (hn : xs.length ≤ 1000000000) (ha : a ≤ 9223372036854775807) :
    Calls Tryz.prog 18 #[.pointer (some ⟨rb, 0, none⟩), .int .i64 i, .int .i64 a, v] w fun r w' => SetPost w B rb sb tb kb t LL us i a xs r w' := by
  obtain ⟨⟨tc, ht, hti⟩, hT, hX⟩ := h.tab i hi
  have HK := hide (kept_any rb sb w h.row)
  have HP : Hid (∀ w1, Below w.heap.size w w1 → Calls Tryz.prog 43 #[.pointer (some ⟨sb, 0, none⟩), .int .i64 i, .int .i64 a, v] w1 fun r w' => SetPost w B rb sb tb kb t LL us i a xs r w') := fun w1 hb => by
    have b : ∀ {g : Nat} {o : Obj}, w.heap[g]? = some o → w1.heap[g]? = some o := fun q => (hb.block _ (Array.getElem?_eq_some_iff.1 q).1).trans q
    refine (banksSet_core sb tb (t.at i).e (t.at i).g i _ t.lim tc (ifOf i) (tyOf i) (hiOf i) (t.at i).L a v xs w1 (b h.st.row) (b ht) hti hi (hT.below hb) hX (hx.below hb) (fun g e => by
      obtain ⟨cs, fr, q⟩ := hxs g e
      exact rows_ne q h.st.row (by decide)) hn ha).mono ?_
    rintro r w' ⟨rfl, q1, q2, q3⟩
    have c : Chg w w' (fun k => k = sb ∨ k = (t.at i).g) := (Chg.of_below hb _).trans q3 (fun _ e _ => e)
    exact ⟨rfl, h.put i hi c (q1.trans h.st.row.symm) q2, c⟩
  clear h hx hxs ht hti hT hX
  go_enter Tryz.func18, Tryz.ntmps18
  go_wp2_with fail
  refine (unhide HK).mono ?_
  rintro e w1 ⟨rfl, hb⟩
  have HC := hide (unhide HP w1 hb)
  clear hb HP HK
  go_wp2_with fail
  refine (unhide HC).mono ?_
  rintro e w2 hp
  obtain ⟨rfl, hp2⟩ := id hp
  have HP2 := hide hp
  clear hp hp2 HC
  go_wp2
  go_ret
  exact unhide HP2
end Go.Proofs.YtfekelmldebplaaGreatDoor
