import Derived.Test.YtfekelmldebplaaGreatDoorTh
namespace Go.Proofs.YtfekelmldebplaaGreatDoor
open Go.RowKit

/-- What Get leaves. -/
def GetPost (w : World) (B rb sb tb kb : Nat) (t : T4) (LL : List (List Rule)) (us : List Value) (i : Nat) (a c : Int) (r : Ending) (w' : World) : Prop :=
  ∃ v, r = .returned (.tuple #[v, .int .i64 (getErr (t.at i).L.length a c)]) ∧ GotV w w' (getErr (t.at i).L.length a c) v (((t.at i).L.drop a.toNat).take c.toNat) ∧ BankAt w' B rb sb tb kb t LL us ∧ Chg w w' (fun k => k = sb)

set_option maxRecDepth 10000 in
set_option maxHeartbeats 1000000 in
theorem relayGet_any (B rb sb tb kb : Nat) (t : T4) (LL : List (List Rule)) (us : List Value) (i : Nat) (hi : i < 4) (a c : Int) (w : World) (h : BankAt w B rb sb tb kb t LL us) (ha : a ≤ 9223372036854775807) :
    Calls Tryz.prog 19 #[.pointer (some ⟨rb, 0, none⟩), .int .i64 i, .int .i64 a, .int .i64 c] w fun r w' => GetPost w B rb sb tb kb t LL us i a c r w' := by
  obtain ⟨⟨tc, ht, hti⟩, hT, hX⟩ := h.tab i hi
  have HK := hide (kept_any rb sb w h.row)
  have HP : Hid (∀ w1, Below w.heap.size w w1 → Calls Tryz.prog 44 #[.pointer (some ⟨sb, 0, none⟩), .int .i64 i, .int .i64 a, .int .i64 c] w1 fun r w' => GetPost w B rb sb tb kb t LL us i a c r w') := fun w1 hb => by
    have b : ∀ {g : Nat} {o : Obj}, w.heap[g]? = some o → w1.heap[g]? = some o := fun q => (hb.block _ (Array.getElem?_eq_some_iff.1 q).1).trans q
    refine (banksGet_core sb tb (t.at i).e (t.at i).g i _ t.lim tc (ifOf i) (tyOf i) (hiOf i) (t.at i).L a c w1 (b h.st.row) (b ht) hti hi (hT.below hb) hX ha).mono ?_
    rintro r w' ⟨v, rfl, q0, q1, q2, q3⟩
    have cc : Chg w w' (fun k => k = sb ∨ k = (t.at i).g) := (Chg.of_below hb _).trans q3 (fun _ e _ => .inl e)
    have cs : Chg w w' (fun k => k = sb) := (Chg.of_below hb _).trans q3 (fun _ e _ => e)
    have z := hb.size
    refine ⟨v, rfl, ⟨fun e => ⟨(q0.1 e).1, fun b hb' => by have := (q0.1 e).2 b hb'; omega⟩, q0.2⟩, ?_, cs⟩
    have := h.put i hi cc (q1.trans h.st.row.symm) q2
    rw [put_same t i hi] at this
    exact this
  clear h ht hti hT hX
  go_enter Tryz.func19, Tryz.ntmps19
  go_wp2_with fail
  refine (unhide HK).mono ?_
  rintro e w1 ⟨rfl, hb⟩
  have HC := hide (unhide HP w1 hb)
  clear hb HP HK
  go_wp2_with fail
  refine (unhide HC).mono ?_
  rintro e w2 hp
  obtain ⟨v, rfl, _⟩ := id hp
  have HP2 := hide hp
  clear hp HC
  go_wp2
  exact bodyPost_ret (by simp [results, Tryz.results19]) rfl (unhide HP2)

set_option maxRecDepth 10000 in
set_option maxHeartbeats 1000000 in
theorem relayNew_ok (n0 n1 n2 n3 : Nat) (lim : Int) (v : Value) (LL : List (List Rule)) (w : World) (h0 : n0 ≤ 200) (h1 : n1 ≤ 200) (h2 : n2 ≤ 200) (h3 : n3 ≤ 200) (hl1 : 1 ≤ lim) (hl2 : lim ≤ 4) (h : ListsAt w v LL) (hn : LL.length ≤ 6) (hr : okRules LL = true) :
    Calls Tryz.prog 29 #[.agg #[.int .i64 n0, .int .i64 n1, .int .i64 n2, .int .i64 n3, .int .i64 lim, v]] w fun e w' => ∃ rb sb tb kb e0 g0 e1 g1 e2 g2 e3 g3 us, e = .returned (.tuple #[.pointer (some ⟨rb, 0, none⟩), .int .i64 0]) ∧
      BankAt w' w.heap.size rb sb tb kb ⟨⟨e0, g0, List.replicate n0 0⟩, ⟨e1, g1, List.replicate n1 0⟩, ⟨e2, g2, List.replicate n2 0⟩, ⟨e3, g3, List.replicate n3 0⟩, lim⟩ LL us ∧ Below w.heap.size w w' := by
  have HB : Hid (∀ w1, Below w.heap.size w w1 → Calls Tryz.prog 47 #[.agg #[.int .i64 n0, .int .i64 n1, .int .i64 n2, .int .i64 n3, .int .i64 lim, v]] w1 fun e w' => ∃ sb tb kb e0 g0 e1 g1 e2 g2 e3 g3 us, e = .returned (.tuple #[.pointer (some ⟨sb, 0, none⟩), .int .i64 0]) ∧
      StoreAt w' w1.heap.size sb tb kb lim ⟨e0, g0, List.replicate n0 0⟩ ⟨e1, g1, List.replicate n1 0⟩ ⟨e2, g2, List.replicate n2 0⟩ ⟨e3, g3, List.replicate n3 0⟩ LL us ∧ Below w1.heap.size w1 w') := fun w1 hb => banksNew_ok n0 n1 n2 n3 lim v LL w1 h0 h1 h2 h3 hl1 hl2 (h.below hb) hn hr
  clear h
  have hb0 : Below w.heap.size w (w.alloc (.cells #[.int .i64 n0, .int .i64 n1, .int .i64 n2, .int .i64 n3, .int .i64 lim, v] 58)) := (Below.refl _ _).alloc (Nat.le_refl _) _
  have HB0 := hide hb0
  clear hb0
  go_enter Tryz.func29, Tryz.ntmps29
  go_wp2_with fail
  refine (unhide HB _ (unhide HB0)).mono ?_
  rintro e w1 ⟨sb, tb, kb, e0, g0, e1, g1, e2, g2, e3, g3, us, rfl, hS, hb1⟩
  have HS := hide hS
  have HB1 := hide hb1
  clear hS hb1 HB
  go_wp2
  refine bodyPost_ret (v := .tuple #[.pointer (some ⟨w1.heap.size, 0, none⟩), .int .i64 0]) (by simp [results, Tryz.results29]) rfl ?_
  have hbE : Below w1.heap.size w1 (w1.alloc (.cells #[.pointer (some ⟨sb, 0, none⟩)] 106)) := bl_alloc (Below.refl _ _) _
  have z0 := (unhide HB0).size
  have z1 := (unhide HB1).size
  have hS := unhide HS
  refine ⟨w1.heap.size, sb, tb, kb, e0, g0, e1, g1, e2, g2, e3, g3, us, rfl, ⟨heap_alloc_new w1 _, ⟨(hbE.block sb (Array.getElem?_eq_some_iff.1 hS.row).1).trans hS.row, (hS.tabs.weak z0).below hbE, (hS.cl.weak z0).below hbE, by have := hS.lo; omega⟩, by omega⟩, bl_trans (bl_trans (unhide HB0) (unhide HB1)) hbE⟩
end Go.Proofs.YtfekelmldebplaaGreatDoor
