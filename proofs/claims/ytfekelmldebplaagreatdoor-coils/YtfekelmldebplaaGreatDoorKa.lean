import Derived.Test.YtfekelmldebplaaGreatDoorSk
namespace Go.Proofs.YtfekelmldebplaaGreatDoor
open Go.RowKit

/-- Numbers under a slice of one's own. -/
def OwnsI (w : World) (B : Nat) (v : Value) (xs : List Int) : Prop := w.ownsRow B 3 1 v xs.length (xs.map (Value.int .i64))
theorem OwnsI.cells {w : World} {B g c : Nat} {xs : List Int} (h : OwnsI w B (.slice (some ⟨g, 0, none⟩) xs.length c) xs) : ∀ i, i < xs.length → w.cell? ⟨g, i, none⟩ = some (.int .i64 (xs.getD i 0)) := fun i hi => by
  have := World.ownsRow.cellAt h i (by simpa using hi)
  rw [this]
  simp [List.getD, List.getElem?_eq_getElem hi]

/-- What 'values' gives. -/
def valuesL (raw : List Int) (n : Int) (most : Nat) : List Int := if (raw.take most) = [] then [1] else (raw.take most).map (pickI · n)

theorem Chg.of_kept {w w' : World} {B : Nat} {v v' : Value} {n m : Nat} (h : Kept w w' B v v' n m) : Chg w w' (fun k => v.ownBlock = some k) := by
  rcases h with ⟨g, cap, rfl, _, _, _, hg⟩ | ⟨_, hg⟩
  · exact ⟨hg.os, hg.tape, hg.output, hg.size, fun k p n => hg.block k p fun e => n (by simpa [Value.ownBlock] using e.symm)⟩
  · exact ⟨hg.os, hg.tape, hg.output, hg.size, fun k p n => hg.block k p (by simp)⟩
theorem below_kept {w0 w w' : World} {v v' : Value} {n m : Nat} (hb : Below w0.heap.size w0 w) (hv : ∀ k, v.ownBlock = some k → w0.heap.size ≤ k) (h : Kept w w' w0.heap.size v v' n m) : Below w0.heap.size w0 w' := by
  have c := Chg.of_kept h
  have z := hb.size
  exact ⟨c.os.trans hb.os, c.tape.trans hb.tape, c.output.trans hb.output, Nat.le_trans z c.size, fun k p => (c.block k (by omega) (fun e => by have := hv k e; omega)).trans (hb.block k p)⟩

theorem take_next (f : Int → Int) (raw : List Int) (k : Nat) (hk : k < raw.length) : (raw.take (k + 1)).map f = (raw.take k).map f ++ [f (raw.getD k 0)] := by
  rw [List.take_add_one, List.getElem?_eq_getElem hk, Option.toList_some, List.map_append]
  simp only [List.map_cons, List.map_nil, List.getD, List.getElem?_eq_getElem hk, Option.getD_some]

set_option maxRecDepth 10000 in
set_option maxHeartbeats 1000000 in
theorem values_any (cb co c : Nat) (a : Option Addr) (raw : List Int) (n : Int) (most : Nat) (w : World) (ha : a = some ⟨cb, co, none⟩ ∨ raw = []) (h : IntsAt w cb co raw) (h0 : 0 < n) (h1 : n ≤ 65536) (hr : raw.length ≤ 1152921504606846976) (hm : most ≤ 1000) :
    Calls Tryz.prog 16 #[.slice a raw.length c, .int .i64 n, .int .i64 most] w fun e w' => ∃ v, e = .returned v ∧ OwnsI w' w.heap.size v (valuesL raw n most) ∧ Below w.heap.size w w' := by
  obtain ⟨i0, hi, hz0, hz1, hz2⟩ := info_parts info3s
  have H := hide h
  clear h
  go_enter Tryz.func16, Tryz.ntmps16
  go_wp2
  go_loopw [7, 8] (fun l i wr => ∃ k : Nat, k ≤ raw.length ∧ k ≤ most ∧ i = .int .i64 k ∧ Hid (OwnsI wr w.heap.size l ((raw.take k).map (pickI · n))) ∧ Below w.heap.size w wr) (fun l i _ => raw.length - (intOf i).toNat)
  case atStart => exact ⟨0, by omega, by omega, rfl, World.ownsRow_nil _ _ _ _, Below.refl _ _⟩
  case round =>
    obtain ⟨k, hk, hkm, rfl, HO, hb⟩ := hrel
    have hz := hb.size
    by_cases hlt : k < raw.length
    · by_cases hlm : k < most
      · obtain rfl : a = some ⟨cb, co, none⟩ := ha.resolve_right (fun e => by rw [e] at hlt; simp at hlt)
        have ck := (hb.cell (by exact (unhide H).lt (fun e => by rw [e] at hlt; simp at hlt))).trans ((unhide H).c k hlt)
        have r0 := (unhide H).lo k
        have r1 := (unhide H).hi k
        have HN : Hid ((raw.take (k + 1)).map (pickI · n) = (raw.take k).map (pickI · n) ++ [pickI (raw.getD k 0) n]) := take_next (pickI · n) raw k hlt
        generalize raw.getD k 0 = y at ck r0 r1 HN
        obtain ⟨av, nv, cv, rfl⟩ := own_shape (unhide HO)
        have hml : ((raw.take k).map (pickI · n)).length = k := by simp; omega
        have HO2 : Hid (wr.ownsRow w.heap.size 3 1 (.slice av nv cv) k (((raw.take k).map (pickI · n)).map (Value.int .i64))) := by
          have := unhide HO
          unfold OwnsI at this
          rw [hml] at this
          exact this
        generalize hXS : ((raw.take k).map (pickI · n)).map (Value.int .i64) = XS at HO2
        have HXS := hide hXS
        clear hXS hml
        have hlm' : (k : Int) < (most : Int) := by omega
        go_wp2_with (first
          | (go_at_call 15; refine (pick_any _ _ _ h0 h1 r0 r1).mono ?_; rintro e wr ⟨rfl, rfl⟩)
          | (at_builtin; refine append_keep _ rfl (.tmp 20) (.tmp 27) 24 rfl w.heap.size 3 i0 (.int .i64 0) 1 8 Tryz.underlying24 hi hz0 hz1 hz2 rfl (by decide) _ k XS rfl (World.ownsRow.alloc (unhide HO2) _) ⟨wr.heap.size, 0, none⟩ 1 1 [.int .i64 (pickI y n)] rfl rfl (cellsL _ #[.int .i64 (pickI y n)] 3) (by simp [Value.oneCell']) (by decide) (by unfold maxLen; omega) (by omega) (by simp; omega) ?_))
        intro v2 w3 r2 k2
        obtain ⟨a2, n2', c2, rfl⟩ := own_shape r2
        have HR2 := hide r2
        have hb3 : Below w.heap.size w w3 := below_kept (bl_trans hb ((Below.refl _ _).alloc (Nat.le_refl _) _)) (fun j e => (World.ownsRow.lt (unhide HO2) j e).1) k2
        clear r2 k2
        go_wp2
        go_roundw
        case rel =>
          refine ⟨k + 1, by omega, by omega, by go_num, ?_, hb3⟩
          show OwnsI _ _ _ _
          unfold OwnsI
          rw [unhide HN, List.map_append, unhide HXS]
          have := unhide HR2
          simpa [show min k raw.length = k by omega] using this
        case measure => simp [intOf]; omega
      · have hlm' : decide ((k : Int) < (most : Int)) = false := by simp; omega
        have he : Hid (valuesL raw n most = if k = 0 then [1] else (raw.take k).map (pickI · n)) := by
          show _ = _
          have e : raw.take most = raw.take k := by
            apply List.ext_getElem?
            intro i
            rw [List.getElem?_take, List.getElem?_take]
            by_cases hi : i < k
            · rw [if_pos hi, if_pos (by omega)]
            · rw [if_neg hi]
              split
              · rw [List.getElem?_eq_none (by omega)]
              · rfl
          unfold valuesL
          rw [e]
          have e2 : raw.take k = [] ↔ k = 0 := by
            rw [List.take_eq_nil_iff]
            constructor
            · rintro (h | h)
              · exact h
              · rw [h] at hk; simpa using hk
            · exact fun h => .inl h
          by_cases h0 : k = 0
          · rw [if_pos (e2.2 h0), if_pos h0]
          · rw [if_neg (fun h => h0 (e2.1 h)), if_neg h0]
        have hnl : ((raw.take k).map (pickI · n)).length = k := by simp; omega
        have HO2 : Hid (wr.ownsRow w.heap.size 3 1 u7 k (((raw.take k).map (pickI · n)).map (Value.int .i64))) := by
          have := unhide HO
          unfold OwnsI at this
          rw [hnl] at this
          exact this
        obtain ⟨av, cv, rfl, _, _⟩ := ownsRow_opt (unhide HO2)
        clear hnl
        by_cases hk0 : k = 0
        · have he2 : Hid (valuesL raw n most = [1]) := by
            have := unhide he
            rw [if_pos hk0] at this
            exact this
          subst hk0
          go_wp2
          go_ret
          refine ⟨_, rfl, ?_, bl_trans hb ((Below.refl _ _).alloc (Nat.le_refl _) _)⟩
          rw [unhide he2]
          exact ⟨rfl, .inr ⟨wr.heap.size, 1, #[.int .i64 1], rfl, hz, heap_alloc_new wr _, Nat.le_refl _, by unfold maxLen; omega, rfl, rfl⟩⟩
        · have hk1 : ((k : Int) == 0) = false := by simp; omega
          go_wp2
          go_ret
          refine ⟨_, rfl, ?_, hb⟩
          have := unhide he
          rw [if_neg hk0] at this
          rw [this]
          exact unhide HO
    · have hlt' : decide ((k : Int) < (raw.length : Int)) = false := by simp; omega
      have he : Hid (valuesL raw n most = if k = 0 then [1] else (raw.take k).map (pickI · n)) := by
        show _ = _
        have e : raw.take most = raw.take k := by
          apply List.ext_getElem?
          intro i
          rw [List.getElem?_take, List.getElem?_take]
          by_cases hi : i < k
          · rw [if_pos hi, if_pos (by omega)]
          · rw [if_neg hi]
            split
            · rw [List.getElem?_eq_none (by omega)]
            · rfl
        unfold valuesL
        rw [e]
        have e2 : raw.take k = [] ↔ k = 0 := by
          rw [List.take_eq_nil_iff]
          constructor
          · rintro (h | h)
            · exact h
            · rw [h] at hk; simpa using hk
          · exact fun h => .inl h
        by_cases h0 : k = 0
        · rw [if_pos (e2.2 h0), if_pos h0]
        · rw [if_neg (fun h => h0 (e2.1 h)), if_neg h0]
      have hnl : ((raw.take k).map (pickI · n)).length = k := by simp; omega
      have HO2 : Hid (wr.ownsRow w.heap.size 3 1 u7 k (((raw.take k).map (pickI · n)).map (Value.int .i64))) := by
        have := unhide HO
        unfold OwnsI at this
        rw [hnl] at this
        exact this
      obtain ⟨av, cv, rfl, _, _⟩ := ownsRow_opt (unhide HO2)
      clear hnl
      by_cases hk0 : k = 0
      · have he2 : Hid (valuesL raw n most = [1]) := by
          have := unhide he
          rw [if_pos hk0] at this
          exact this
        subst hk0
        go_wp2
        go_ret
        refine ⟨_, rfl, ?_, bl_trans hb ((Below.refl _ _).alloc (Nat.le_refl _) _)⟩
        rw [unhide he2]
        exact ⟨rfl, .inr ⟨wr.heap.size, 1, #[.int .i64 1], rfl, hz, heap_alloc_new wr _, Nat.le_refl _, by unfold maxLen; omega, rfl, rfl⟩⟩
      · have hk1 : ((k : Int) == 0) = false := by simp; omega
        go_wp2
        go_ret
        refine ⟨_, rfl, ?_, hb⟩
        have := unhide he
        rw [if_neg hk0] at this
        rw [this]
        exact unhide HO

theorem valuesL_len (raw : List Int) (n : Int) (most : Nat) (hm : 0 < most) : 1 ≤ (valuesL raw n most).length ∧ (valuesL raw n most).length ≤ most := by
  unfold valuesL
  split
  · simp; omega
  · rename_i h
    have : 0 < (raw.take most).length := List.length_pos_iff.2 h
    simp at this ⊢
    omega
theorem valuesL_in (raw : List Int) (n : Int) (most : Nat) (h1 : 1 < n) : ∀ x ∈ valuesL raw n most, 0 ≤ x ∧ x < n := by
  unfold valuesL
  split
  · intro x hx
    simp at hx
    omega
  · intro x hx
    obtain ⟨y, _, rfl⟩ := List.mem_map.1 hx
    exact pickI_bd y n (by omega)

/-- The words of numbers. -/
def wordsL (xs : List Int) : List Int := xs.flatMap wd
theorem wordsL_len (xs : List Int) : (wordsL xs).length = 2 * xs.length := by
  induction xs with
  | nil => rfl
  | cons x xs ih => simp [wordsL, wd] at ih ⊢; omega

set_option maxRecDepth 10000 in
set_option maxHeartbeats 1000000 in
theorem wordy_any (v : Value) (xs : List Int) (B : Nat) (w : World) (h : OwnsI w B v xs) (hx : ∀ x ∈ xs, 0 ≤ x ∧ x ≤ 65535) (hn : xs.length ≤ 1000) :
    Calls Tryz.prog 22 #[v] w fun e w' => ∃ v', e = .returned v' ∧ Owns w' w.heap.size v' (wordsL xs) ∧ Below w.heap.size w w' := by
  obtain ⟨i0, hi, hz0, hz1, hz2⟩ := info_parts info5
  obtain ⟨av, cv, rfl, ha1, ha2⟩ := ownsRow_opt h
  have H := hide h
  have HX := hide hx
  clear h hx
  go_enter Tryz.func22, Tryz.ntmps22
  go_wp2
  go_loopw [3, 4] (fun v i wr => ∃ k : Nat, k ≤ xs.length ∧ i = .int .i64 k ∧ Hid (Owns wr w.heap.size v (wordsL (xs.take k))) ∧ Below w.heap.size w wr) (fun v i _ => xs.length - (intOf i).toNat)
  case atStart => exact ⟨0, by omega, rfl, World.ownsRow_nil _ _ _ _, Below.refl _ _⟩
  case round =>
    obtain ⟨k, hk, rfl, HO, hb⟩ := hrel
    have hz := hb.size
    by_cases hlt : k < xs.length
    · obtain ⟨y0, rfl⟩ : ∃ y, av = some y := by
        cases av with
        | none => have := ha1 rfl; omega
        | some y => exact ⟨y, rfl⟩
      obtain ⟨g, rfl, hcv⟩ := ha2 y0 rfl
      have ck := (hb.cell (by exact (World.ownsRow.lt (unhide H) g rfl).2)).trans ((unhide H).cells k hlt)
      have hy := unhide HX (xs.getD k 0) (by simp [List.getD, List.getElem?_eq_getElem hlt])
      have HN : Hid (wordsL (xs.take (k + 1)) = wordsL (xs.take k) ++ wd (xs.getD k 0)) := by
        show _ = _
        unfold wordsL
        rw [List.take_add_one, List.getElem?_eq_getElem hlt, Option.toList_some, List.flatMap_append]
        simp only [List.flatMap_cons, List.flatMap_nil, List.append_nil, List.getD, List.getElem?_eq_getElem hlt, Option.getD_some]
      have hwl := wordsL_len (xs.take k)
      rw [List.length_take, show min k xs.length = k by omega] at hwl
      generalize xs.getD k 0 = y at ck hy HN
      obtain ⟨ao, no, co, rfl⟩ := own_shape (unhide HO)
      have HO2 : Hid (wr.ownsRow w.heap.size 5 1 (.slice ao no co) (2 * k) ((wordsL (xs.take k)).map (Value.int .u8))) := by
        have := unhide HO
        unfold Owns at this
        rw [hwl] at this
        exact this
      generalize hXS : (wordsL (xs.take k)).map (Value.int .u8) = XS at HO2
      have HXS := hide hXS
      have HWL := hide hwl
      clear hXS hwl
      go_wp2_with (first
        | (go_at_call 25; refine (word_any _ _ hy.1 hy.2).mono ?_; rintro e w2 ⟨rfl, rfl⟩)
        | (at_builtin; refine append_keep _ rfl (.tmp 11) (.tmp 16) 37 rfl w.heap.size 5 i0 (.int .u8 0) 1 1 Tryz.underlying37 hi hz0 hz1 hz2 rfl (by decide) _ (2 * k) XS rfl (World.ownsRow.alloc (unhide HO2) _) ⟨wr.heap.size, 0, none⟩ 2 2 [.int .u8 (y / 256), .int .u8 (y % 256)] rfl rfl (cellsL _ #[.int .u8 (y / 256), .int .u8 (y % 256)] 5) (by simp [Value.oneCell']) (by decide) (by unfold maxLen; omega) (by omega) (by simp; omega) ?_))
      intro v2 w3 r2 k2
      obtain ⟨a2, n2', c2, rfl⟩ := own_shape r2
      have HR2 := hide r2
      have hb3 : Below w.heap.size w w3 := below_kept (bl_trans hb ((Below.refl _ _).alloc (Nat.le_refl _) _)) (fun j e => (World.ownsRow.lt (unhide HO2) j e).1) k2
      clear r2 k2
      go_wp2
      go_roundw
      case rel =>
        refine ⟨k + 1, by omega, by go_num, ?_, hb3⟩
        show Owns _ _ _ _
        unfold Owns
        rw [unhide HN, List.map_append, unhide HXS, List.length_append, unhide HWL]
        simpa [wd] using unhide HR2
      case measure => simp [intOf]; omega
    · obtain rfl : k = xs.length := by omega
      obtain ⟨ao, no, co, rfl⟩ := own_shape (unhide HO)
      go_wp2
      go_ret
      refine ⟨_, rfl, ?_, hb⟩
      have := unhide HO
      rw [List.take_length] at this
      exact this
end Go.Proofs.YtfekelmldebplaaGreatDoor
