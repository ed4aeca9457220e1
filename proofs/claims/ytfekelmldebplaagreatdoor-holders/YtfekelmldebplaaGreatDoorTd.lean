import Derived.Test.YtfekelmldebplaaGreatDoorTc
namespace Go.Proofs.YtfekelmldebplaaGreatDoor
open Go.RowKit

theorem RulesIn.below {w w' : World} {B : Nat} {u : Value} {rs : List Rule} (h : RulesIn w B u rs) (hb : Below w.heap.size w w') : RulesIn w' B u rs :=
  ⟨h.1.below hb, fun g e => ⟨(h.2 g e).1, by obtain ⟨cs, fr, q⟩ := (h.2 g e).2; exact ⟨cs, fr, (hb.block g (Array.getElem?_eq_some_iff.1 q).1).trans q⟩⟩⟩
theorem RulesIn.weak {w : World} {B B' : Nat} {u : Value} {rs : List Rule} (h : RulesIn w B u rs) (hb : B' ≤ B) : RulesIn w B' u rs := ⟨h.1, fun g e => ⟨Nat.le_trans hb (h.2 g e).1, (h.2 g e).2⟩⟩

def okRules (LL : List (List Rule)) : Bool := LL.all fun rs => decide (rs.length ≤ 8) && !rs.any Rule.bad
/-- The clients' lists, of one's own: the block of the lists, the lists. -/
structure Clients (w : World) (B kb : Nat) (LL : List (List Rule)) (us : List Value) : Prop where
  row : w.heap[kb]? = some (.cells us.toArray 220 (0, 0))
  len : us.length = LL.length
  lo : B ≤ kb
  at_ : ∀ (i : Nat) rs u, LL[i]? = some rs → us[i]? = some u → RulesIn w B u rs

theorem info205s : (Tryz.prog.info? 220).map (fun i => (i.zero, i.size, i.bytes)) = some (some (.slice none 0 0), 1, 24) := by kernel_rfl
theorem makesR (n : Nat) (hn : n ≤ 1000000) (u : World) : (Instr.makeSlice 141 (.int .i64 (n : Int)) (.int .i64 (n : Int))).run Tryz.prog u = .ok (.slice (some ⟨u.heap.size, 0, none⟩) n n) (u.alloc (.cells (List.replicate n (Value.slice none 0 0)).toArray 220)) := by
  obtain ⟨i0, hi, hz0, hz1, hz2⟩ := info_parts info205s
  have h := run_make (P := Tryz.prog) (w := u) 141 220 i0 (.slice none 0 0) Tryz.underlying141 hi hz0 .i64 .i64 (n : Int) (n : Int) (by omega) (by omega) (by rw [hz2]; omega) (by omega)
  have e : madeCells #[.slice none 0 0] n = (List.replicate n (Value.slice none 0 0)).toArray := by
    apply Array.ext
    · simp [madeCells]
    · intro i h1 h2
      simp [madeCells, Nat.mod_one]
  rw [← e]
  simpa [hz1, Value.cells] using h

/-- What lies in the clients' block behind so many lists. -/
structure RLoop (w : World) (LL : List (List Rule)) (k : Nat) (us : List Value) (wr : World) : Prop where
  row : wr.heap[w.heap.size]? = some (.cells us.toArray 220 (0, 0))
  len : us.length = LL.length
  at_ : ∀ (i : Nat) rs u, i < k → LL[i]? = some rs → us[i]? = some u → RulesIn wr w.heap.size u rs
  below : Below w.heap.size w wr
theorem rows_ne {w : World} {g g' : Nat} {cs cs' : Array Value} {t t' : TypeId} {fr fr' : Nat × Nat} (h : w.heap[g]? = some (.cells cs t fr)) (h' : w.heap[g']? = some (.cells cs' t' fr')) (hne : t ≠ t') : g ≠ g' := fun e => by
  subst e
  rw [h] at h'
  simp at h'
  exact hne h'.2.1
theorem RulesIn.chg {w w' : World} {B : Nat} {u : Value} {rs : List Rule} {D : Nat → Prop} (h : RulesIn w B u rs) (c : Chg w w' D) (hD : ∀ g, u.ownBlock = some g → ¬ D g) : RulesIn w' B u rs := by
  obtain ⟨⟨a, cc, rfl, hl⟩, h2⟩ := h
  constructor
  · refine ⟨a, cc, rfl, ?_⟩
    rcases hl with hl | ⟨b, o, e, hlt, hc⟩
    · exact .inl hl
    · refine .inr ⟨b, o, e, Nat.lt_of_lt_of_le hlt c.size, fun i x hx j v hv => ?_⟩
      rw [← hc i x hx j v hv]
      exact World.cell?_of_block (c.block b hlt (hD b (by rw [e]; rfl)))
  · intro g e
    obtain ⟨q1, cs, fr, q⟩ := h2 g e
    exact ⟨q1, cs, fr, (c.block g (Array.getElem?_eq_some_iff.1 q).1 (hD g e)).trans q⟩
theorem RLoop.step {w wr w2 : World} {LL : List (List Rule)} {k : Nat} {us : List Value} {rs : List Rule} {u : Value} (h : RLoop w LL k us wr) (hk : k < LL.length) (hrs : LL[k]? = some rs) (hb : Below wr.heap.size wr w2) (hu : RulesIn w2 w.heap.size u rs) : RLoop w LL (k + 1) (us.set k u) (w2.setCell ⟨w.heap.size, k, none⟩ u) := by
  have r2 : w2.heap[w.heap.size]? = some (.cells us.toArray 220 (0, 0)) := (hb.block _ (Array.getElem?_eq_some_iff.1 h.row).1).trans h.row
  have c : Chg w2 (w2.setCell ⟨w.heap.size, k, none⟩ u) (fun i => i = w.heap.size) := Chg.set w2 w.heap.size k u
  have keep : ∀ {v : Value} {ss : List Rule}, RulesIn w2 w.heap.size v ss → RulesIn (w2.setCell ⟨w.heap.size, k, none⟩ u) w.heap.size v ss := fun q => q.chg c fun g e e' => by
    obtain ⟨cs, fr, qq⟩ := (q.2 g e).2
    exact rows_ne qq r2 (by decide) e'
  have z := hb.size
  have z2 := h.below.size
  refine ⟨?_, by simp [h.len], fun i rr v hi hr hv => ?_, ?_⟩
  · rw [heap_setCell_same w2 w.heap.size k _ 220 _ r2]
    simp
  · by_cases e : i = k
    · subst e
      rw [hrs] at hr
      cases hr
      have : us.set i u = us.set i u := rfl
      rw [List.getElem?_set_self (by rw [h.len]; exact hk)] at hv
      cases hv
      exact keep hu
    · rw [List.getElem?_set_ne (by omega)] at hv
      exact keep ((h.at_ i rr v (by omega) hr hv).below hb)
  · have zz : (w2.setCell ⟨w.heap.size, k, none⟩ u).heap.size = w2.heap.size := by simp [World.setCell]
    exact ⟨hb.os.trans h.below.os, hb.tape.trans h.below.tape, hb.output.trans h.below.output, by omega, fun i p => (c.block i (by omega) (fun e => by have e' : i = w.heap.size := e; omega)).trans ((hb.block i (by omega)).trans (h.below.block i p))⟩

theorem ok_next (LL : List (List Rule)) (k : Nat) (rs : List Rule) (h : LL[k]? = some rs) : okRules (LL.drop k) = ((decide (rs.length ≤ 8) && !rs.any Rule.bad) && okRules (LL.drop (k + 1))) := by
  have hk := (List.getElem?_eq_some_iff.1 h).1
  have e := (List.getElem?_eq_some_iff.1 h).2
  rw [List.drop_eq_getElem_cons hk, e]
  simp only [okRules, List.all_cons]

def RNew (w : World) (LL : List (List Rule)) (e : Ending) (w' : World) : Prop :=
  ∃ v, e = .returned (.tuple #[v, .bool (decide (LL.length ≤ 6) && okRules LL)]) ∧ ((decide (LL.length ≤ 6) && okRules LL) = true → ∃ us, v = .slice (some ⟨w.heap.size, 0, none⟩) LL.length LL.length ∧ Clients w' w.heap.size w.heap.size LL us) ∧ Below w.heap.size w w'

set_option maxRecDepth 10000 in
set_option maxHeartbeats 2000000 in
theorem rulesNew_any (v : Value) (LL : List (List Rule)) (w : World) (h : ListsAt w v LL) (hn : LL.length ≤ 100000000) (hr : ∀ rs ∈ LL, rs.length ≤ 100000000) :
    Calls Tryz.prog 70 #[v] w fun e w' => RNew w LL e w' := by
  obtain ⟨a, c, rfl, hl⟩ := h
  have HL := hide hl
  have HR := hide hr
  clear hl hr
  by_cases h6 : LL.length ≤ 6
  · have h6' : decide ((6 : Int) < (LL.length : Int)) = false := by simp; omega
    have hm := makesR LL.length (by omega)
    have H0 : Hid (RLoop w LL 0 (List.replicate LL.length (Value.slice none 0 0)) (w.alloc (.cells (List.replicate LL.length (Value.slice none 0 0)).toArray 220))) := ⟨heap_alloc_new w _, by simp, fun i _ _ hi => by omega, (Below.refl _ _).alloc (Nat.le_refl _) _⟩
    generalize (List.replicate LL.length (Value.slice none 0 0)) = Z at hm H0
    go_enter Tryz.func70, Tryz.ntmps70
    go_wp2
    go_loopw [15] (fun i wr => ∃ k : Nat, ∃ us, k ≤ LL.length ∧ i = .int .i64 k ∧ Hid (okRules LL = okRules (LL.drop k)) ∧ Hid (RLoop w LL k us wr)) (fun i _ => LL.length - (intOf i).toNat)
    case atStart => exact ⟨0, Z, by omega, rfl, hide rfl, H0⟩
    case round =>
      obtain ⟨k, us, hk, rfl, HA, HO⟩ := hrel
      by_cases hlt : k < LL.length
      · obtain ⟨rs, hx⟩ : ∃ rs, LL[k]? = some rs := ⟨_, List.getElem?_eq_getElem hlt⟩
        obtain ⟨b, o, rfl, hbl, hc⟩ := (unhide HL).resolve_left (fun e => by rw [e] at hlt; simp at hlt)
        obtain ⟨u, hu, hat⟩ := hc k rs hx
        have cu := ((unhide HO).below.cell (by exact hbl)).trans hu
        have hrl := unhide HR rs (List.mem_of_getElem? hx)
        have hat' := hat.below (unhide HO).below
        have HW := hide (containsWrong_any u rs wr hat' hrl)
        have HN := hide (ok_next LL k rs hx)
        have HX := hide hx
        have HAT := hide hat'
        clear hc hx hu hat
        obtain ⟨au, cc, rfl, _⟩ := hat'
        by_cases h8 : rs.length ≤ 8
        · have h8' : decide ((8 : Int) < (rs.length : Int)) = false := by simp; omega
          go_wp2_with fail
          refine (unhide HW).mono ?_
          rintro e w2 ⟨rfl, hb2⟩
          generalize hbad : rs.any Rule.bad = bad at HN ⊢
          clear hbad HW
          have hz2 := hb2.size
          cases bad with
          | true =>
            go_wp2
            refine bodyPost_ret (v := .tuple #[.slice none 0 0, .bool false]) (by simp [results, Tryz.results70]) rfl ?_
            have e0 : (decide (LL.length ≤ 6) && okRules LL) = false := by rw [unhide HA, unhide HN]; simp
            refine ⟨.slice none 0 0, by rw [e0], fun h => ?_, bl_trans (unhide HO).below hb2⟩
            rw [e0] at h
            cases h
          | false =>
            have HCl := hide (cloneRules_any _ rs w2 ((unhide HAT).below hb2) (by omega))
            clear HAT
            go_wp2_with fail
            refine (unhide HCl).mono ?_
            rintro e w3 ⟨a3, c3, rfl, hin, hb3⟩
            have hb23 := bl_trans hb2 hb3
            have r3 := (hb23.block w.heap.size (Array.getElem?_eq_some_iff.1 (unhide HO).row).1).trans (unhide HO).row
            have hkl : k < us.length := by rw [(unhide HO).len]; exact hlt
            have c9 : w3.cell? ⟨w.heap.size, k, none⟩ = some us[k] := by
              rw [cell_of_row _ _ _ _ _ _ r3]
              simp [hkl]
            have f9 := frozen_of_row _ _ k _ _ r3
            have HS := hide ((unhide HO).step hlt (unhide HX) hb23 (hin.weak (by have := (unhide HO).below.size; omega)))
            clear hin hb3 hb23 r3 HCl
            generalize us[k] = uk at c9
            go_wp2
            go_roundw
            case rel =>
              refine ⟨k + 1, _, by omega, by go_num, ?_, HS⟩
              show _ = _
              rw [unhide HA, unhide HN]
              simp; omega
            case measure => simp [intOf]; omega
        · have h8' : (8 : Int) < (rs.length : Int) := by omega
          go_wp2
          refine bodyPost_ret (v := .tuple #[.slice none 0 0, .bool false]) (by simp [results, Tryz.results70]) rfl ?_
          have e0 : (decide (LL.length ≤ 6) && okRules LL) = false := by rw [unhide HA, unhide HN]; simp; omega
          refine ⟨.slice none 0 0, by rw [e0], fun h => ?_, (unhide HO).below⟩
          rw [e0] at h
          cases h
      · obtain rfl : k = LL.length := by omega
        go_wp2
        refine bodyPost_ret (v := .tuple #[.slice (some ⟨w.heap.size, 0, none⟩) LL.length LL.length, .bool true]) (by simp [results, Tryz.results70]) rfl ?_
        have e1 : (decide (LL.length ≤ 6) && okRules LL) = true := by rw [unhide HA]; simp [okRules, h6]
        exact ⟨_, by rw [e1], fun _ => ⟨us, rfl, (unhide HO).row, (unhide HO).len, Nat.le_refl _, fun i rs u h1 h2 => (unhide HO).at_ i rs u (List.getElem?_eq_some_iff.1 h1).1 h1 h2⟩, (unhide HO).below⟩
  · have h6' : (6 : Int) < (LL.length : Int) := by omega
    have e0 : (decide (LL.length ≤ 6) && okRules LL) = false := by simp [h6]
    have E0 := hide e0
    clear e0
    go_enter Tryz.func70, Tryz.ntmps70
    go_wp2
    refine bodyPost_ret (v := .tuple #[.slice none 0 0, .bool false]) (by simp [results, Tryz.results70]) rfl ?_
    refine ⟨.slice none 0 0, by rw [unhide E0], fun h => ?_, Below.refl _ _⟩
    rw [unhide E0] at h
    cases h
end Go.Proofs.YtfekelmldebplaaGreatDoor
