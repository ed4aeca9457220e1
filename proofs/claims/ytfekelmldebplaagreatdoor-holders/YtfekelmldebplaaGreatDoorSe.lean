import Derived.Test.YtfekelmldebplaaGreatDoorSa
import Derived.Lib.SliceRun
namespace Go.Proofs.YtfekelmldebplaaGreatDoor
open Go.RowKit

/-! ### Splits: the book's marks -/
/-- Every byte under the slice is the mark m. -/
def MarkB (w : World) (v : Value) (m : Nat) : Prop :=
  ∃ a n c, v = .slice a n c ∧ n ≤ 1000000000000 ∧ (0 < n → ∃ g o, a = some ⟨g, o, none⟩ ∧ g < w.heap.size ∧ ∀ i, i < n → w.cell? ⟨g, o + i, none⟩ = some (.int .u8 ((m : Int) % 251)))
/-- Every frame under the slice is the mark m. -/
def MarkF (w : World) (v : Value) (m : Nat) : Prop :=
  ∃ a n c, v = .slice a n c ∧ n ≤ 1000000000000 ∧ (0 < n → ∃ g o, a = some ⟨g, o, none⟩ ∧ g < w.heap.size ∧ ∀ i, i < n → w.cell? ⟨g, o + i * 3, none⟩ = some (.int .i64 (-1000 - (m : Int))) ∧ w.cell? ⟨g, o + i * 3 + 1, none⟩ = some (.int .i64 0) ∧ w.cell? ⟨g, o + i * 3 + 2, none⟩ = some (.slice none 0 0))

theorem MarkB.kept {w w' : World} {v : Value} {m : Nat} (h : MarkB w v m) (hs : w.heap.size ≤ w'.heap.size) (hk : ∀ k, k < w.heap.size → v.ownBlock = some k → w'.heap[k]? = w.heap[k]?) : MarkB w' v m := by
  obtain ⟨a, n, c, rfl, hn, h1⟩ := h
  refine ⟨a, n, c, rfl, hn, fun hp => ?_⟩
  obtain ⟨g, o, rfl, hg, hc⟩ := h1 hp
  exact ⟨g, o, rfl, by omega, fun i hi => by rw [← hc i hi]; exact World.cell?_of_block (hk g hg rfl)⟩
theorem MarkF.kept {w w' : World} {v : Value} {m : Nat} (h : MarkF w v m) (hs : w.heap.size ≤ w'.heap.size) (hk : ∀ k, k < w.heap.size → v.ownBlock = some k → w'.heap[k]? = w.heap[k]?) : MarkF w' v m := by
  obtain ⟨a, n, c, rfl, hn, h1⟩ := h
  refine ⟨a, n, c, rfl, hn, fun hp => ?_⟩
  obtain ⟨g, o, rfl, hg, hc⟩ := h1 hp
  refine ⟨g, o, rfl, by omega, fun i hi => ?_⟩
  have := hc i hi
  exact ⟨by rw [← this.1]; exact World.cell?_of_block (hk g hg rfl), by rw [← this.2.1]; exact World.cell?_of_block (hk g hg rfl), by rw [← this.2.2]; exact World.cell?_of_block (hk g hg rfl)⟩

set_option maxHeartbeats 800000 in
theorem allBytes_any (v : Value) (m : Nat) (w : World) (h : MarkB w v m) (hm : m ≤ 1000000000000) :
    Calls Tryz.prog 99 #[v, .int .i64 m] w fun e w' => e = .returned (.bool true) ∧ w' = w := by
  obtain ⟨a, n, c, rfl, hn, h1⟩ := h
  have H1 := hide h1
  clear h1
  go_enter Tryz.func99, Tryz.ntmps99
  go_wp2
  go_loop [5] (fun i => ∃ k : Nat, k ≤ n ∧ i = .int .i64 k) (fun i => n - (intOf i).toNat)
  case atStart => exact ⟨0, Nat.zero_le _, rfl⟩
  case round =>
    obtain ⟨k, hk, rfl⟩ := hrel
    by_cases hlt : k < n
    · obtain ⟨g, o, rfl, _, hc⟩ := unhide H1 (by omega)
      have c1 := hc k hlt
      clear hc H1
      have hb : (0 : Int) ≤ (m : Int) % 251 ∧ (m : Int) % 251 < 251 := by omega
      go_wp2
      all_goals first
        | (go_round
           case rel => exact ⟨k + 1, by omega, by go_num⟩
           case measure => simp [intOf]; omega)
        | (exfalso; simp_all)
    · go_wp2
      go_ret
      exact ⟨rfl, rfl⟩

set_option maxRecDepth 100000 in
set_option maxHeartbeats 800000 in
theorem allFrames_any (v : Value) (m : Nat) (w : World) (h : MarkF w v m) (hm : m ≤ 1000000000000) :
    Calls Tryz.prog 101 #[v, .int .i64 m] w fun e w' => e = .returned (.bool true) ∧ w' = w := by
  obtain ⟨a, n, c, rfl, hn, h1⟩ := h
  have H1 := hide h1
  clear h1
  have q29 : ∀ (w : World) (a : Option Addr) (n c n' c' : Nat), (binOp .neq 37 (.slice a n c) (.slice none n' c')).run Tryz.prog w = .ok (.bool (!a.isNone)) w := fun w a n c n' c' => run_neq_slice_nil_any w _ _ a n c n' c' Tryz.underlying37
  go_enter Tryz.func101, Tryz.ntmps101
  go_wp2
  go_loop [5] (fun i => ∃ k : Nat, k ≤ n ∧ i = .int .i64 k) (fun i => n - (intOf i).toNat)
  case atStart => exact ⟨0, Nat.zero_le _, rfl⟩
  case round =>
    obtain ⟨k, hk, rfl⟩ := hrel
    by_cases hlt : k < n
    · obtain ⟨g, o, rfl, _, hc⟩ := unhide H1 (by omega)
      obtain ⟨c1, c2, c3⟩ := hc k hlt
      clear hc H1
      go_wp2
      go_round
      case rel => exact ⟨k + 1, by omega, by go_num⟩
      case measure => simp [intOf]; omega
    · go_wp2
      go_ret
      exact ⟨rfl, rfl⟩

set_option maxRecDepth 100000 in
set_option maxHeartbeats 800000 in
theorem stillB_any (v0 v1 v2 v3 : Value) (m : Nat) (w : World) (h0 : MarkB w v0 m) (h1 : MarkB w v1 m) (h2 : MarkB w v2 m) (h3 : MarkB w v3 m) (hm : m ≤ 1000000000000) :
    Calls Tryz.prog 60 #[.agg #[v0, v1, v2, v3, .int .i64 m]] w fun e w' => e = .returned (.bool true) ∧ Below w.heap.size w w' := by
  have K : ∀ v, MarkB w v m → MarkB (w.alloc (.cells #[v0, v1, v2, v3, .int .i64 m] 125)) v m := fun v h => h.kept (by simp) fun k hk _ => Below.heap_alloc _ _ _ hk
  have H0 := hide (K v0 h0)
  have H1 := hide (K v1 h1)
  have H2 := hide (K v2 h2)
  have H3 := hide (K v3 h3)
  clear K h0 h1 h2 h3
  go_enter Tryz.func60, Tryz.ntmps60
  go_wp2_with fail
  refine (allBytes_any v0 m _ (unhide H0) hm).mono ?_
  rintro e w1 ⟨rfl, rfl⟩
  go_wp2_with fail
  refine (allBytes_any v1 m _ (unhide H1) hm).mono ?_
  rintro e w1 ⟨rfl, rfl⟩
  go_wp2_with fail
  refine (allBytes_any v2 m _ (unhide H2) hm).mono ?_
  rintro e w1 ⟨rfl, rfl⟩
  go_wp2_with fail
  refine (allBytes_any v3 m _ (unhide H3) hm).mono ?_
  rintro e w1 ⟨rfl, rfl⟩
  go_wp2
  go_ret
  exact ⟨rfl, (Below.refl _ _).alloc (Nat.le_refl _) _⟩

set_option maxRecDepth 100000 in
set_option maxHeartbeats 800000 in
theorem stillF_any (v0 v1 v2 v3 : Value) (m : Nat) (w : World) (h0 : MarkF w v0 m) (h1 : MarkF w v1 m) (h2 : MarkF w v2 m) (h3 : MarkF w v3 m) (hm : m ≤ 1000000000000) :
    Calls Tryz.prog 62 #[.agg #[v0, v1, v2, v3, .int .i64 m]] w fun e w' => e = .returned (.bool true) ∧ Below w.heap.size w w' := by
  have K : ∀ v, MarkF w v m → MarkF (w.alloc (.cells #[v0, v1, v2, v3, .int .i64 m] 130)) v m := fun v h => h.kept (by simp) fun k hk _ => Below.heap_alloc _ _ _ hk
  have H0 := hide (K v0 h0)
  have H1 := hide (K v1 h1)
  have H2 := hide (K v2 h2)
  have H3 := hide (K v3 h3)
  clear K h0 h1 h2 h3
  go_enter Tryz.func62, Tryz.ntmps62
  go_wp2_with fail
  refine (allFrames_any v0 m _ (unhide H0) hm).mono ?_
  rintro e w1 ⟨rfl, rfl⟩
  go_wp2_with fail
  refine (allFrames_any v1 m _ (unhide H1) hm).mono ?_
  rintro e w1 ⟨rfl, rfl⟩
  go_wp2_with fail
  refine (allFrames_any v2 m _ (unhide H2) hm).mono ?_
  rintro e w1 ⟨rfl, rfl⟩
  go_wp2_with fail
  refine (allFrames_any v3 m _ (unhide H3) hm).mono ?_
  rintro e w1 ⟨rfl, rfl⟩
  go_wp2
  go_ret
  exact ⟨rfl, (Below.refl _ _).alloc (Nat.le_refl _) _⟩
end Go.Proofs.YtfekelmldebplaaGreatDoor
