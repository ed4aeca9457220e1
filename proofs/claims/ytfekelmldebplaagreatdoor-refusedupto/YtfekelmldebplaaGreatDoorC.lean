import Derived.Test.YtfekelmldebplaaGreatDoorB
namespace Go.Proofs.YtfekelmldebplaaGreatDoor
open Go.RowKit

theorem hide {p : Prop} (h : p) : Hid p := h
theorem unhide {p : Prop} (h : Hid p) : p := h

/-- A frame's bytes. -/
def frameL (mark unit : Int) (xs : List Int) : List Int := wd mark ++ [0, 0] ++ wd (xs.length + 1) ++ [unit] ++ xs
theorem frameL_len (mark unit : Int) (xs : List Int) : (frameL mark unit xs).length = 7 + xs.length := by simp [frameL, wd]; omega
theorem frameL_bys {mark unit : Int} {xs : List Int} (h0 : 0 ≤ mark) (h1 : mark ≤ 65535) (h2 : 0 ≤ unit) (h3 : unit ≤ 255) (hx : Bys xs) (hl : xs.length ≤ 253) : Bys (frameL mark unit xs) :=
  ((((Bys.wd h0 h1).append (fun x hx => by simp at hx; omega)).append (Bys.wd (by omega) (by omega))).append (Bys.one h2 (by omega))).append hx

theorem Owns.shape {w : World} {base : Nat} {v : Value} {xs : List Int} (h : Owns w base v xs) (hn : xs ≠ []) : ∃ g cap, v = .slice (some ⟨g, 0, none⟩) xs.length cap ∧ base ≤ g ∧ g < w.heap.size :=
  World.ownsRow.form h (List.length_pos_iff.2 hn)
theorem Lies.shape {w : World} {v : Value} {xs : List Int} (h : Lies w v xs) (hn : xs ≠ []) : ∃ b o c, v = .slice (some ⟨b, o, none⟩) xs.length c ∧ xs.length ≤ c ∧ b < w.heap.size ∧ ∀ i, i < xs.length → w.cell? ⟨b, o + i, none⟩ = some (.int .u8 (xs.getD i 0)) := by
  rcases h with ⟨_, _, _, h⟩ | ⟨b, o, c, hv, hl, hb, hc⟩
  · exact absurd h hn
  · exact ⟨b, o, c, hv, hl, hb.resolve_left hn, hc⟩

theorem flatten_take_succ (l : List (List Int)) (k : Nat) (h : k < l.length) : (l.take (k + 1)).flatten = (l.take k).flatten ++ l.getD k [] := by
  rw [List.take_succ_eq_append_getElem h, List.flatten_append]
  simp [List.getD, List.getElem?_eq_getElem h]
theorem flatten_take_le (l : List (List Int)) (k : Nat) : (l.take k).flatten.length ≤ l.flatten.length := by
  have : l.flatten = (l.take k).flatten ++ (l.drop k).flatten := by rw [← List.flatten_append, List.take_append_drop]
  rw [this]
  simp

set_option maxHeartbeats 800000 in
theorem join_any (L : Nat) (vs : List Value) (xss : List (List Int)) (n : Nat) (w : World) (hL : L < w.heap.size) (hv : vs.length = n) (hx : xss.length = n)
    (hc : ∀ i, i < n → w.cell? ⟨L, i, none⟩ = some (vs.getD i undef)) (hl : ∀ i, i < n → Lies w (vs.getD i undef) (xss.getD i [])) (hne : ∀ i, i < n → xss.getD i [] ≠ []) (hn : n ≤ 1000) (ht : xss.flatten.length ≤ 1000000) :
    Calls Tryz.prog 24 #[.slice (some ⟨L, 0, none⟩) n n] w fun e w' => ∃ v, e = .returned v ∧ Owns w' w.heap.size v xss.flatten ∧ Below w.heap.size w w' := by
  obtain ⟨i0, hi, hz0, hz1, hz2⟩ := info_parts info5
  go_enter Tryz.func24, Tryz.ntmps24
  go_wp2
  go_loopw [3, 4] (fun v i wr => ∃ k : Nat, k ≤ n ∧ i = .int .i64 k ∧ Owns wr w.heap.size v (xss.take k).flatten ∧ Below w.heap.size w wr) (fun _ i _ => n - (intOf i).toNat)
  case atStart => exact ⟨0, Nat.zero_le _, rfl, World.ownsRow_nil _ _ _ _, Below.refl _ _⟩
  case round =>
    obtain ⟨k, hk, rfl, hown, hb⟩ := hrel
    by_cases hlt : k < n
    · have hcx : wr.cell? ⟨L, k, none⟩ = some (vs.getD k undef) := (hb.cell (by exact hL)).trans (hc k hlt)
      obtain ⟨b, o, c, hvk, hlc, hbb, hcc⟩ := ((hl k hlt).below hb).shape (hne k hlt)
      rw [hvk] at hcx
      have HS : Hid ((xss.take (k + 1)).flatten = (xss.take k).flatten ++ xss.getD k []) := flatten_take_succ xss k (by omega)
      have hle := flatten_take_le xss (k + 1)
      rw [HS.out, List.length_append] at hle
      have hpos : 0 < (xss.getD k []).length := List.length_pos_iff.2 (hne k hlt)
      generalize xss.getD k [] = ys at *
      generalize (xss.take k).flatten = acc at *
      have hsz := hb.size
      have hown' := hown
      unfold Owns at hown'
      have HC := hide hcc
      have HV := hide hvk
      clear hcc hvk hown hc hl hne
      go_wp2_with (at_builtin; refine wpList_append_own _ rfl _ _ 37 rfl w.heap.size 5 i0 (.int .u8 0) 1 1 Tryz.underlying37 hi hz0 hz1 hz2 rfl (by decide) _ _ _ rfl hown' ⟨b, o, none⟩ ys.length c (ys.map (Value.int .u8)) rfl (by simp) (news_lies (unhide HC)) (one_bytes _) (by unfold maxLen; omega) (by omega) (by omega) ?_)
      intro v' w1 h1 h2 _
      have hb' : Below w.heap.size w w1 := hb.grown h2 hsz (fun k hk => (hown'.lt k hk).1)
      have ho' : Owns w1 w.heap.size v' (acc ++ ys) := by unfold Owns; simpa using h1
      clear h1 h2 hown' hcx HC HV
      go_wp2
      go_roundw
      case rel => exact ⟨k + 1, by omega, by go_num, by rw [HS.out]; exact ho', hb'⟩
      case measure => simp [intOf]; omega
    · go_wp2
      go_ret
      exact ⟨_, rfl, by rw [List.take_of_length_le (by omega)] at hown; exact hown, hb⟩
end Go.Proofs.YtfekelmldebplaaGreatDoor
