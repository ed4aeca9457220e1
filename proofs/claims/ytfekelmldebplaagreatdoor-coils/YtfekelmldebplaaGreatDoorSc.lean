import Derived.Test.YtfekelmldebplaaGreatDoorSb
import Derived.Deep.DeepCutAuto
namespace Go.Proofs.YtfekelmldebplaaGreatDoor
open Go.RowKit
attribute [local go_sem ↓] Go.wp_at_zero Go.wp_at_succ

/-- append_bytes, the source's length said apart. -/
theorem append_bytes_n {ops : Array Oper} {rest : List Oper} {o : Oper} {a : Act} {Q : Exit → Act → World → Prop} (w1 : World) (hgd : o.guard = none) (s x : Operand)
    (ho : o.op = .call { callee := .builtin .append, args := #[s, x], argTypes := #[37, 37] }) (B : Nat) (w : World) (v : Value) (xs ys : List Int) (hs : a.eval s = v) (hown : Owns w1 B v xs) (hb : Below B w w1) (hz : B ≤ w1.heap.size)
    (b o' c nn : Nat) (hnn : ys.length = nn) (hx : a.eval x = .slice (some ⟨b, o', none⟩) nn c) (hc : ∀ i, i < ys.length → w1.cell? ⟨b, o' + i, none⟩ = some (.int .u8 (ys.getD i 0))) (hlen : xs.length + ys.length ≤ 100000000000)
    (h : ∀ v' w', Owns w' B v' (xs ++ ys) → Below B w w' → B ≤ w'.heap.size → wpList Tryz.prog ops Q rest (a.put o.dst v') w') : wpList Tryz.prog ops Q (o :: rest) a w1 := by
  subst hnn
  exact append_bytes w1 hgd s x ho B w v xs ys hs hown hb hz b o' c hx hc hlen h

theorem at_zero (b o n c : Nat) (x y : Int) (w : World) (hi : 1 < n) (hn : n ≤ 140737488355328) (hx : w.cell? ⟨b, o, none⟩ = some (.int .u8 x)) (hy : w.cell? ⟨b, o + 1, none⟩ = some (.int .u8 y)) (bx : 0 ≤ x ∧ x < 256) (by_ : 0 ≤ y ∧ y < 256) :
    Calls Tryz.prog 176 #[.slice (some ⟨b, o, none⟩) n c, .int .i64 0] w fun e w' => e = .returned (.int .i64 (256 * x + y)) ∧ ∃ nq, w' = w.drewN nq :=
  at_any b o n c 0 x y w hi hn (by simpa using hx) (by simpa using hy) bx by_
theorem own_heap {w w' : World} {base : Nat} {e : TypeId} {size : Nat} {v : Value} {n : Nat} {xs : List Value} (h : w.ownsRow base e size v n xs) (hh : w'.heap = w.heap) : w'.ownsRow base e size v n xs := by
  unfold World.ownsRow at *
  rw [hh]
  exact h
theorem news_heap {w : World} {H : Nat} {cs : Array Value} {t : TypeId} (h : w.heap[H]? = some (.cells cs t (0, 0))) : ∀ j u, cs.toList[j]? = some u → w.cell? ((⟨H, 0, none⟩ : Addr).add j) = some u := World.news_of_block h
theorem heap_new_of {w w' : World} {o : Obj} (hh : w'.heap = (w.alloc o).heap) : w'.heap[w.heap.size]? = some o := by rw [hh]; exact heap_alloc_new w o

/-- A slice's length. -/
def lenOf : Value → Nat
  | .slice _ n _ => n
  | _ => 0

/-- 'whole', ahead of a round: k bytes have been taken. -/
structure WAt (w : World) (bs : List Int) (gb o : Nat) (k : Nat) (v l : Value) (wr : World) (ds : List FD) : Prop where
  le : k ≤ bs.length
  val : ∃ a c, v = .slice a (bs.length - k) c ∧ (k < bs.length → a = some ⟨gb, o + k, none⟩ ∧ bs.length - k ≤ c)
  gave : Gave wr w.heap.size l ds
  feed : feedF ([], [], false) bs = feedF (ds.map (·.fr), [], false) (bs.drop k)
  below : Below w.heap.size w wr
  dsl : 8 * ds.length ≤ k

/-- What 'whole' answers. -/
def WPost (w : World) (s : List Fr × List Int × Bool) (e : Ending) (w' : World) : Prop := ∃ v ds, e = .returned (.tuple #[v, .bool (!s.2.2)]) ∧ Gave w' w.heap.size v ds ∧ ds.map (·.fr) = s.1 ∧ Below w.heap.size w w'

theorem WAt.stop {w : World} {bs : List Int} {gb o k : Nat} {v l : Value} {wr : World} {ds : List FD} (h : WAt w bs gb o k v l wr ds) (q : List Int) (br : Bool) (hf : feedF (ds.map (·.fr), [], false) (bs.drop k) = (ds.map (·.fr), q, br)) :
    WPost w (feedF ([], [], false) bs) (.returned (.tuple #[l, .bool (!br)])) wr := by
  rw [h.feed, hf]
  exact ⟨l, ds, rfl, h.gave, rfl, h.below⟩

theorem drop_getD (bs : List Int) (k i : Nat) : (bs.drop k).getD i 0 = bs.getD (k + i) 0 := by simp [List.getD]

set_option maxRecDepth 100000 in
set_option maxHeartbeats 4000000 in
theorem whole_any (a : Option Addr) (gb o c : Nat) (bs : List Int) (w : World) (ha : bs ≠ [] → a = some ⟨gb, o, none⟩ ∧ bs.length ≤ c ∧ gb < w.heap.size) (hc : ∀ i, i < bs.length → w.cell? ⟨gb, o + i, none⟩ = some (.int .u8 (bs.getD i 0))) (bx : Bys bs) (hm : bs.length ≤ 1000000000) :
    Calls Tryz.prog 140 #[.slice a bs.length c] w fun e w' => WPost w (feedF ([], [], false) bs) e w' := by
  obtain ⟨i0, hi, hz0, hz1, hz2⟩ := info_parts info42s
  have HA := hide ha
  have HC := hide hc
  have HX := hide bx
  clear ha hc bx
  go_enter Tryz.func140, Tryz.ntmps140
  go_wp2_with fail
  go_loopw [0, 4] (fun v l wr => ∃ (k : Nat) (ds : List FD), WAt w bs gb o k v l wr ds) (fun v _ _ => lenOf v)
  case atStart =>
    refine ⟨0, [], by omega, ⟨a, c, by simp, fun h => ?_⟩, Gave.nil _ _, by simp, Below.refl _ _, by simp⟩
    have := unhide HA (fun e => by simp [e] at h)
    exact ⟨by simpa using this.1, by simpa using this.2.1⟩
  case round =>
    obtain ⟨k, ds, hW⟩ := hrel
    obtain ⟨a', c', rfl, hva⟩ := hW.val
    have HW := hide hW
    have hk := hW.le
    have bys := (unhide HX).drop k
    have hl : (bs.drop k).length = bs.length - k := by simp
    have cell : ∀ i, i < bs.length - k → wr.cell? ⟨gb, o + k + i, none⟩ = some (.int .u8 ((bs.drop k).getD i 0)) := fun i hi => by
      have hne : bs ≠ [] := fun e => by simp [e] at hi
      rw [hW.below.cell (by exact (unhide HA hne).2.2), show o + k + i = o + (k + i) by omega, (unhide HC) (k + i) (by omega), drop_getD]
    have HCell := hide cell
    have HStop := hide hW.stop
    have hrl : (bs.drop k).length = bs.length - k := hl
    have hdsl := hW.dsl
    have hnm : bs.length - k ≤ 1000000000 := by omega
    have hdl9 : ds.length ≤ 1000000000 := by omega
    clear hW cell hl hk
    generalize hnn : bs.length - k = n at *
    have HNN := hide hnn
    clear hnn
    by_cases n2 : 2 < n
    · obtain ⟨rfl, hcc⟩ := hva (by have := unhide HNN; omega)
      have i2 : (2 : Int) < (n : Int) := by omega
      have c2 := unhide HCell 2 n2
      by_cases z2 : (bs.drop k).getD 2 0 = 0
      · rw [z2] at c2
        by_cases n3 : 3 < n
        · have i3 : (3 : Int) < (n : Int) := by omega
          have c3 := unhide HCell 3 n3
          by_cases z3 : (bs.drop k).getD 3 0 = 0
          · rw [z3] at c3
            by_cases n4 : 4 < n
            · have i4 : (4 : Int) < (n : Int) := by omega
              have c4 := unhide HCell 4 n4
              by_cases z4 : (bs.drop k).getD 4 0 = 0
              · rw [z4] at c4
                by_cases n6 : 6 ≤ n
                · have i6 : ¬ (n : Int) < 6 := by omega
                  have i5 : (5 : Int) < (n : Int) := by omega
                  have c5 := unhide HCell 5 (by omega)
                  have b5 := bys.at 5
                  obtain ⟨m, hm5⟩ := Int.eq_ofNat_of_zero_le b5.1
                  have hm256 : m < 256 := by omega
                  rw [hm5] at c5
                  have HZ2 := hide z2
                  have HZ3 := hide z3
                  have HZ4 := hide z4
                  have HM5 := hide hm5
                  clear z2 z3 z4 hm5 b5
                  by_cases m2 : m < 2
                  · have HS := hide (unhide HStop [] true (break5 _ _ (by omega) (unhide HZ2) (unhide HZ3) (unhide HZ4) (by rw [unhide HM5]; omega)))
                    have q2 : (m : Int) < 2 := by omega
                    clear HStop HW HCell
                    go_wp2
                    go_ret2
                    exact unhide HS
                  · have q2 : decide ((m : Int) < 2) = false := by simp; omega
                    by_cases m254 : 254 < m
                    · have HS := hide (unhide HStop [] true (break5 _ _ (by omega) (unhide HZ2) (unhide HZ3) (unhide HZ4) (by rw [unhide HM5]; omega)))
                      have q3 : (254 : Int) < (m : Int) := by omega
                      clear HStop HW HCell
                      go_wp2
                      go_ret2
                      exact unhide HS
                    · have q3 : decide ((254 : Int) < (m : Int)) = false := by simp; omega
                      by_cases nm : n < 6 + m
                      · have HS := hide (unhide HStop _ false (feed_short _ _ ⟨fun _ => unhide HZ2, fun _ => unhide HZ3, fun _ => unhide HZ4, fun _ => by rw [unhide HM5]; omega⟩))
                        have q4 : (n : Int) < 6 + (m : Int) := by omega
                        clear HStop HW HCell
                        go_wp2
                        go_ret2
                        exact unhide HS
                      · have q4 : ¬ (n : Int) < 6 + (m : Int) := by omega
                        have q5 : (7 : Int) ≤ 6 + (m : Int) := by omega
                        have q6 : 6 + (m : Int) ≤ (n : Int) := by omega
                        have hys : (((bs.drop k).drop 7).take (m - 1)).length = m - 1 := by
                          rw [List.length_take, List.length_drop]
                          omega
                        have HYs := hide hys
                        have HCx : Hid (∀ i, i < (((bs.drop k).drop 7).take (m - 1)).length → wr.cell? ⟨gb, o + k + 7 + i, none⟩ = some (.int .u8 ((((bs.drop k).drop 7).take (m - 1)).getD i 0))) := by
                          intro i hi
                          rw [hys] at hi
                          rw [show o + k + 7 + i = o + k + (7 + i) by omega, unhide HCell (7 + i) (by omega), getD_take _ _ _ hi, drop_getD (bs.drop k) 7 i]
                        have hbel := (unhide HW).below
                        have HBel := hide hbel
                        have hsz := hbel.size
                        clear hys hbel HStop
                        go_wp2_with (at_builtin; refine append_bytes_n _ rfl (.tmp 60) (.tmp 64) rfl wr.heap.size wr _ [] (((bs.drop k).drop 7).take (m - 1)) rfl (World.ownsRow_nil _ _ _ _) (Below.refl _ _) (Nat.le_refl _) gb (o + k + 7) _ (6 + m - 7) (by rw [unhide HYs]; omega) rfl (unhide HCx) (by rw [unhide HYs]; simp; omega) ?_)
                        intro v6 w6 o6 q6 z6
                        have O6 : Hid (Owns w6 wr.heap.size v6 (((bs.drop k).drop 7).take (m - 1))) := hide (by simpa using o6)
                        have Q6 := hide q6
                        obtain ⟨g6, cap6, e6, hg6, hl6⟩ := (unhide O6).shape (fun e => by have := unhide HYs; rw [e] at this; simp at this; omega)
                        rw [unhide HYs] at e6
                        subst e6
                        clear o6 q6 HCx
                        have HB6 := hide ((unhide HBel).trans ((unhide Q6).mono hsz))
                        have hgb : gb < w.heap.size := (unhide HA (fun e => by have := unhide HNN; simp [e] at this; omega)).2.2
                        have hK : ∀ w', Below w.heap.size w w' → ∀ i, i < n → w'.cell? ⟨gb, o + k + i, none⟩ = some (.int .u8 ((bs.drop k).getD i 0)) := fun w' hw i hi => by
                          rw [hw.cell (by exact hgb), ← (unhide HBel).cell (p := ⟨gb, o + k + i, none⟩) (by exact hgb)]
                          exact unhide HCell i hi
                        have HK : Hid (∀ w', Below w.heap.size w w' → Below w.heap.size w w' ∧ w'.cell? ⟨gb, o + k, none⟩ = some (.int .u8 ((bs.drop k).getD 0 0)) ∧ w'.cell? ⟨gb, o + k + 1, none⟩ = some (.int .u8 ((bs.drop k).getD 1 0)) ∧ w'.cell? ⟨gb, o + k + 6, none⟩ = some (.int .u8 ((bs.drop k).getD 6 0))) := fun w' hw =>
                          ⟨hw, hK w' hw 0 (by omega), hK w' hw 1 (by omega), hK w' hw 6 (by omega)⟩
                        have HFeed := hide (feed_one (ds.map (·.fr)) (bs.drop k) m (unhide HZ2) (unhide HZ3) (unhide HZ4) (unhide HM5) (by omega) (by omega) (by omega))
                        have bb0 := bys.at 0
                        have bb1 := bys.at 1
                        have bb6 := bys.at 6
                        have HRow := hide (ownsRow_keep (unhide HW).gave.row fun j _ p _ => (unhide Q6).block j p)
                        have hub : ∀ j, u4.ownBlock = some j → w.heap.size ≤ j := fun j e => ((unhide HW).gave.row.lt j e).1
                        have HUb := hide hub
                        clear hK HCell hub c2 c3 c4 c5
                        generalize (bs.drop k).getD 0 0 = r0 at *
                        generalize (bs.drop k).getD 1 0 = r1 at *
                        generalize (bs.drop k).getD 6 0 = r6 at *
                        generalize eDC : ds.flatMap FD.cells = DC at HRow
                        have EDC := hide eDC
                        clear eDC
                        have i66 : (6 : Int) < (n : Int) := by omega
                        have hw6 := wrap_u8_i64 r6 bb6
                        have HOne : Hid (∀ u ∈ ([.int .i64 (256 * r0 + r1), .int .i64 r6, .slice (some ⟨g6, 0, none⟩) (m - 1) cap6] : List Value), u.oneCell' = true) := by
                          intro u hu
                          simp at hu
                          rcases hu with rfl | rfl | rfl <;> rfl
                        go_wp2_with fail
                        go_region_held3 (fun w' => Below w.heap.size w w' ∧ w'.cell? ⟨gb, o + k, none⟩ = some (.int .u8 r0) ∧ w'.cell? ⟨gb, o + k + 1, none⟩ = some (.int .u8 r1) ∧ w'.cell? ⟨gb, o + k + 6, none⟩ = some (.int .u8 r6))
                          ((refine unhide HK _ ?_; repeat (first
                            | exact unhide HB6
                            | exact And.left (by assumption)
                            | refine Below.drew ?_
                            | refine below_drewN ?_ _
                            | refine Below.alloc ?_ (by first | omega | (simp; done) | (simp; omega)) _
                            | exact Below.grown (And.left (by assumption)) (by assumption) (by first | omega | (simp; done) | (simp; omega)) (unhide HUb))))
                          (first
                            | (go_at_call 176; refine (at_zero _ _ _ _ r0 r1 _ (by omega) (by omega) ?_ ?_ bb0 bb1).mono ?_; exact (And.left (And.right (by assumption))); exact (And.left (And.right (And.right (by assumption)))); rintro e w7 ⟨rfl, nq, rfl⟩)
                            | (refine step_append_lies _ ?hg (.tmp 66) (.tmp 75) 128 ?ho w.heap.size 185 i0 (.agg #[.int .i64 0, .int .i64 0, .slice none 0 0]) 3 40 Tryz.underlying128 hi hz0 hz1 hz2 rfl (by decide) u4 ds.length DC ?hs ?hw
                                ⟨w6.heap.size, 0, none⟩ 1 1 [.int .i64 (256 * r0 + r1), .int .i64 r6, .slice (some ⟨g6, 0, none⟩) (m - 1) cap6] ?hx rfl ?hc (unhide HOne) (by decide) ?h6 ?hb ?hz (w6.heap.size + 1) ?hH ?_
                               case ho => exact rfl
                               case hg => exact rfl
                               case hs => exact rfl
                               case hx => exact rfl
                               case hw => exact own_heap (World.ownsRow.alloc (unhide HRow) (.cells #[.int .i64 (256 * r0 + r1), .int .i64 r6, .slice (some ⟨g6, 0, none⟩) (m - 1) cap6] 185)) rfl
                               case hc => exact news_heap (cs := #[.int .i64 (256 * r0 + r1), .int .i64 r6, .slice (some ⟨g6, 0, none⟩) (m - 1) cap6]) (t := 185) (heap_new_of rfl)
                               case h6 => unfold maxLen; omega
                               case hb => omega
                               case hz => simp; omega
                               case hH => simp
                               intro g9 cap9 w9 o9 gr9 h9 l9)
                            | fail)
                        rename_i hHeld
                        have B9 := hide hHeld.1
                        have G9 : Hid (Gave w9 w.heap.size (.slice (some ⟨g9, 0, none⟩) (ds.length + 1) cap9) (ds ++ [⟨⟨256 * r0 + r1, r6, ((bs.drop k).drop 7).take (m - 1)⟩, g6, cap6⟩])) := by
                          refine (unhide HW).gave.push (w2 := w6.drewN (1 + nq)) hsz (by simpa using (unhide Q6).size) (fun j _ p => (unhide Q6).block j p) ?_ _ gr9 ?_ ?_
                          · have q : Owns w6 wr.heap.size (.slice (some ⟨g6, 0, none⟩) (((bs.drop k).drop 7).take (m - 1)).length cap6) (((bs.drop k).drop 7).take (m - 1)) := by
                              rw [unhide HYs]
                              exact unhide O6
                            exact own_heap q rfl
                          · rw [unhide EDC]
                            show w9.ownsRow w.heap.size 185 3 (.slice (some ⟨g9, 0, none⟩) (ds.length + 1) cap9) (ds.length + 1) (DC ++ [.int .i64 (256 * r0 + r1), .int .i64 r6, .slice (some ⟨g6, 0, none⟩) (((bs.drop k).drop 7).take (m - 1)).length cap6])
                            rw [unhide HYs]
                            exact o9
                          · rcases h9 with h9 | h9
                            · exact .inl h9.symm
                            · exact .inr (by rw [h9]; rfl)
                        clear hHeld o9 gr9 h9 HK HRow O6 HOne
                        have W9 : Hid (∀ v, (∃ a c, v = .slice a (n - (6 + m)) c ∧ (6 + m < n → a = some ⟨gb, o + k + (6 + m), none⟩ ∧ n - (6 + m) ≤ c)) → WAt w bs gb o (k + (6 + m)) v (.slice (some ⟨g9, 0, none⟩) (ds.length + 1) cap9) w9 (ds ++ [⟨⟨256 * r0 + r1, r6, ((bs.drop k).drop 7).take (m - 1)⟩, g6, cap6⟩])) := by
                          rintro v ⟨a, c, rfl, hac⟩
                          have e := unhide HNN
                          refine ⟨by omega, ⟨a, c, by rw [← e]; congr 1; omega, fun h => ?_⟩, unhide G9, ?_, unhide B9, by simp; omega⟩
                          · have := hac (by omega)
                            rw [show o + (k + (6 + m)) = o + k + (6 + m) by omega]
                            exact ⟨this.1, by omega⟩
                          · rw [(unhide HW).feed, unhide HFeed, List.map_append, show bs.drop (k + (6 + m)) = (bs.drop k).drop (6 + m) by rw [List.drop_drop]]
                            rfl
                        clear G9 B9 HFeed HW
                        go_wp2
                        go_roundw
                        case rel =>
                          refine ⟨k + (6 + m), _, unhide W9 _ ⟨_, _, rfl, fun h => ⟨?_, by omega⟩⟩⟩
                          rw [if_neg (by omega)]
                        case measure => simp only [lenOf]; omega
                · have k6 : (n : Int) < 6 := by omega
                  have HS := hide (unhide HStop _ false (feed_short _ _ ⟨fun _ => z2, fun _ => z3, fun _ => z4, by omega⟩))
                  clear z2 z3 z4 HStop HW HCell
                  go_wp2
                  go_ret2
                  exact unhide HS
              · have HS := hide (unhide HStop [] true (break4 _ _ bys (by omega) z2 z3 z4))
                have HZ := hide z4
                have hz4 : ((bs.drop k).getD 4 0 != 0) = true := by simpa using z4
                clear z2 z3 z4 HStop HW HCell
                generalize (bs.drop k).getD 4 0 = y4 at *
                go_wp2
                go_ret2
                exact unhide HS
            · have j4 : decide ((4 : Int) < (n : Int)) = false := by simp; omega
              have k6 : (n : Int) < 6 := by omega
              have HS := hide (unhide HStop _ false (feed_short _ _ ⟨fun _ => z2, fun _ => z3, by omega, by omega⟩))
              clear z2 z3 HStop HW HCell
              go_wp2
              go_ret2
              exact unhide HS
          · have HS := hide (unhide HStop [] true (break3 _ _ (by omega) z2 z3))
            have hz3 : ((bs.drop k).getD 3 0 != 0) = true := by simpa using z3
            clear z2 z3 HStop HW HCell
            generalize (bs.drop k).getD 3 0 = y3 at *
            go_wp2
            go_ret2
            exact unhide HS
        · have j3 : decide ((3 : Int) < (n : Int)) = false := by simp; omega
          have j4 : decide ((4 : Int) < (n : Int)) = false := by simp; omega
          have k6 : (n : Int) < 6 := by omega
          have HS := hide (unhide HStop _ false (feed_short _ _ ⟨fun _ => z2, by omega, by omega, by omega⟩))
          clear z2 HStop HW HCell
          go_wp2
          go_ret2
          exact unhide HS
      · have HS := hide (unhide HStop [] true (break2 _ _ (by omega) z2))
        have hz2 : ((bs.drop k).getD 2 0 != 0) = true := by simpa using z2
        clear z2 HStop HW HCell
        generalize (bs.drop k).getD 2 0 = y2 at *
        go_wp2
        go_ret2
        exact unhide HS
    · have j2 : decide ((2 : Int) < (n : Int)) = false := by simp; omega
      have j3 : decide ((3 : Int) < (n : Int)) = false := by simp; omega
      have j4 : decide ((4 : Int) < (n : Int)) = false := by simp; omega
      have k6 : (n : Int) < 6 := by omega
      have HS := hide (unhide HStop _ false (feed_short _ _ ⟨by omega, by omega, by omega, by omega⟩))
      clear HStop HW HCell
      go_wp2
      go_ret2
      exact unhide HS
end Go.Proofs.YtfekelmldebplaaGreatDoor
