import Derived.Test.YtfekelmldebplaaO
import Derived.Deep.DeepCutAuto
namespace Go.Proofs.Ytfekelmldebplaa
open Go.RowKit
attribute [local go_sem ↓] Go.wp_at_zero Go.wp_at_succ

set_option maxRecDepth 100000 in
set_option maxHeartbeats 4000000 in
theorem framed_walk (sb so sc : Nat) (ss : List SD) (cb co cc : Nat) (cs : List Int) (bad : Int) (os oc : Option Addr) (w : World) (hos : os = some ⟨sb, so, none⟩ ∨ ss = []) (hoc : oc = some ⟨cb, co, none⟩ ∨ cs = []) (hS : SentAt w sb so ss) (hn : ss.length ≤ 1048576) (hC : IntsAt w cb co cs) (hcn : cs.length ≤ 1048576) (hb0 : -9223372036854775808 ≤ bad) (hb1 : bad ≤ 9223372036854775807) :
    Calls Try.prog 3 #[.slice os ss.length sc, .slice oc cs.length cc, .int .i64 bad] w fun e w' => e = .returned (.bool true) ∧ Below w.heap.size w w' := by
  obtain ⟨i5, hi5, hz50, hz51, hz52⟩ := info_parts info5
  obtain ⟨i3, hi3, hz30, hz31, hz32⟩ := info_parts info3s
  have HSn := hide hS
  have HCu := hide hC
  have HOs := hide hos
  have HOc := hide hoc
  clear hS hC hos hoc
  obtain ⟨fs, hfs⟩ : ∃ fs, fs = ss.map SD.fr := ⟨_, rfl⟩
  have HFs := hide hfs
  clear hfs
  have HV : Hid (∀ f ∈ fs, Valid f) := by
    intro f hf
    rw [unhide HFs] at hf
    obtain ⟨s, hs, rfl⟩ := List.mem_map.1 hf
    exact ((unhide HSn).ok s hs).valid
  have HLf : Hid (fs.length = ss.length) := by show _ = _; rw [unhide HFs]; simp
  go_enter Try.func3, Try.ntmps3
  go_wp2_with fail
  refine (newSplitter_any _).mono ?_
  rintro e w1 ⟨rfl, rfl⟩
  go_wp2_with fail
  go_loopw [8, 9, 10] (fun a en i wr => ∃ k : Nat, k ≤ ss.length ∧ i = .int .i64 k ∧ L1 w fs k a en wr) (fun _ _ i _ => ss.length - (intOf i).toNat)
  case atStart => exact ⟨0, Nat.zero_le _, rfl, World.ownsRow_nil _ _ _ _, World.ownsRow_nil _ _ _ _, heap_alloc_new _ _, (Below.refl _ _).alloc (Nat.le_refl _) _⟩
  case round =>
    obtain ⟨k, hk, rfl, hL⟩ := hrel
    have HL1 := hide hL
    clear hL
    by_cases hlt : k < ss.length
    · obtain rfl : os = some ⟨sb, so, none⟩ := (unhide HOs).resolve_right (fun e => by simp [e] at hlt)
      clear HOs
      have hs0 : ss[k]? = some ss[k] := List.getElem?_eq_getElem hlt
      generalize ss[k] = s at hs0
      have HK0 := hide hs0
      have hSr := (unhide HSn).below (unhide HL1).below
      have hok := hSr.ok s (List.mem_of_getElem? hs0)
      have HOK := hide hok
      have hm0 := hok.m0
      have hm1 := hok.m1
      have hu0 := hok.u0
      have hu1 := hok.u1
      have hsl := hSr.lt (fun e => by simp [e] at hlt)
      have HK : Hid (∀ w', Below wr.heap.size wr w' → Below wr.heap.size wr w' ∧ w'.cell? ⟨sb, so + k * 3, none⟩ = some (.int .i64 s.mark) ∧ w'.cell? ⟨sb, so + k * 3 + 1, none⟩ = some (.int .i64 s.unit) ∧ w'.cell? ⟨sb, so + k * 3 + 2, none⟩ = some s.v) := fun w' hw =>
        ⟨hw, (hw.cell (by exact hsl)).trans (hSr.c0 k s hs0), (hw.cell (by exact hsl)).trans (hSr.c1 k s hs0), (hw.cell (by exact hsl)).trans (hSr.c2 k s hs0)⟩
      have HVs := hide hok.valid
      have hbd := sdata_len s.mark s.data
      clear hs0 hSr hok
      have hk0 : (0 : Int) ≤ (k : Int) := by omega
      have hk1 : (k : Int) < (ss.length : Int) := by omega
      go_wp2_with fail
      go_region_held3 (fun w' => Below wr.heap.size wr w' ∧ w'.cell? ⟨sb, so + k * 3, none⟩ = some (.int .i64 s.mark) ∧ w'.cell? ⟨sb, so + k * 3 + 1, none⟩ = some (.int .i64 s.unit) ∧ w'.cell? ⟨sb, so + k * 3 + 2, none⟩ = some s.v)
        ((refine unhide HK _ ?_; repeat (first
          | exact Below.refl _ _
          | exact And.left (by assumption)
          | refine Below.drew ?_
          | refine bl_trans ?_ (by assumption))))
        (first
          | (go_at_call 6; refine (pick_any _ _ _ (by decide) (by decide) (by omega) (by omega)).mono ?_; rintro e w2 ⟨rfl, rfl⟩)
          | (go_at_call 7; refine (data_any _ _ _ s.data _ ?_ (unhide HOK).len).mono ?_; exact (unhide HOK).lies.below (And.left (by assumption)); rintro e w2 ⟨v2, rfl, hl2, hb2⟩)
          | (go_at_call 5; refine (frame_any _ _ _ (sdata s.mark s.data) _ (unhide HVs).m0 (unhide HVs).m1 (unhide HVs).u0 (unhide HVs).u1 hl2 (by omega) (by omega)).mono ?_; rintro e w3 ⟨v3, rfl, ho3, hb3⟩))
      rename_i hHeld1
      have q3 := hHeld1.1
      have HO3 := hide (Owns.weak ho3 (base' := 0) (Nat.zero_le _))
      have HK3 : Hid (∀ w', Below w3.heap.size w3 w' → Below w3.heap.size w3 w' ∧ w'.cell? ⟨sb, so + k * 3, none⟩ = some (.int .i64 s.mark) ∧ w'.cell? ⟨sb, so + k * 3 + 1, none⟩ = some (.int .i64 s.unit) ∧ w'.cell? ⟨sb, so + k * 3 + 2, none⟩ = some s.v) := fun w' hw => ⟨hw, (unhide HK _ (bl_trans q3 hw)).2⟩
      have Q3 := hide q3
      have HLi := hide ((unhide HOK).lies.below q3)
      clear hHeld1 q3 ho3 hb3 hl2 hb2
      clear w2
      go_wp2_with fail
      go_region_held3 (fun w' => Below w3.heap.size w3 w' ∧ w'.cell? ⟨sb, so + k * 3, none⟩ = some (.int .i64 s.mark) ∧ w'.cell? ⟨sb, so + k * 3 + 1, none⟩ = some (.int .i64 s.unit) ∧ w'.cell? ⟨sb, so + k * 3 + 2, none⟩ = some s.v)
        ((refine unhide HK3 _ ?_; repeat (first
          | exact Below.refl _ _
          | exact And.left (by assumption)
          | refine Below.drew ?_
          | refine bl_trans ?_ (by assumption))))
        (first
          | (go_at_call 6; refine (pick_any _ _ _ (by decide) (by decide) (by omega) (by omega)).mono ?_; rintro e w2 ⟨rfl, rfl⟩)
          | (go_at_call 7; refine (data_any _ _ _ s.data _ ?_ (unhide HOK).len).mono ?_; exact (unhide HLi).below (And.left (by assumption)); rintro e w4 ⟨v4, rfl, hl4, hb4⟩)
          | (go_at_call 8; refine (framed_any _ _ _ (sdata s.mark s.data) _ (unhide HVs).m0 (unhide HVs).m1 (unhide HVs).u0 (unhide HVs).u1 hl4 (by omega) (by omega)).mono ?_; rintro e w5 ⟨v5, rfl, ho5, hb5⟩))
      rename_i hHeld2
      have q5 := hHeld2.1
      have HL5 : Hid (Lies w5 v5 (bytesOf s.fr)) := Owns.lies ho5
      have HL3 : Hid (Lies w5 v3 (bytesOf s.fr)) := (Owns.lies (unhide HO3)).below q5
      have HB5 := hide (bl_trans (unhide Q3) q5)
      have HBy := hide (bytesOf_bys (unhide HVs))
      clear hHeld2 q5 ho5 hb5 hl4 hb4 HK HK3 HLi HO3 Q3
      clear w4
      have hkf : k < fs.length := by rw [unhide HLf]; exact hlt
      have HSF : Hid (fs[k] = s.fr) := by
        show fs[k] = s.fr
        have : fs[k]? = some s.fr := by rw [unhide HFs, List.getElem?_map, unhide HK0]; rfl
        rw [List.getElem?_eq_getElem hkf] at this
        exact Option.some.inj this
      have hFl := bytesOf_len s.fr
      have hFv := (unhide HVs).l1
      have hFne : bytesOf s.fr ≠ [] := by intro e; rw [e] at hFl; simp at hFl; omega
      obtain ⟨g3, o3, c3, rfl, _, hg3, hc3⟩ := (unhide HL3).shape hFne
      have HC3 := hide hc3
      have hAl : (stream (fs.take k)).length ≤ 260 * k := by
        have := stream_len_le (fs := fs.take k) (fun f hf => unhide HV f (List.mem_of_mem_take hf))
        simp at this
        omega
      have HE : Hid (endAt fs (k + 1) = (stream (fs.take k)).length + (bytesOf s.fr).length) := by
        show _ = _
        rw [endAt_succ fs k hkf, unhide HSF]
        rfl
      have hO := ownsRow_keep (unhide HL1).own fun j _ p _ => (unhide HB5).block j p
      have hN := ownsRow_keep (unhide HL1).ends fun j _ p _ => (unhide HB5).block j p
      have hz5 : w.heap.size + 1 ≤ w5.heap.size := by
        have := (unhide HB5).size
        have := (Array.getElem?_eq_some_iff.1 (unhide HL1).spl).1
        omega
      clear hc3 hFne
      have HX : Hid (∀ (a' en' : Value) (w7 w9 : World) (C : Obj), w7.ownsRow (w.heap.size + 1) 5 1 a' ((stream (fs.take k)).length + (bytesOf s.fr).length) ((stream (fs.take k)).map (Value.int .u8) ++ (bytesOf s.fr).map (Value.int .u8)) → w5.grownBy w7 u8.ownBlock →
          w9.ownsRow (w.heap.size + 1) 3 1 en' (k + 1) ((endsL fs k).map (Value.int .i64) ++ [.int .i64 (((stream (fs.take k)).length : Int) + ((bytesOf s.fr).length : Int))]) → (w7.alloc C).grownBy w9 u9.ownBlock → L1 w fs (k + 1) a' en' w9) := by
        intro a' en' w7 w9 C h1 h2 h3 h4
        refine (unhide HL1).next hkf (unhide HB5) (w7 := w7) (C := C) ?_ h2 ?_ h4
        · rw [unhide HE, unhide HSF]; exact h1
        · rw [unhide HE]; simpa using h3
      generalize (stream (fs.take k)).map (Value.int .u8) = AV at hO HX
      generalize (endsL fs k).map (Value.int .i64) = EV at hN HX
      generalize (stream (fs.take k)).length = nA at hO HX hAl HE
      have hFb : (bytesOf s.fr).length ≤ 260 := by omega
      have hFp : 0 < (bytesOf s.fr).length := by omega
      clear hFl hFv
      generalize bytesOf s.fr = F at *
      clear HE
      go_wp2_with fail
      refine (same_any _ _ F F _ (unhide HL3) (unhide HL5) (unhide HBy) (unhide HBy)).mono ?_
      rintro e w6 ⟨rfl, rfl⟩
      go_wp2_with (at_builtin; refine wpList_append_lies _ rfl (.tmp 90) (.tmp 91) 26 rfl (w.heap.size + 1) 5 i5 (.int .u8 0) 1 1 Try.underlying26 hi5 hz50 hz51 hz52 rfl (by decide) u8 nA AV rfl hO ⟨g3, o3, none⟩ F.length c3 (F.map (Value.int .u8)) rfl (by simp) (news_lies (unhide HC3)) (one_bytes _) (by omega) (by unfold maxLen; omega) (by omega) hz5 _ rfl ?_)
      intro g7 cap7 w7 o7 gr7 _ _
      have hN7 := hN.kept gr7 (apart_types hN hO (by decide))
      have hz7 := gr7.size
      have HO7 := hide o7
      have HG7 := hide gr7
      clear o7 gr7 hO hN HL3 HL5 HC3
      go_wp2_with (at_builtin; refine wpList_append_lies _ rfl (.tmp 93) (.tmp 96) 23 rfl (w.heap.size + 1) 3 i3 (.int .i64 0) 1 8 Try.underlying23 hi3 hz30 hz31 hz32 rfl (by decide) u9 k EV rfl (hN7.alloc _) ⟨w7.heap.size, 0, none⟩ 1 1 [.int .i64 ((nA : Int) + (F.length : Int))] rfl rfl ?c1 ?c2 (by decide) ?c3 ?c4 ?c5 _ rfl ?_)
      case c1 =>
        intro j u hj
        match j, hj with
        | 0, hj => simp at hj; subst hj; simp [Addr.add]
      case c2 =>
        intro u hu
        simp at hu
        subst hu
        rfl
      case c3 => unfold maxLen; omega
      case c4 => omega
      case c5 => simp; omega
      intro g9 cap9 w9 o9 gr9 _ _
      have R := unhide HX _ _ _ _ _ (unhide HO7) (unhide HG7) o9 gr9
      clear o9 gr9 hN7
      go_wp2
      go_roundw
      case rel => exact ⟨k + 1, by omega, by go_num, R⟩
      case measure => simp [intOf]; omega
    · have hkl : k = fs.length := by have := unhide HLf; omega
      have H2 : Hid (L2 w fs u8 u9 0 0 wr) := by
        have h1 := unhide HL1
        rw [hkl] at h1
        exact h1.l2
      obtain ⟨oa, ca, rfl, hoa1, hoa2⟩ := ownsRow_opt (unhide H2).own
      obtain ⟨oe, ce, rfl, hoe1, hoe2⟩ := ownsRow_opt (unhide H2).ends
      have hsl : (stream fs).length ≤ 272629760 := by
        have := stream_len_le (unhide HV)
        have := unhide HLf
        omega
      have HA1 := hide hoa1
      have HA2 := hide hoa2
      have HE1 := hide hoe1
      have HE2 := hide hoe2
      have hfl : fs.length ≤ 1048576 := by have := unhide HLf; omega
      clear HL1 hkl hoa1 hoa2 hoe1 hoe2
      go_wp2_with fail
      go_loopw [15, 16, 17] (fun at_ got i wr => ∃ p d j : Nat, at_ = .int .i64 p ∧ got = .int .i64 d ∧ i = .int .i64 j ∧ j ≤ cs.length + 1 ∧ (j = cs.length + 1 → p = (stream fs).length) ∧ L2 w fs (.slice oa (stream fs).length ca) (.slice oe fs.length ce) p d wr) (fun at_ _ i _ => (cs.length + 1 - (intOf i).toNat))
      case atStart => exact ⟨0, 0, 0, rfl, rfl, rfl, by omega, by omega, unhide H2⟩
      case round =>
        obtain ⟨p, d, j, rfl, rfl, rfl, hj, hjp, hL⟩ := hrel
        have HL2 := hide hL
        clear hL
        by_cases hp : p < (stream fs).length
        · obtain ⟨x0, rfl⟩ : ∃ x, oa = some x := by
            cases oa with
            | none => have := unhide HA1 rfl; omega
            | some x => exact ⟨x, rfl⟩
          obtain ⟨ga, rfl, hca⟩ := unhide HA2 x0 rfl
          have hjc : j ≤ cs.length := by
            rcases Nat.lt_or_ge j (cs.length + 1) with h | h
            · omega
            · have := hjp (by omega); omega
          clear HA1 HA2 hjp
          generalize hN : (stream fs).length = N at *
          have HN := hide hN
          clear hN
          go_upto_if 111 with fail
          go_cut [18] (fun n wc => ∃ n' : Nat, n = .int .i64 n' ∧ p + n' ≤ N ∧ (j = cs.length → p + n' = N) ∧ wc = wr)
          case first =>
            by_cases hjl : j < cs.length
            · obtain rfl : oc = some ⟨cb, co, none⟩ := (unhide HOc).resolve_right (fun e => by simp [e] at hjl)
              have hcl := (unhide HCu).lt (fun e => by simp [e] at hjl)
              have c1 : wr.cell? ⟨cb, co + j, none⟩ = some (.int .i64 (cs.getD j 0)) := ((unhide HL2).below.cell (by exact hcl)).trans ((unhide HCu).c j hjl)
              have lo := (unhide HCu).lo j
              have hi := (unhide HCu).hi j
              generalize cs.getD j 0 = x at *
              have pb := pickI_bd x 40 (by omega)
              go_wp2_with (go_at_call 6; refine (pick_any _ _ _ (by decide) (by decide) (by omega) (by omega)).mono ?_; rintro e w2 ⟨rfl, rfl⟩)
              all_goals go_meet
              · exact ⟨(pickI x 40).toNat, by rw [Int.toNat_of_nonneg pb.1], by omega, by omega, rfl⟩
              · exact ⟨N - p, by rw [show ((N - p : Nat) : Int) = (N : Int) - (p : Int) by omega], by omega, fun _ => by omega, rfl⟩
            · go_wp2
              go_meet
              exact ⟨N - p, by rw [show ((N - p : Nat) : Int) = (N : Int) - (p : Int) by omega], by omega, fun _ => by omega, rfl⟩
          case rest =>
            obtain ⟨n', rfl, hn1, hn2, rfl⟩ := hcut
            obtain ⟨d', hd'⟩ := due_exists fs (p + n')
            obtain ⟨q, q', e1, hq, e2, e3, hq'⟩ := feed_next (unhide HV) (unhide HL2).due hd' (by rw [unhide HN]; exact hn1)
            have hdm := due_mono (unhide HL2).due hd'
            obtain ⟨q0, f1, f2, f3, hspl⟩ := (unhide HL2).spl
            rw [e1] at f1
            obtain rfl : q = q0 := by simpa using f1
            have hxl : (((stream fs).drop p).take n').length = n' := by
              have := unhide HN
              rw [List.length_take, List.length_drop]
              omega
            have HXl := hide hxl
            have HQ := hide hq
            have HSp := hide hspl
            have HE2 := hide e2
            have HE3 := hide e3
            have HD' := hide hd'
            clear e1 e2 e3 f1 f2 f3 hspl hd' hq hq' hxl
            have hnp : (p : Int) + (n' : Int) ≤ (N : Int) := by omega
            go_wp2_with fail
            have hgl : w.heap.size + 1 ≤ ga ∧ ga < wc.heap.size := World.ownsRow.lt (unhide HL2).own ga rfl
            have hcx : ∀ i, i < (((stream fs).drop p).take n').length → wc.cell? ⟨ga, p + i, none⟩ = some (.int .u8 ((((stream fs).drop p).take n').getD i 0)) := by
              intro i hi
              have hN := unhide HN
              rw [unhide HXl] at hi
              have ho := (unhide HL2).own
              unfold Owns at ho
              rw [hN] at ho
              rw [ho.cellAt (p + i) (by omega)]
              have hpi : p + i < (stream fs).length := by omega
              simp [List.getD, hi, List.getElem?_eq_getElem hpi]
            refine (rfeed_n w.heap.size q false 46 ga p (ca - p) n' (((stream fs).drop p).take n') wc (unhide HXl) (unhide HSp) (unhide HQ) hcx (.inr ⟨hgl.2, by omega⟩) (((stream_bys (unhide HV)).drop _).take _) (by omega)).mono ?_
            rw [unhide HE2]
            rintro e w1 ⟨v, ds, rfl, R⟩
            have HR := hide R
            obtain ⟨ol, cl, rfl, hol1, hol2⟩ := ownsRow_opt R.gave.row
            have hdl : ds.length = d' - d := by
              have := congrArg List.length R.fs
              have h1 := (unhide HD').1
              simp at this
              omega
            have HO1 := hide hol1
            have HO2 := hide hol2
            have HDl := hide hdl
            have hdf : d' ≤ fs.length := (unhide HD').1
            clear R hol1 hol2 hdl hcx
            generalize hnle : ds.length = nl at *
            have HNL := hide hnle
            clear hnle
            simp only [Bool.false_eq_true, if_false]
            go_wp2_with fail
            simp only [Nat.add_sub_cancel_left]
            go_loop [21] (fun x => ∃ m : Nat, m ≤ d' ∧ x = .int .i64 m) (fun x => d' - (intOf x).toNat)
            case atStart => exact ⟨0, by omega, rfl⟩
            case round =>
              obtain ⟨m, hm, rfl⟩ := hrel
              go_upto_region 27 with fail
              go_cut [144] (fun c wq => c = .bool (decide (m < d')) ∧ wq = w1)
              case first =>
                by_cases hmf : m < fs.length
                · obtain ⟨x1, rfl⟩ : ∃ x, oe = some x := by
                    cases oe with
                    | none => have := unhide HE1 rfl; omega
                    | some x => exact ⟨x, rfl⟩
                  obtain ⟨ge, rfl, hce⟩ := unhide HE2 x1 rfl
                  have hen : w1.ownsRow (w.heap.size + 1) 3 1 (.slice (some ⟨ge, 0, none⟩) fs.length ce) fs.length ((endsL fs fs.length).map (Value.int .i64)) :=
                    ownsRow_keep (unhide HL2).ends fun k h1 h2 _ => (unhide HR).grown.block k h2 (fun e => by cases e; omega)
                  have c1 : w1.cell? ⟨ge, m, none⟩ = some (.int .i64 ((endAt fs (m + 1) : Nat) : Int)) := by
                    rw [hen.cellAt m (by omega)]
                    simp [endsL, hmf]
                  have hEn := endAt_lt fs m hmf
                  by_cases hmd : m < d'
                  · have hc2 : ((endAt fs (m + 1) : Nat) : Int) ≤ (p : Int) + (n' : Int) := by
                      have h1 := endAt_mono fs (m + 1) d' (by omega)
                      have h2 := (unhide HD').2.1
                      omega
                    have hdm' : decide (m < d') = true := by simp [hmd]
                    clear hen
                    generalize endAt fs (m + 1) = E at *
                    go_wp2
                    go_meet
                    exact ⟨by rw [hdm'], rfl⟩
                  · have hc2 : decide (((endAt fs (m + 1) : Nat) : Int) ≤ (p : Int) + (n' : Int)) = false := by
                      have h2 := (unhide HD').2.2
                      have e : m = d' := by omega
                      subst e
                      have := h2.resolve_left (by omega)
                      simp
                      omega
                    have hdm' : decide (m < d') = false := by simp [hmd]
                    clear hen
                    generalize endAt fs (m + 1) = E at *
                    go_wp2
                    go_meet
                    exact ⟨by rw [hdm'], rfl⟩
                · have hdm' : decide (m < d') = false := by simp; omega
                  have hmf' : decide ((m : Int) < (fs.length : Int)) = false := by simp; omega
                  go_wp2
                  go_meet
                  exact ⟨by rw [hdm'], rfl⟩
              case rest =>
                obtain ⟨rfl, rfl⟩ := hcut
                by_cases hmd : m < d'
                · have hdm' : decide (m < d') = true := by simp [hmd]
                  go_wp2
                  go_round
                  case rel => exact ⟨m + 1, by omega, by go_num⟩
                  case measure => simp [intOf]; omega
                · have hdm' : decide (m < d') = false := by simp [hmd]
                  obtain rfl : m = d' := by omega
                  have hnl : ((nl : Int) != (m : Int) - (d : Int)) = false := by
                    have := unhide HDl
                    rw [bne_eq_false_iff_eq]
                    omega
                  go_wp2_with fail
                  have HDD : Hid (d ≤ m) := hdm
                  go_loopw [22] (fun kk wq => ∃ t : Nat, t ≤ nl ∧ kk = .int .i64 t ∧ Below wc.heap.size wc wq) (fun kk _ => nl - (intOf kk).toNat)
                  case atStart => exact ⟨0, Nat.zero_le _, rfl, Below.refl _ _⟩
                  case round =>
                    obtain ⟨t, ht, rfl, hbq⟩ := hrel
                    have HBq := hide hbq
                    have HL3 := hide ((unhide HL2).next (unhide HD') (by rw [unhide HN]; exact hn1) (unhide HE3) (unhide HV) (unhide HR) hbq)
                    clear hbq
                    by_cases htl : t < nl
                    · have hdt : d + t < fs.length := by have := unhide HDl; omega
                      have hds : d + t < ss.length := by have := unhide HLf; omega
                      obtain rfl : os = some ⟨sb, so, none⟩ := (unhide HOs).resolve_right (fun e => by simp [e] at hds)
                      obtain ⟨x0, rfl⟩ : ∃ x, ol = some x := by
                        cases ol with
                        | none => have := unhide HO1 rfl; omega
                        | some x => exact ⟨x, rfl⟩
                      obtain ⟨gl, rfl, hcl⟩ := unhide HO2 x0 rfl
                      obtain ⟨s, hs⟩ : ∃ s, ss[d + t]? = some s := ⟨_, List.getElem?_eq_getElem hds⟩
                      obtain ⟨dd, hdd, hfr⟩ : ∃ dd, ds[t]? = some dd ∧ dd.fr = s.fr := by
                        have e1 : (ds.map (·.fr))[t]? = some s.fr := by
                          rw [(unhide HR).fs, List.getElem?_drop, List.getElem?_take, if_pos (by have := unhide HDl; omega), unhide HFs, List.getElem?_map, hs]
                          rfl
                        rw [List.getElem?_map] at e1
                        cases hx : ds[t]? with
                        | none => rw [hx] at e1; cases e1
                        | some dd => rw [hx] at e1; exact ⟨dd, rfl, by simpa using e1⟩
                      have hSr := (unhide HSn).below (unhide HL3).below
                      have hok := hSr.ok s (List.mem_of_getElem? hs)
                      have HOK := hide hok
                      have hm0 := hok.m0
                      have hm1 := hok.m1
                      have hu0 := hok.u0
                      have hu1 := hok.u1
                      have hsl := hSr.lt (fun e => by simp [e] at hds)
                      have a0 := hSr.c0 _ s hs
                      have a1 := hSr.c1 _ s hs
                      have a2 := hSr.c2 _ s hs
                      have hG := (unhide HR).gave
                      rw [← unhide HNL] at hG
                      have hGa := hG.at hdd
                      rw [hfr] at hGa
                      have hlw : gl < wc.heap.size := (hG.row.lt gl rfl).2
                      have b0 := ((unhide HBq).cell (p := ⟨gl, t * 3, none⟩) (by exact hlw)).trans hGa.1
                      have b1 := ((unhide HBq).cell (p := ⟨gl, t * 3 + 1, none⟩) (by exact hlw)).trans hGa.2.1
                      have b2 := ((unhide HBq).cell (p := ⟨gl, t * 3 + 2, none⟩) (by exact hlw)).trans hGa.2.2.1
                      have HLi := hide (hGa.2.2.2.below (unhide HBq))
                      have HBys := hide (sdata_bys s.mark s.data hok.bys)
                      have hzq := (unhide HBq).size
                      generalize dd.val = dv at *
                      have HLs := hide hok.lies
                      have hlen := hok.len
                      have HLen := hide hlen
                      obtain ⟨ov, nv, cv, hsv⟩ : ∃ ov nv cv, s.v = .slice ov nv cv := by
                        rcases hok.lies with ⟨_, _, e, _⟩ | ⟨b, o, c, e, _⟩
                        · exact ⟨_, _, _, e⟩
                        · exact ⟨_, _, _, e⟩
                      rw [hsv] at a2 HLs
                      clear hSr hok hG hGa hdd hfr hs hsv hlen HOK
                      have ht0 : (0 : Int) ≤ (t : Int) := by omega
                      have ht1 : (t : Int) < (nl : Int) := by omega
                      have ht2 : (d : Int) + (t : Int) < (ss.length : Int) := by omega
                      go_wp2_with fail
                      have HX1 : Hid (Below wr.heap.size wr (wr.alloc (.cells #[.int .i64 s.mark, .int .i64 s.unit, .slice ov nv cv] 32))) := (Below.refl _ _).alloc (Nat.le_refl _) _
                      have HXc := hide (heap_alloc_new wr (.cells #[.int .i64 s.mark, .int .i64 s.unit, .slice ov nv cv] 32))
                      have hXs : (wr.alloc (.cells #[.int .i64 s.mark, .int .i64 s.unit, .slice ov nv cv] 32)).heap.size = wr.heap.size + 1 := by simp
                      have HXs := hide hXs
                      clear hXs
                      generalize wr.alloc (.cells #[.int .i64 s.mark, .int .i64 s.unit, .slice ov nv cv] 32) = wx at *
                      have hlr : gl < wr.heap.size := by omega
                      have HK : Hid (∀ w', Below wx.heap.size wx w' → Below wx.heap.size wx w' ∧ w'.cell? ⟨gl, t * 3, none⟩ = some (.int .i64 s.fr.mark) ∧ w'.cell? ⟨gl, t * 3 + 1, none⟩ = some (.int .i64 s.fr.unit) ∧ w'.cell? ⟨gl, t * 3 + 2, none⟩ = some dv ∧
                          w'.cell? ⟨wr.heap.size, 0, none⟩ = some (.int .i64 s.mark) ∧ w'.cell? ⟨wr.heap.size, 1, none⟩ = some (.int .i64 s.unit) ∧ w'.cell? ⟨wr.heap.size, 2, none⟩ = some (.slice ov nv cv)) := fun w' hw => by
                        have q1 := bl_trans (unhide HX1) hw
                        have q2 : wr.heap.size < wx.heap.size := by rw [unhide HXs]; omega
                        refine ⟨hw, (q1.cell (by exact hlr)).trans b0, (q1.cell (by exact hlr)).trans b1, (q1.cell (by exact hlr)).trans b2, (hw.cell (by exact q2)).trans ?_, (hw.cell (by exact q2)).trans ?_, (hw.cell (by exact q2)).trans ?_⟩
                        · exact cell_of_row _ _ _ _ _ _ (unhide HXc)
                        · exact cell_of_row _ _ _ _ _ _ (unhide HXc)
                        · exact cell_of_row _ _ _ _ _ _ (unhide HXc)
                      clear a0 a1 a2 b0 b1 b2
                      go_region_held3 (fun w' => Below wx.heap.size wx w' ∧ w'.cell? ⟨gl, t * 3, none⟩ = some (.int .i64 s.fr.mark) ∧ w'.cell? ⟨gl, t * 3 + 1, none⟩ = some (.int .i64 s.fr.unit) ∧ w'.cell? ⟨gl, t * 3 + 2, none⟩ = some dv ∧
                          w'.cell? ⟨wr.heap.size, 0, none⟩ = some (.int .i64 s.mark) ∧ w'.cell? ⟨wr.heap.size, 1, none⟩ = some (.int .i64 s.unit) ∧ w'.cell? ⟨wr.heap.size, 2, none⟩ = some (.slice ov nv cv))
                        ((refine unhide HK _ ?_; repeat (first
                          | exact Below.refl _ _
                          | exact And.left (by assumption)
                          | refine Below.drew ?_
                          | refine bl_trans ?_ (by assumption))))
                        (first
                          | (go_at_call 7; refine (data_any _ _ _ s.data _ ?_ (unhide HLen)).mono ?_; exact (unhide HLs).below (bl_trans (unhide HX1) (And.left (by assumption))); rintro e w4 ⟨v4, rfl, hl4, hb4⟩)
                          | (go_at_call 9; refine (same_any _ _ (sdata s.mark s.data) (sdata s.mark s.data) _ ?_ hl4 (unhide HBys) (unhide HBys)).mono ?_; exact (unhide HLi).below (bl_trans (unhide HX1) (And.left (by assumption))); rintro e w5 ⟨rfl, rfl⟩))
                      rename_i hHeld3
                      have c0 : w5.cell? ⟨gl, t * 3, none⟩ = some (.int .i64 (pickI s.mark 65536)) := hHeld3.2.1
                      have c1 : w5.cell? ⟨gl, t * 3 + 1, none⟩ = some (.int .i64 (pickI s.unit 256)) := hHeld3.2.2.1
                      have c2 := hHeld3.2.2.2.2.1
                      have c3 := hHeld3.2.2.2.2.2.1
                      have HB5 := hide (bl_trans (unhide HBq) (bl_trans (unhide HX1) hHeld3.1))
                      clear hHeld3 hl4 hb4 HK HLi HLs
                      go_wp2_with fail
                      go_quiet ((go_at_call 6; exact Calls.quiet_of_same (pick_any _ _ _ (by decide) (by decide) (by omega) (by omega))))
                      go_wp2
                      go_roundw
                      case rel => exact ⟨t + 1, by omega, by go_num, below_drewN (unhide HB5) _⟩
                      case measure => simp [intOf]; omega
                    · go_wp2
                      go_roundw
                      case rel => exact ⟨p + n', m, j + 1, by go_num, rfl, by go_num, by omega, fun e => hn2 (by omega), unhide HL3⟩
                      case measure => simp [intOf]; omega
        · have hpe : p = (stream fs).length := by have := (unhide HL2).le; omega
          have HSp : Hid (wr.heap[w.heap.size]? = some (.cells (spl [] false) 46 (0, 0))) := by
            obtain ⟨q, _, _, hq, hs⟩ := (unhide HL2).spl
            rw [hq hpe] at hs
            exact hs
          have HBw := hide (unhide HL2).below
          have hwlt : w.heap.size < wr.heap.size := (Array.getElem?_eq_some_iff.1 (unhide HSp)).1
          have hpb := pickI_bd bad 6 (by omega)
          clear HL2 hjp hpe
          go_upto_region 40 with fail
          go_cut [26] (fun v wq => ∃ g ws, WrongAt wr v wq g ws)
          case first =>
            obtain ⟨qb, hqb⟩ := Int.eq_ofNat_of_zero_le hpb.1
            have hq6 : qb < 6 := by omega
            go_wp2_with (go_at_call 6; refine (pick_any _ _ _ (by decide) (by decide) (by omega) (by omega)).mono ?_; rintro e w2 ⟨rfl, rfl⟩; rw [hqb])
            go_meet
            exact wrong_at _ qb hq6 _
          case rest =>
            obtain ⟨g, ws, hW⟩ := hcut
            obtain rfl := hW.val
            have HW := hide hW
            have hWr := wrong_of hW.mem
            have HWr := hide hWr
            have hl0 := hWr.l0
            have hl1 := hWr.l1
            have hge := hW.ge
            have hlt' := hW.lt
            have hwc := hW.below.size
            have hgb : w.heap.size < g := by omega
            have hsp1 : wc.heap[w.heap.size]? = some (.cells (spl [] false) 46 (0, 0)) := by rw [hW.below.block _ hwlt]; exact unhide HSp
            have HS1 := hide hsp1
            clear hW hWr hsp1
            have hi1 : (1 : Int) ≤ (ws.length : Int) := by omega
            go_wp2_with fail
            have hcx1 : ∀ i, i < (ws.take (ws.length - 1)).length → wc.cell? ⟨g, 0 + i, none⟩ = some (.int .u8 ((ws.take (ws.length - 1)).getD i 0)) := fun i hi => by
              have hi' : i < ws.length - 1 := by rw [List.length_take] at hi; omega
              rw [Nat.zero_add, (unhide HW).cells i (by omega), getD_take _ _ _ hi']
            refine (rfeed_n w.heap.size [] false 46 g 0 ws.length (ws.length - 1) (ws.take (ws.length - 1)) wc (by rw [List.length_take]; omega) (unhide HS1) Held.nil hcx1 (.inr ⟨hlt', by omega⟩) ((unhide HWr).bys.take _) (by omega)).mono ?_
            rw [(unhide HWr).one]
            rintro e w1 ⟨v1, ds1, rfl, R1⟩
            obtain ⟨o1, c1, rfl⟩ := R1.none
            simp only [Bool.false_eq_true, if_false]
            have HR1 := hide R1
            have hz1 := R1.grown.size
            clear R1 hcx1
            go_wp2_with fail
            refine (rfeed_n w.heap.size (ws.take (ws.length - 1)) false 46 g (ws.length - 1) (ws.length - (ws.length - 1)) (ws.length - (ws.length - 1)) (ws.drop (ws.length - 1)) w1 (by rw [List.length_drop]) (unhide HR1).row (unhide HWr).held (tail_two (unhide HW) (Nat.ne_of_gt hgb) (unhide HR1).grown) (.inr ⟨Nat.lt_of_lt_of_le hlt' hz1, Nat.ne_of_gt hgb⟩) ((unhide HWr).bys.drop _) (Nat.le_trans (Nat.sub_le _ _) (Nat.le_trans hl1 (by decide)))).mono ?_
            rw [(unhide HWr).two]
            rintro e w2 ⟨v2, ds2, rfl, R2⟩
            obtain ⟨o2, c2, rfl⟩ := R2.none
            simp only [if_true]
            have HB2 := hide (below_two (unhide HBw) hwlt (unhide HW).below (unhide HR1).grown R2.grown)
            have HS2 := hide R2.row
            clear R2 HR1 HW HWr
            go_wp2_with fail
            refine (framed_any _ _ _ [3] _ (by decide) (by decide) (by decide) (by decide) (lies_new w2 #[.int .u8 3] [3] rfl) (by decide) (by decide)).mono ?_
            rintro e w3 ⟨v3, rfl, ho3, hb3⟩
            obtain ⟨g3, c3, rfl, hc3, hg3, hgn3, hs3⟩ := tail_three (unhide HS2) ho3 hb3
            have HB3 := hide hb3
            have HC3 := hide hc3
            have HS3 := hide hs3
            clear ho3 hb3 hc3 hs3
            have hlf : (frameL 1 2 [3]).length ≤ 1000000000 := by decide
            have HF3 := hide (bytesOf_bys f3_valid)
            go_wp2_with fail
            refine (rfeed_n w.heap.size [] true 46 g3 0 c3 _ (frameL 1 2 [3]) w3 rfl (unhide HS3) Held.nil (unhide HC3) (.inr ⟨hg3, hgn3⟩) (unhide HF3) hlf).mono ?_
            rw [feed_true]
            rintro e w4 ⟨v4, ds4, rfl, R4⟩
            obtain ⟨o4, c4, rfl⟩ := R4.none
            simp only [if_true]
            have HB4 := hide (below_three (unhide HB2) (unhide HB3) R4.grown)
            clear R4
            go_wp2
            go_ret
            exact ⟨rfl, unhide HB4⟩
end Go.Proofs.Ytfekelmldebplaa
