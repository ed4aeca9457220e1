import Derived.Test.YtfekelmldebplaaGreatDoorZc
namespace Go.Proofs.YtfekelmldebplaaGreatDoor
open Go.RowKit Go.MuLone

theorem packN_zeros (n N k : Nat) : packN (List.replicate n 0) N k = List.replicate N 0 := by
  induction k with
  | zero => rfl
  | succ k ih =>
    unfold packN
    rw [if_neg (by rw [rep_get]; omega), ih]
theorem packL_zeros (n : Nat) : packL (List.replicate n 0) = List.replicate ((n + 7) / 8) 0 := by
  unfold packL
  rw [packN_zeros, List.length_replicate]

set_option maxRecDepth 10000 in
set_option maxHeartbeats 4000000 in
theorem coils_any (cb co c : Nat) (a : Option Addr) (raw : List Int) (fr on mo : Int) (w : World) (ha : a = some ⟨cb, co, none⟩ ∨ raw = []) (h : IntsAt w cb co raw) (hr : raw.length ≤ 1152921504606846976) (f0 : -9223372036854775808 ≤ fr ∧ fr ≤ 9223372036854775807) (o0 : -9223372036854775808 ≤ on ∧ on ≤ 9223372036854775807) :
    Calls Tryz.prog 9 #[.slice a raw.length c, .int .i64 fr, .int .i64 on, .int .i64 mo] w fun e w' => e = .returned (.bool true) ∧ Below w.heap.size w w' := by
  have HVal := hide (values_any cb co c a raw 2 100 w ha h (by omega) (by omega) hr (by omega))
  rw [show ((100 : Nat) : Int) = 100 from rfl] at HVal
  have hvl := valuesL_len raw 2 100 (by omega)
  have HVin := hide (valuesL_in raw 2 100 (by omega))
  generalize valuesL raw 2 100 = xs at HVal hvl HVin
  clear h
  have hXin : ∀ x ∈ xs, 0 ≤ x ∧ x ≤ 1 := fun x hx => by have := unhide HVin x hx; omega
  have hX01 : ∀ x ∈ xs, x = 0 ∨ x = 1 := fun x hx => by have := unhide HVin x hx; omega
  have HP2 := hide (fun w => pick_any fr (200 - (xs.length : Int) + 1) w (by omega) (by omega) f0.1 f0.2)
  have hpb := pickI_bd fr (200 - (xs.length : Int) + 1) (by omega)
  obtain ⟨p, hp⟩ : ∃ p : Nat, pickI fr (200 - (xs.length : Int) + 1) = (p : Int) := ⟨(pickI fr (200 - (xs.length : Int) + 1)).toNat, by omega⟩
  rw [hp] at HP2 hpb
  have hp1 : p + xs.length ≤ 200 := by omega
  clear hp hpb
  go_enter Tryz.func9, Tryz.ntmps9
  go_wp2_with fail
  refine (unhide HVal).mono ?_
  rintro e w1 ⟨v1, rfl, hO1, hb1⟩
  obtain ⟨av, cv, rfl, hav1, hav2⟩ := ownsRow_opt hO1
  obtain ⟨y0, rfl⟩ : ∃ y, av = some y := by
    cases av with
    | none => have := hav1 rfl; omega
    | some y => exact ⟨y, rfl⟩
  obtain ⟨bb, rfl, hcv⟩ := hav2 y0 rfl
  have hbb := World.ownsRow.lt hO1 bb rfl
  have HO1 := hide hO1
  have HB1 := hide hb1
  clear hO1 hb1 hav1 hav2 HVal ha
  go_wp2_with fail
  refine (unhide HP2 w1).mono ?_
  rintro e w1 ⟨rfl, rfl⟩
  have HOp := hide (open200 200 200 0 0 w1 (by omega) (by omega) (by omega) (by omega))
  rw [show ((200 : Nat) : Int) = 200 from rfl, show ((0 : Nat) : Int) = 0 from rfl] at HOp
  clear HP2
  go_wp2_with fail
  refine (unhide HOp).mono ?_
  rintro e w2 ⟨B, rb, sb, tb, kb, t4, us, rfl, hB2, hlB, hb2, hL0, hL1, _, _⟩
  have HO2 := hide (OwnsI.keep (unhide HO1) (Chg.of_below hb2 (fun _ => False)) (fun _ _ e => e))
  have HB2 := hide (bl_trans (unhide HB1) hb2)
  have hBw : w.heap.size ≤ B := Nat.le_trans (unhide HB1).size hlB
  have hbbB : bb < B := Nat.lt_of_lt_of_le hbb.2 hlB
  have HBk2 := hide hB2
  have HPk := hide (packed_any _ xs w2 (OwnsI.lies (unhide HO2)) (by omega))
  clear HOp HO1 HB1 hb2 hB2
  go_wp2_with fail
  refine (unhide HPk).mono ?_
  rintro e w3 ⟨v3, rfl, ho3, hb3⟩
  obtain ⟨a3, c3, rfl, _, _⟩ := ownsRow_opt ho3
  have HO3 := hide (OwnsI.keep (unhide HO2) (Chg.of_below hb3 (fun _ => False)) (fun _ _ e => e))
  have HB3 := hide (bl_trans (unhide HB2) hb3)
  have HBk3 := hide ((unhide HBk2).below hb3)
  have HP3 := hide ho3
  have HPlt : Hid (∀ b, (Value.slice a3 (packL xs).length c3).ownBlock = some b → b < w3.heap.size) := fun b e => (World.ownsRow.lt ho3 b e).2
  have HPk3 := hide (packed_any _ xs w3 (OwnsI.lies (unhide HO3)) (by omega))
  clear HPk HO2 HB2 HBk2 ho3 hb3
  go_wp2_with fail
  refine (unhide HPk3).mono ?_
  rintro e w4 ⟨v4, rfl, ho4, hb4⟩
  obtain ⟨a4, c4, rfl, hav1, hav2⟩ := ownsRow_opt ho4
  have hlN : (packL xs).length = (xs.length + 7) / 8 := packN_len _ _ _
  obtain ⟨m, hm⟩ : ∃ m, (packL xs).length = m + 1 := ⟨(packL xs).length - 1, by omega⟩
  obtain ⟨y4, rfl⟩ : ∃ y, a4 = some y := by
    cases a4 with
    | none => have := hav1 rfl; omega
    | some y => exact ⟨y, rfl⟩
  obtain ⟨g4, rfl, hcv4⟩ := hav2 y4 rfl
  have hg4 := World.ownsRow.lt ho4 g4 rfl
  have HO4 := hide (OwnsI.keep (unhide HO3) (Chg.of_below hb4 (fun _ => False)) (fun _ _ e => e))
  have HB4 := hide (bl_trans (unhide HB3) hb4)
  have HBk4 := hide ((unhide HBk3).below hb4)
  have HP4 := hide ((unhide HP3).kept hb4)
  have HQ4 := hide ho4
  have HM := hide hm
  have HLN := hide hlN
  have hz3 : B ≤ w3.heap.size := by
    have := (Array.getElem?_eq_some_iff.1 (unhide HBk3).row).1
    have := (unhide HBk3).lo
    omega
  have hq := (unhide HQ4).cells m (by rw [hm]; omega)
  have hqf := (unhide HQ4).unfrozen m
  have HQC := hide hq
  have HQF := hide hqf
  rw [hm] at HP4 HQ4 HPlt ⊢
  clear hm hq hqf HPk3 HO3 HB3 HBk3 HP3 ho4 hb4 hav1 hav2 hlN
  go_upto_if 50 with fail
  go_cut [] (fun wq => ∃ qs : List Int, Hid (qs.length = m + 1 ∧ Bys qs ∧ unpackB qs xs.length = xs ∧ Owns wq w3.heap.size (.slice (some ⟨g4, 0, none⟩) (m + 1) c4) qs ∧ Chg w4 wq (fun k => k = g4)))
  case first =>
    obtain ⟨r8, h8⟩ : ∃ r8 : Nat, (xs.length : Int) % 8 = (r8 : Int) := ⟨xs.length % 8, by omega⟩
    have hr8 : (r8 : Int) < 8 := by omega
    have hq := unhide HQC
    have hqf := unhide HQF
    have hm1 : ((m + 1 : Nat) : Int) - 1 = (m : Int) := by omega
    have hmb : (m : Int) ≤ 12 := by have h1 := unhide HM; have h2 := unhide HLN; omega
    by_cases hz : r8 = 0
    · subst hz
      go_wp2
      go_meet
      exact ⟨packL xs, unhide HM, packN_bd _ _ _, unpack_pack xs _ hX01 (fun _ _ => rfl), unhide HQ4, Chg.of_below (Below.refl _ _) _⟩
    · have hz' : (r8 : Int) ≠ 0 := by omega
      have hz1 : ((r8 : Int) != 0) = true := by simp [hz]
      have hz2 : (0 : Int) ≤ (r8 : Int) := by omega
      go_wp2
      go_region
      go_wp2
      go_meet
      have hlb := left_bits xs hX01 m r8 mo (unhide HM) (by omega) hz
      have hst := Owns.store (by have := unhide HQ4; rw [← unhide HM] at this; exact this) m (bits BinOp.or IntKind.u8 ((packL xs).getD m 0) (mo * 2 ^ r8 % 256))
      rw [hlb.1, ← wrap64_byte] at hst
      have hc := Chg.set w4 g4 m (.int .u8 (bits BinOp.or IntKind.u8 ((packL xs).getD m 0) (wrap64 (mo * 2 ^ r8) % 256)))
      rw [← wrap64_byte] at hlb
      exact ⟨_, hlb.1, hlb.2.1, hlb.2.2, hst, ⟨hc.os, hc.tape, hc.output, hc.size, hc.block⟩⟩
  case rest =>
    obtain ⟨qs, HQS⟩ := hcut
    obtain ⟨hql, hqb, hqu, hqo, hqc⟩ := unhide HQS
    have hg4B : B ≤ g4 := Nat.le_trans hz3 hg4.1
    have HO5 := hide (OwnsI.keep (unhide HO4) hqc (fun b e => by simp [Value.ownBlock] at e; subst e; intro e2; have e3 : bb = g4 := e2; omega))
    have HB5 := hide (below_chg (unhide HB4) hqc (fun k e => by have e3 : k = g4 := e; omega))
    have HBk5 := hide ((unhide HBk4).keep5 hqc (fun k e => by have e3 : k = g4 := e; subst e3; exact own_cells (unhide HQ4) rfl))
    have HP5 := hide (show Owns wc w2.heap.size _ (packL xs) from ownsRow_keep (unhide HP4) (fun k _ h2 e => hqc.block k h2 (fun e2 => by
      have e3 : k = g4 := e2
      have := unhide HPlt k e
      omega)))
    have HQ5 := hide hqo
    have HQL := hide hql
    have HQU := hide hqu
    have HQB := hide hqb
    have hmb : (m : Int) ≤ 12 := by have h1 := unhide HM; have h2 := unhide HLN; omega
    clear hql hqb hqu hqo hqc HQS HO4 HB4 HBk4 HP4 HQ4 HPlt HQC HQF
    have HJ := hide (join_head (p : Int) (xs.length : Int) wc)
    go_wp2_with (go_at_call 25; refine (word_any _ _ (by omega) (by omega)).mono ?_; rintro e w' ⟨rfl, rfl⟩)
    refine (unhide HJ).mono ?_
    rintro e w6 ⟨ah, nh, ch, rfl, hoh, hbh⟩
    have HC6 : Hid (CS w w6 B rb sb tb kb t4 us bb cv xs (.slice ah nh ch) (readB p xs.length)) := ⟨bl_trans (unhide HB5) hbh, (unhide HBk5).below hbh, OwnsI.keep (unhide HO5) (Chg.of_below hbh (fun _ => False)) (fun _ _ e => e), hoh.weak (unhide HB5).size, hBw, hbbB⟩
    have HP6 := hide ((unhide HP5).kept hbh)
    have HQ6 := hide ((unhide HQ5).kept hbh)
    clear hoh hbh HO5 HB5 HBk5 HP5 HQ5 HJ
    have HJ := hide (join_four 15 ((m : Int) + 1) ah (some ⟨g4, 0, none⟩) nh ch (m + 1) c4 _ qs w6 (unhide HC6).head.lies (unhide HQ6).lies (by simp [readB, wd]) (fun e => by have := unhide HQL; rw [e] at this; simp at this) (by rw [readB_len]; omega) (by rw [unhide HQL]; omega))
    go_wp2_with fail
    refine (unhide HJ).mono ?_
    rintro e w7 ⟨a7, n7, c7, rfl, ho7, hb7⟩
    have HC7 := hide ((unhide HC6).below hb7)
    have HP7 := hide ((unhide HP6).kept hb7)
    have e15 : (15 : Int) :: (readB p xs.length ++ ((m : Int) + 1) :: qs) = 15 :: b15 p xs.length qs := by
      have := unhide HQL
      unfold readB b15
      rw [show (m : Int) + 1 = (qs.length : Int) by omega]
    rw [e15] at ho7
    have HR7 := hide ho7
    clear e15 ho7 hb7 HQ6 HP6 HC6 HJ
    have HJ := hide (join_cons 15 ah nh ch _ w7 (unhide HC7).head.lies (by simp [readB, wd]) (by rw [readB_len]; omega))
    go_wp2_with fail
    refine (unhide HJ).mono ?_
    rintro e w8 ⟨a8, n8, c8, rfl, ho8, hb8⟩
    have HC8 := hide ((unhide HC7).below hb8)
    have HP8 := hide ((unhide HP7).kept hb8)
    have HR8 := hide ((unhide HR7).kept hb8)
    have HW8 := hide ho8
    clear ho8 hb8 HR7 HP7 HC7 HJ
    have hz : ∀ y ∈ List.replicate 200 (0 : Int), 0 ≤ y ∧ y ≤ 1 := fun y hy => by have := List.eq_of_mem_replicate hy; omega
    have HD := hide (done_15 B rb sb tb kb t4 us p xs qs _ _ (List.replicate 200 0) w8 _ _ (unhide HC8).bk hL0 (by simp) hvl.1 hvl.2 (by simp; omega) hz hXin (by rw [unhide HQL, ← unhide HM]; exact unhide HLN) (unhide HQU) (unhide HQB) (unhide HR8) (unhide HW8))
    go_wp2_with fail
    refine (unhide HD).mono ?_
    rintro e w9 ⟨rfl, hB9, hc9⟩
    have HP9 := hide ((unhide HP8).bank (unhide HC8).bk 0 (by omega) hc9)
    have HC9 := hide ((unhide HC8).done 0 (by omega) hc9 hB9)
    obtain ⟨L5, hL5⟩ : ∃ L, L = setL (List.replicate 200 0) p xs := ⟨_, rfl⟩
    have hat5 := put_at t4 0 (by omega) L5
    have hl5 : L5.length = 200 := by rw [hL5, setL_len _ _ _ (by simp; omega)]; simp
    have hsp5 : spanL L5 p xs.length = xs := by rw [hL5]; exact span_set _ _ _ (by simp; omega)
    have hin5 : ∀ y ∈ L5, 0 ≤ y ∧ y ≤ 1 := fun y hy => by
      rw [hL5] at hy
      rcases span_set_in _ _ _ y hy with hy | hy
      · exact hz y hy
      · exact hXin y hy
    rw [← hL5] at HC9
    have hb9 : (((t4.put 0 L5).at 1).L) = List.replicate 200 0 := hL1
    generalize t4.put 0 L5 = t5 at HC9 hat5 hb9
    have HL5 := hide hL5
    have HA5 := hide hat5
    have HI5 := hide hin5
    have HS5 := hide hsp5
    have HZ5 := hide hl5
    have HU5 := hide hb9
    clear hc9 hB9 HD HR8 HW8 HP8 HC8 hz HQL HQU HQB hL5 hat5 hin5 hsp5 hl5 hb9 hL0 hL1
    -- reading
    have HJ := hide (join_cons 1 ah nh ch _ w9 (unhide HC9).head.lies (by simp [readB, wd]) (by rw [readB_len]; omega))
    go_wp2_with fail
    refine (unhide HJ).mono ?_
    rintro e w10 ⟨a10, n10, c10, rfl, ho10, hb10⟩
    have HC10 := hide ((unhide HC9).below hb10)
    have HP10 := hide ((unhide HP9).kept hb10)
    have HR10 := hide ho10
    clear ho10 hb10 HP9 HC9 HJ
    have HJ := hide (join_ans 1 ((m : Int) + 1) a3 (m + 1) c3 (packL xs) w10 (unhide HP10).lies (fun e => by have := unhide HM; rw [e] at this; simp at this) (by rw [unhide HM]; omega))
    go_wp2_with fail
    refine (unhide HJ).mono ?_
    rintro e w11 ⟨a11, n11, c11, rfl, ho11, hb11⟩
    have HC11 := hide ((unhide HC10).below hb11)
    have HR11 := hide ((unhide HR10).kept hb11)
    have e11 : (1 : Int) :: ((m : Int) + 1) :: packL xs = fnOf 0 :: ((packT 0 (spanL L5 p xs.length)).length : Int) :: packT 0 (spanL L5 p xs.length) := by
      have := unhide HM
      rw [unhide HS5, show packT 0 xs = packL xs from rfl, show ((packL xs).length : Int) = (m : Int) + 1 by omega]
      rfl
    rw [e11] at ho11
    have hbys : Bys (fnOf 0 :: ((packT 0 (spanL L5 p xs.length)).length : Int) :: packT 0 (spanL L5 p xs.length)) := by
      rw [← e11]
      intro y hy
      rcases List.mem_cons.1 hy with rfl | hy
      · omega
      · rcases List.mem_cons.1 hy with rfl | hy
        · omega
        · exact packN_bd _ _ _ y hy
    have HD := hide (done_read B rb sb tb kb t5 us 0 p xs.length _ _ L5 w11 _ _ (unhide HC11).bk (by omega) (unhide HA5).1 (by rw [unhide HZ5]; omega) hvl.1 (by omega) (by rw [unhide HZ5]; omega) (unhide HI5) (unhide HR11) ho11 hbys)
    clear e11 ho11 hb11 HR10 HP10 HC10 HJ hbys
    go_wp2_with fail
    refine (unhide HD).mono ?_
    rintro e w12 ⟨rfl, hB12, hc12⟩
    have HC12 := hide ((unhide HC11).done 0 (by omega) hc12 hB12)
    clear hc12 hB12 HD HC11 HR11
    have HG := hide (relayGet_any B rb sb tb kb _ _ us 0 (by omega) (p : Int) (xs.length : Int) w12 (unhide HC12).bk (by omega))
    go_wp2_with fail
    refine (unhide HG).mono ?_
    rintro e w13 ⟨v13, rfl, hg13, hB13, hc13⟩
    have HC13 := hide ((unhide HC12).got hc13 hB13)
    have hge := getErr_ok (t5.at 0).L.length p xs.length (by rw [(unhide HA5).1, unhide HZ5]; omega)
    rw [hge] at hg13 ⊢
    obtain ⟨hl13, _⟩ := hg13.1 rfl
    rw [(unhide HA5).1, show (p : Int).toNat = p by omega, show ((xs.length : Nat) : Int).toNat = xs.length by omega, show (L5.drop p).take xs.length = xs from unhide HS5] at hl13
    obtain ⟨a13, c13, rfl, _⟩ := id hl13
    have HSm := hide (sameInts_any _ _ xs xs w13 hl13 (OwnsI.lies (unhide HC13).own) (by omega))
    clear hg13 hB13 hc13 hge hl13 HG HC12
    go_wp2_with fail
    refine (unhide HSm).mono ?_
    rintro e w14 ⟨rfl, hb14⟩
    have HC14 := hide ((unhide HC13).below hb14)
    clear hb14 HSm HC13
    have HPi := hide (fun w => pick_any on (xs.length : Int) w (by omega) (by omega) o0.1 o0.2)
    have hkb := pickI_bd on (xs.length : Int) (by omega)
    obtain ⟨k, hk⟩ : ∃ k : Nat, pickI on (xs.length : Int) = (k : Int) := ⟨(pickI on (xs.length : Int)).toNat, by omega⟩
    rw [hk] at HPi hkb
    have hk1 : k < xs.length := by omega
    clear hk hkb
    go_wp2_with fail
    refine (unhide HPi _).mono ?_
    rintro e w14 ⟨rfl, rfl⟩
    clear HPi
    have zc := (unhide HC14).own.cells k hk1
    have zf := own_unfrozen (unhide HC14).own rfl k
    have hx01 := hX01 (xs.getD k 0) (by rw [List.getD_eq_getElem?_getD, List.getElem?_eq_getElem hk1]; exact List.getElem_mem hk1)
    have hkl : (k : Int) < (xs.length : Int) := by omega
    generalize hxk : xs.getD k 0 = xk at zc hx01
    obtain ⟨y, hy⟩ : ∃ y : Int, 1 - xk = y := ⟨_, rfl⟩
    have hy01 : y = 0 ∨ y = 1 := by omega
    have hyb : 0 ≤ y ∧ y ≤ 1 := by omega
    have hO15 := (unhide HC14).own.store k y
    rw [show (xs.set k y).length = xs.length by simp] at hO15
    have hc15 : Chg w14 (w14.setCell ⟨bb, k, none⟩ (.int .i64 y)) (fun j => j = bb) := Chg.set w14 bb k _
    have hC15 : CS w (w14.setCell ⟨bb, k, none⟩ (.int .i64 y)) B rb sb tb kb t5 us bb cv (xs.set k y) (.slice ah nh ch) (readB p xs.length) := by
      refine ⟨below_chg (unhide HC14).bel hc15 (fun j e => by have e2 : j = bb := e; omega), (unhide HC14).bk.keep hc15 (fun j l e => by have e2 : j = bb := e; omega), by rw [show (xs.set k y).length = xs.length by simp]; exact hO15, ownsRow_keep (unhide HC14).head (fun j _ h2 e => hc15.block j h2 (fun e2 => ?_)), (unhide HC14).lo, (unhide HC14).bb⟩
      have e3 : j = bb := e2
      subst e3
      obtain ⟨cs, fr, q5⟩ := own_cells (unhide HC14).head e
      obtain ⟨cs2, fr2, q3⟩ := own3 (unhide HC14).own j rfl
      exact rows_ne q5 q3 (by decide) rfl
    have HC15 := hide hC15
    have HJ : Hid (∀ W, W = w14.setCell ⟨bb, k, none⟩ (.int .i64 y) → Calls Tryz.prog 24 #[.slice (some ⟨w14.heap.size + 1 + 1 + 1, 0, none⟩) 3 3]
      ((((W.alloc (.cells #[.int .u8 (255 * y), .int .u8 0] 5)).alloc (.cells #[.int .u8 5] 5)).alloc (.cells #[.int .u8 (((p : Int) + (k : Int)) / 256), .int .u8 (((p : Int) + (k : Int)) % 256)] 5)).alloc
        (.cells #[.slice (some ⟨w14.heap.size + 1, 0, none⟩) 1 1, .slice (some ⟨w14.heap.size + 1 + 1, 0, none⟩) 2 2, .slice (some ⟨w14.heap.size, 0, none⟩) 2 2] 37))
      fun e w' => ∃ a m c, e = .returned (.slice a m c) ∧ Owns w' W.heap.size (.slice a m c) (5 :: b5 (p + k) y) ∧ Below W.heap.size W w') := by
      intro W hW
      have hWs : W.heap.size = w14.heap.size := by rw [hW]; simp
      rw [← hWs]
      have hb1 := rule_new W (.cells #[.int .u8 (255 * y), .int .u8 0] 5)
      have hj := join_set 5 ((p : Int) + (k : Int)) (some ⟨W.heap.size, 0, none⟩) 2 2 [255 * y, 0] (W.alloc (.cells #[.int .u8 (255 * y), .int .u8 0] 5)) (lies_fresh W [255 * y, 0]) (by simp) (by simp)
      rw [World.size_alloc] at hj
      refine hj.mono ?_
      rintro e w' ⟨a, m, c, rfl, ho, hb⟩
      refine ⟨a, m, c, rfl, ?_, bl_trans hb1 (by rw [World.size_alloc]; exact hb)⟩
      have e5 : (5 : Int) :: (wd ((p : Int) + (k : Int)) ++ [255 * y, 0]) = 5 :: b5 (p + k) y := by
        unfold b5
        rw [show ((p + k : Nat) : Int) = (p : Int) + (k : Int) by omega]
      rw [e5] at ho
      exact ho.weak (by omega)
    clear hO15 hc15 hC15 HC14
    go_wp2_with (go_at_call 25; refine (word_any _ _ (by omega) (by omega)).mono ?_; rintro e w' ⟨rfl, rfl⟩)
    generalize hW15 : w14.setCell ⟨bb, k, none⟩ (.int .i64 y) = w15 at HC15 HJ ⊢
    refine (unhide HJ w15 rfl).mono ?_
    rintro e w16 ⟨a16, n16, c16, rfl, ho16, hb16⟩
    have HC16 := hide ((unhide HC15).below hb16)
    have HD := hide (done_5 B rb sb tb kb t5 us (p + k) y _ _ L5 w16 _ _ (unhide HC16).bk (unhide HA5).1 (by rw [unhide HZ5]; omega) (by rw [unhide HZ5]; omega) (unhide HI5) hy01 ho16 ho16)
    clear ho16 hb16 HC15 HJ hW15 zc zf
    go_wp2_with fail
    refine (unhide HD).mono ?_
    rintro e w17 ⟨rfl, hB17, hc17⟩
    have hC17 := (unhide HC16).done 0 (by omega) hc17 hB17
    obtain ⟨ys, hys⟩ : ∃ ys, xs.set k y = ys := ⟨_, rfl⟩
    have hyl : ys.length = xs.length := by rw [← hys]; simp
    have hY01 : ∀ x ∈ ys, x = 0 ∨ x = 1 := fun x hx => by
      rw [← hys] at hx
      rcases List.mem_or_eq_of_mem_set hx with hx | rfl
      · exact hX01 x hx
      · exact hy01
    have hL6 : setL L5 (p + k) [y] = setL (List.replicate 200 0) p ys := by
      rw [unhide HL5, set_set _ _ _ _ _ (by simp; omega) hk1, hys]
    rw [hys, hL6] at hC17
    obtain ⟨L6, hL6'⟩ : ∃ L, L = setL (List.replicate 200 0) p ys := ⟨_, rfl⟩
    rw [← hL6'] at hC17
    have hat6 := put_at t5 0 (by omega) L6
    have hl6 : L6.length = 200 := by rw [hL6', setL_len _ _ _ (by simp; omega)]; simp
    have hsp6 : spanL L6 p xs.length = ys := by rw [hL6', ← hyl]; exact span_set _ _ _ (by simp; omega)
    have hin6 : ∀ y ∈ L6, 0 ≤ y ∧ y ≤ 1 := fun y hy => by
      rw [hL6'] at hy
      rcases span_set_in _ _ _ y hy with hy | hy
      · have := List.eq_of_mem_replicate hy; omega
      · have := hY01 y hy; omega
    have hb17 : ((t5.put 0 L6).at 1).L = List.replicate 200 0 := unhide HU5
    generalize t5.put 0 L6 = t6 at hC17 hat6 hb17
    have hpl : (packL ys).length = m + 1 := by
      have h1 : (packL ys).length = (ys.length + 7) / 8 := packN_len _ _ _
      rw [h1, hyl, ← unhide HM]
      exact (unhide HLN).symm
    have HC17 := hide hC17
    have HL6 := hide hL6'
    have HA6 := hide hat6
    have HZ6 := hide hl6
    have HS6 := hide hsp6
    have HI6 := hide hin6
    have HU6 := hide hb17
    have HY6 := hide hyl
    have HPL := hide hpl
    have hO17 := hC17.own
    rw [hyl] at hO17
    have HPk := hide (packed_any _ ys w17 (OwnsI.lies (by have := hC17.own; rw [hyl] at this; exact this)) (by omega))
    clear hC17 hL6' hat6 hl6 hsp6 hin6 hb17 hyl hpl hL6 hB17 hc17 HD HC16 HU5 HI5 HS5 HZ5 HA5 HL5 hO17
    go_wp2_with fail
    refine (unhide HPk).mono ?_
    rintro e w18 ⟨v18, rfl, ho18, hb18⟩
    obtain ⟨a18, c18, rfl, _, _⟩ := ownsRow_opt ho18
    have HC18 := hide ((unhide HC17).below hb18)
    have HP18 := hide ho18
    clear ho18 hb18 HC17 HPk
    rw [unhide HPL] at HP18 ⊢
    have HJ := hide (join_cons 1 ah nh ch _ w18 (unhide HC18).head.lies (by simp [readB, wd]) (by rw [readB_len]; omega))
    go_wp2_with fail
    refine (unhide HJ).mono ?_
    rintro e w19 ⟨a19, n19, c19, rfl, ho19, hb19⟩
    have HC19 := hide ((unhide HC18).below hb19)
    have HP19 := hide ((unhide HP18).kept hb19)
    have HR19 := hide ho19
    clear ho19 hb19 HP18 HC18 HJ
    have HJ := hide (join_ans 1 ((m : Int) + 1) a18 (m + 1) c18 (packL ys) w19 (unhide HP19).lies (fun e => by have := unhide HPL; rw [e] at this; simp at this) (by rw [unhide HPL]; omega))
    go_wp2_with fail
    refine (unhide HJ).mono ?_
    rintro e w20 ⟨a20, n20, c20, rfl, ho20, hb20⟩
    have HC20 := hide ((unhide HC19).below hb20)
    have HR20 := hide ((unhide HR19).kept hb20)
    have e20 : (1 : Int) :: ((m : Int) + 1) :: packL ys = fnOf 0 :: ((packT 0 (spanL L6 p xs.length)).length : Int) :: packT 0 (spanL L6 p xs.length) := by
      have := unhide HPL
      rw [unhide HS6, show packT 0 ys = packL ys from rfl, show ((packL ys).length : Int) = (m : Int) + 1 by omega]
      rfl
    rw [e20] at ho20
    have hbys : Bys (fnOf 0 :: ((packT 0 (spanL L6 p xs.length)).length : Int) :: packT 0 (spanL L6 p xs.length)) := by
      rw [← e20]
      intro y hy
      rcases List.mem_cons.1 hy with rfl | hy
      · omega
      · rcases List.mem_cons.1 hy with rfl | hy
        · omega
        · exact packN_bd _ _ _ y hy
    have HD := hide (done_read B rb sb tb kb t6 us 0 p xs.length _ _ L6 w20 _ _ (unhide HC20).bk (by omega) (unhide HA6).1 (by rw [unhide HZ6]; omega) hvl.1 (by omega) (by rw [unhide HZ6]; omega) (unhide HI6) (unhide HR20) ho20 hbys)
    clear e20 ho20 hb20 HR19 HP19 HC19 HJ hbys
    go_wp2_with fail
    refine (unhide HD).mono ?_
    rintro e w21 ⟨rfl, hB21, hc21⟩
    have HC21 := hide ((unhide HC20).done 0 (by omega) hc21 hB21)
    clear hc21 hB21 HD HC20 HR20
    have HDn : Hid (∀ W v x Bv, CS w W B rb sb tb kb t6 us bb cv ys (.slice ah nh ch) (readB p xs.length) → Owns W Bv v (2 :: readB p xs.length) → Owns W Bv x (2 :: ((m + 1 : Nat) : Int) :: List.replicate (m + 1) 0) → Calls Tryz.prog 23 #[.pointer (some ⟨rb, 0, none⟩), .int .i64 0, v, x] W fun r w' => r = .returned (.bool true) ∧ CS w w' B rb sb tb kb t6 us bb cv ys (.slice ah nh ch) (readB p xs.length) ∧ LeB W w') := by
      intro W v x Bv hC hv hx
      have hsz : spanL (List.replicate 200 (0 : Int)) p xs.length = List.replicate xs.length 0 := by
        unfold spanL
        rw [List.drop_replicate, List.take_replicate]
        congr 1
        omega
      have hpz : packT 1 (List.replicate xs.length 0) = List.replicate (m + 1) 0 := by
        have h1 := unhide HLN
        have h2 := unhide HM
        show packL _ = _
        rw [packL_zeros, ← h2, h1]
      have hw : (2 : Int) :: ((m + 1 : Nat) : Int) :: List.replicate (m + 1) 0 = fnOf 1 :: ((packT 1 (spanL (List.replicate 200 0) p xs.length)).length : Int) :: packT 1 (spanL (List.replicate 200 0) p xs.length) := by
        rw [hsz, hpz, List.length_replicate]
        rfl
      rw [hw] at hx
      have hbys : Bys (fnOf 1 :: ((packT 1 (spanL (List.replicate 200 0) p xs.length)).length : Int) :: packT 1 (spanL (List.replicate 200 0) p xs.length)) := by
        rw [← hw]
        intro y hy
        rcases List.mem_cons.1 hy with rfl | hy
        · omega
        · rcases List.mem_cons.1 hy with rfl | hy
          · omega
          · have := List.eq_of_mem_replicate hy; omega
      refine (done_read B rb sb tb kb t6 us 1 p xs.length v x (List.replicate 200 0) W _ _ hC.bk (by omega) (unhide HU6) (by simp) hvl.1 (by omega) (by simp; omega) (fun y hy => by have := List.eq_of_mem_replicate hy; show 0 ≤ y ∧ y ≤ 1; omega) hv hx hbys).mono ?_
      rintro r w' ⟨rfl, hb, hc⟩
      exact ⟨rfl, hC.done 1 (by omega) hc hb, LeB.bank hC.bk 1 (by omega) hc⟩
    go_upto_region 24 with fail
    refine coils_r24 _ _ w21 w 24 (fun W => CS w W B rb sb tb kb t6 us bb cv ys (.slice ah nh ch) (readB p xs.length)) rb m ah a18 nh ch c18 (readB p xs.length) (by simp) (by omega) rfl rfl rfl ((unhide HC21).below (Below.refl _ _).drew) (fun W W' h hb => h.below hb) (fun W h => h.bel.size) (fun W h => h.head.lies) (by simp [readB, wd]) (by rw [readB_len]; omega) (unhide HDn) ?_
    intro u w22 hC22 hu24
    have HC22 := hide hC22
    clear hC22 HDn HC21
    have HG := hide (relayGet_any B rb sb tb kb t6 _ us 0 (by omega) (0 : Int) (200 : Int) w22 (unhide HC22).bk (by omega))
    simp only [over, ds24]
    rw [hu24]
    go_wp2_with fail
    refine (unhide HG).mono ?_
    rintro e w23 ⟨v23, rfl, hg23, hB23, hc23⟩
    have HC23 := hide ((unhide HC22).got hc23 hB23)
    have hge := getErr_ok (t6.at 0).L.length 0 200 (by rw [(unhide HA6).1, unhide HZ6]; omega)
    have hge' : getErr (t6.at 0).L.length (0 : Int) (200 : Int) = 0 := hge
    rw [hge'] at hg23 ⊢
    obtain ⟨hl23, _⟩ := hg23.1 rfl
    rw [(unhide HA6).1, show ((0 : Int)).toNat = 0 from rfl, show ((200 : Int)).toNat = 200 from rfl, List.drop_zero, List.take_of_length_le (by rw [unhide HZ6]; omega)] at hl23
    have HL23 := hide hl23
    obtain ⟨a23, c23, rfl, h23⟩ := hl23
    rw [unhide HZ6] at h23 ⊢
    clear hg23 hB23 hc23 hge hge' HG HC22 hu24
    go_wp2_with fail
    obtain ⟨gb, go, rfl, hgl, hgc⟩ := h23.resolve_left (fun e => by have := unhide HZ6; rw [e] at this; simp at this)
    have HGC := hide hgc
    have HGV : Hid (∀ j, L6.getD j 0 = if p ≤ j ∧ j < p + xs.length then ys.getD (j - p) 0 else 0) := fun j => by
      rw [unhide HL6, setL_get _ _ _ (by simp; have := unhide HY6; omega), unhide HY6, rep_get]
    have HYC : Hid (∀ j, j < xs.length → w23.cell? ⟨bb, j, none⟩ = some (.int .i64 (ys.getD j 0))) := fun j hj => (unhide HC23).own.cells j (by rw [unhide HY6]; exact hj)
    clear hgc h23
    go_loopw [26] (fun i wr => ∃ j : Nat, j ≤ 200 ∧ i = .int .i64 j ∧ wr = w23) (fun i _ => 200 - (intOf i).toNat)
    case atStart => exact ⟨0, by omega, rfl, rfl⟩
    case round =>
      obtain ⟨j, hj, rfl, hwr⟩ := hrel
      subst hwr
      by_cases hlt : j < 200
      · have hlt' : (j : Int) < 200 := by omega
        have hc := unhide HGC j hlt
        have hv := unhide HGV j
        by_cases hpj : p ≤ j
        · have hpj' : (p : Int) ≤ (j : Int) := by omega
          by_cases hjl : j < p + xs.length
          · have hjl' : (j : Int) < (p : Int) + (xs.length : Int) := by omega
            rw [if_pos ⟨hpj, hjl⟩] at hv
            have hy := unhide HYC (j - p) (by omega)
            rw [hv] at hc
            generalize ys.getD (j - p) 0 = z at hc hy
            obtain ⟨q, hq⟩ : ∃ q : Nat, j - p = q := ⟨_, rfl⟩
            have hjp : (j : Int) - (p : Int) = (q : Int) := by omega
            have hql : (q : Int) < (xs.length : Int) := by omega
            rw [hq] at hy
            clear hq hv
            go_wp2
            go_roundw
            case rel => exact ⟨j + 1, by omega, by simp, by trivial⟩
            case measure => simp [intOf]; omega
          · have hjl' : decide ((j : Int) < (p : Int) + (xs.length : Int)) = false := by simp; omega
            rw [if_neg (by omega)] at hv
            rw [hv] at hc
            clear hv
            go_wp2
            go_roundw
            case rel => exact ⟨j + 1, by omega, by simp, by trivial⟩
            case measure => simp [intOf]; omega
        · have hpj' : decide ((p : Int) ≤ (j : Int)) = false := by simp; omega
          rw [if_neg (by omega)] at hv
          rw [hv] at hc
          clear hv
          go_wp2
          go_roundw
          case rel => exact ⟨j + 1, by omega, by simp, by trivial⟩
          case measure => simp [intOf]; omega
      · obtain rfl : j = 200 := by omega
        go_wp2
        go_ret
        exact ⟨rfl, (unhide HC23).bel⟩
end Go.Proofs.YtfekelmldebplaaGreatDoor
