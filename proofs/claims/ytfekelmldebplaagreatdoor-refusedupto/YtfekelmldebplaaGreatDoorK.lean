import Derived.Test.YtfekelmldebplaaGreatDoorJ
namespace Go.Proofs.YtfekelmldebplaaGreatDoor
open Go.RowKit

/-! ### Plain: what went in as frames comes out, however the stream is cut -/
structure Valid (f : Fr) : Prop where
  m0 : 0 ≤ f.mark
  m1 : f.mark ≤ 65535
  u0 : 0 ≤ f.unit
  u1 : f.unit ≤ 255
  by_ : Bys f.data
  l0 : 1 ≤ f.data.length
  l1 : f.data.length ≤ 253
def bytesOf (f : Fr) : List Int := frameL f.mark f.unit f.data
theorem bytesOf_len (f : Fr) : (bytesOf f).length = 7 + f.data.length := frameL_len _ _ _
theorem bytesOf_bys {f : Fr} (h : Valid f) : Bys (bytesOf f) := frameL_bys h.m0 h.m1 h.u0 h.u1 h.by_ h.l1
theorem bytesOf_eq {f : Fr} (h : Valid f) : bytesOf f = f.mark / 256 :: f.mark % 256 :: 0 :: 0 :: 0 :: ((f.data.length : Int) + 1) :: f.unit :: f.data := by
  have h1 := h.l1
  have e1 : ((f.data.length : Int) + 1) / 256 = 0 := by omega
  have e2 : ((f.data.length : Int) + 1) % 256 = (f.data.length : Int) + 1 := by omega
  simp [bytesOf, frameL, wd, e1, e2]

theorem getD_take (F : List Int) (k i : Nat) (h : i < k) : (F.take k).getD i 0 = F.getD i 0 := by
  simp [List.getD, h]

theorem step_in {f : Fr} (hv : Valid f) (gs : List Fr) (k : Nat) (hk : k < (bytesOf f).length) :
    stepF (gs, (bytesOf f).take k, false) ((bytesOf f).getD k 0) = if k + 1 = (bytesOf f).length then (gs ++ [f], [], false) else (gs, (bytesOf f).take (k + 1), false) := by
  have hl := bytesOf_len f
  have h0 := hv.l0
  have h1 := hv.l1
  have hF := bytesOf_eq hv
  have g2 : (bytesOf f).getD 2 0 = 0 := by rw [hF]; rfl
  have g3 : (bytesOf f).getD 3 0 = 0 := by rw [hF]; rfl
  have g4 : (bytesOf f).getD 4 0 = 0 := by rw [hF]; rfl
  have g5 : (bytesOf f).getD 5 0 = (f.data.length : Int) + 1 := by rw [hF]; rfl
  have hlen : ((bytesOf f).take k).length = k := by simp; omega
  have hsucc : (bytesOf f).take k ++ [(bytesOf f).getD k 0] = (bytesOf f).take (k + 1) := by
    rw [List.take_succ_eq_append_getElem hk]
    simp [List.getD, List.getElem?_eq_getElem hk]
  have hfit : fitsL ((bytesOf f).take k) ((bytesOf f).getD k 0) = true := by
    unfold fitsL
    rw [hlen]
    by_cases k2 : k = 2
    · subst k2; rw [g2]; simp
    by_cases k3 : k = 3
    · subst k3; rw [g3]; simp
    by_cases k4 : k = 4
    · subst k4; rw [g4]; simp
    by_cases k5 : k = 5
    · subst k5
      rw [getD_take _ _ _ (by omega), g4, g5]
      simp only [show ¬ (5 = 2 ∨ 5 = 3) by omega, show ¬ (5 = 4) by omega, if_false, if_true]
      exact inB_true (by omega) (by omega)
    · simp [k2, k3, k4, k5]
  have hw : wholeL ((bytesOf f).take (k + 1)) = decide (k + 1 = (bytesOf f).length) := by
    have hlen' : ((bytesOf f).take (k + 1)).length = k + 1 := by simp; omega
    unfold wholeL
    rw [hlen', Bool.eq_iff_iff]
    by_cases h7 : 7 ≤ k + 1
    · rw [getD_take _ _ _ (by omega), getD_take _ _ _ (by omega), g4, g5]
      simp [h7]
      omega
    · simp [h7]
      omega
  unfold stepF
  simp only [Bool.false_eq_true, if_false, hfit, if_true, hsucc, hw, decide_eq_true_eq]
  by_cases e : k + 1 = (bytesOf f).length
  · simp only [e, if_true]
    have : toFr ((bytesOf f).take (bytesOf f).length) = f := by
      rw [List.take_length, hF]
      obtain ⟨m, u, d⟩ := f
      simp only [toFr, Fr.mk.injEq]
      refine ⟨?_, rfl, rfl⟩
      show 256 * (m / 256) + m % 256 = m
      omega
    rw [this]
  · simp only [e, if_false]

theorem feed_in {f : Fr} (hv : Valid f) (gs : List Fr) : ∀ k, k < (bytesOf f).length → feedF (gs, [], false) ((bytesOf f).take k) = (gs, (bytesOf f).take k, false)
  | 0, _ => by simp [feedF]
  | k + 1, hk => by
    rw [feedF_take_succ _ _ _ (by omega), feed_in hv gs k (by omega), step_in hv gs k (by omega), if_neg (by omega)]

theorem feed_whole {f : Fr} (hv : Valid f) (gs : List Fr) : feedF (gs, [], false) (bytesOf f) = (gs ++ [f], [], false) := by
  have hl := bytesOf_len f
  have := feedF_take_succ (gs, [], false) (bytesOf f) (6 + f.data.length) (by omega)
  rw [List.take_of_length_le (by omega)] at this
  rw [this, feed_in hv gs _ (by omega), step_in hv gs _ (by omega), if_pos (by omega)]

def stream (fs : List Fr) : List Int := (fs.map bytesOf).flatten
theorem stream_append (a c : List Fr) : stream (a ++ c) = stream a ++ stream c := by simp [stream]
theorem stream_one (f : Fr) : stream [f] = bytesOf f := by simp [stream]
theorem stream_bys {fs : List Fr} (h : ∀ f ∈ fs, Valid f) : Bys (stream fs) := by
  intro x hx
  simp only [stream, List.mem_flatten, List.mem_map] at hx
  obtain ⟨l, ⟨f, hf, rfl⟩, hx⟩ := hx
  exact bytesOf_bys (h f hf) x hx
theorem stream_len_le {fs : List Fr} (h : ∀ f ∈ fs, Valid f) : (stream fs).length ≤ 260 * fs.length := by
  induction fs with
  | nil => simp [stream]
  | cons f fs ih =>
    have e : stream (f :: fs) = bytesOf f ++ stream fs := by simp [stream]
    have := ih (fun g hg => h g (by simp [hg]))
    have h1 := (h f (by simp)).l1
    rw [e, List.length_append, bytesOf_len, List.length_cons]
    omega

theorem feed_stream {fs : List Fr} (h : ∀ f ∈ fs, Valid f) (gs : List Fr) : feedF (gs, [], false) (stream fs) = (gs ++ fs, [], false) := by
  induction fs generalizing gs with
  | nil => simp [stream, feedF]
  | cons f fs ih =>
    have e : stream (f :: fs) = bytesOf f ++ stream fs := by simp [stream]
    have e2 : feedF (gs, [], false) (bytesOf f ++ stream fs) = feedF (feedF (gs, [], false) (bytesOf f)) (stream fs) := by simp [feedF, List.foldl_append]
    rw [e, e2, feed_whole (h f (by simp)), ih (fun g hg => h g (by simp [hg]))]
    simp

/-- Where the frame d ends. -/
def endAt (fs : List Fr) (d : Nat) : Nat := (stream (fs.take d)).length

/-- At place p of the stream d frames are whole. -/
def Due (fs : List Fr) (p d : Nat) : Prop := d ≤ fs.length ∧ endAt fs d ≤ p ∧ (d = fs.length ∨ p < endAt fs (d + 1))

theorem endAt_succ (fs : List Fr) (d : Nat) (h : d < fs.length) : endAt fs (d + 1) = endAt fs d + (bytesOf fs[d]).length := by
  unfold endAt
  rw [List.take_succ_eq_append_getElem h, stream_append, stream_one, List.length_append]
theorem endAt_mono (fs : List Fr) (a c : Nat) (h : a ≤ c) : endAt fs a ≤ endAt fs c := by
  unfold endAt
  have : fs.take c = fs.take a ++ (fs.take c).drop a := by
    rw [show fs.take a = (fs.take c).take a by rw [List.take_take, Nat.min_eq_left h], List.take_append_drop]
  rw [this, stream_append, List.length_append]
  omega
theorem endAt_all (fs : List Fr) : endAt fs fs.length = (stream fs).length := by simp [endAt]

theorem feed_upto {fs : List Fr} (h : ∀ f ∈ fs, Valid f) {p d : Nat} (hd : Due fs p d) (_hp : p ≤ (stream fs).length) :
    ∃ q, feedF ([], [], false) ((stream fs).take p) = (fs.take d, q, false) ∧ Held q ∧ (p = (stream fs).length → q = []) := by
  obtain ⟨h1, h2, h3⟩ := hd
  have hs : stream fs = stream (fs.take d) ++ stream (fs.drop d) := by rw [← stream_append, List.take_append_drop]
  have hvt : ∀ f ∈ fs.take d, Valid f := fun f hf => h f (List.mem_of_mem_take hf)
  have e1 : (stream fs).take p = stream (fs.take d) ++ (stream (fs.drop d)).take (p - endAt fs d) := by
    rw [hs, List.take_append, List.take_of_length_le (by exact h2)]
    rfl
  have e2 : feedF ([], [], false) ((stream fs).take p) = feedF (fs.take d, [], false) ((stream (fs.drop d)).take (p - endAt fs d)) := by
    rw [e1]
    have : feedF ([], [], false) (stream (fs.take d) ++ (stream (fs.drop d)).take (p - endAt fs d)) = feedF (feedF ([], [], false) (stream (fs.take d))) ((stream (fs.drop d)).take (p - endAt fs d)) := by simp [feedF, List.foldl_append]
    rw [this, feed_stream hvt]
    simp
  by_cases hdl : d = fs.length
  · refine ⟨[], ?_, Held.nil, fun _ => rfl⟩
    rw [e2, hdl]
    simp [stream, feedF]
  · have hlt : d < fs.length := by omega
    have h3' : p < endAt fs (d + 1) := h3.resolve_left hdl
    rw [endAt_succ fs d hlt] at h3'
    have hv := h fs[d] (List.getElem_mem hlt)
    have e3 : stream (fs.drop d) = bytesOf fs[d] ++ stream (fs.drop (d + 1)) := by
      rw [List.drop_eq_getElem_cons hlt, show fs[d] :: fs.drop (d + 1) = [fs[d]] ++ fs.drop (d + 1) from rfl, stream_append, stream_one]
    have e4 : (stream (fs.drop d)).take (p - endAt fs d) = (bytesOf fs[d]).take (p - endAt fs d) := by
      rw [e3, List.take_append_of_le_length (by omega)]
    refine ⟨(bytesOf fs[d]).take (p - endAt fs d), ?_, ?_, ?_⟩
    · rw [e2, e4, feed_in hv _ _ (by omega)]
    · have hl := bytesOf_len fs[d]
      have hF := bytesOf_eq hv
      have l0 := hv.l0
      have l1 := hv.l1
      have hkl : p - endAt fs d < (bytesOf fs[d]).length := by omega
      generalize p - endAt fs d = k at *
      have hlen : ((bytesOf fs[d]).take k).length = k := by rw [List.length_take]; omega
      refine ⟨(bytesOf_bys hv).take _, fun h5 => ?_, fun h6 => ?_⟩
      · rw [getD_take _ _ _ (by omega), hF]; rfl
      · rw [getD_take _ _ _ (by omega)]
        have g5 : (bytesOf fs[d]).getD 5 0 = (fs[d].data.length : Int) + 1 := by rw [hF]; rfl
        rw [g5]
        rw [hlen]
        exact ⟨by omega, by omega, by omega⟩
    · intro e
      exfalso
      have := endAt_mono fs (d + 1) fs.length (by omega)
      rw [endAt_all, endAt_succ fs d hlt] at this
      omega

theorem stepF_shift (gs : List Fr) (s : List Fr × List Int × Bool) (x : Int) : stepF (gs ++ s.1, s.2) x = (gs ++ (stepF s x).1, (stepF s x).2) := by
  unfold stepF
  split
  · rfl
  · split
    · split <;> simp
    · rfl
theorem feedF_shift (gs : List Fr) (s : List Fr × List Int × Bool) (xs : List Int) : feedF (gs ++ s.1, s.2) xs = (gs ++ (feedF s xs).1, (feedF s xs).2) := by
  induction xs generalizing s with
  | nil => rfl
  | cons x xs ih =>
    unfold feedF at ih ⊢
    rw [List.foldl_cons, List.foldl_cons, stepF_shift]
    exact ih (stepF s x)

/-- FEED FROM PLACE p TO PLACE p + n: what comes, and what is held then. -/
theorem feed_next {fs : List Fr} (h : ∀ f ∈ fs, Valid f) {p n d d' : Nat} (hd : Due fs p d) (hd' : Due fs (p + n) d') (hp : p + n ≤ (stream fs).length) :
    ∃ q q', feedF ([], [], false) ((stream fs).take p) = (fs.take d, q, false) ∧ Held q ∧ feedF ([], q, false) (((stream fs).drop p).take n) = ((fs.take d').drop d, q', false) ∧
      feedF ([], [], false) ((stream fs).take (p + n)) = (fs.take d', q', false) ∧ Held q' := by
  obtain ⟨q, e1, hq, _⟩ := feed_upto h hd (by omega)
  obtain ⟨q', e2, hq', _⟩ := feed_upto h hd' hp
  refine ⟨q, q', e1, hq, ?_, e2, hq'⟩
  have e3 : (stream fs).take (p + n) = (stream fs).take p ++ ((stream fs).drop p).take n := by rw [List.take_add]
  have e4 : feedF ([], [], false) ((stream fs).take (p + n)) = feedF (fs.take d, q, false) (((stream fs).drop p).take n) := by
    rw [e3]
    have : feedF ([], [], false) ((stream fs).take p ++ ((stream fs).drop p).take n) = feedF (feedF ([], [], false) ((stream fs).take p)) (((stream fs).drop p).take n) := by simp [feedF, List.foldl_append]
    rw [this, e1]
  have e5 := feedF_shift (fs.take d) ([], q, false) (((stream fs).drop p).take n)
  simp only [List.append_nil] at e5
  rw [e2, e5] at e4
  generalize feedF ([], q, false) (((stream fs).drop p).take n) = r at *
  obtain ⟨r1, r2, r3⟩ := r
  simp only [Prod.mk.injEq] at e4 ⊢
  refine ⟨?_, e4.2.1.symm, e4.2.2.symm⟩
  have hlen : (fs.take d).length = d := by rw [List.length_take]; have := hd.1; omega
  rw [e4.1, List.drop_left' hlen]
end Go.Proofs.YtfekelmldebplaaGreatDoor
