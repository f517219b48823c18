/- StoreFull. -/
import Derived.Test.YtcjahdgppnmdkaaSoF
set_option maxRecDepth 100000
namespace Go.Proofs.Ytcjahdgppnmdkaa
open Go.RowKit Go.Great

set_option maxRecDepth 100000 in
set_option maxHeartbeats 2000000 in
theorem full_a (a b c : ByteArray) (id : Int) (ha : 2000 < a.size) (w : World) : Calls Try.prog 7 #[.agg #[.string a, .string b, .string c], .int .i64 id] w fun e w' => e = .returned (.bool true) ∧ Below w.heap.size w w' := by
  have HNw := hide (fun W => new_any W)
  have HRa := hide (fun W R σ hF v cs hC hl => raised_any W R σ hF v cs hC hl)
  have HA := hide awake7
  have dA : decide ((a.size : Int) > 2000) = true := decide_eq_true (by omega)
  have dB : decide ((a.size : Int) ≤ 2000) = false := decide_eq_false (by omega)
  have HPt := hide (fun (W : World) R S σ s V (h : FuW w R S σ s V W) => full_bad h 0 a (.inr ha))
  unfold fp at HPt
  clear ha
  unfold fp at HNw HRa
  go_enter Try.func7, Try.ntmps7
  go_wp2_with fail
  have HB0 : Hid (Below w.heap.size w (w.alloc (.cells #[.string a, .string b, .string c] 64))) := below_alloc w _
  refine (HNw.out _).mono ?_
  rintro e w1 ⟨rfl, hF1, hB1⟩
  have HF1 := hide hF1
  have HB1 := hide (below_next HB0.out (Nat.le_refl _) hB1)
  clear hF1 hB1
  obtain ⟨R, HR⟩ : ∃ R, Hid ((w.alloc (.cells #[.string a, .string b, .string c] 64)).heap.size = R) := ⟨_, rfl⟩
  rw [HR.out] at HF1 ⊢
  have HRw : Hid (w.heap.size ≤ R) := by have := HR.out; have := HB0.out.size; unfold Hid; omega
  go_wp2_with fail
  refine (HRa.out _ _ _ HF1.out _ [] (cuts_none _ _) (by simp)).mono ?_
  rintro e w2 ⟨S, τ, s, rfl, hF2, hS2, _, _, ⟨ho, har, hj⟩, hge, hSR, hK2, hz⟩
  have HW : Hid (FuW w R S τ s noV w2) := by
    refine ⟨Kept.toBelow HB1.out hK2 HB1.out.size HRw.out, hF2, hS2, ?_, ⟨hF2.len, ho, hj⟩, har, HRw.out, by have := HB1.out.size; omega⟩
    obtain ⟨τ0, e1, e2⟩ := hz rfl
    rw [e2]
    exact new_live τ0 s e1
  clear hF2 hS2 ho har hj hge hSR hK2 hz HF1 HB1 HB0 HRa HNw
  unfold fp
  go_wp2_with fail
  refine (HA.out _).mono ?_
  rintro e w3 ⟨rfl, hw3⟩
  have HW3 := hide (HW.out.next hw3)
  clear hw3
  go_wp2_with fail
  refine (HPt.out _ _ _ _ _ _ HW3.out).mono ?_
  rintro e w4 ⟨rfl, hw4⟩
  have HW4 := hide hw4
  clear hw4
  go_wp2_with fail
  go_ret
  exact ⟨rfl, HW4.out.bel⟩
set_option maxRecDepth 100000 in
set_option maxHeartbeats 2000000 in
theorem full_b (a b c : ByteArray) (id : Int) (ha : a.size ≤ 2000) (hb : 2000 < b.size) (w : World) : Calls Try.prog 7 #[.agg #[.string a, .string b, .string c], .int .i64 id] w fun e w' => e = .returned (.bool true) ∧ Below w.heap.size w w' := by
  have HNw := hide (fun W => new_any W)
  have HRa := hide (fun W R σ hF v cs hC hl => raised_any W R σ hF v cs hC hl)
  have HA := hide awake7
  have dA : decide ((a.size : Int) > 2000) = false := decide_eq_false (by omega)
  have dB : decide ((a.size : Int) ≤ 2000) = true := decide_eq_true (by omega)
  have dC : decide ((b.size : Int) > 2000) = true := decide_eq_true (by omega)
  clear ha hb
  unfold fp at HNw HRa
  go_enter Try.func7, Try.ntmps7
  go_wp2_with fail
  have HB0 : Hid (Below w.heap.size w (w.alloc (.cells #[.string a, .string b, .string c] 64))) := below_alloc w _
  refine (HNw.out _).mono ?_
  rintro e w1 ⟨rfl, hF1, hB1⟩
  have HF1 := hide hF1
  have HB1 := hide (below_next HB0.out (Nat.le_refl _) hB1)
  clear hF1 hB1
  obtain ⟨R, HR⟩ : ∃ R, Hid ((w.alloc (.cells #[.string a, .string b, .string c] 64)).heap.size = R) := ⟨_, rfl⟩
  rw [HR.out] at HF1 ⊢
  have HRw : Hid (w.heap.size ≤ R) := by have := HR.out; have := HB0.out.size; unfold Hid; omega
  go_wp2_with fail
  refine (HRa.out _ _ _ HF1.out _ [] (cuts_none _ _) (by simp)).mono ?_
  rintro e w2 ⟨S, τ, s, rfl, hF2, hS2, _, _, ⟨ho, har, hj⟩, hge, hSR, hK2, hz⟩
  have HW : Hid (FuW w R S τ s noV w2) := by
    refine ⟨Kept.toBelow HB1.out hK2 HB1.out.size HRw.out, hF2, hS2, ?_, ⟨hF2.len, ho, hj⟩, har, HRw.out, by have := HB1.out.size; omega⟩
    obtain ⟨τ0, e1, e2⟩ := hz rfl
    rw [e2]
    exact new_live τ0 s e1
  clear hF2 hS2 ho har hj hge hSR hK2 hz HF1 HB1 HB0 HRa HNw
  unfold fp
  go_wp2_with fail
  refine (HA.out _).mono ?_
  rintro e w3 ⟨rfl, hw3⟩
  have HW3 := hide (HW.out.next hw3)
  clear hw3
  go_wp2_with fail
  go_ret
  exact ⟨rfl, HW3.out.bel⟩
set_option maxRecDepth 100000 in
set_option maxHeartbeats 2000000 in
theorem full_c0 (a b c : ByteArray) (id : Int) (ha : a.size ≤ 2000) (hb : b.size ≤ 2000) (hc : id < 0) (w : World) : Calls Try.prog 7 #[.agg #[.string a, .string b, .string c], .int .i64 id] w fun e w' => e = .returned (.bool true) ∧ Below w.heap.size w w' := by
  have HNw := hide (fun W => new_any W)
  have HRa := hide (fun W R σ hF v cs hC hl => raised_any W R σ hF v cs hC hl)
  have HA := hide awake7
  have dA : decide ((a.size : Int) > 2000) = false := decide_eq_false (by omega)
  have dC : decide ((b.size : Int) > 2000) = false := decide_eq_false (by omega)
  have HP0 := hide (fun (W : World) R S σ s (h : FuW w R S σ s noV W) => full_put' h 0 0 (by omega) rfl a ha (need0 a ha))
  have HP1 := hide (fun (W : World) R S σ s (h : FuW w R S σ s (updV noV 0 a.data.toList) W) => full_put' h 1 1 (by omega) rfl b hb (need1 a b ha hb))
  obtain ⟨V, HV⟩ : ∃ V, Hid (updV (updV noV 0 a.data.toList) 1 b.data.toList = V) := ⟨_, rfl⟩
  have HV0 : Hid (V 0 = some a.data.toList) := by rw [← HV.out]; rfl
  have HV1 : Hid (V 1 = some b.data.toList) := by rw [← HV.out]; rfl
  have HV2 : Hid (V 2 = none) := by rw [← HV.out]; rfl
  have HN := hide (need2 a b)
  rw [HV.out] at HP1 HN
  have HSt := hide (fun (W : World) R S σ s V (h : FuW w R S σ s V W) => full_steps h)
  have HIm := hide (fun (W : World) R S σ s V (h : FuW w R S σ s V W) => full_image h)
  unfold fp at HP0 HP1 HSt HIm
  have HPc := hide (fun (W : World) R S σ s (h : FuW w R S σ s V W) => full_bad h id c (by omega))
  unfold fp at HPc
  have d1 : decide (id < 0) = true := decide_eq_true hc
  clear hc ha hb
  unfold fp at HNw HRa
  go_enter Try.func7, Try.ntmps7
  go_wp2_with fail
  have HB0 : Hid (Below w.heap.size w (w.alloc (.cells #[.string a, .string b, .string c] 64))) := below_alloc w _
  refine (HNw.out _).mono ?_
  rintro e w1 ⟨rfl, hF1, hB1⟩
  have HF1 := hide hF1
  have HB1 := hide (below_next HB0.out (Nat.le_refl _) hB1)
  clear hF1 hB1
  obtain ⟨R, HR⟩ : ∃ R, Hid ((w.alloc (.cells #[.string a, .string b, .string c] 64)).heap.size = R) := ⟨_, rfl⟩
  rw [HR.out] at HF1 ⊢
  have HRw : Hid (w.heap.size ≤ R) := by have := HR.out; have := HB0.out.size; unfold Hid; omega
  go_wp2_with fail
  refine (HRa.out _ _ _ HF1.out _ [] (cuts_none _ _) (by simp)).mono ?_
  rintro e w2 ⟨S, τ, s, rfl, hF2, hS2, _, _, ⟨ho, har, hj⟩, hge, hSR, hK2, hz⟩
  have HW : Hid (FuW w R S τ s noV w2) := by
    refine ⟨Kept.toBelow HB1.out hK2 HB1.out.size HRw.out, hF2, hS2, ?_, ⟨hF2.len, ho, hj⟩, har, HRw.out, by have := HB1.out.size; omega⟩
    obtain ⟨τ0, e1, e2⟩ := hz rfl
    rw [e2]
    exact new_live τ0 s e1
  clear hF2 hS2 ho har hj hge hSR hK2 hz HF1 HB1 HB0 HRa HNw
  unfold fp
  go_wp2_with fail
  refine (HP0.out _ _ _ _ _ HW.out).mono ?_
  rintro e w3 ⟨rfl, τ1, s1, hw3⟩
  have HW3 := hide hw3
  clear hw3 HP0
  go_wp2_with fail
  refine (HP1.out _ _ _ _ _ HW3.out).mono ?_
  rintro e w4 ⟨rfl, τ2, s2, hw4⟩
  have HW4 := hide hw4
  clear hw4 HP1 HW3 HW
  have HS4 := hide (fun W h => HSt.out W R S τ2 s2 V h)
  have HI4 := hide (fun W h => HIm.out W R S τ2 s2 V h)
  clear HSt HIm
  obtain ⟨I, HI⟩ : ∃ I, Hid (bs τ2.C = I) := ⟨_, rfl⟩
  obtain ⟨q, HQ⟩ : ∃ q, Hid (τ2.st = q) := ⟨_, rfl⟩
  rw [HI.out] at HI4
  rw [HQ.out] at HS4
  have f1 : (q == q) = true := by simp
  have f2 : (I.toList == I.toList) = true := by simp
  go_wp2_with fail
  refine (HS4.out _ HW4.out).mono ?_
  rintro e wq ⟨rfl, hwq⟩
  obtain rfl := hwq.symm
  clear hwq
  go_wp2_with fail
  refine (HI4.out _ HW4.out).mono ?_
  rintro e wq ⟨rfl, hwq⟩
  obtain rfl := hwq.symm
  clear hwq
  go_wp2_with fail
  refine (HPc.out _ _ _ _ _ HW4.out).mono ?_
  rintro e w5 ⟨rfl, hw5⟩
  have HW5 := hide hw5
  clear hw5 HPc
  go_wp2_with fail
  refine (HA.out _).mono ?_
  rintro e w6 ⟨rfl, hw6⟩
  have HW6 := hide (HW5.out.next hw6)
  clear hw6
  go_wp2_with fail
  refine (HS4.out _ HW6.out).mono ?_
  rintro e wq ⟨rfl, hwq⟩
  obtain rfl := hwq.symm
  clear hwq
  go_wp2_with fail
  refine (HI4.out _ HW6.out).mono ?_
  rintro e wq ⟨rfl, hwq⟩
  obtain rfl := hwq.symm
  clear hwq
  go_wp2_with fail
  go_ret
  exact ⟨rfl, HW6.out.bel⟩
set_option maxRecDepth 100000 in
set_option maxHeartbeats 2000000 in
theorem full_c1 (a b c : ByteArray) (id : Int) (ha : a.size ≤ 2000) (hb : b.size ≤ 2000) (hc : 2 < id) (w : World) : Calls Try.prog 7 #[.agg #[.string a, .string b, .string c], .int .i64 id] w fun e w' => e = .returned (.bool true) ∧ Below w.heap.size w w' := by
  have HNw := hide (fun W => new_any W)
  have HRa := hide (fun W R σ hF v cs hC hl => raised_any W R σ hF v cs hC hl)
  have HA := hide awake7
  have dA : decide ((a.size : Int) > 2000) = false := decide_eq_false (by omega)
  have dC : decide ((b.size : Int) > 2000) = false := decide_eq_false (by omega)
  have HP0 := hide (fun (W : World) R S σ s (h : FuW w R S σ s noV W) => full_put' h 0 0 (by omega) rfl a ha (need0 a ha))
  have HP1 := hide (fun (W : World) R S σ s (h : FuW w R S σ s (updV noV 0 a.data.toList) W) => full_put' h 1 1 (by omega) rfl b hb (need1 a b ha hb))
  obtain ⟨V, HV⟩ : ∃ V, Hid (updV (updV noV 0 a.data.toList) 1 b.data.toList = V) := ⟨_, rfl⟩
  have HV0 : Hid (V 0 = some a.data.toList) := by rw [← HV.out]; rfl
  have HV1 : Hid (V 1 = some b.data.toList) := by rw [← HV.out]; rfl
  have HV2 : Hid (V 2 = none) := by rw [← HV.out]; rfl
  have HN := hide (need2 a b)
  rw [HV.out] at HP1 HN
  have HSt := hide (fun (W : World) R S σ s V (h : FuW w R S σ s V W) => full_steps h)
  have HIm := hide (fun (W : World) R S σ s V (h : FuW w R S σ s V W) => full_image h)
  unfold fp at HP0 HP1 HSt HIm
  have HPc := hide (fun (W : World) R S σ s (h : FuW w R S σ s V W) => full_bad h id c (by omega))
  unfold fp at HPc
  have d1 : decide (id < 0) = false := decide_eq_false (by omega)
  have d2 : decide (id > 2) = true := decide_eq_true hc
  clear hc ha hb
  unfold fp at HNw HRa
  go_enter Try.func7, Try.ntmps7
  go_wp2_with fail
  have HB0 : Hid (Below w.heap.size w (w.alloc (.cells #[.string a, .string b, .string c] 64))) := below_alloc w _
  refine (HNw.out _).mono ?_
  rintro e w1 ⟨rfl, hF1, hB1⟩
  have HF1 := hide hF1
  have HB1 := hide (below_next HB0.out (Nat.le_refl _) hB1)
  clear hF1 hB1
  obtain ⟨R, HR⟩ : ∃ R, Hid ((w.alloc (.cells #[.string a, .string b, .string c] 64)).heap.size = R) := ⟨_, rfl⟩
  rw [HR.out] at HF1 ⊢
  have HRw : Hid (w.heap.size ≤ R) := by have := HR.out; have := HB0.out.size; unfold Hid; omega
  go_wp2_with fail
  refine (HRa.out _ _ _ HF1.out _ [] (cuts_none _ _) (by simp)).mono ?_
  rintro e w2 ⟨S, τ, s, rfl, hF2, hS2, _, _, ⟨ho, har, hj⟩, hge, hSR, hK2, hz⟩
  have HW : Hid (FuW w R S τ s noV w2) := by
    refine ⟨Kept.toBelow HB1.out hK2 HB1.out.size HRw.out, hF2, hS2, ?_, ⟨hF2.len, ho, hj⟩, har, HRw.out, by have := HB1.out.size; omega⟩
    obtain ⟨τ0, e1, e2⟩ := hz rfl
    rw [e2]
    exact new_live τ0 s e1
  clear hF2 hS2 ho har hj hge hSR hK2 hz HF1 HB1 HB0 HRa HNw
  unfold fp
  go_wp2_with fail
  refine (HP0.out _ _ _ _ _ HW.out).mono ?_
  rintro e w3 ⟨rfl, τ1, s1, hw3⟩
  have HW3 := hide hw3
  clear hw3 HP0
  go_wp2_with fail
  refine (HP1.out _ _ _ _ _ HW3.out).mono ?_
  rintro e w4 ⟨rfl, τ2, s2, hw4⟩
  have HW4 := hide hw4
  clear hw4 HP1 HW3 HW
  have HS4 := hide (fun W h => HSt.out W R S τ2 s2 V h)
  have HI4 := hide (fun W h => HIm.out W R S τ2 s2 V h)
  clear HSt HIm
  obtain ⟨I, HI⟩ : ∃ I, Hid (bs τ2.C = I) := ⟨_, rfl⟩
  obtain ⟨q, HQ⟩ : ∃ q, Hid (τ2.st = q) := ⟨_, rfl⟩
  rw [HI.out] at HI4
  rw [HQ.out] at HS4
  have f1 : (q == q) = true := by simp
  have f2 : (I.toList == I.toList) = true := by simp
  go_wp2_with fail
  refine (HS4.out _ HW4.out).mono ?_
  rintro e wq ⟨rfl, hwq⟩
  obtain rfl := hwq.symm
  clear hwq
  go_wp2_with fail
  refine (HI4.out _ HW4.out).mono ?_
  rintro e wq ⟨rfl, hwq⟩
  obtain rfl := hwq.symm
  clear hwq
  go_wp2_with fail
  refine (HPc.out _ _ _ _ _ HW4.out).mono ?_
  rintro e w5 ⟨rfl, hw5⟩
  have HW5 := hide hw5
  clear hw5 HPc
  go_wp2_with fail
  refine (HA.out _).mono ?_
  rintro e w6 ⟨rfl, hw6⟩
  have HW6 := hide (HW5.out.next hw6)
  clear hw6
  go_wp2_with fail
  refine (HS4.out _ HW6.out).mono ?_
  rintro e wq ⟨rfl, hwq⟩
  obtain rfl := hwq.symm
  clear hwq
  go_wp2_with fail
  refine (HI4.out _ HW6.out).mono ?_
  rintro e wq ⟨rfl, hwq⟩
  obtain rfl := hwq.symm
  clear hwq
  go_wp2_with fail
  go_ret
  exact ⟨rfl, HW6.out.bel⟩
set_option maxRecDepth 100000 in
set_option maxHeartbeats 2000000 in
theorem full_c2 (a b c : ByteArray) (id : Int) (ha : a.size ≤ 2000) (hb : b.size ≤ 2000) (hi : 0 ≤ id ∧ id ≤ 2) (hc : 2000 < c.size) (w : World) : Calls Try.prog 7 #[.agg #[.string a, .string b, .string c], .int .i64 id] w fun e w' => e = .returned (.bool true) ∧ Below w.heap.size w w' := by
  have HNw := hide (fun W => new_any W)
  have HRa := hide (fun W R σ hF v cs hC hl => raised_any W R σ hF v cs hC hl)
  have HA := hide awake7
  have dA : decide ((a.size : Int) > 2000) = false := decide_eq_false (by omega)
  have dC : decide ((b.size : Int) > 2000) = false := decide_eq_false (by omega)
  have HP0 := hide (fun (W : World) R S σ s (h : FuW w R S σ s noV W) => full_put' h 0 0 (by omega) rfl a ha (need0 a ha))
  have HP1 := hide (fun (W : World) R S σ s (h : FuW w R S σ s (updV noV 0 a.data.toList) W) => full_put' h 1 1 (by omega) rfl b hb (need1 a b ha hb))
  obtain ⟨V, HV⟩ : ∃ V, Hid (updV (updV noV 0 a.data.toList) 1 b.data.toList = V) := ⟨_, rfl⟩
  have HV0 : Hid (V 0 = some a.data.toList) := by rw [← HV.out]; rfl
  have HV1 : Hid (V 1 = some b.data.toList) := by rw [← HV.out]; rfl
  have HV2 : Hid (V 2 = none) := by rw [← HV.out]; rfl
  have HN := hide (need2 a b)
  rw [HV.out] at HP1 HN
  have HSt := hide (fun (W : World) R S σ s V (h : FuW w R S σ s V W) => full_steps h)
  have HIm := hide (fun (W : World) R S σ s V (h : FuW w R S σ s V W) => full_image h)
  unfold fp at HP0 HP1 HSt HIm
  have HPc := hide (fun (W : World) R S σ s (h : FuW w R S σ s V W) => full_bad h id c (by omega))
  unfold fp at HPc
  have d1 : decide (id < 0) = false := decide_eq_false (by omega)
  have d2 : decide (id > 2) = false := decide_eq_false (by omega)
  have d3 : decide ((c.size : Int) > 2000) = true := decide_eq_true (by omega)
  clear hc ha hb hi
  unfold fp at HNw HRa
  go_enter Try.func7, Try.ntmps7
  go_wp2_with fail
  have HB0 : Hid (Below w.heap.size w (w.alloc (.cells #[.string a, .string b, .string c] 64))) := below_alloc w _
  refine (HNw.out _).mono ?_
  rintro e w1 ⟨rfl, hF1, hB1⟩
  have HF1 := hide hF1
  have HB1 := hide (below_next HB0.out (Nat.le_refl _) hB1)
  clear hF1 hB1
  obtain ⟨R, HR⟩ : ∃ R, Hid ((w.alloc (.cells #[.string a, .string b, .string c] 64)).heap.size = R) := ⟨_, rfl⟩
  rw [HR.out] at HF1 ⊢
  have HRw : Hid (w.heap.size ≤ R) := by have := HR.out; have := HB0.out.size; unfold Hid; omega
  go_wp2_with fail
  refine (HRa.out _ _ _ HF1.out _ [] (cuts_none _ _) (by simp)).mono ?_
  rintro e w2 ⟨S, τ, s, rfl, hF2, hS2, _, _, ⟨ho, har, hj⟩, hge, hSR, hK2, hz⟩
  have HW : Hid (FuW w R S τ s noV w2) := by
    refine ⟨Kept.toBelow HB1.out hK2 HB1.out.size HRw.out, hF2, hS2, ?_, ⟨hF2.len, ho, hj⟩, har, HRw.out, by have := HB1.out.size; omega⟩
    obtain ⟨τ0, e1, e2⟩ := hz rfl
    rw [e2]
    exact new_live τ0 s e1
  clear hF2 hS2 ho har hj hge hSR hK2 hz HF1 HB1 HB0 HRa HNw
  unfold fp
  go_wp2_with fail
  refine (HP0.out _ _ _ _ _ HW.out).mono ?_
  rintro e w3 ⟨rfl, τ1, s1, hw3⟩
  have HW3 := hide hw3
  clear hw3 HP0
  go_wp2_with fail
  refine (HP1.out _ _ _ _ _ HW3.out).mono ?_
  rintro e w4 ⟨rfl, τ2, s2, hw4⟩
  have HW4 := hide hw4
  clear hw4 HP1 HW3 HW
  have HS4 := hide (fun W h => HSt.out W R S τ2 s2 V h)
  have HI4 := hide (fun W h => HIm.out W R S τ2 s2 V h)
  clear HSt HIm
  obtain ⟨I, HI⟩ : ∃ I, Hid (bs τ2.C = I) := ⟨_, rfl⟩
  obtain ⟨q, HQ⟩ : ∃ q, Hid (τ2.st = q) := ⟨_, rfl⟩
  rw [HI.out] at HI4
  rw [HQ.out] at HS4
  have f1 : (q == q) = true := by simp
  have f2 : (I.toList == I.toList) = true := by simp
  go_wp2_with fail
  refine (HS4.out _ HW4.out).mono ?_
  rintro e wq ⟨rfl, hwq⟩
  obtain rfl := hwq.symm
  clear hwq
  go_wp2_with fail
  refine (HI4.out _ HW4.out).mono ?_
  rintro e wq ⟨rfl, hwq⟩
  obtain rfl := hwq.symm
  clear hwq
  go_wp2_with fail
  refine (HPc.out _ _ _ _ _ HW4.out).mono ?_
  rintro e w5 ⟨rfl, hw5⟩
  have HW5 := hide hw5
  clear hw5 HPc
  go_wp2_with fail
  refine (HA.out _).mono ?_
  rintro e w6 ⟨rfl, hw6⟩
  have HW6 := hide (HW5.out.next hw6)
  clear hw6
  go_wp2_with fail
  refine (HS4.out _ HW6.out).mono ?_
  rintro e wq ⟨rfl, hwq⟩
  obtain rfl := hwq.symm
  clear hwq
  go_wp2_with fail
  refine (HI4.out _ HW6.out).mono ?_
  rintro e wq ⟨rfl, hwq⟩
  obtain rfl := hwq.symm
  clear hwq
  go_wp2_with fail
  go_ret
  exact ⟨rfl, HW6.out.bel⟩
set_option maxRecDepth 100000 in
set_option maxHeartbeats 2000000 in
theorem full_2f (a b c : ByteArray) (id : Int) (ha : a.size ≤ 2000) (hb : b.size ≤ 2000) (hi : id = 2) (hc : c.size ≤ 2000) (hn : 4096 < 13 + a.size + b.size + c.size) (w : World) : Calls Try.prog 7 #[.agg #[.string a, .string b, .string c], .int .i64 id] w fun e w' => e = .returned (.bool true) ∧ Below w.heap.size w w' := by
  have HNw := hide (fun W => new_any W)
  have HRa := hide (fun W R σ hF v cs hC hl => raised_any W R σ hF v cs hC hl)
  have HA := hide awake7
  subst hi
  have dA : decide ((a.size : Int) > 2000) = false := decide_eq_false (by omega)
  have dC : decide ((b.size : Int) > 2000) = false := decide_eq_false (by omega)
  have HP0 := hide (fun (W : World) R S σ s (h : FuW w R S σ s noV W) => full_put' h 0 0 (by omega) rfl a ha (need0 a ha))
  have HP1 := hide (fun (W : World) R S σ s (h : FuW w R S σ s (updV noV 0 a.data.toList) W) => full_put' h 1 1 (by omega) rfl b hb (need1 a b ha hb))
  obtain ⟨V, HV⟩ : ∃ V, Hid (updV (updV noV 0 a.data.toList) 1 b.data.toList = V) := ⟨_, rfl⟩
  have HV0 : Hid (V 0 = some a.data.toList) := by rw [← HV.out]; rfl
  have HV1 : Hid (V 1 = some b.data.toList) := by rw [← HV.out]; rfl
  have HV2 : Hid (V 2 = none) := by rw [← HV.out]; rfl
  have HN := hide (need2 a b)
  rw [HV.out] at HP1 HN
  have HSt := hide (fun (W : World) R S σ s V (h : FuW w R S σ s V W) => full_steps h)
  have HIm := hide (fun (W : World) R S σ s V (h : FuW w R S σ s V W) => full_image h)
  unfold fp at HP0 HP1 HSt HIm
  have HPc := hide (fun (W : World) R S σ s (h : FuW w R S σ s V W) => full_no' h 2 2 (by omega) rfl c hc (by rw [HN.out]; simp; omega))
  have HG0 := hide (fun (W : World) R S σ s V t (h : FuW w R S σ s V W) (e : V 0 = some t.data.toList) => full_is h 0 0 (by omega) rfl t e)
  have HG1 := hide (fun (W : World) R S σ s V t (h : FuW w R S σ s V W) (e : V 1 = some t.data.toList) => full_is h 1 1 (by omega) rfl t e)
  have HG2 := hide (fun (W : World) R S σ s V t (h : FuW w R S σ s V W) (e : V 2 = some t.data.toList) => full_is h 2 2 (by omega) rfl t e)
  have HG3 := hide (fun (W : World) R S σ s V (h : FuW w R S σ s V W) (e : V 2 = none) => full_none h 2 2 (by omega) rfl e)
  unfold fp at HPc HG0 HG1 HG2 HG3
  have d3 : decide ((c.size : Int) > 2000) = false := decide_eq_false (by omega)
  have ca : (a.size : Int) ≤ 2000 := by omega
  have cb : (b.size : Int) ≤ 2000 := by omega
  have cc : (c.size : Int) ≤ 2000 := by omega
  have e1 : (a.toList == a.toList) = true := by simp
  have e2 : (b.toList == b.toList) = true := by simp
  have e3 : (c.toList == c.toList) = true := by simp
  have d4 : decide (5 + (c.size : Int) + 4 + (a.size : Int) + 4 + (b.size : Int) > 4096) = true := decide_eq_true (by omega)
  clear ha hb hc hn
  unfold fp at HNw HRa
  go_enter Try.func7, Try.ntmps7
  go_wp2_with fail
  have HB0 : Hid (Below w.heap.size w (w.alloc (.cells #[.string a, .string b, .string c] 64))) := below_alloc w _
  refine (HNw.out _).mono ?_
  rintro e w1 ⟨rfl, hF1, hB1⟩
  have HF1 := hide hF1
  have HB1 := hide (below_next HB0.out (Nat.le_refl _) hB1)
  clear hF1 hB1
  obtain ⟨R, HR⟩ : ∃ R, Hid ((w.alloc (.cells #[.string a, .string b, .string c] 64)).heap.size = R) := ⟨_, rfl⟩
  rw [HR.out] at HF1 ⊢
  have HRw : Hid (w.heap.size ≤ R) := by have := HR.out; have := HB0.out.size; unfold Hid; omega
  go_wp2_with fail
  refine (HRa.out _ _ _ HF1.out _ [] (cuts_none _ _) (by simp)).mono ?_
  rintro e w2 ⟨S, τ, s, rfl, hF2, hS2, _, _, ⟨ho, har, hj⟩, hge, hSR, hK2, hz⟩
  have HW : Hid (FuW w R S τ s noV w2) := by
    refine ⟨Kept.toBelow HB1.out hK2 HB1.out.size HRw.out, hF2, hS2, ?_, ⟨hF2.len, ho, hj⟩, har, HRw.out, by have := HB1.out.size; omega⟩
    obtain ⟨τ0, e1, e2⟩ := hz rfl
    rw [e2]
    exact new_live τ0 s e1
  clear hF2 hS2 ho har hj hge hSR hK2 hz HF1 HB1 HB0 HRa HNw
  unfold fp
  go_wp2_with fail
  refine (HP0.out _ _ _ _ _ HW.out).mono ?_
  rintro e w3 ⟨rfl, τ1, s1, hw3⟩
  have HW3 := hide hw3
  clear hw3 HP0
  go_wp2_with fail
  refine (HP1.out _ _ _ _ _ HW3.out).mono ?_
  rintro e w4 ⟨rfl, τ2, s2, hw4⟩
  have HW4 := hide hw4
  clear hw4 HP1 HW3 HW
  have HS4 := hide (fun W h => HSt.out W R S τ2 s2 V h)
  have HI4 := hide (fun W h => HIm.out W R S τ2 s2 V h)
  clear HSt HIm
  obtain ⟨I, HI⟩ : ∃ I, Hid (bs τ2.C = I) := ⟨_, rfl⟩
  obtain ⟨q, HQ⟩ : ∃ q, Hid (τ2.st = q) := ⟨_, rfl⟩
  rw [HI.out] at HI4
  rw [HQ.out] at HS4
  have f1 : (q == q) = true := by simp
  have f2 : (I.toList == I.toList) = true := by simp
  go_wp2_with fail
  refine (HS4.out _ HW4.out).mono ?_
  rintro e wq ⟨rfl, hwq⟩
  obtain rfl := hwq.symm
  clear hwq
  go_wp2_with fail
  refine (HI4.out _ HW4.out).mono ?_
  rintro e wq ⟨rfl, hwq⟩
  obtain rfl := hwq.symm
  clear hwq
  go_wp2_with fail
  refine (HPc.out _ _ _ _ _ HW4.out).mono ?_
  rintro e w5 ⟨rfl, hw5⟩
  have HW5 := hide hw5
  clear hw5 HPc
  go_wp2_with fail
  have hal := below_alloc w5 (.cells #[.string a, .string b, .string ⟨#[]⟩] 65)
  have HW6 := hide (HW5.out.next hal)
  clear hal
  refine (HG0.out _ _ _ _ _ _ _ HW6.out HV0.out).mono ?_
  rintro e w7 ⟨rfl, hw7⟩
  have HW7 := hide (HW6.out.next hw7)
  clear hw7
  go_wp2_with fail
  refine (HG1.out _ _ _ _ _ _ _ HW7.out HV1.out).mono ?_
  rintro e w8 ⟨rfl, hw8⟩
  have HW8 := hide (HW7.out.next hw8)
  clear hw8
  go_wp2_with fail
  refine (HG3.out _ _ _ _ _ _ HW8.out HV2.out).mono ?_
  rintro e w9 ⟨rfl, hw9⟩
  have HW9 := hide (HW8.out.next hw9)
  clear hw9
  go_wp2_with fail
  refine (HA.out _).mono ?_
  rintro e wA ⟨rfl, hwA⟩
  have HWA := hide (HW9.out.next hwA)
  clear hwA
  go_wp2_with fail
  refine (HS4.out _ HWA.out).mono ?_
  rintro e wq ⟨rfl, hwq⟩
  obtain rfl := hwq.symm
  clear hwq
  go_wp2_with fail
  refine (HI4.out _ HWA.out).mono ?_
  rintro e wq ⟨rfl, hwq⟩
  obtain rfl := hwq.symm
  clear hwq
  go_wp2_with fail
  go_ret
  exact ⟨rfl, HWA.out.bel⟩
set_option maxRecDepth 100000 in
set_option maxHeartbeats 2000000 in
theorem full_0 (a b c : ByteArray) (id : Int) (ha : a.size ≤ 2000) (hb : b.size ≤ 2000) (hi : id = 0) (hc : c.size ≤ 2000) (w : World) : Calls Try.prog 7 #[.agg #[.string a, .string b, .string c], .int .i64 id] w fun e w' => e = .returned (.bool true) ∧ Below w.heap.size w w' := by
  have HNw := hide (fun W => new_any W)
  have HRa := hide (fun W R σ hF v cs hC hl => raised_any W R σ hF v cs hC hl)
  have HA := hide awake7
  subst hi
  have dA : decide ((a.size : Int) > 2000) = false := decide_eq_false (by omega)
  have dC : decide ((b.size : Int) > 2000) = false := decide_eq_false (by omega)
  have HP0 := hide (fun (W : World) R S σ s (h : FuW w R S σ s noV W) => full_put' h 0 0 (by omega) rfl a ha (need0 a ha))
  have HP1 := hide (fun (W : World) R S σ s (h : FuW w R S σ s (updV noV 0 a.data.toList) W) => full_put' h 1 1 (by omega) rfl b hb (need1 a b ha hb))
  obtain ⟨V, HV⟩ : ∃ V, Hid (updV (updV noV 0 a.data.toList) 1 b.data.toList = V) := ⟨_, rfl⟩
  have HV0 : Hid (V 0 = some a.data.toList) := by rw [← HV.out]; rfl
  have HV1 : Hid (V 1 = some b.data.toList) := by rw [← HV.out]; rfl
  have HV2 : Hid (V 2 = none) := by rw [← HV.out]; rfl
  have HN := hide (need2 a b)
  rw [HV.out] at HP1 HN
  have HSt := hide (fun (W : World) R S σ s V (h : FuW w R S σ s V W) => full_steps h)
  have HIm := hide (fun (W : World) R S σ s V (h : FuW w R S σ s V W) => full_image h)
  unfold fp at HP0 HP1 HSt HIm
  have HPc := hide (fun (W : World) R S σ s (h : FuW w R S σ s V W) => full_put' h 0 0 (by omega) rfl c hc (by rw [HN.out]; simp; omega))
  have HG0 := hide (fun (W : World) R S σ s V t (h : FuW w R S σ s V W) (e : V 0 = some t.data.toList) => full_is h 0 0 (by omega) rfl t e)
  have HG1 := hide (fun (W : World) R S σ s V t (h : FuW w R S σ s V W) (e : V 1 = some t.data.toList) => full_is h 1 1 (by omega) rfl t e)
  have HG2 := hide (fun (W : World) R S σ s V t (h : FuW w R S σ s V W) (e : V 2 = some t.data.toList) => full_is h 2 2 (by omega) rfl t e)
  have HG3 := hide (fun (W : World) R S σ s V (h : FuW w R S σ s V W) (e : V 2 = none) => full_none h 2 2 (by omega) rfl e)
  unfold fp at HPc HG0 HG1 HG2 HG3
  have d3 : decide ((c.size : Int) > 2000) = false := decide_eq_false (by omega)
  have ca : (a.size : Int) ≤ 2000 := by omega
  have cb : (b.size : Int) ≤ 2000 := by omega
  have cc : (c.size : Int) ≤ 2000 := by omega
  have e1 : (a.toList == a.toList) = true := by simp
  have e2 : (b.toList == b.toList) = true := by simp
  have e3 : (c.toList == c.toList) = true := by simp
  have d4 : decide (5 + (c.size : Int) + 4 + (b.size : Int) > 4096) = false := decide_eq_false (by omega)
  clear ha hb hc
  have HU0 : Hid (updV V 0 c.data.toList 0 = some c.data.toList) := rfl
  have HU1 : Hid (updV V 0 c.data.toList 1 = some b.data.toList) := HV1.out
  have HU2 : Hid (updV V 0 c.data.toList 2 = none) := HV2.out
  unfold fp at HNw HRa
  go_enter Try.func7, Try.ntmps7
  go_wp2_with fail
  have HB0 : Hid (Below w.heap.size w (w.alloc (.cells #[.string a, .string b, .string c] 64))) := below_alloc w _
  refine (HNw.out _).mono ?_
  rintro e w1 ⟨rfl, hF1, hB1⟩
  have HF1 := hide hF1
  have HB1 := hide (below_next HB0.out (Nat.le_refl _) hB1)
  clear hF1 hB1
  obtain ⟨R, HR⟩ : ∃ R, Hid ((w.alloc (.cells #[.string a, .string b, .string c] 64)).heap.size = R) := ⟨_, rfl⟩
  rw [HR.out] at HF1 ⊢
  have HRw : Hid (w.heap.size ≤ R) := by have := HR.out; have := HB0.out.size; unfold Hid; omega
  go_wp2_with fail
  refine (HRa.out _ _ _ HF1.out _ [] (cuts_none _ _) (by simp)).mono ?_
  rintro e w2 ⟨S, τ, s, rfl, hF2, hS2, _, _, ⟨ho, har, hj⟩, hge, hSR, hK2, hz⟩
  have HW : Hid (FuW w R S τ s noV w2) := by
    refine ⟨Kept.toBelow HB1.out hK2 HB1.out.size HRw.out, hF2, hS2, ?_, ⟨hF2.len, ho, hj⟩, har, HRw.out, by have := HB1.out.size; omega⟩
    obtain ⟨τ0, e1, e2⟩ := hz rfl
    rw [e2]
    exact new_live τ0 s e1
  clear hF2 hS2 ho har hj hge hSR hK2 hz HF1 HB1 HB0 HRa HNw
  unfold fp
  go_wp2_with fail
  refine (HP0.out _ _ _ _ _ HW.out).mono ?_
  rintro e w3 ⟨rfl, τ1, s1, hw3⟩
  have HW3 := hide hw3
  clear hw3 HP0
  go_wp2_with fail
  refine (HP1.out _ _ _ _ _ HW3.out).mono ?_
  rintro e w4 ⟨rfl, τ2, s2, hw4⟩
  have HW4 := hide hw4
  clear hw4 HP1 HW3 HW
  have HS4 := hide (fun W h => HSt.out W R S τ2 s2 V h)
  have HI4 := hide (fun W h => HIm.out W R S τ2 s2 V h)
  clear HSt HIm
  obtain ⟨I, HI⟩ : ∃ I, Hid (bs τ2.C = I) := ⟨_, rfl⟩
  obtain ⟨q, HQ⟩ : ∃ q, Hid (τ2.st = q) := ⟨_, rfl⟩
  rw [HI.out] at HI4
  rw [HQ.out] at HS4
  have f1 : (q == q) = true := by simp
  have f2 : (I.toList == I.toList) = true := by simp
  go_wp2_with fail
  refine (HS4.out _ HW4.out).mono ?_
  rintro e wq ⟨rfl, hwq⟩
  obtain rfl := hwq.symm
  clear hwq
  go_wp2_with fail
  refine (HI4.out _ HW4.out).mono ?_
  rintro e wq ⟨rfl, hwq⟩
  obtain rfl := hwq.symm
  clear hwq
  go_wp2_with fail
  refine (HPc.out _ _ _ _ _ HW4.out).mono ?_
  rintro e w5 ⟨rfl, τ3, s3, hw5⟩
  have HW5 := hide hw5
  clear hw5 HPc
  have e0 : ((⟨#[]⟩ : ByteArray).toList == (⟨#[]⟩ : ByteArray).toList) = true := by simp
  go_wp2_with fail
  have hal := below_alloc w5 (.cells #[.string c, .string b, .string ⟨#[]⟩] 65)
  have HW6 := hide (HW5.out.next hal)
  have HK6 : Hid ((w5.alloc (.cells #[.string c, .string b, .string ⟨#[]⟩] 65)).heap[w5.heap.size]? = some (.cells #[.string c, .string b, .string ⟨#[]⟩] 65 (0, 0))) := heap_alloc_new _ _
  clear hal
  obtain ⟨K, HKe⟩ : ∃ K, Hid (w5.heap.size = K) := ⟨_, rfl⟩
  rw [HKe.out] at HK6 ⊢
  refine (HG0.out _ _ _ _ _ _ _ HW6.out HU0.out).mono ?_
  rintro e w7 ⟨rfl, hw7⟩
  have HW7 := hide (HW6.out.next hw7)
  have HK7 : Hid (w7.heap[K]? = some (.cells #[.string c, .string b, .string ⟨#[]⟩] 65 (0, 0))) := by unfold Hid; rw [hw7.block K (lt_of_block HK6.out)]; exact HK6.out
  clear hw7
  go_wp2_with fail
  refine (HG1.out _ _ _ _ _ _ _ HW7.out HU1.out).mono ?_
  rintro e w8 ⟨rfl, hw8⟩
  have HW8 := hide (HW7.out.next hw8)
  have HK8 : Hid (w8.heap[K]? = some (.cells #[.string c, .string b, .string ⟨#[]⟩] 65 (0, 0))) := by unfold Hid; rw [hw8.block K (lt_of_block HK7.out)]; exact HK7.out
  clear hw8
  go_wp2_with fail
  refine (HG3.out _ _ _ _ _ _ HW8.out HU2.out).mono ?_
  rintro e w9 ⟨rfl, hw9⟩
  have HW9 := hide (HW8.out.next hw9)
  have HK9 : Hid (w9.heap[K]? = some (.cells #[.string c, .string b, .string ⟨#[]⟩] 65 (0, 0))) := by unfold Hid; rw [hw9.block K (lt_of_block HK8.out)]; exact HK8.out
  clear hw9
  go_wp2_with fail
  refine (HA.out _).mono ?_
  rintro e wA ⟨rfl, hwA⟩
  have HWA := hide (HW9.out.next hwA)
  have HKA : Hid (wA.heap[K]? = some (.cells #[.string c, .string b, .string ⟨#[]⟩] 65 (0, 0))) := by unfold Hid; rw [hwA.block K (lt_of_block HK9.out)]; exact HK9.out
  clear hwA
  have k0 : wA.cell? ⟨K, 0, none⟩ = some (.string c) := by have := HKA.out; simp [World.cell?, this]
  have k1 : wA.cell? ⟨K, 1, none⟩ = some (.string b) := by have := HKA.out; simp [World.cell?, this]
  have k2 : wA.cell? ⟨K, 2, none⟩ = some (.string ⟨#[]⟩) := by have := HKA.out; simp [World.cell?, this]
  go_wp2_with fail
  go_ret
  exact ⟨rfl, HWA.out.bel⟩
set_option maxRecDepth 100000 in
set_option maxHeartbeats 2000000 in
theorem full_1 (a b c : ByteArray) (id : Int) (ha : a.size ≤ 2000) (hb : b.size ≤ 2000) (hi : id = 1) (hc : c.size ≤ 2000) (w : World) : Calls Try.prog 7 #[.agg #[.string a, .string b, .string c], .int .i64 id] w fun e w' => e = .returned (.bool true) ∧ Below w.heap.size w w' := by
  have HNw := hide (fun W => new_any W)
  have HRa := hide (fun W R σ hF v cs hC hl => raised_any W R σ hF v cs hC hl)
  have HA := hide awake7
  subst hi
  have dA : decide ((a.size : Int) > 2000) = false := decide_eq_false (by omega)
  have dC : decide ((b.size : Int) > 2000) = false := decide_eq_false (by omega)
  have HP0 := hide (fun (W : World) R S σ s (h : FuW w R S σ s noV W) => full_put' h 0 0 (by omega) rfl a ha (need0 a ha))
  have HP1 := hide (fun (W : World) R S σ s (h : FuW w R S σ s (updV noV 0 a.data.toList) W) => full_put' h 1 1 (by omega) rfl b hb (need1 a b ha hb))
  obtain ⟨V, HV⟩ : ∃ V, Hid (updV (updV noV 0 a.data.toList) 1 b.data.toList = V) := ⟨_, rfl⟩
  have HV0 : Hid (V 0 = some a.data.toList) := by rw [← HV.out]; rfl
  have HV1 : Hid (V 1 = some b.data.toList) := by rw [← HV.out]; rfl
  have HV2 : Hid (V 2 = none) := by rw [← HV.out]; rfl
  have HN := hide (need2 a b)
  rw [HV.out] at HP1 HN
  have HSt := hide (fun (W : World) R S σ s V (h : FuW w R S σ s V W) => full_steps h)
  have HIm := hide (fun (W : World) R S σ s V (h : FuW w R S σ s V W) => full_image h)
  unfold fp at HP0 HP1 HSt HIm
  have HPc := hide (fun (W : World) R S σ s (h : FuW w R S σ s V W) => full_put' h 1 1 (by omega) rfl c hc (by rw [HN.out]; simp; omega))
  have HG0 := hide (fun (W : World) R S σ s V t (h : FuW w R S σ s V W) (e : V 0 = some t.data.toList) => full_is h 0 0 (by omega) rfl t e)
  have HG1 := hide (fun (W : World) R S σ s V t (h : FuW w R S σ s V W) (e : V 1 = some t.data.toList) => full_is h 1 1 (by omega) rfl t e)
  have HG2 := hide (fun (W : World) R S σ s V t (h : FuW w R S σ s V W) (e : V 2 = some t.data.toList) => full_is h 2 2 (by omega) rfl t e)
  have HG3 := hide (fun (W : World) R S σ s V (h : FuW w R S σ s V W) (e : V 2 = none) => full_none h 2 2 (by omega) rfl e)
  unfold fp at HPc HG0 HG1 HG2 HG3
  have d3 : decide ((c.size : Int) > 2000) = false := decide_eq_false (by omega)
  have ca : (a.size : Int) ≤ 2000 := by omega
  have cb : (b.size : Int) ≤ 2000 := by omega
  have cc : (c.size : Int) ≤ 2000 := by omega
  have e1 : (a.toList == a.toList) = true := by simp
  have e2 : (b.toList == b.toList) = true := by simp
  have e3 : (c.toList == c.toList) = true := by simp
  have d4 : decide (5 + (c.size : Int) + 4 + (a.size : Int) > 4096) = false := decide_eq_false (by omega)
  clear ha hb hc
  have HU0 : Hid (updV V 1 c.data.toList 0 = some a.data.toList) := HV0.out
  have HU1 : Hid (updV V 1 c.data.toList 1 = some c.data.toList) := rfl
  have HU2 : Hid (updV V 1 c.data.toList 2 = none) := HV2.out
  unfold fp at HNw HRa
  go_enter Try.func7, Try.ntmps7
  go_wp2_with fail
  have HB0 : Hid (Below w.heap.size w (w.alloc (.cells #[.string a, .string b, .string c] 64))) := below_alloc w _
  refine (HNw.out _).mono ?_
  rintro e w1 ⟨rfl, hF1, hB1⟩
  have HF1 := hide hF1
  have HB1 := hide (below_next HB0.out (Nat.le_refl _) hB1)
  clear hF1 hB1
  obtain ⟨R, HR⟩ : ∃ R, Hid ((w.alloc (.cells #[.string a, .string b, .string c] 64)).heap.size = R) := ⟨_, rfl⟩
  rw [HR.out] at HF1 ⊢
  have HRw : Hid (w.heap.size ≤ R) := by have := HR.out; have := HB0.out.size; unfold Hid; omega
  go_wp2_with fail
  refine (HRa.out _ _ _ HF1.out _ [] (cuts_none _ _) (by simp)).mono ?_
  rintro e w2 ⟨S, τ, s, rfl, hF2, hS2, _, _, ⟨ho, har, hj⟩, hge, hSR, hK2, hz⟩
  have HW : Hid (FuW w R S τ s noV w2) := by
    refine ⟨Kept.toBelow HB1.out hK2 HB1.out.size HRw.out, hF2, hS2, ?_, ⟨hF2.len, ho, hj⟩, har, HRw.out, by have := HB1.out.size; omega⟩
    obtain ⟨τ0, e1, e2⟩ := hz rfl
    rw [e2]
    exact new_live τ0 s e1
  clear hF2 hS2 ho har hj hge hSR hK2 hz HF1 HB1 HB0 HRa HNw
  unfold fp
  go_wp2_with fail
  refine (HP0.out _ _ _ _ _ HW.out).mono ?_
  rintro e w3 ⟨rfl, τ1, s1, hw3⟩
  have HW3 := hide hw3
  clear hw3 HP0
  go_wp2_with fail
  refine (HP1.out _ _ _ _ _ HW3.out).mono ?_
  rintro e w4 ⟨rfl, τ2, s2, hw4⟩
  have HW4 := hide hw4
  clear hw4 HP1 HW3 HW
  have HS4 := hide (fun W h => HSt.out W R S τ2 s2 V h)
  have HI4 := hide (fun W h => HIm.out W R S τ2 s2 V h)
  clear HSt HIm
  obtain ⟨I, HI⟩ : ∃ I, Hid (bs τ2.C = I) := ⟨_, rfl⟩
  obtain ⟨q, HQ⟩ : ∃ q, Hid (τ2.st = q) := ⟨_, rfl⟩
  rw [HI.out] at HI4
  rw [HQ.out] at HS4
  have f1 : (q == q) = true := by simp
  have f2 : (I.toList == I.toList) = true := by simp
  go_wp2_with fail
  refine (HS4.out _ HW4.out).mono ?_
  rintro e wq ⟨rfl, hwq⟩
  obtain rfl := hwq.symm
  clear hwq
  go_wp2_with fail
  refine (HI4.out _ HW4.out).mono ?_
  rintro e wq ⟨rfl, hwq⟩
  obtain rfl := hwq.symm
  clear hwq
  go_wp2_with fail
  refine (HPc.out _ _ _ _ _ HW4.out).mono ?_
  rintro e w5 ⟨rfl, τ3, s3, hw5⟩
  have HW5 := hide hw5
  clear hw5 HPc
  have e0 : ((⟨#[]⟩ : ByteArray).toList == (⟨#[]⟩ : ByteArray).toList) = true := by simp
  go_wp2_with fail
  have hal := below_alloc w5 (.cells #[.string a, .string c, .string ⟨#[]⟩] 65)
  have HW6 := hide (HW5.out.next hal)
  have HK6 : Hid ((w5.alloc (.cells #[.string a, .string c, .string ⟨#[]⟩] 65)).heap[w5.heap.size]? = some (.cells #[.string a, .string c, .string ⟨#[]⟩] 65 (0, 0))) := heap_alloc_new _ _
  clear hal
  obtain ⟨K, HKe⟩ : ∃ K, Hid (w5.heap.size = K) := ⟨_, rfl⟩
  rw [HKe.out] at HK6 ⊢
  refine (HG0.out _ _ _ _ _ _ _ HW6.out HU0.out).mono ?_
  rintro e w7 ⟨rfl, hw7⟩
  have HW7 := hide (HW6.out.next hw7)
  have HK7 : Hid (w7.heap[K]? = some (.cells #[.string a, .string c, .string ⟨#[]⟩] 65 (0, 0))) := by unfold Hid; rw [hw7.block K (lt_of_block HK6.out)]; exact HK6.out
  clear hw7
  go_wp2_with fail
  refine (HG1.out _ _ _ _ _ _ _ HW7.out HU1.out).mono ?_
  rintro e w8 ⟨rfl, hw8⟩
  have HW8 := hide (HW7.out.next hw8)
  have HK8 : Hid (w8.heap[K]? = some (.cells #[.string a, .string c, .string ⟨#[]⟩] 65 (0, 0))) := by unfold Hid; rw [hw8.block K (lt_of_block HK7.out)]; exact HK7.out
  clear hw8
  go_wp2_with fail
  refine (HG3.out _ _ _ _ _ _ HW8.out HU2.out).mono ?_
  rintro e w9 ⟨rfl, hw9⟩
  have HW9 := hide (HW8.out.next hw9)
  have HK9 : Hid (w9.heap[K]? = some (.cells #[.string a, .string c, .string ⟨#[]⟩] 65 (0, 0))) := by unfold Hid; rw [hw9.block K (lt_of_block HK8.out)]; exact HK8.out
  clear hw9
  go_wp2_with fail
  refine (HA.out _).mono ?_
  rintro e wA ⟨rfl, hwA⟩
  have HWA := hide (HW9.out.next hwA)
  have HKA : Hid (wA.heap[K]? = some (.cells #[.string a, .string c, .string ⟨#[]⟩] 65 (0, 0))) := by unfold Hid; rw [hwA.block K (lt_of_block HK9.out)]; exact HK9.out
  clear hwA
  have k0 : wA.cell? ⟨K, 0, none⟩ = some (.string a) := by have := HKA.out; simp [World.cell?, this]
  have k1 : wA.cell? ⟨K, 1, none⟩ = some (.string c) := by have := HKA.out; simp [World.cell?, this]
  have k2 : wA.cell? ⟨K, 2, none⟩ = some (.string ⟨#[]⟩) := by have := HKA.out; simp [World.cell?, this]
  go_wp2_with fail
  go_ret
  exact ⟨rfl, HWA.out.bel⟩
set_option maxRecDepth 100000 in
set_option maxHeartbeats 2000000 in
theorem full_2 (a b c : ByteArray) (id : Int) (ha : a.size ≤ 2000) (hb : b.size ≤ 2000) (hi : id = 2) (hc : c.size ≤ 2000) (hn : 13 + a.size + b.size + c.size ≤ 4096) (w : World) : Calls Try.prog 7 #[.agg #[.string a, .string b, .string c], .int .i64 id] w fun e w' => e = .returned (.bool true) ∧ Below w.heap.size w w' := by
  have HNw := hide (fun W => new_any W)
  have HRa := hide (fun W R σ hF v cs hC hl => raised_any W R σ hF v cs hC hl)
  have HA := hide awake7
  subst hi
  have dA : decide ((a.size : Int) > 2000) = false := decide_eq_false (by omega)
  have dC : decide ((b.size : Int) > 2000) = false := decide_eq_false (by omega)
  have HP0 := hide (fun (W : World) R S σ s (h : FuW w R S σ s noV W) => full_put' h 0 0 (by omega) rfl a ha (need0 a ha))
  have HP1 := hide (fun (W : World) R S σ s (h : FuW w R S σ s (updV noV 0 a.data.toList) W) => full_put' h 1 1 (by omega) rfl b hb (need1 a b ha hb))
  obtain ⟨V, HV⟩ : ∃ V, Hid (updV (updV noV 0 a.data.toList) 1 b.data.toList = V) := ⟨_, rfl⟩
  have HV0 : Hid (V 0 = some a.data.toList) := by rw [← HV.out]; rfl
  have HV1 : Hid (V 1 = some b.data.toList) := by rw [← HV.out]; rfl
  have HV2 : Hid (V 2 = none) := by rw [← HV.out]; rfl
  have HN := hide (need2 a b)
  rw [HV.out] at HP1 HN
  have HSt := hide (fun (W : World) R S σ s V (h : FuW w R S σ s V W) => full_steps h)
  have HIm := hide (fun (W : World) R S σ s V (h : FuW w R S σ s V W) => full_image h)
  unfold fp at HP0 HP1 HSt HIm
  have HPc := hide (fun (W : World) R S σ s (h : FuW w R S σ s V W) => full_put' h 2 2 (by omega) rfl c hc (by rw [HN.out]; simp; omega))
  have HG0 := hide (fun (W : World) R S σ s V t (h : FuW w R S σ s V W) (e : V 0 = some t.data.toList) => full_is h 0 0 (by omega) rfl t e)
  have HG1 := hide (fun (W : World) R S σ s V t (h : FuW w R S σ s V W) (e : V 1 = some t.data.toList) => full_is h 1 1 (by omega) rfl t e)
  have HG2 := hide (fun (W : World) R S σ s V t (h : FuW w R S σ s V W) (e : V 2 = some t.data.toList) => full_is h 2 2 (by omega) rfl t e)
  have HG3 := hide (fun (W : World) R S σ s V (h : FuW w R S σ s V W) (e : V 2 = none) => full_none h 2 2 (by omega) rfl e)
  unfold fp at HPc HG0 HG1 HG2 HG3
  have d3 : decide ((c.size : Int) > 2000) = false := decide_eq_false (by omega)
  have ca : (a.size : Int) ≤ 2000 := by omega
  have cb : (b.size : Int) ≤ 2000 := by omega
  have cc : (c.size : Int) ≤ 2000 := by omega
  have e1 : (a.toList == a.toList) = true := by simp
  have e2 : (b.toList == b.toList) = true := by simp
  have e3 : (c.toList == c.toList) = true := by simp
  have d4 : decide (5 + (c.size : Int) + 4 + (a.size : Int) + 4 + (b.size : Int) > 4096) = false := decide_eq_false (by omega)
  clear ha hb hc hn
  have HU0 : Hid (updV V 2 c.data.toList 0 = some a.data.toList) := HV0.out
  have HU1 : Hid (updV V 2 c.data.toList 1 = some b.data.toList) := HV1.out
  have HU2 : Hid (updV V 2 c.data.toList 2 = some c.data.toList) := rfl
  unfold fp at HNw HRa
  go_enter Try.func7, Try.ntmps7
  go_wp2_with fail
  have HB0 : Hid (Below w.heap.size w (w.alloc (.cells #[.string a, .string b, .string c] 64))) := below_alloc w _
  refine (HNw.out _).mono ?_
  rintro e w1 ⟨rfl, hF1, hB1⟩
  have HF1 := hide hF1
  have HB1 := hide (below_next HB0.out (Nat.le_refl _) hB1)
  clear hF1 hB1
  obtain ⟨R, HR⟩ : ∃ R, Hid ((w.alloc (.cells #[.string a, .string b, .string c] 64)).heap.size = R) := ⟨_, rfl⟩
  rw [HR.out] at HF1 ⊢
  have HRw : Hid (w.heap.size ≤ R) := by have := HR.out; have := HB0.out.size; unfold Hid; omega
  go_wp2_with fail
  refine (HRa.out _ _ _ HF1.out _ [] (cuts_none _ _) (by simp)).mono ?_
  rintro e w2 ⟨S, τ, s, rfl, hF2, hS2, _, _, ⟨ho, har, hj⟩, hge, hSR, hK2, hz⟩
  have HW : Hid (FuW w R S τ s noV w2) := by
    refine ⟨Kept.toBelow HB1.out hK2 HB1.out.size HRw.out, hF2, hS2, ?_, ⟨hF2.len, ho, hj⟩, har, HRw.out, by have := HB1.out.size; omega⟩
    obtain ⟨τ0, e1, e2⟩ := hz rfl
    rw [e2]
    exact new_live τ0 s e1
  clear hF2 hS2 ho har hj hge hSR hK2 hz HF1 HB1 HB0 HRa HNw
  unfold fp
  go_wp2_with fail
  refine (HP0.out _ _ _ _ _ HW.out).mono ?_
  rintro e w3 ⟨rfl, τ1, s1, hw3⟩
  have HW3 := hide hw3
  clear hw3 HP0
  go_wp2_with fail
  refine (HP1.out _ _ _ _ _ HW3.out).mono ?_
  rintro e w4 ⟨rfl, τ2, s2, hw4⟩
  have HW4 := hide hw4
  clear hw4 HP1 HW3 HW
  have HS4 := hide (fun W h => HSt.out W R S τ2 s2 V h)
  have HI4 := hide (fun W h => HIm.out W R S τ2 s2 V h)
  clear HSt HIm
  obtain ⟨I, HI⟩ : ∃ I, Hid (bs τ2.C = I) := ⟨_, rfl⟩
  obtain ⟨q, HQ⟩ : ∃ q, Hid (τ2.st = q) := ⟨_, rfl⟩
  rw [HI.out] at HI4
  rw [HQ.out] at HS4
  have f1 : (q == q) = true := by simp
  have f2 : (I.toList == I.toList) = true := by simp
  go_wp2_with fail
  refine (HS4.out _ HW4.out).mono ?_
  rintro e wq ⟨rfl, hwq⟩
  obtain rfl := hwq.symm
  clear hwq
  go_wp2_with fail
  refine (HI4.out _ HW4.out).mono ?_
  rintro e wq ⟨rfl, hwq⟩
  obtain rfl := hwq.symm
  clear hwq
  go_wp2_with fail
  refine (HPc.out _ _ _ _ _ HW4.out).mono ?_
  rintro e w5 ⟨rfl, τ3, s3, hw5⟩
  have HW5 := hide hw5
  clear hw5 HPc
  have e0 : ((⟨#[]⟩ : ByteArray).toList == (⟨#[]⟩ : ByteArray).toList) = true := by simp
  go_wp2_with fail
  have hal := below_alloc w5 (.cells #[.string a, .string b, .string c] 65)
  have HW6 := hide (HW5.out.next hal)
  have HK6 : Hid ((w5.alloc (.cells #[.string a, .string b, .string c] 65)).heap[w5.heap.size]? = some (.cells #[.string a, .string b, .string c] 65 (0, 0))) := heap_alloc_new _ _
  clear hal
  obtain ⟨K, HKe⟩ : ∃ K, Hid (w5.heap.size = K) := ⟨_, rfl⟩
  rw [HKe.out] at HK6 ⊢
  refine (HG0.out _ _ _ _ _ _ _ HW6.out HU0.out).mono ?_
  rintro e w7 ⟨rfl, hw7⟩
  have HW7 := hide (HW6.out.next hw7)
  have HK7 : Hid (w7.heap[K]? = some (.cells #[.string a, .string b, .string c] 65 (0, 0))) := by unfold Hid; rw [hw7.block K (lt_of_block HK6.out)]; exact HK6.out
  clear hw7
  go_wp2_with fail
  refine (HG1.out _ _ _ _ _ _ _ HW7.out HU1.out).mono ?_
  rintro e w8 ⟨rfl, hw8⟩
  have HW8 := hide (HW7.out.next hw8)
  have HK8 : Hid (w8.heap[K]? = some (.cells #[.string a, .string b, .string c] 65 (0, 0))) := by unfold Hid; rw [hw8.block K (lt_of_block HK7.out)]; exact HK7.out
  clear hw8
  go_wp2_with fail
  refine (HG2.out _ _ _ _ _ _ _ HW8.out HU2.out).mono ?_
  rintro e w9 ⟨rfl, hw9⟩
  have HW9 := hide (HW8.out.next hw9)
  have HK9 : Hid (w9.heap[K]? = some (.cells #[.string a, .string b, .string c] 65 (0, 0))) := by unfold Hid; rw [hw9.block K (lt_of_block HK8.out)]; exact HK8.out
  clear hw9
  go_wp2_with fail
  refine (HA.out _).mono ?_
  rintro e wA ⟨rfl, hwA⟩
  have HWA := hide (HW9.out.next hwA)
  have HKA : Hid (wA.heap[K]? = some (.cells #[.string a, .string b, .string c] 65 (0, 0))) := by unfold Hid; rw [hwA.block K (lt_of_block HK9.out)]; exact HK9.out
  clear hwA
  have k0 : wA.cell? ⟨K, 0, none⟩ = some (.string a) := by have := HKA.out; simp [World.cell?, this]
  have k1 : wA.cell? ⟨K, 1, none⟩ = some (.string b) := by have := HKA.out; simp [World.cell?, this]
  have k2 : wA.cell? ⟨K, 2, none⟩ = some (.string c) := by have := HKA.out; simp [World.cell?, this]
  go_wp2_with fail
  go_ret
  exact ⟨rfl, HWA.out.bel⟩
theorem StoreFull_walk (a b c : ByteArray) (id : Int) (w : World) : Calls Try.prog 7 #[.agg #[.string a, .string b, .string c], .int .i64 id] w fun e w' => e = .returned (.bool true) ∧ Below w.heap.size w w' := by
  by_cases ha : a.size ≤ 2000
  · by_cases hb : b.size ≤ 2000
    · by_cases h0 : id < 0
      · exact full_c0 a b c id ha hb h0 w
      · by_cases h1 : 2 < id
        · exact full_c1 a b c id ha hb h1 w
        · by_cases hc : c.size ≤ 2000
          · by_cases i0 : id = 0
            · exact full_0 a b c id ha hb i0 hc w
            · by_cases i1 : id = 1
              · exact full_1 a b c id ha hb i1 hc w
              · by_cases hn : 13 + a.size + b.size + c.size ≤ 4096
                · exact full_2 a b c id ha hb (by omega) hc hn w
                · exact full_2f a b c id ha hb (by omega) hc (by omega) w
          · exact full_c2 a b c id ha hb (by omega) (by omega) w
    · exact full_b a b c id ha (by omega) w
  · exact full_a a b c id (by omega) w
end Go.Proofs.Ytcjahdgppnmdkaa
