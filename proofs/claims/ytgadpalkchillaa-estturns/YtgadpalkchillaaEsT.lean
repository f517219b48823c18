/- A compass is off by no more than its bound, in plain numbers; the document's Round and Way. -/
import Derived.Test.YtgadpalkchillaaEsO
namespace Go.Proofs.Ytgadpalkchillaa
open Go.RowKit Go.Great

theorem tmod20 (n : Int) : (n.tmod 1048576 < 0 → n.tmod 1048576 + 1048576 = n % 1048576) ∧ (¬ n.tmod 1048576 < 0 → n.tmod 1048576 = n % 1048576) := by
  by_cases h : 0 ≤ n
  · rw [Int.tmod_eq_emod_of_nonneg h]
    exact ⟨fun g => absurd g (by omega), fun _ => rfl⟩
  · have e : n.tmod 1048576 = -((-n) % 1048576) := by
      have := Int.neg_tmod (-n) 1048576
      rw [Int.neg_neg] at this
      rw [this, Int.tmod_eq_emod_of_nonneg (by omega)]
    rw [e]
    exact ⟨fun g => by omega, fun g => by omega⟩
theorem round_any (n : Int) (w : World) : Calls Try.prog 21 #[.int .i64 n] w fun e w' => e = .returned (.int .i64 (n % 1048576)) ∧ w' = w := by
  obtain ⟨h1, h2⟩ := tmod20 n
  by_cases h : n.tmod 1048576 < 0
  · have hb : -1048576 ≤ n.tmod 1048576 := by have e := h1 h; generalize n.tmod 1048576 = x at *; omega
    have H := hide (h1 h)
    clear h1 h2
    go_enter Try.func21, Try.ntmps21
    go_wp2
    go_ret
    exact ⟨ret_int H.out, rfl⟩
  · have H := hide (h2 h)
    clear h1 h2
    go_enter Try.func21, Try.ntmps21
    go_wp2
    go_ret
    exact ⟨ret_int H.out, rfl⟩
/-- the document's Way -/
def wayI (a b : Int) : Int := if 524288 ≤ (b % 1048576 - a % 1048576) % 1048576 then (b % 1048576 - a % 1048576) % 1048576 - 1048576 else (b % 1048576 - a % 1048576) % 1048576
theorem way_any (a b : Int) (w : World) : Calls Try.prog 23 #[.int .i64 a, .int .i64 b] w fun e w' => e = .returned (.int .i64 (wayI a b)) ∧ w' = w := by
  obtain ⟨x, hx⟩ : ∃ x, Hid (b % 1048576 = x) := ⟨_, hide rfl⟩
  obtain ⟨y, hy⟩ : ∃ y, Hid (a % 1048576 = y) := ⟨_, hide rfl⟩
  obtain ⟨z, hz⟩ : ∃ z, Hid ((x - y) % 1048576 = z) := ⟨_, hide rfl⟩
  have HW : Hid (wayI a b = if 524288 ≤ z then z - 1048576 else z) := hide (by unfold wayI; rw [hx.out, hy.out, hz.out])
  have bx : 0 ≤ x ∧ x < 1048576 := by rw [← hx.out]; omega
  have bY : 0 ≤ y ∧ y < 1048576 := by rw [← hy.out]; omega
  have bz : 0 ≤ z ∧ z < 1048576 := by rw [← hz.out]; omega
  have R1 := hide (round_any b)
  have R2 := hide (round_any a)
  have R3 := hide (round_any (x - y))
  rw [hx.out] at R1
  rw [hy.out] at R2
  rw [hz.out] at R3
  clear hx hy hz
  go_enter Try.func23, Try.ntmps23
  go_wp2_with fail
  refine (R1.out _).mono ?_
  rintro e w' ⟨rfl, hw⟩
  obtain rfl := hw.symm
  go_wp2_with fail
  refine (R2.out _).mono ?_
  rintro e w' ⟨rfl, hw⟩
  obtain rfl := hw.symm
  go_wp2_with fail
  refine (R3.out _).mono ?_
  rintro e w' ⟨rfl, hw⟩
  obtain rfl := hw.symm
  go_wp2_with fail
  all_goals
    go_ret
    refine ⟨ret_int ?_, rfl⟩
    rw [HW.out]
    split <;> omega
theorem way_is {a b δ : Int} (h : (b - a - δ) % 1048576 = 0) (h1 : -400000 ≤ δ) (h2 : δ ≤ 400000) : wayI a b = δ := by
  unfold wayI
  have e : (b % 1048576 - a % 1048576) % 1048576 = δ % 1048576 := by omega
  rw [e]
  split <;> omega
/-- how far a heading is off -/
structure Off (t : Co) (tr δ : Int) : Prop where
  h : (t.h - tr - δ) % 1048576 = 0
  lo : -t.b ≤ δ
  hi : δ ≤ t.b
theorem rot_off {t : Co} {tr δ tu ro off : Int} {hr : Bool} (h : Off t tr δ) (hb : t.b ≤ 400000) (ht : COk t) (h1 : -4000 ≤ tu) (h2 : tu ≤ 4000) (h3 : -off ≤ ro) (h4 : ro ≤ off) (h6 : off ≤ 64) : ∃ δ', Off (crot ⟨hr, tu + ro, off⟩ t) ((tr + tu) % 1048576) δ' ∧ (crot ⟨hr, tu + ro, off⟩ t).b ≤ 404096 := by
  obtain ⟨a1, a2, a3⟩ := h
  have hb0 := ht.b.1
  have h0 : 0 ≤ off := by omega
  cases hr with
  | true =>
    have hth : mth ⟨true, tu + ro, off⟩ = true := by simp [mth, h0]
    have hm : moff ⟨true, tu + ro, off⟩ = off := by show imin off 65536 = off; unfold imin; split <;> omega
    have hk : imin (t.b + off) 524288 = t.b + off := by unfold imin; split <;> omega
    have e : crot ⟨true, tu + ro, off⟩ t = { t with h := (t.h + (tu + ro)) % 1048576, b := t.b + off } := by unfold crot; rw [if_pos hth, hm]; unfold ckeep; rw [hk]
    rw [e]
    exact ⟨δ + ro, ⟨by show ((t.h + (tu + ro)) % 1048576 - (tr + tu) % 1048576 - (δ + ro)) % 1048576 = 0; omega, by show -(t.b + off) ≤ δ + ro; omega, by show δ + ro ≤ t.b + off; omega⟩, by show t.b + off ≤ 404096; omega⟩
  | false =>
    have hth : ¬ mth ⟨false, tu + ro, off⟩ = true := by simp [mth]
    have hk : imin (t.b + 4096) 524288 = t.b + 4096 := by unfold imin; split <;> omega
    have e : crot ⟨false, tu + ro, off⟩ t = { t with h := t.h % 1048576, b := t.b + 4096 } := by unfold crot; rw [if_neg hth]; unfold ckeep; rw [hk]
    rw [e]
    exact ⟨δ - tu, ⟨by show (t.h % 1048576 - (tr + tu) % 1048576 - (δ - tu)) % 1048576 = 0; omega, by show -(t.b + 4096) ≤ δ - tu; omega, by show δ - tu ≤ t.b + 4096; omega⟩, by show t.b + 4096 ≤ 404096; omega⟩
theorem lean_off {t : Co} {tr δ ho off : Int} {hh : Bool} (h : Off t tr δ) (hb : t.b ≤ 404096) (ht : COk t) (h3 : -off ≤ ho) (h4 : ho ≤ off) (h6 : off ≤ 64) : ∃ δ', Off (clean ⟨hh, (tr + 8) % 1048576 / 16 + ho, off + 1⟩ t) tr δ' := by
  obtain ⟨a1, a2, a3⟩ := h
  have hb0 := ht.b.1
  have h0 : 0 ≤ off := by omega
  cases hh with
  | true =>
    obtain ⟨s, hs⟩ : ∃ s, (tr + 8) % 1048576 / 16 + ho = s := ⟨_, rfl⟩
    have hs2 : ∃ ε, -(16 * (off + 1)) ≤ ε ∧ ε ≤ 16 * (off + 1) ∧ (16 * s - tr - ε) % 1048576 = 0 := by
      refine ⟨8 - (tr + 8) % 1048576 % 16 + 16 * ho, by omega, by omega, ?_⟩
      subst hs
      omega
    obtain ⟨ε, b1, b2, b3⟩ := hs2
    rw [hs]
    have hth : mth ⟨true, s, off + 1⟩ = true := by simp [mth]; omega
    have hm : moff ⟨true, s, off + 1⟩ = off + 1 := by show imin (off + 1) 65536 = off + 1; unfold imin; split <;> omega
    have hk : imin (7 * t.b / 8 + 2 * (off + 1) + 1) 524288 = 7 * t.b / 8 + 2 * (off + 1) + 1 := by unfold imin; split <;> omega
    have hw : cway ⟨true, s, off + 1⟩ t.h = ε - δ := by
      show (16 * s - t.h + 524288) % 1048576 - 524288 = ε - δ
      clear hs hth hm hk
      omega
    have e : clean ⟨true, s, off + 1⟩ t = { t with h := (t.h + (ε - δ) / 8) % 1048576, b := 7 * t.b / 8 + 2 * (off + 1) + 1 } := by unfold clean; rw [if_pos hth, hm, hw]; unfold ckeep; rw [hk]
    rw [e]
    refine ⟨δ + (ε - δ) / 8, ⟨?_, ?_, ?_⟩⟩
    · show ((t.h + (ε - δ) / 8) % 1048576 - tr - (δ + (ε - δ) / 8)) % 1048576 = 0
      clear hs hth hm hk hw e b3
      omega
    · show -(7 * t.b / 8 + 2 * (off + 1) + 1) ≤ δ + (ε - δ) / 8
      clear hs hth hm hk hw e b3 a1
      omega
    · show δ + (ε - δ) / 8 ≤ 7 * t.b / 8 + 2 * (off + 1) + 1
      clear hs hth hm hk hw e b3 a1
      omega
  | false =>
    have hth : ¬ mth ⟨false, (tr + 8) % 1048576 / 16 + ho, off + 1⟩ = true := by simp [mth]
    have e : clean ⟨false, (tr + 8) % 1048576 / 16 + ho, off + 1⟩ t = t := by unfold clean; rw [if_neg hth]
    rw [e]
    exact ⟨δ, a1, a2, a3⟩
theorem step_off {t : Co} {tr δ tu ro ho off : Int} {hr hh : Bool} (h : Off t tr δ) (hb : t.b ≤ 400000) (hk : t.kn = true) (ht : COk t) (h1 : -4000 ≤ tu) (h2 : tu ≤ 4000) (h3 : -off ≤ ro) (h4 : ro ≤ off) (h5 : -off ≤ ho) (h7 : ho ≤ off) (h6 : off ≤ 64) :
    ∃ δ', Off (cstp ⟨hr, tu + ro, off⟩ ⟨hh, ((tr + tu) % 1048576 + 8) % 1048576 / 16 + ho, off + 1⟩ t) ((tr + tu) % 1048576) δ' := by
  unfold cstp
  rw [if_pos hk]
  have ht1 : COk { t with q0 := qt ⟨hh, ((tr + tu) % 1048576 + 8) % 1048576 / 16 + ho, off + 1⟩ t.q0 } := chear_ok ht
  have h1' : Off { t with q0 := qt ⟨hh, ((tr + tu) % 1048576 + 8) % 1048576 / 16 + ho, off + 1⟩ t.q0 } tr δ := ⟨h.h, h.lo, h.hi⟩
  obtain ⟨δ1, g1, g2⟩ := rot_off (hr := hr) h1' hb ht1 h1 h2 h3 h4 h6
  exact lean_off (hh := hh) g1 g2 (crot_ok ht1) h5 h7 h6
theorem cstp_kn {r m : Mea} {t : Co} (h : t.kn = true) : (cstp r m t).kn = true := by
  unfold cstp
  rw [if_pos h]
  unfold clean crot ckeep
  split <;> split <;> exact h
end Go.Proofs.Ytgadpalkchillaa
