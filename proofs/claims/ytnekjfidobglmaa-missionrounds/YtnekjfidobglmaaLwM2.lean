/- What MissionRounds answers: true, at every two numbers. -/
import Derived.Test.YtnekjfidobglmaaMiA
namespace Go.Proofs.Ytnekjfidobglmaa
open Go.RowKit Go.Great Go.Maps

/-- the mission: a speed, two jumps back to it, a landing -/
def rdL (t p : Int) : List It := [⟨5, 2000, 0, 0⟩, ⟨4, 0, t, 0⟩, ⟨4, 0, p, 0⟩, ⟨6, 0, 0, 0⟩]
theorem rd_chk (t p : Int) (ht : 0 ≤ t ∧ t ≤ 100) (hp : 1 ≤ p ∧ p ≤ 20) : chk (rdL t p) = 0 := by
  have h1 : okK 4 0 t 0 = true := by unfold okK wi; simp; omega
  have h2 : okK 4 0 p 0 = true := by unfold okK wi; simp; omega
  have h3 : okK 5 2000 0 0 = true := by decide
  have h4 : okK 6 0 0 0 = true := by decide
  have e5 : oneE 4 ⟨5, 2000, 0, 0⟩ = 0 := by unfold oneE; rw [show ((⟨5, 2000, 0, 0⟩ : It).k.toNat : Int) = 5 from rfl, h3]; simp
  have e4 : ∀ x, okK 4 0 x 0 = true → oneE 4 ⟨4, 0, x, 0⟩ = 0 := by
    intro x hx
    unfold oneE
    simp only
    rw [show ((4 : UInt8).toNat : Int) = 4 from rfl, hx]
    simp
  have e6 : oneE 4 ⟨6, 0, 0, 0⟩ = 0 := by unfold oneE; rw [show ((⟨6, 0, 0, 0⟩ : It).k.toNat : Int) = 6 from rfl, h4]; simp
  unfold chk rdL
  rw [if_neg (by simp)]
  show chkG 4 _ = 0
  unfold chkG; rw [if_pos e5]
  unfold chkG; rw [if_pos (e4 t h1)]
  unfold chkG; rw [if_pos (e4 p h2)]
  unfold chkG; rw [if_pos e6]
  rfl
/-- where the run stands behind i steps: at which item, how often was jumped, how often the speed was set -/
structure Rd (t p : Int) (r : Rn) (i : Nat) (sp : Int) : Prop where
  L : r.L = rdL t p
  l : r.l = 0
  j1 : 0 ≤ r.J 1 ∧ r.J 1 ≤ t
  j2 : 0 ≤ r.J 2 ∧ r.J 2 ≤ p
  a : (r.p = 0 ∧ sp = (t + 1) * r.J 2 + r.J 1 ∧ (i : Int) = 2 * sp + r.J 2) ∨ (r.p = 1 ∧ r.s = 2000 ∧ sp = (t + 1) * r.J 2 + r.J 1 + 1 ∧ (i : Int) = 2 * (sp - 1) + r.J 2 + 1) ∨ (r.p = 2 ∧ r.s = 2000 ∧ r.J 1 = 0 ∧ sp = (t + 1) * r.J 2 + t + 1 ∧ (i : Int) = 2 * sp + r.J 2) ∨ (r.p = 3 ∧ r.s = 2000 ∧ sp = (t + 1) * (p + 1) ∧ (i : Int) = 2 * sp + p + 1)
theorem rd_small (t p j : Int) (ht : 0 ≤ t ∧ t ≤ 100) (hj : 0 ≤ j ∧ j ≤ p) (hp : 1 ≤ p ∧ p ≤ 20) : 0 ≤ (t + 1) * j ∧ (t + 1) * j ≤ (t + 1) * p ∧ (t + 1) * p ≤ 2020 := by
  refine ⟨Int.mul_nonneg (by omega) (by omega), Int.mul_le_mul_of_nonneg_left hj.2 (by omega), ?_⟩
  have h1 : (t + 1) * p ≤ 101 * p := Int.mul_le_mul_of_nonneg_right (by omega) (by omega)
  omega
theorem Rd.bound {t p : Int} {r : Rn} {i : Nat} {sp : Int} (h : Rd t p r i sp) (ht : 0 ≤ t ∧ t ≤ 100) (hp : 1 ≤ p ∧ p ≤ 20) : i ≤ 5000 ∧ 0 ≤ sp ∧ sp ≤ 3000 := by
  have h1 := rd_small t p (r.J 2) ht h.j2 hp
  have h2 : (t + 1) * (p + 1) = (t + 1) * p + t + 1 := by rw [Int.mul_add]; omega
  have j1 := h.j1
  have j2 := h.j2
  rcases h.a with ⟨_, a, b⟩ | ⟨_, _, a, b⟩ | ⟨_, _, _, a, b⟩ | ⟨_, _, a, b⟩ <;> omega
theorem upJ_same (J : Nat → Int) (i : Nat) (v : Int) : upJ J i v i = v := by simp [upJ]
theorem upJ_other (J : Nat → Int) (i k : Nat) (v : Int) (h : k ≠ i) : upJ J i v k = J k := by simp [upJ, h]
theorem Rd.step {t p : Int} {r : Rn} {i : Nat} {sp : Int} (h : Rd t p r i sp) (hlt : r.p < 3) : Rd t p (stp r false) (i + 1) (if r.p = 0 then sp + 1 else sp) := by
  obtain ⟨hL, hl, j1, j2, ha⟩ := h
  obtain ⟨L, q, s, l, J⟩ := r
  simp only at *
  subst hL hl
  rcases ha with ⟨rfl, a, b⟩ | ⟨rfl, c, a, b⟩ | ⟨rfl, c, d, a, b⟩ | ⟨rfl, c, a, b⟩
  · have e : stp ⟨rdL t p, 0, s, 0, J⟩ false = ⟨rdL t p, 1, 2000, 0, J⟩ := rfl
    rw [e, if_pos rfl]
    exact ⟨rfl, rfl, j1, j2, .inr (.inl ⟨rfl, rfl, by simp only; omega, by simp only; omega⟩)⟩
  · have e : stp ⟨rdL t p, 1, s, 0, J⟩ false = if J 1 < t then ⟨rdL t p, 0, s, 0, upJ J 1 (J 1 + 1)⟩ else ⟨rdL t p, 2, s, 0, upJ J 1 0⟩ := rfl
    rw [e, show (if (1 : Nat) = 0 then sp + 1 else sp) = sp from rfl]
    by_cases hj : J 1 < t
    · rw [if_pos hj]
      refine ⟨rfl, rfl, ?_, ?_, .inl ⟨rfl, ?_, ?_⟩⟩
      all_goals simp only [upJ_same, upJ_other J 1 2 _ (by omega)]
      all_goals omega
    · rw [if_neg hj]
      refine ⟨rfl, rfl, ?_, ?_, .inr (.inr (.inl ⟨rfl, c, ?_, ?_, ?_⟩))⟩
      all_goals simp only [upJ_same, upJ_other J 1 2 _ (by omega)]
      all_goals omega
  · have e : stp ⟨rdL t p, 2, s, 0, J⟩ false = if J 2 < p then ⟨rdL t p, 0, s, 0, upJ J 2 (J 2 + 1)⟩ else ⟨rdL t p, 3, s, 0, upJ J 2 0⟩ := rfl
    rw [e, show (if (2 : Nat) = 0 then sp + 1 else sp) = sp from rfl]
    by_cases hj : J 2 < p
    · rw [if_pos hj]
      have e2 : (t + 1) * (J 2 + 1) = (t + 1) * J 2 + t + 1 := by rw [Int.mul_add]; omega
      refine ⟨rfl, rfl, ?_, ?_, .inl ⟨rfl, ?_, ?_⟩⟩
      all_goals (try simp only [upJ_same, upJ_other J 2 1 _ (by omega)])
      all_goals omega
    · rw [if_neg hj]
      have ej : J 2 = p := by omega
      have e2 : (t + 1) * (p + 1) = (t + 1) * p + t + 1 := by rw [Int.mul_add]; omega
      rw [ej] at a b
      refine ⟨rfl, rfl, ?_, ?_, .inr (.inr (.inr ⟨rfl, c, ?_, ?_⟩))⟩
      all_goals (try simp only [upJ_same, upJ_other J 2 1 _ (by omega)])
      all_goals omega
  · omega
theorem rd_end {t p : Int} {r : Rn} {i : Nat} {sp : Int} (h : Rd t p r i sp) (h3 : r.p = 3) : r.s = 2000 ∧ sp = (t + 1) * (p + 1) ∧ goalC r = gC 6 0 0 0 2000 := by
  obtain ⟨hL, hl, j1, j2, ha⟩ := h
  rcases ha with ⟨a, _⟩ | ⟨a, _⟩ | ⟨a, _⟩ | ⟨a, b, c, d⟩
  · omega
  · omega
  · omega
  · refine ⟨b, c, ?_⟩
    unfold goalC
    rw [hL, a, b]
    rfl
set_option maxHeartbeats 4000000 in
set_option maxRecDepth 100000 in
theorem rounds_in (t p : Int) (ht : 0 ≤ t ∧ t ≤ 100) (hp : 1 ≤ p ∧ p ≤ 20) (w : World) : Calls Try.prog 8 #[.int .i64 t, .int .i64 p] w fun e w' => e = .returned (.bool true) ∧ Below w.heap.size w w' := by
  have AW := hide awakeM
  have EG := eql_goal 6 0 0 0 2000
  have HK := hide (rd_chk t p ht hp)
  have hm1 := rd_small t p p ht (by omega) hp
  have hm2 : (t + 1) * (p + 1) = (t + 1) * p + t + 1 := by rw [Int.mul_add]; omega
  have HT := hide ht
  have HP := hide hp
  have HN := hide (new_any 1600 (rdL t p) (.slice (some ⟨w.heap.size, 0, none⟩) 4 4) _ (mrow_new w (rdL t p) 4 #[.int .u8 5, .int .i64 2000, .int .i64 0, .int .i64 0, .int .u8 4, .int .i64 0, .int .i64 t, .int .i64 0, .int .u8 4, .int .i64 0, .int .i64 p, .int .i64 0, .int .u8 6, .int .i64 0, .int .i64 0, .int .i64 0] rfl rfl (by omega) w.heap.size (Nat.le_refl _)).rws)
  have Hb := hide (below_alloc w (.cells #[.int .u8 5, .int .i64 2000, .int .i64 0, .int .i64 0, .int .u8 4, .int .i64 0, .int .i64 t, .int .i64 0, .int .u8 4, .int .i64 0, .int .i64 p, .int .i64 0, .int .u8 6, .int .i64 0, .int .i64 0, .int .i64 0] 48))
  go_enter Try.func8, Try.ntmps8
  go_wp2_with fail
  refine HN.out.mono ?_
  rintro e w1 ⟨hb1, h1⟩
  rcases h1 with ⟨h1, _⟩ | ⟨_, R, rfl, hRl, hR⟩
  · exact absurd HK.out h1
  have HR := hide hR
  have hRw : w.heap.size ≤ R := by rw [size_alloc] at hRl; omega
  replace Hb := hide (below_next Hb.out (Nat.le_refl _) hb1)
  clear hb1 hR hRl HN
  go_wp2_with fail
  go_loopw [7, 8] (fun vs vi wx => ∃ (i : Nat) (sp : Int) (r : Rn), vi = .int .i64 (i : Int) ∧ vs = .int .i64 sp ∧ Hid (Rd t p r i sp) ∧ Hid (ROk r) ∧ Hid (RunB wx R i r) ∧ Hid (Below w.heap.size w wx)) (fun _ vi _ => 10000 - (intOf vi).toNat)
  case atStart => exact ⟨0, 0, rn0 1600 (rdL t p), rfl, rfl, hide ⟨rfl, rfl, by simp [rn0]; omega, by simp [rn0]; omega, .inl ⟨rfl, by simp [rn0], by simp [rn0]⟩⟩, hide (rn0_ok HK.out), HR, Hb⟩
  case round =>
    clear HR Hb
    obtain ⟨i, sp, r, rfl, rfl, HD, HO, HR, Hb⟩ := hrel
    obtain ⟨hib, hs0, hs1⟩ := HD.out.bound HT.out HP.out
    have IX := hide (index_any wr R i r HR.out)
    by_cases h3 : r.p < 3
    · have ST := hide (step_any wr R i r false HR.out HO.out (by unfold maxLen; omega))
      have HD2 := hide (HD.out.step h3)
      have HO2 := hide (HO.out.step false)
      obtain ⟨q, HQ⟩ : ∃ q, Hid (r.p = q) := ⟨_, hide rfl⟩
      rw [HQ.out] at IX h3 HD2
      by_cases h0 : q = 0
      · subst h0
        go_wp2_with (first | (go_at_call 26; refine IX.out.mono ?_; rintro e w12 ⟨rfl, hw⟩; obtain rfl := hw.symm))
        refine ST.out.mono ?_
        rintro e w2 ⟨rfl, hR2, hG2⟩
        have HR2 := hide hR2
        have Hb2 := hide (below_grown Hb.out hG2 (fun k e => by injection e with e; omega))
        clear hR2 hG2 ST IX
        go_wp2_with fail
        go_roundw
        case rel => exact ⟨i + 1, sp + 1, _, by go_num, rfl, HD2, HO2, HR2, Hb2⟩
        case measure => simp [intOf]; omega
      · have HD3 : Hid (Rd t p (stp r false) (i + 1) sp) := hide (by have := HD2.out; rw [if_neg h0] at this; exact this)
        clear HD2
        go_wp2_with (first | (go_at_call 26; refine IX.out.mono ?_; rintro e w12 ⟨rfl, hw⟩; obtain rfl := hw.symm))
        refine ST.out.mono ?_
        rintro e w2 ⟨rfl, hR2, hG2⟩
        have HR2 := hide hR2
        have Hb2 := hide (below_grown Hb.out hG2 (fun k e => by injection e with e; omega))
        clear hR2 hG2 ST IX
        go_wp2_with fail
        go_roundw
        case rel => exact ⟨i + 1, sp, _, by go_num, rfl, HD3, HO2, HR2, Hb2⟩
        case measure => simp [intOf]; omega
    · have hr3 : r.p = 3 := by
        have := HO.out.p
        have h4 : r.L.length = 4 := by rw [HD.out.L]; rfl
        rcases HD.out.a with ⟨a, _⟩ | ⟨a, _⟩ | ⟨a, _⟩ | ⟨a, _⟩ <;> omega
      obtain ⟨_, hsp, hg⟩ := rd_end HD.out hr3
      have GO := hide (goal_any wr R i r HR.out HO.out.p)
      rw [hg] at GO
      rw [hr3] at IX
      rw [hsp] at hs0 hs1 ⊢
      clear hsp hg h3 hr3 HD HO
      go_wp2_with (first | (go_at_call 26; refine IX.out.mono ?_; rintro e w12 ⟨rfl, hw⟩; obtain rfl := hw.symm))
      refine GO.out.mono ?_
      rintro e w2 ⟨rfl, hb2⟩
      replace Hb := hide (below_next Hb.out (Nat.le_refl _) hb2)
      clear hb2 GO IX HR
      go_wp2_with fail
      refine (AW.out w2).mono ?_
      rintro e w3 ⟨rfl, hb3⟩
      go_wp2_with fail
      go_ret
      exact ⟨rfl, below_next Hb.out (Nat.le_refl _) hb3⟩
set_option maxHeartbeats 4000000 in
theorem MissionRounds_walk (t p : Int) (w : World) : Calls Try.prog 8 #[.int .i64 t, .int .i64 p] w fun e w' => e = .returned (.bool true) ∧ Below w.heap.size w w' := by
  by_cases ht : 0 ≤ t ∧ t ≤ 100
  · by_cases hp : 1 ≤ p ∧ p ≤ 20
    · exact rounds_in t p ht hp w
    · have AW := hide awakeM
      have h1 : decide (t < 0) = false := decide_eq_false (by omega)
      have h2 : decide (100 < t) = false := decide_eq_false (by omega)
      have h3 : (decide (p < 1) || decide (20 < p)) = true := by simp; omega
      go_enter Try.func8, Try.ntmps8
      by_cases q : p < 1
      · go_wp2_with fail
        refine (AW.out w).mono ?_
        rintro e w3 ⟨rfl, hb3⟩
        go_wp2_with fail
        go_ret
        exact ⟨rfl, hb3⟩
      · have q2 : 20 < p := by omega
        go_wp2_with fail
        refine (AW.out w).mono ?_
        rintro e w3 ⟨rfl, hb3⟩
        go_wp2_with fail
        go_ret
        exact ⟨rfl, hb3⟩
  · have AW := hide awakeM
    by_cases q : t < 0
    · go_enter Try.func8, Try.ntmps8
      go_wp2_with fail
      refine (AW.out w).mono ?_
      rintro e w3 ⟨rfl, hb3⟩
      go_wp2_with fail
      go_ret
      exact ⟨rfl, hb3⟩
    · have q2 : 100 < t := by omega
      go_enter Try.func8, Try.ntmps8
      go_wp2_with fail
      refine (AW.out w).mono ?_
      rintro e w3 ⟨rfl, hb3⟩
      go_wp2_with fail
      go_ret
      exact ⟨rfl, hb3⟩
end Go.Proofs.Ytnekjfidobglmaa
