/- How long landing and returning take, how far a vehicle may be: package params. -/
import Derived.Test.YthldohfjkjhdcaaPa4
namespace Go.Proofs.Ythldohfjkjhdcaa
open Go.RowKit Go.Great

/-- margins as sound parameters have them -/
def MarIn (m : Mar) : Prop := (48 ≤ m.brake ∧ m.brake ≤ 64) ∧ (2 ≤ m.drift ∧ m.drift ≤ 34) ∧ (86 ≤ m.jolt ∧ m.jolt ≤ 430) ∧ (2000 ≤ m.fast ∧ m.fast ≤ 65000)
theorem land_in (m : Mar) (hm : MarIn m) (fall h : Int) (f0 : 2000 ≤ fall) (f1 : fall ≤ 16000) (h0 : 0 ≤ h) (h1 : h ≤ 536870912) : 104 ≤ landI m fall h ∧ landI m fall h ≤ 4000000000000 := by
  obtain ⟨a, b, c, d⟩ := hm
  have w0 := way_in m.fast m.brake (by omega) (by omega) (by omega) (by omega)
  have u := upI_in (h * 6400 + wayI m.fast m.brake + 16 * m.fast) (fall - m.drift) (by omega) (by omega)
  have e1 := (ediv_in m.fast m.brake (by omega)).1 (by omega)
  unfold landI
  omega
theorem Sound.marIn {l : List Int} (h : Sound l) : MarIn (marL l) := h.facts
/-- what LandTicks answers -/
def landE (l : List Int) (h : Int) : Int × Int := if chk l = 0 then (if 0 ≤ h ∧ h ≤ 536870912 then (landI (marL l) (l.getD 9 0) h, 0) else (0, 1)) else (0, chk l)
theorem marV_form (m : Mar) : marV m = .agg (arr6 (.int .i64 m.brake) (.int .i64 m.drift) (.int .i64 m.jolt) (.int .i64 m.fast) (.int .i64 m.lane) (.int .i64 m.drain)) := rfl
theorem landE_cases (l : List Int) (h : Int) : (chk l ≠ 0 ∧ landE l h = (0, chk l)) ∨ (Sound l ∧ ¬ (0 ≤ h ∧ h ≤ 536870912) ∧ landE l h = (0, 1)) ∨ (Sound l ∧ (0 ≤ h ∧ h ≤ 536870912) ∧ landE l h = (landI (marL l) (l.getD 9 0) h, 0)) := by
  unfold landE
  by_cases hc : chk l = 0
  · rw [if_pos hc]
    by_cases hin : 0 ≤ h ∧ h ≤ 536870912
    · rw [if_pos hin]; exact .inr (.inr ⟨sound_of hc, hin, rfl⟩)
    · rw [if_neg hin]; exact .inr (.inl ⟨sound_of hc, hin, rfl⟩)
  · rw [if_neg hc]; exact .inl ⟨hc, rfl⟩
theorem leg_in (d v a : Int) (d0 : 0 ≤ d) (d1 : d ≤ 1000000000) (v0 : 1 ≤ v) (v1 : v ≤ 64000) (a0 : 4 ≤ a) : 800 ≤ legI d v a ∧ legI d v a ≤ 20000000000000 := by
  have u := upI_in (19200 * d) v v0 (by omega)
  have e := (ediv_in v a (by omega)).1 (by omega)
  unfold legI
  omega
/-- what ReturnTicks answers -/
def retE (l : List Int) (h d : Int) : Int × Int := if chk l = 0 then (if (0 ≤ h ∧ h ≤ 536870912) ∧ 0 ≤ d ∧ d ≤ 536870912 then (retI l h d, 0) else (0, 1)) else (0, chk l)
theorem retE_cases (l : List Int) (h d : Int) : (chk l ≠ 0 ∧ retE l h d = (0, chk l)) ∨ (Sound l ∧ ¬ ((0 ≤ h ∧ h ≤ 536870912) ∧ 0 ≤ d ∧ d ≤ 536870912) ∧ retE l h d = (0, 1)) ∨ (Sound l ∧ ((0 ≤ h ∧ h ≤ 536870912) ∧ 0 ≤ d ∧ d ≤ 536870912) ∧ retE l h d = (retI l h d, 0)) := by
  unfold retE
  by_cases hc : chk l = 0
  · rw [if_pos hc]
    by_cases hin : (0 ≤ h ∧ h ≤ 536870912) ∧ 0 ≤ d ∧ d ≤ 536870912
    · rw [if_pos hin]; exact .inr (.inr ⟨sound_of hc, hin, rfl⟩)
    · rw [if_neg hin]; exact .inr (.inl ⟨sound_of hc, hin, rfl⟩)
  · rw [if_neg hc]; exact .inl ⟨hc, rfl⟩
theorem in_no (h : Int) (hn : ¬ (0 ≤ h ∧ h ≤ 536870912)) : (decide (0 ≤ h) && decide (h ≤ 536870912)) = false := by
  by_cases h1 : 0 ≤ h
  · simp; omega
  · simp; omega
theorem in_yes (h : Int) (hn : 0 ≤ h ∧ h ≤ 536870912) : (decide (0 ≤ h) && decide (h ≤ 536870912)) = true := by
  rw [decide_eq_true hn.1, decide_eq_true hn.2]; rfl
/-- what Slack answers -/
def slackE (l : List Int) (h : Int) : Int × Int := if chk l = 0 then (if 1 ≤ h ∧ h ≤ 536870912 then (slackI l h, 0) else (0, 1)) else (0, chk l)
theorem slackE_cases (l : List Int) (h : Int) : (chk l ≠ 0 ∧ slackE l h = (0, chk l)) ∨ (Sound l ∧ ¬ (1 ≤ h ∧ h ≤ 536870912) ∧ slackE l h = (0, 1)) ∨ (Sound l ∧ (1 ≤ h ∧ h ≤ 536870912) ∧ slackE l h = (slackI l h, 0)) := by
  unfold slackE
  by_cases hc : chk l = 0
  · rw [if_pos hc]
    by_cases hin : 1 ≤ h ∧ h ≤ 536870912
    · rw [if_pos hin]; exact .inr (.inr ⟨sound_of hc, hin, rfl⟩)
    · rw [if_neg hin]; exact .inr (.inl ⟨sound_of hc, hin, rfl⟩)
  · rw [if_neg hc]; exact .inl ⟨hc, rfl⟩
theorem slack_in (m : Mar) (hm : MarIn m) (r : Int) (r0 : 104 ≤ r) (r1 : r ≤ 4000000000000) : 0 ≤ m.drift * r ∧ m.drift * r ≤ 136000000000000 := by
  obtain ⟨a, b, c, d⟩ := hm
  refine ⟨Int.mul_nonneg (by omega) (by omega), ?_⟩
  have := Int.mul_le_mul (a := m.drift) (b := r) (c := 34) (d := 4000000000000) (by omega) (by omega) (by omega) (by omega)
  omega
end Go.Proofs.Ythldohfjkjhdcaa
