/- PaR. -/
import Derived.Test.YtapfaaaepnplcaaGreatDoorG19
import Derived.Deep.DeepCutAuto
set_option maxRecDepth 100000
namespace Go.Proofs.YtapfaaaepnplcaaGreatDoor
open Go.RowKit Go.Great
theorem upI_mono (a a' b : Int) (hb : 1 ≤ b) (h : a ≤ a') : upI a b ≤ upI a' b := by
  unfold upI
  have := Int.ediv_le_ediv (a := -a') (b := -a) (c := b) (by omega) (by omega)
  omega
theorem land_mono (m : Mar) (fall x y : Int) (hf : 1 ≤ fall - m.drift) (h : x ≤ y) : landI m fall x ≤ landI m fall y := by
  unfold landI
  have := upI_mono (x * 6400 + wayI m.fast m.brake + 16 * m.fast) (y * 6400 + wayI m.fast m.brake + 16 * m.fast) (fall - m.drift) hf (by omega)
  omega
theorem leg_mono (x y v a : Int) (hv : 1 ≤ v) (h : x ≤ y) : legI x v a ≤ legI y v a := by
  unfold legI
  have := upI_mono (19200 * x) (19200 * y) v hv (by omega)
  omega
theorem ret_mono (l : List Int) (hs : Sound l) (x y d e : Int) (h : x ≤ y) (g : d ≤ e) : retI l x d ≤ retI l y e := by
  obtain ⟨-, -, -, -, -, -, b6, b7, b8, b9, b10, -⟩ := hs.inr.bounds
  unfold retI
  simp only
  have h1 := leg_mono (max x (l.getD 10 0) + 1000) (max y (l.getD 10 0) + 1000) (l.getD 8 0) (l.getD 6 0) (by omega) (by omega)
  have h2 := leg_mono d e (l.getD 7 0) (l.getD 6 0) (by omega) g
  have h3 := upI_mono (12800 * (max x (l.getD 10 0) + 1000)) (12800 * (max y (l.getD 10 0) + 1000)) (l.getD 9 0) (by omega) (by omega)
  omega
theorem ret_pos (l : List Int) (hs : Sound l) (x d : Int) (h : 0 ≤ x ∧ x ≤ 536870912) (g : 0 ≤ d ∧ d ≤ 536870912) : 0 < retI l x d := by
  obtain ⟨-, -, -, -, -, -, b6, b7, b8, b9, b10, -⟩ := hs.inr.bounds
  unfold retI
  simp only
  have h1 := leg_in (max x (l.getD 10 0) + 1000) (l.getD 8 0) (l.getD 6 0) (by omega) (by omega) (by omega) (by omega) (by omega)
  have h2 := leg_in d (l.getD 7 0) (l.getD 6 0) (by omega) (by omega) (by omega) (by omega) (by omega)
  have h3 := upI_in (12800 * (max x (l.getD 10 0) + 1000)) (l.getD 9 0) (by omega) (by omega)
  have h4 := (ediv_in (l.getD 8 0 + l.getD 9 0) (l.getD 6 0) (by omega)).1 (by omega)
  omega
theorem slack_mono (l : List Int) (hs : Sound l) (x y : Int) (hx : 1 ≤ x) (hy : y ≤ 536870912) (h : x ≤ y) : slackI l x ≤ slackI l y ∧ 0 < slackI l x := by
  obtain ⟨-, -, -, -, -, -, b6, b7, b8, b9, b10, -⟩ := hs.inr.bounds
  have hm := hs.marIn
  have l1 := land_in (marL l) hm (l.getD 9 0) x b9.1 b9.2 (by omega) (by omega)
  have l2 := land_mono (marL l) (l.getD 9 0) x y (by obtain ⟨_, b, _, _⟩ := hm; omega) h
  have p1 := slack_in (marL l) hm _ l1.1 l1.2
  obtain ⟨_, b, c, _⟩ := hm
  have l3 : (marL l).drift * landI (marL l) (l.getD 9 0) x ≤ (marL l).drift * landI (marL l) (l.getD 9 0) y := Int.mul_le_mul_of_nonneg_left l2 (by omega)
  have u := upI_mono ((marL l).drift * landI (marL l) (l.getD 9 0) x + (marL l).jolt * 64) ((marL l).drift * landI (marL l) (l.getD 9 0) y + (marL l).jolt * 64) 6400 (by omega) (by omega)
  have u2 := upI_in ((marL l).drift * landI (marL l) (l.getD 9 0) x + (marL l).jolt * 64) 6400 (by omega) (by omega)
  unfold slackI
  omega
/-- what is asked of two answers -/
def RiseOk (p q : Int × Int) : Prop := (p.2 != 0) = true ∨ ((p.2 != 0) = false ∧ (q.2 != 0) = true) ∨ ((p.2 != 0) = false ∧ (q.2 != 0) = false ∧ decide (p.1 ≤ q.1) = true ∧ decide (0 < p.1) = true)
theorem land_rise (l : List Int) (x y : Int) (h : x ≤ y) : RiseOk (landE l x) (landE l y) := by
  rcases landE_cases l x with ⟨hc, hE⟩ | ⟨hs, hin, hE⟩ | ⟨hs, hin, hE⟩
  · left; rw [hE]; simp [hc]
  · left; rw [hE]; rfl
  · right
    rcases landE_cases l y with ⟨hc, hF⟩ | ⟨_, hjn, hF⟩ | ⟨_, hjn, hF⟩
    · exact absurd hs.chk hc
    · left; rw [hE, hF]; exact ⟨rfl, rfl⟩
    · right
      rw [hE, hF]
      obtain ⟨-, -, -, -, -, -, b6, b7, b8, b9, b10, -⟩ := hs.inr.bounds
      have l1 := land_in (marL l) hs.marIn (l.getD 9 0) x b9.1 b9.2 hin.1 hin.2
      have l2 := land_mono (marL l) (l.getD 9 0) x y (by obtain ⟨_, b, _, _⟩ := hs.marIn; omega) h
      exact ⟨rfl, rfl, decide_eq_true l2, decide_eq_true (by show 0 < landI _ _ _; omega)⟩
theorem ret_rise (l : List Int) (x y d e : Int) (h : x ≤ y) (g : d ≤ e) : RiseOk (retE l x d) (retE l y e) := by
  rcases retE_cases l x d with ⟨hc, hE⟩ | ⟨hs, hin, hE⟩ | ⟨hs, hin, hE⟩
  · left; rw [hE]; simp [hc]
  · left; rw [hE]; rfl
  · right
    rcases retE_cases l y e with ⟨hc, hF⟩ | ⟨_, hjn, hF⟩ | ⟨_, hjn, hF⟩
    · exact absurd hs.chk hc
    · left; rw [hE, hF]; exact ⟨rfl, rfl⟩
    · right
      rw [hE, hF]
      exact ⟨rfl, rfl, decide_eq_true (ret_mono l hs x y d e h g), decide_eq_true (ret_pos l hs x d hin.1 hin.2)⟩
theorem slack_rise (l : List Int) (x y : Int) (h : x ≤ y) : RiseOk (slackE l x) (slackE l y) := by
  rcases slackE_cases l x with ⟨hc, hE⟩ | ⟨hs, hin, hE⟩ | ⟨hs, hin, hE⟩
  · left; rw [hE]; simp [hc]
  · left; rw [hE]; rfl
  · right
    rcases slackE_cases l y with ⟨hc, hF⟩ | ⟨_, hjn, hF⟩ | ⟨_, hjn, hF⟩
    · exact absurd hs.chk hc
    · left; rw [hE, hF]; exact ⟨rfl, rfl⟩
    · right
      rw [hE, hF]
      have := slack_mono l hs x y hin.1 hjn.2 h
      exact ⟨rfl, rfl, decide_eq_true this.1, decide_eq_true this.2⟩
end Go.Proofs.YtapfaaaepnplcaaGreatDoor
