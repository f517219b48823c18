/- Pure: a polygon's sides in a row. -/
import Derived.Test.YtohepelnbmojiaaGeZ
namespace Go.Proofs.Ytohepelnbmojiaa

/-- how a side goes through a row: 1 upwards, -1 downwards -/
def sr (V : Nat → Pt) (Y : Int) (k : Nat) : Int := (if Y < (V (k + 1)).2 then 1 else 0) - (if Y < (V k).2 then 1 else 0)
/-- where its line goes through it -/
def xr (V : Nat → Pt) (t : Nat → Int) (Y : Int) (k : Nat) : Int := (V k).1 + t k * (Y - (V k).2)
theorem sr_cases (V : Nat → Pt) (Y : Int) (k : Nat) : sr V Y k = 0 ∨ sr V Y k = 1 ∨ sr V Y k = -1 := by
  unfold sr; split <;> split <;> omega
section
variable {V : Nat → Pt} {m : Nat} {t : Nat → Int}
theorem sr_sum (H : Sim V m) (Y : Int) : sm (sr V Y) 0 m = 0 := by
  have := sm_tele (sr V Y) (fun j => if Y < (V j).2 then 1 else 0) 0 m (fun i _ => rfl)
  rw [this]
  simp only [Nat.zero_add]
  have e : V m = V 0 := by have := H.per 0; rwa [Nat.zero_add] at this
  rw [e]; omega
theorem cross_xr (ht : ∀ k, (V (k + 1)).1 - (V k).1 = t k * ((V (k + 1)).2 - (V k).2)) (k : Nat) (z Y : Int) : cross (V k) (V (k + 1)) (z, Y) = ((V (k + 1)).2 - (V k).2) * (xr V t Y k - z) := by
  have := ht k
  unfold cross xr
  simp only
  rw [this]; grind
theorem sj_row (ht : ∀ k, (V (k + 1)).1 - (V k).1 = t k * ((V (k + 1)).2 - (V k).2)) (k : Nat) (z Y : Int) : sj (V k) (V (k + 1)) (z, Y) = if z < xr V t Y k then sr V Y k else 0 := by
  have c1 := cross_xr ht k z Y
  have c2 : cross (V (k + 1)) (V k) (z, Y) = - cross (V k) (V (k + 1)) (z, Y) := cross_flip _ _ _
  unfold sj sr
  by_cases g1 : Y < (V (k + 1)).2 <;> by_cases g2 : Y < (V k).2
  · rw [if_pos g1, if_pos g2, if_neg (fun h => by have := (upB_iff _ _ _).1 h; simp only at this; omega), if_neg (fun h => by have := (upB_iff _ _ _).1 h; simp only at this; omega)]; simp
  · rw [if_pos g1, if_neg g2, if_neg (c := upB (V (k + 1)) (V k) (z, Y) = true) (fun h => by have := (upB_iff _ _ _).1 h; simp only at this; omega)]
    by_cases g3 : z < xr V t Y k
    · rw [if_pos g3, if_pos ((upB_iff _ _ _).2 ⟨by show (V k).2 ≤ Y; omega, g1, by rw [c1]; exact Int.mul_pos (by omega) (by omega)⟩)]
    · rw [if_neg g3, if_neg]; · rfl
      intro h
      have h3 := ((upB_iff _ _ _).1 h).2.2
      rw [c1] at h3
      have : ((V (k + 1)).2 - (V k).2) * (xr V t Y k - z) ≤ 0 := Int.mul_nonpos_of_nonneg_of_nonpos (by omega) (by omega)
      omega
  · rw [if_neg g1, if_pos g2, if_neg (c := upB (V k) (V (k + 1)) (z, Y) = true) (fun h => by have := (upB_iff _ _ _).1 h; simp only at this; omega)]
    by_cases g3 : z < xr V t Y k
    · rw [if_pos g3, if_pos ((upB_iff _ _ _).2 ⟨by show (V (k + 1)).2 ≤ Y; omega, g2, by
        rw [c2, c1]
        have : ((V (k + 1)).2 - (V k).2) * (xr V t Y k - z) < 0 := Int.mul_neg_of_neg_of_pos (by omega) (by omega)
        omega⟩)]
    · rw [if_neg g3, if_neg]; · rfl
      intro h
      have h3 := ((upB_iff _ _ _).1 h).2.2
      rw [c2, c1] at h3
      have : 0 ≤ ((V (k + 1)).2 - (V k).2) * (xr V t Y k - z) := Int.mul_nonneg_of_nonpos_of_nonpos (by omega) (by omega)
      omega
  · rw [if_neg g1, if_neg g2, if_neg (fun h => by have := (upB_iff _ _ _).1 h; simp only at this; omega), if_neg (fun h => by have := (upB_iff _ _ _).1 h; simp only at this; omega)]; simp
theorem row_right (H : Sim V m) (ht : ∀ k, (V (k + 1)).1 - (V k).1 = t k * ((V (k + 1)).2 - (V k).2)) (Y : Int) (hY : ∀ k, (V k).2 ≠ Y) (k : Nat) (hk : sr V Y k ≠ 0) : rw' (sr V Y) (xr V t Y) m (xr V t Y k) + (if sr V Y k = 1 then 1 else 0) = lft V m 0 := by
  have e : rw' (sr V Y) (xr V t Y) m (xr V t Y k) = wd V m (xr V t Y k, Y) := by
    refine sm_ext fun j _ => ?_
    exact (sj_row ht _ _ _).symm
  have z : cross (V k) (V (k + 1)) (xr V t Y k, Y) = 0 := by rw [cross_xr ht]; simp
  rw [e, ← H.lft_all k]
  unfold lft
  have n1 := hY k
  have n2 := hY (k + 1)
  unfold sr at hk ⊢
  by_cases g1 : Y < (V (k + 1)).2 <;> by_cases g2 : Y < (V k).2
  · rw [if_pos g1, if_pos g2] at hk; omega
  · rw [if_pos g1, if_neg g2, if_pos (by decide), if_pos (by omega), H.on_up k (q := (xr V t Y k, Y)) (by show _ < Y; omega) g1 z]
  · rw [if_neg g1, if_pos g2, if_neg (by decide), if_neg (by omega), H.on_down k (q := (xr V t Y k, Y)) (by show _ < Y; omega) g2 z]
  · rw [if_neg g1, if_neg g2] at hk; omega
theorem xr_in (ht : ∀ k, (V (k + 1)).1 - (V k).1 = t k * ((V (k + 1)).2 - (V k).2)) (k : Nat) (Y : Int) (hk : sr V Y k ≠ 0) (lo hi : Int) (h1 : lo ≤ (V k).1 ∧ (V k).1 ≤ hi) (h2 : lo ≤ (V (k + 1)).1 ∧ (V (k + 1)).1 ≤ hi) : lo ≤ xr V t Y k ∧ xr V t Y k ≤ hi := by
  have e := ht k
  have e2 : (V (k + 1)).1 - xr V t Y k = t k * ((V (k + 1)).2 - Y) := by unfold xr; grind
  have e1 : xr V t Y k - (V k).1 = t k * (Y - (V k).2) := by unfold xr; omega
  have pr : 0 ≤ (xr V t Y k - (V k).1) * ((V (k + 1)).1 - xr V t Y k) := by
    rw [e1, e2]
    have a : t k * (Y - (V k).2) * (t k * ((V (k + 1)).2 - Y)) = (t k * t k) * ((Y - (V k).2) * ((V (k + 1)).2 - Y)) := by grind
    rw [a]
    refine Int.mul_nonneg (sq_nonneg _) ?_
    unfold sr at hk
    by_cases g1 : Y < (V (k + 1)).2 <;> by_cases g2 : Y < (V k).2
    · rw [if_pos g1, if_pos g2] at hk; omega
    · exact Int.mul_nonneg (by omega) (by omega)
    · exact Int.mul_nonneg_of_nonpos_of_nonpos (by omega) (by omega)
    · rw [if_neg g1, if_neg g2] at hk; omega
  have : ¬ (xr V t Y k < (V k).1 ∧ xr V t Y k < (V (k + 1)).1) ∧ ¬ ((V k).1 < xr V t Y k ∧ (V (k + 1)).1 < xr V t Y k) := by
    constructor
    · rintro ⟨a, b⟩
      have : (xr V t Y k - (V k).1) * ((V (k + 1)).1 - xr V t Y k) < 0 := Int.mul_neg_of_neg_of_pos (by omega) (by omega)
      omega
    · rintro ⟨a, b⟩
      have : (xr V t Y k - (V k).1) * ((V (k + 1)).1 - xr V t Y k) < 0 := Int.mul_neg_of_pos_of_neg (by omega) (by omega)
      omega
  omega
end
end Go.Proofs.Ytohepelnbmojiaa
