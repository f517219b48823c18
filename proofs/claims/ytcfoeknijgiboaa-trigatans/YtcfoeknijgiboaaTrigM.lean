/- What the two tables of package trig are good for, without the program: lines between a table's numbers, and three looks at all places of a quarter. -/
import Derived.Test.YtcfoeknijgiboaaProg
import Derived.WalkKit
namespace Go.Proofs.Ytcfoeknijgiboaa
def sN : List Nat := [
 0, 402, 804, 1205, 1606, 2006, 2404, 2801, 3196, 3590, 3981, 4370, 4756, 5139, 5520, 5897,
 6270, 6639, 7005, 7366, 7723, 8076, 8423, 8765, 9102, 9434, 9760, 10080, 10394, 10702, 11003, 11297,
 11585, 11866, 12140, 12406, 12665, 12916, 13160, 13395, 13623, 13842, 14053, 14256, 14449, 14635, 14811, 14978,
 15137, 15286, 15426, 15557, 15679, 15791, 15893, 15986, 16069, 16143, 16207, 16261, 16305, 16340, 16364, 16379,
 16384]
def aN : List Nat := [
 0, 163, 326, 489, 651, 813, 975, 1136, 1297, 1457, 1617, 1775, 1933, 2090, 2246, 2401,
 2555, 2708, 2860, 3010, 3159, 3307, 3453, 3599, 3742, 3884, 4025, 4164, 4302, 4438, 4572, 4705,
 4836, 4966, 5094, 5220, 5344, 5467, 5589, 5708, 5826, 5943, 6058, 6171, 6282, 6392, 6500, 6607,
 6712, 6815, 6917, 7018, 7117, 7214, 7310, 7405, 7498, 7589, 7679, 7768, 7856, 7942, 8026, 8110,
 8192]
def lin (x y f : Nat) : Nat := x + ((y - x) * f + 128) / 256
def tab (l : List Nat) (r : Nat) : Nat := lin (l.getD (r / 256) 0) (l.getD (r / 256 + 1) 0) (r % 256)
/-- all numbers below n -/
def allB (n : Nat) (p : Nat → Bool) : Bool := Nat.rec true (fun k r => (p k).and r) n
theorem allB_of {n : Nat} {p : Nat → Bool} (h : allB n p = true) (k : Nat) (hk : k < n) : p k = true := by
  induction n with
  | zero => omega
  | succ m ih =>
    have h' : ((p m).and (allB m p)) = true := h
    rw [Bool.and_eq_true] at h'
    by_cases e : k = m
    · exact e ▸ h'.1
    · exact ih h'.2 (by omega)
theorem lin_zero (x y : Nat) : lin x y 0 = x := by unfold lin; omega
theorem lin_full (x y : Nat) (h : x ≤ y) : lin x y 256 = y := by unfold lin; omega
theorem le_lin (x y f : Nat) : x ≤ lin x y f := by unfold lin; omega
theorem lin_mono (x y f g : Nat) (h : f ≤ g) : lin x y f ≤ lin x y g := by
  unfold lin
  have := Nat.mul_le_mul_left (y - x) h
  generalize (y - x) * f = p at *
  generalize (y - x) * g = q at *
  omega
theorem lin_le (x y f : Nat) (h : x ≤ y) (hf : f ≤ 256) : lin x y f ≤ y := by
  have := lin_mono x y f 256 hf
  rw [lin_full x y h] at this
  exact this
/-- a table of 65 numbers that never fall, up to 16384 -/
structure Tab (l : List Nat) : Prop where
  len : l.length = 65
  up : ∀ i, i < 64 → l.getD i 0 ≤ l.getD (i + 1) 0
  top : ∀ i, i < 65 → l.getD i 0 ≤ 16384
theorem up_s : allB 64 (fun i => Nat.ble (sN.getD i 0) (sN.getD (i + 1) 0)) = true := by kernel_rfl
theorem up_a : allB 64 (fun i => Nat.ble (aN.getD i 0) (aN.getD (i + 1) 0)) = true := by kernel_rfl
theorem top_s : allB 65 (fun i => Nat.ble (sN.getD i 0) 16384) = true := by kernel_rfl
theorem top_a : allB 65 (fun i => Nat.ble (aN.getD i 0) 16384) = true := by kernel_rfl
theorem sTab : Tab sN := ⟨rfl, fun i h => Nat.le_of_ble_eq_true (allB_of up_s i h), fun i h => Nat.le_of_ble_eq_true (allB_of top_s i h)⟩
theorem aTab : Tab aN := ⟨rfl, fun i h => Nat.le_of_ble_eq_true (allB_of up_a i h), fun i h => Nat.le_of_ble_eq_true (allB_of top_a i h)⟩
theorem tab_seg {l : List Nat} (T : Tab l) (i f : Nat) (hi : i < 64) (hf : f ≤ 256) : tab l (256 * i + f) = lin (l.getD i 0) (l.getD (i + 1) 0) f := by
  by_cases e : f = 256
  · subst e
    unfold tab
    rw [show (256 * i + 256) / 256 = i + 1 by omega, show (256 * i + 256) % 256 = 0 by omega, lin_zero, lin_full _ _ (T.up i hi)]
  · unfold tab
    rw [show (256 * i + f) / 256 = i by omega, show (256 * i + f) % 256 = f by omega]
theorem seg_of (r : Nat) (h : r ≤ 16384) : ∃ i f, i < 64 ∧ f ≤ 256 ∧ r = 256 * i + f := by
  by_cases e : r = 16384
  · exact ⟨63, 256, by omega, by omega, by omega⟩
  · exact ⟨r / 256, r % 256, by omega, by omega, by omega⟩
theorem tab_le {l : List Nat} (T : Tab l) (r : Nat) (h : r ≤ 16384) : tab l r ≤ 16384 := by
  obtain ⟨i, f, hi, hf, rfl⟩ := seg_of r h
  rw [tab_seg T i f hi hf]
  exact Nat.le_trans (lin_le _ _ f (T.up i hi) hf) (T.top (i + 1) (by omega))
theorem tab_step {l : List Nat} (T : Tab l) (r : Nat) (h : r < 16384) : tab l r ≤ tab l (r + 1) := by
  obtain ⟨i, f, hi, hf, hr⟩ : ∃ i f, i < 64 ∧ f < 256 ∧ r = 256 * i + f := ⟨r / 256, r % 256, by omega, by omega, by omega⟩
  rw [hr, Nat.add_assoc, tab_seg T i f hi (by omega), tab_seg T i (f + 1) hi (by omega)]
  exact lin_mono _ _ _ _ (by omega)
theorem tab_up {l : List Nat} (T : Tab l) (r d : Nat) (h : r + d ≤ 16384) : tab l r ≤ tab l (r + d) := by
  induction d with
  | zero => exact Nat.le_refl _
  | succ k ih => exact Nat.le_trans (ih (by omega)) (tab_step T (r + k) (by omega))
def circ (x y u v f : Nat) : Bool :=
  (fun s c => (Nat.ble (s * s + c * c) 268505456).and (Nat.ble 268365456 (s * s + c * c))) (lin x y f) (lin u v (256 - f))
set_option maxRecDepth 100000 in
theorem circ_all : allB 64 (fun i => allB 257 (fun f => circ (sN.getD i 0) (sN.getD (i+1) 0) (sN.getD (63-i) 0) (sN.getD (64-i) 0) f)) = true := by
  kernel_rfl
def half (x y i f : Nat) : Bool := Nat.ble ((256 * i + f) / 2) (lin x y f)
set_option maxRecDepth 100000 in
theorem half_all : allB 64 (fun i => allB 257 (fun f => half (sN.getD i 0) (sN.getD (i+1) 0) i f)) = true := by
  kernel_rfl
/-- the angle of the first quarter, of s and c -/
def stp (s c : Nat) : Nat := bif Nat.ble s c then tab aN (s * 16384 / c) else 16384 - tab aN (c * 16384 / s)
def back (x y u v i f : Nat) : Bool :=
  (fun b => (Nat.ble b (256 * i + f + 1)).and (Nat.ble (256 * i + f) (b + 1))) (stp (lin x y f) (lin u v (256 - f)))
set_option maxRecDepth 100000 in
theorem back_all : allB 64 (fun i => allB 257 (fun f => back (sN.getD i 0) (sN.getD (i+1) 0) (sN.getD (63-i) 0) (sN.getD (64-i) 0) i f)) = true := by
  kernel_rfl
theorem and_parts {a b : Bool} (h : a.and b = true) : a = true ∧ b = true := by
  cases a <;> cases b <;> simp_all
theorem circ_tab (r : Nat) (h : r ≤ 16384) : tab sN r * tab sN r + tab sN (16384 - r) * tab sN (16384 - r) ≤ 268505456 ∧ 268365456 ≤ tab sN r * tab sN r + tab sN (16384 - r) * tab sN (16384 - r) := by
  obtain ⟨i, f, hi, hf, rfl⟩ := seg_of r h
  have e : 16384 - (256 * i + f) = 256 * (63 - i) + (256 - f) := by omega
  have g := allB_of (allB_of circ_all i hi) f (by omega)
  rw [e, tab_seg sTab i f hi hf, tab_seg sTab (63 - i) (256 - f) (by omega) (by omega), show 63 - i + 1 = 64 - i by omega]
  have g' := and_parts g
  exact ⟨Nat.le_of_ble_eq_true g'.1, Nat.le_of_ble_eq_true g'.2⟩
theorem half_tab (r : Nat) (h : r ≤ 16384) : r / 2 ≤ tab sN r := by
  obtain ⟨i, f, hi, hf, rfl⟩ := seg_of r h
  have g := allB_of (allB_of half_all i hi) f (by omega)
  rw [tab_seg sTab i f hi hf]
  exact Nat.le_of_ble_eq_true g
theorem back_tab (r : Nat) (h : r ≤ 16384) : stp (tab sN r) (tab sN (16384 - r)) ≤ r + 1 ∧ r ≤ stp (tab sN r) (tab sN (16384 - r)) + 1 := by
  obtain ⟨i, f, hi, hf, rfl⟩ := seg_of r h
  have e : 16384 - (256 * i + f) = 256 * (63 - i) + (256 - f) := by omega
  have g := allB_of (allB_of back_all i hi) f (by omega)
  rw [e, tab_seg sTab i f hi hf, tab_seg sTab (63 - i) (256 - f) (by omega) (by omega), show 63 - i + 1 = 64 - i by omega]
  have g' := and_parts g
  exact ⟨Nat.le_of_ble_eq_true g'.1, Nat.le_of_ble_eq_true g'.2⟩
/-- the sine -/
def sinI (a : Int) : Int :=
  if a % 65536 < 16384 then (tab sN (a % 65536).toNat : Int) else if a % 65536 < 32768 then (tab sN (32768 - a % 65536).toNat : Int)
  else if a % 65536 < 49152 then -(tab sN (a % 65536 - 32768).toNat : Int) else -(tab sN (65536 - a % 65536).toNat : Int)
def cosI (a : Int) : Int := sinI (a % 65536 + 16384)
theorem sinI_in (a : Int) : -16384 ≤ sinI a ∧ sinI a ≤ 16384 := by
  have b := Int.emod_nonneg a (show (65536 : Int) ≠ 0 by decide)
  have c := Int.emod_lt_of_pos a (show (0 : Int) < 65536 by decide)
  unfold sinI
  split
  · have := tab_le sTab (a % 65536).toNat (by omega); omega
  · split
    · have := tab_le sTab (32768 - a % 65536).toNat (by omega); omega
    · split
      · have := tab_le sTab (a % 65536 - 32768).toNat (by omega); omega
      · have := tab_le sTab (65536 - a % 65536).toNat (by omega); omega
end Go.Proofs.Ytcfoeknijgiboaa
