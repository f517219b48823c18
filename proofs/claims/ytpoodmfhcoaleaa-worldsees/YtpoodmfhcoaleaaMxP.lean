/- What Mix's motors are, and what they do together: pure. -/
import Derived.Test.YtpoodmfhcoaleaaLwX1
namespace Go.Proofs.Ytpoodmfhcoaleaa
open Go.RowKit Go.Great

theorem pk_val (p0 p1 p2 p3 : Int) : pk 0 p0 p1 p2 p3 = p0 ∧ pk 1 p0 p1 p2 p3 = p1 ∧ pk 2 p0 p1 p2 p3 = p2 ∧ pk 3 p0 p1 p2 p3 = p3 := by
  refine ⟨?_, ?_, ?_, ?_⟩ <;> simp [pk]
theorem tw_within {d p0 p1 p2 p3 t a : Int} (h0 : 0 ≤ p0) (h1 : 0 ≤ p1) (h2 : 0 ≤ p2) (h3 : 0 ≤ p3) : -(pk a p0 p1 p2 p3) ≤ tw d p0 p1 p2 p3 t a ∧ tw d p0 p1 p2 p3 t a ≤ pk a p0 p1 p2 p3 := by
  have hk : 0 ≤ pk a p0 p1 p2 p3 := by
    unfold pk
    split
    · exact h0
    · split
      · exact h1
      · split
        · exact h2
        · exact h3
  unfold tw
  split
  · rename_i e
    unfold lone
    rw [← e]
    split <;> omega
  · exact clamp_in (by omega)
theorem wV_ext {a b c d a' b' c' d' : Int} (h0 : a = a') (h1 : b = b') (h2 : c = c') (h3 : d = d') : wV a b c d = wV a' b' c' d' := by rw [h0, h1, h2, h3]
/-- motors that share pushes do these pushes -/
theorem sp_work (p0 p1 p2 p3 t0 t1 t2 t3 : Int) (h0 : 0 ≤ p0 ∧ p0 ≤ 584) (g0 : -p0 ≤ t0 ∧ t0 ≤ p0) (h1 : 0 ≤ p1 ∧ p1 ≤ 584) (g1 : -p1 ≤ t1 ∧ t1 ≤ p1) (h2 : 0 ≤ p2 ∧ p2 ≤ 584) (g2 : -p2 ≤ t2 ∧ t2 ≤ p2) (h3 : 0 ≤ p3 ∧ p3 ≤ 584) (g3 : -p3 ≤ t3 ∧ t3 ≤ p3) : wkV (clamp ((p0 + t0) / 2) 0 600) (clamp (p0 - (p0 + t0) / 2) 0 600) (clamp ((p1 + t1) / 2) 0 600) (clamp (p1 - (p1 + t1) / 2) 0 600) (clamp ((p2 + t2) / 2) 0 600) (clamp (p2 - (p2 + t2) / 2) 0 600) (clamp ((p3 + t3) / 2) 0 600) (clamp (p3 - (p3 + t3) / 2) 0 600) = wV ((p0 + p1 + p2 + p3) / 4) ((p0 - p1 - p2 + p3) / 4) ((p0 + p1 - p2 - p3) / 4) ((2 * ((p0 + t0) / 2) - p0 + (2 * ((p1 + t1) / 2) - p1) + (2 * ((p2 + t2) / 2) - p2) + (2 * ((p3 + t3) / 2) - p3)) / 4) := by
  rw [clamp_same (x := ((p0 + t0) / 2)) (lo := 0) (hi := 600) (by omega)]
  rw [clamp_same (x := (p0 - (p0 + t0) / 2)) (lo := 0) (hi := 600) (by omega)]
  rw [clamp_same (x := ((p1 + t1) / 2)) (lo := 0) (hi := 600) (by omega)]
  rw [clamp_same (x := (p1 - (p1 + t1) / 2)) (lo := 0) (hi := 600) (by omega)]
  rw [clamp_same (x := ((p2 + t2) / 2)) (lo := 0) (hi := 600) (by omega)]
  rw [clamp_same (x := (p2 - (p2 + t2) / 2)) (lo := 0) (hi := 600) (by omega)]
  rw [clamp_same (x := ((p3 + t3) / 2)) (lo := 0) (hi := 600) (by omega)]
  rw [clamp_same (x := (p3 - (p3 + t3) / 2)) (lo := 0) (hi := 600) (by omega)]
  unfold wkV
  refine wV_ext ?_ ?_ ?_ ?_
  · congr 1; omega
  · congr 1; omega
  · congr 1; omega
  · congr 1; omega
theorem mx_zero (L X Y T : Int) (hL : 328 ≤ L ∧ L ≤ 456) (hX : -64 ≤ X ∧ X ≤ 64) (hY : -64 ≤ Y ∧ Y ≤ 64) (hT : -100 ≤ T ∧ T ≤ 100) : ∃ a0 a1 a2 a3 a4 a5 a6 a7 T' : Int, mxV 0 L X Y T = eV a0 a1 a2 a3 a4 a5 a6 a7 ∧ (50 ≤ a0 ∧ a0 ≤ 342) ∧ (50 ≤ a1 ∧ a1 ≤ 342) ∧ (50 ≤ a2 ∧ a2 ≤ 342) ∧ (50 ≤ a3 ∧ a3 ≤ 342) ∧ (50 ≤ a4 ∧ a4 ≤ 342) ∧ (50 ≤ a5 ∧ a5 ≤ 342) ∧ (50 ≤ a6 ∧ a6 ≤ 342) ∧ (50 ≤ a7 ∧ a7 ≤ 342) ∧ a0 + a1 + a2 + a3 + a4 + a5 + a6 + a7 = 4 * L ∧ wkV (clamp a0 0 600) (clamp a1 0 600) (clamp a2 0 600) (clamp a3 0 600) (clamp a4 0 600) (clamp a5 0 600) (clamp a6 0 600) (clamp a7 0 600) = wV L X Y T' ∧ (T' = T ∨ T' = T - 1) := by
  refine ⟨_, _, _, _, _, _, _, _, _, rfl, ?_, ?_, ?_, ?_, ?_, ?_, ?_, ?_, ?_, (sp_work _ _ _ _ T T T T (by omega) (by omega) (by omega) (by omega) (by omega) (by omega) (by omega) (by omega)).trans (wV_ext (by omega) (by omega) (by omega) rfl), ?_⟩
  all_goals omega
theorem mx_dead (k : Nat) (hk : k < 8) (L X Y T : Int) (hL : 328 ≤ L ∧ L ≤ 456) (hX : -64 ≤ X ∧ X ≤ 64) (hY : -64 ≤ Y ∧ Y ≤ 64) : ∃ a0 a1 a2 a3 a4 a5 a6 a7 T' : Int, mxV ((k : Int) + 1) L X Y T = eV a0 a1 a2 a3 a4 a5 a6 a7 ∧ (0 ≤ a0 ∧ a0 ≤ 584) ∧ (0 ≤ a1 ∧ a1 ≤ 584) ∧ (0 ≤ a2 ∧ a2 ≤ 584) ∧ (0 ≤ a3 ∧ a3 ≤ 584) ∧ (0 ≤ a4 ∧ a4 ≤ 584) ∧ (0 ≤ a5 ∧ a5 ≤ 584) ∧ (0 ≤ a6 ∧ a6 ≤ 584) ∧ (0 ≤ a7 ∧ a7 ≤ 584) ∧ a0 + a1 + a2 + a3 + a4 + a5 + a6 + a7 = 4 * L ∧ wkV (clamp a0 0 600) (clamp a1 0 600) (clamp a2 0 600) (clamp a3 0 600) (clamp a4 0 600) (clamp a5 0 600) (clamp a6 0 600) (clamp a7 0 600) = wV L X Y T' ∧ (eC a0 a1 a2 a3 a4 a5 a6 a7)[k]? = some (.int .i64 0) := by
  obtain ⟨p0, e0⟩ : ∃ p, L + X + Y = p := ⟨_, rfl⟩
  obtain ⟨p1, e1⟩ : ∃ p, L - X + Y = p := ⟨_, rfl⟩
  obtain ⟨p2, e2⟩ : ∃ p, L - X - Y = p := ⟨_, rfl⟩
  obtain ⟨p3, e3⟩ : ∃ p, L + X - Y = p := ⟨_, rfl⟩
  have q0 := tw_within (d := (k : Int)) (t := T) (a := 0) (show 0 ≤ p0 by omega) (show 0 ≤ p1 by omega) (show 0 ≤ p2 by omega) (show 0 ≤ p3 by omega)
  have q1 := tw_within (d := (k : Int)) (t := T) (a := 1) (show 0 ≤ p0 by omega) (show 0 ≤ p1 by omega) (show 0 ≤ p2 by omega) (show 0 ≤ p3 by omega)
  have q2 := tw_within (d := (k : Int)) (t := T) (a := 2) (show 0 ≤ p0 by omega) (show 0 ≤ p1 by omega) (show 0 ≤ p2 by omega) (show 0 ≤ p3 by omega)
  have q3 := tw_within (d := (k : Int)) (t := T) (a := 3) (show 0 ≤ p0 by omega) (show 0 ≤ p1 by omega) (show 0 ≤ p2 by omega) (show 0 ≤ p3 by omega)
  rw [(pk_val p0 p1 p2 p3).1] at q0
  rw [(pk_val p0 p1 p2 p3).2.1] at q1
  rw [(pk_val p0 p1 p2 p3).2.2.1] at q2
  rw [(pk_val p0 p1 p2 p3).2.2.2] at q3
  have hv : mxV ((k : Int) + 1) L X Y T = spV p0 p1 p2 p3 (tw k p0 p1 p2 p3 T 0) (tw k p0 p1 p2 p3 T 1) (tw k p0 p1 p2 p3 T 2) (tw k p0 p1 p2 p3 T 3) := by
    unfold mxV
    rw [if_neg (by omega), e0, e1, e2, e3, show (k : Int) + 1 - 1 = k by omega]
  obtain ⟨t0, z0⟩ : ∃ t, tw k p0 p1 p2 p3 T 0 = t := ⟨_, rfl⟩
  obtain ⟨t1, z1⟩ : ∃ t, tw k p0 p1 p2 p3 T 1 = t := ⟨_, rfl⟩
  obtain ⟨t2, z2⟩ : ∃ t, tw k p0 p1 p2 p3 T 2 = t := ⟨_, rfl⟩
  obtain ⟨t3, z3⟩ : ∃ t, tw k p0 p1 p2 p3 T 3 = t := ⟨_, rfl⟩
  have dead : (eC ((p0 + t0) / 2) (p0 - (p0 + t0) / 2) ((p1 + t1) / 2) (p1 - (p1 + t1) / 2) ((p2 + t2) / 2) (p2 - (p2 + t2) / 2) ((p3 + t3) / 2) (p3 - (p3 + t3) / 2))[k]? = some (.int .i64 0) := by
    obtain rfl | rfl | rfl | rfl | rfl | rfl | rfl | rfl : k = 0 ∨ k = 1 ∨ k = 2 ∨ k = 3 ∨ k = 4 ∨ k = 5 ∨ k = 6 ∨ k = 7 := by omega
    · have : t0 = -p0 := by rw [← z0]; simp [tw, lone, pk]
      show some (Value.int .i64 ((p0 + t0) / 2)) = _
      rw [show ((p0 + t0) / 2) = 0 by omega]
    · have : t0 = p0 := by rw [← z0]; simp [tw, lone, pk]
      show some (Value.int .i64 (p0 - (p0 + t0) / 2)) = _
      rw [show (p0 - (p0 + t0) / 2) = 0 by omega]
    · have : t1 = -p1 := by rw [← z1]; simp [tw, lone, pk]
      show some (Value.int .i64 ((p1 + t1) / 2)) = _
      rw [show ((p1 + t1) / 2) = 0 by omega]
    · have : t1 = p1 := by rw [← z1]; simp [tw, lone, pk]
      show some (Value.int .i64 (p1 - (p1 + t1) / 2)) = _
      rw [show (p1 - (p1 + t1) / 2) = 0 by omega]
    · have : t2 = -p2 := by rw [← z2]; simp [tw, lone, pk]
      show some (Value.int .i64 ((p2 + t2) / 2)) = _
      rw [show ((p2 + t2) / 2) = 0 by omega]
    · have : t2 = p2 := by rw [← z2]; simp [tw, lone, pk]
      show some (Value.int .i64 (p2 - (p2 + t2) / 2)) = _
      rw [show (p2 - (p2 + t2) / 2) = 0 by omega]
    · have : t3 = -p3 := by rw [← z3]; simp [tw, lone, pk]
      show some (Value.int .i64 ((p3 + t3) / 2)) = _
      rw [show ((p3 + t3) / 2) = 0 by omega]
    · have : t3 = p3 := by rw [← z3]; simp [tw, lone, pk]
      show some (Value.int .i64 (p3 - (p3 + t3) / 2)) = _
      rw [show (p3 - (p3 + t3) / 2) = 0 by omega]
  rw [hv, z0, z1, z2, z3]
  rw [z0] at q0
  rw [z1] at q1
  rw [z2] at q2
  rw [z3] at q3
  refine ⟨_, _, _, _, _, _, _, _, _, rfl, ?_, ?_, ?_, ?_, ?_, ?_, ?_, ?_, ?_, (sp_work p0 p1 p2 p3 t0 t1 t2 t3 (by omega) (by omega) (by omega) (by omega) (by omega) (by omega) (by omega) (by omega)).trans (wV_ext (by omega) (by omega) (by omega) rfl), dead⟩
  all_goals omega
end Go.Proofs.Ytpoodmfhcoaleaa
