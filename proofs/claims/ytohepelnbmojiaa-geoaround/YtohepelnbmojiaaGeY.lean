/- Pure: the same is left of all sides. -/
import Derived.Test.YtohepelnbmojiaaGeX
namespace Go.Proofs.Ytohepelnbmojiaa

theorem fst_part {p q Q a : Pt} (h1 : p.2 < q.2) (h2 : q.2 < Q.2) (h0 : cross p Q q = 0) : fst' p q a = fst' p Q a := by
  have e : (Q.2 - p.2) * cross p q a = (q.2 - p.2) * cross p Q a := by unfold cross at *; grind
  have i : cross p q a < 0 ↔ cross p Q a < 0 := by
    constructor
    · intro h
      have : (q.2 - p.2) * cross p Q a < 0 := by rw [← e]; exact Int.mul_neg_of_pos_of_neg (by omega) h
      rcases mul_neg_iff.1 this with g | g <;> omega
    · intro h
      have : (Q.2 - p.2) * cross p q a < 0 := by rw [e]; exact Int.mul_neg_of_pos_of_neg (by omega) h
      rcases mul_neg_iff.1 this with g | g <;> omega
  unfold fst'
  simp only [i]
/-- neighbours share their corner alone -/
theorem next_apart {P Q b q : Pt} (h1 : P.2 < q.2) (h2 : q.2 < Q.2) (h0 : cross P Q q = 0) (f1 : ¬ onB P Q b = true) (f2 : ¬ onB Q b P = true) : ¬ MeetP Q b P q := by
  rintro ⟨_, ⟨y1, y2⟩, c1, _⟩
  have e : (Q.2 - P.2) * cross Q b q = (Q.2 - q.2) * cross Q b P := by unfold cross at *; grind
  have z : cross Q b P = 0 := by
    refine Decidable.byContradiction fun hz => ?_
    have t1 : (Q.2 - P.2) * (cross Q b P * cross Q b q) ≤ 0 := Int.mul_nonpos_of_nonneg_of_nonpos (by omega) c1
    have t2 : (Q.2 - P.2) * (cross Q b P * cross Q b q) = (Q.2 - q.2) * (cross Q b P * cross Q b P) := by grind
    have t3 : 0 < cross Q b P * cross Q b P := by
      rcases Int.lt_or_gt_of_ne hz with g | g
      · exact Int.mul_pos_of_neg_of_neg g g
      · exact Int.mul_pos g g
    have t4 : 0 < (Q.2 - q.2) * (cross Q b P * cross Q b P) := Int.mul_pos (by omega) t3
    omega
  have z2 : cross P Q b = 0 := by rw [← cross_cyc P Q b]; exact z
  have hb : b.2 ≤ q.2 := by omega
  rcases Int.lt_or_le b.2 P.2 with g | g
  · refine f2 (on_liney z ?_ ?_)
    · exact Int.mul_nonpos_of_nonneg_of_nonpos (by omega) (by omega)
    · intro h; omega
  · refine f1 (on_liney z2 ?_ ?_)
    · exact Int.mul_nonpos_of_nonpos_of_nonneg (by omega) (by omega)
    · intro h _; omega
theorem iS_above {p q v : Pt} (h : q.2 < v.2) : iS p q v = 0 := if_neg fun g => by have := (inS_iff p q v).1 g; omega
section
variable {V : Nat → Pt} {m : Nat}
theorem Sim.on_up (H : Sim V m) (k : Nat) {q : Pt} (h1 : (V k).2 < q.2) (h2 : q.2 < (V (k + 1)).2) (h0 : cross (V k) (V (k + 1)) q = 0) : rgt V m k = wd V m q := by
  have hm := H.mid k h1 (fun j g1 g2 g => H.far k j g1 g2 (part_meet h1 h2 h0 g))
  have a1 := H.wd_at k (V k)
  have a2 := H.wd_at k q
  have l := edge_sj (a := V (k + 1)) (b := V (k + 2)) h1 (next_apart h1 h2 h0 (H.fold1 k) (H.fold2 k))
  have f := first_side (a := V (k + m - 1)) h1
  rw [fst_part h1 h2 h0] at f
  rw [iS_above h2] at l
  rw [sj_start, sj_end] at a1
  rw [sj_on h0, sj_neg (V k) (V (k + m - 1)) q] at a2
  unfold rgt
  rw [if_pos (by omega)]
  omega
theorem Sim.on_down (H : Sim V m) (k : Nat) {q : Pt} (h1 : (V (k + 1)).2 < q.2) (h2 : q.2 < (V k).2) (h0 : cross (V k) (V (k + 1)) q = 0) : rgt V m k = wd V m q := by
  have h0' : cross (V (k + 1)) (V k) q = 0 := by rw [cross_flip, h0]; rfl
  have hm := H.mid k h1 (fun j g1 g2 g => H.far k j g1 g2 (part_meet h1 h2 h0' g).flip)
  have a1 := H.wd_at k (V (k + 1))
  have a2 := H.wd_at k q
  have h3 := H.m3
  have e1 : k + m - 1 + 1 = k + m := by omega
  have e2 : k + m - 1 + 2 = k + 1 + m := by omega
  have F1 := H.fold1 (k + m - 1)
  have F2 := H.fold2 (k + m - 1)
  rw [e1, e2, H.per, H.per] at F1 F2
  have onS : ∀ a b c : Pt, onB a b c = onB b a c := fun a b c => by
    rw [Bool.eq_iff_iff, onB_iff, onB_iff, cross_flip b a c]
    rw [Int.mul_comm (b.1 - c.1), Int.mul_comm (b.2 - c.2)]
    constructor <;> (rintro ⟨x, y, z⟩; exact ⟨by omega, y, z⟩)
  have l := edge_sj (a := V k) (b := V (k + m - 1)) h1 (next_apart h1 h2 h0' (by rw [onS]; exact F2) (by rw [onS]; exact F1))
  have f := first_side (a := V (k + 2)) h1
  rw [fst_part h1 h2 h0'] at f
  rw [iS_above h2] at l
  rw [sj_end, sj_start] at a1
  rw [sj_on h0] at a2
  rw [sj_neg (V k) (V (k + m - 1)) (V (k + 1))] at a1
  rw [sj_neg (V k) (V (k + m - 1)) q] at a2
  unfold rgt
  rw [if_neg (by omega)]
  omega
/-- what is left of side k -/
def lft (V : Nat → Pt) (m k : Nat) : Int := rgt V m k + if (V k).2 < (V (k + 1)).2 then 1 else 0
theorem low_up (k : Nat) (h : (V k).2 < (V (k + 1)).2) : rgt V m k = wd V m (V k) - fst' (V k) (V (k + 1)) (V (k + m - 1)) := by unfold rgt; rw [if_pos h]
theorem low_down (k : Nat) (h : (V (k + 1)).2 < (V k).2) : rgt V m k = wd V m (V (k + 1)) + fst' (V (k + 1)) (V k) (V (k + 2)) := by unfold rgt; rw [if_neg (by omega)]
/-- it is the same left of all sides -/
theorem Sim.lft_next (H : Sim V m) (k : Nat) : lft V m (k + 1) = lft V m k := by
  have h3 := H.m3
  have n1 := H.ne k
  have n2 := H.ne (k + 1)
  have e : V (k + 1 + m - 1) = V k := by rw [show k + 1 + m - 1 = k + m by omega]; exact H.per k
  have e2 : k + 1 + 1 = k + 2 := rfl
  unfold lft
  rw [e2] at *
  by_cases u1 : (V k).2 < (V (k + 1)).2 <;> by_cases u2 : (V (k + 1)).2 < (V (k + 2)).2
  · have a := H.top_up k u1
    have b := low_up (V := V) (m := m) (k + 1) u2
    rw [e, e2] at b
    have z1 : lst' (V k) (V (k + 1)) (V (k + 2)) = 0 := if_neg (by omega)
    have z2 : fst' (V (k + 1)) (V (k + 2)) (V k) = 0 := if_neg (by omega)
    rw [if_pos u1, if_pos u2]; omega
  · have a := H.top_up k u1
    have b := H.top_down (k + 1) (by rw [e2]; omega)
    rw [e, e2] at b
    rw [if_pos u1, if_neg u2]
    have x : cross (V (k + 2)) (V (k + 1)) (V k) = - cross (V k) (V (k + 1)) (V (k + 2)) := by unfold cross; grind
    have nz : cross (V k) (V (k + 1)) (V (k + 2)) ≠ 0 := by
      intro hz
      rcases Int.lt_or_le (V (k + 2)).2 (V k).2 with g | g
      · refine H.fold2 k (on_liney (by rw [cross_cyc]; exact hz) ?_ ?_)
        · exact Int.mul_nonpos_of_nonneg_of_nonpos (by omega) (by omega)
        · intro h; omega
      · refine H.fold1 k (on_liney hz ?_ ?_)
        · exact Int.mul_nonpos_of_nonpos_of_nonneg (by omega) (by omega)
        · intro h _; omega
    unfold lst' at a b
    rw [x] at b
    split at a <;> split at b <;> omega
  · have a := low_down (V := V) (m := m) k (by omega)
    have b := low_up (V := V) (m := m) (k + 1) u2
    rw [e, e2] at b
    rw [if_neg u1, if_pos u2]
    have x : cross (V (k + 1)) (V (k + 2)) (V k) = - cross (V (k + 1)) (V k) (V (k + 2)) := cross_swp _ _ _
    have nz : cross (V (k + 1)) (V k) (V (k + 2)) ≠ 0 := by
      intro hz
      have hz' : cross (V k) (V (k + 1)) (V (k + 2)) = 0 := by rw [cross_flip, hz]; rfl
      rcases Int.lt_or_le (V (k + 2)).2 (V k).2 with g | g
      · refine H.fold1 k (on_liney hz' ?_ ?_)
        · exact Int.mul_nonpos_of_nonneg_of_nonpos (by omega) (by omega)
        · intro h; omega
      · refine H.fold2 k (on_liney (by rw [cross_cyc]; exact hz') ?_ ?_)
        · exact Int.mul_nonpos_of_nonpos_of_nonneg (by omega) (by omega)
        · intro h _; omega
    unfold fst' at a b
    rw [x] at b
    split at a <;> split at b <;> omega
  · have a := low_down (V := V) (m := m) k (by omega)
    have b := H.top_down (k + 1) (by rw [e2]; omega)
    rw [e, e2] at b
    have z1 : fst' (V (k + 1)) (V k) (V (k + 2)) = 0 := if_neg (by omega)
    have z2 : lst' (V (k + 2)) (V (k + 1)) (V k) = 0 := if_neg (by omega)
    rw [if_neg u1, if_neg u2]; omega
theorem Sim.lft_all (H : Sim V m) (k : Nat) : lft V m k = lft V m 0 := by
  induction k with
  | zero => rfl
  | succ k ih => rw [H.lft_next, ih]
end
end Go.Proofs.Ytohepelnbmojiaa
