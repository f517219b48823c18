/- Times of any two whole numbers. -/
import Derived.Test.YtpoodmfhcoaleaaTimesW
namespace Go.Proofs.Ytpoodmfhcoaleaa
open Go.RowKit

set_option maxHeartbeats 1000000 in
theorem times_left (p q : Option Addr) (l c d : Nat) (s t : Bool) (w : World) :
    Calls Try.prog 49 #[.agg #[.bool s, .slice p 0 c], .agg #[.bool t, .slice q l d]] w fun e w' => e = .returned (.agg #[.bool false, .slice none 0 0]) ∧ Below w.heap.size w w' := by
  go_enter Try.func49, Try.ntmps49
  go_wp2
  refine bodyPost_ret (v := .agg #[.bool false, .slice none 0 0]) (by simp [results, Try.results49, go_sem]) rfl ⟨rfl, ?_⟩
  repeat (first | exact Below.refl _ _ | refine Below.drew ?_ | refine Below.setCell ?_ (by simp <;> omega) _ | refine Below.alloc ?_ (by simp <;> omega) _)
set_option maxHeartbeats 1000000 in
theorem times_right (p q : Option Addr) (l c d : Nat) (s t : Bool) (w : World) (h : 0 < l) :
    Calls Try.prog 49 #[.agg #[.bool s, .slice p l c], .agg #[.bool t, .slice q 0 d]] w fun e w' => e = .returned (.agg #[.bool false, .slice none 0 0]) ∧ Below w.heap.size w w' := by
  have e1 : ((l : Int) == 0) = false := by rw [beq_eq_false_iff_ne]; omega
  go_enter Try.func49, Try.ntmps49
  go_wp2
  refine bodyPost_ret (v := .agg #[.bool false, .slice none 0 0]) (by simp [results, Try.results49, go_sem]) rfl ⟨rfl, ?_⟩
  repeat (first | exact Below.refl _ _ | refine Below.drew ?_ | refine Below.setCell ?_ (by simp <;> omega) _ | refine Below.alloc ?_ (by simp <;> omega) _)

theorem mul_sign (a b : Int) (ha : a ≠ 0) (hb : b ≠ 0) : (!(decide (a < 0) == decide (b < 0))) = decide (a * b < 0) := by
  rcases natAbs_mul a b with ⟨h, g⟩ | ⟨h, g⟩
  · have hp : 0 < (a.natAbs : Int) * (b.natAbs : Int) := Int.mul_pos (by omega) (by omega)
    have : ¬ a * b < 0 := by omega
    rcases g with ⟨g1, g2⟩ | ⟨g1, g2⟩
    · simp [g1, g2, this]
    · simp [show ¬ a < 0 by omega, show ¬ b < 0 by omega, this]
  · have hp : 0 < (a.natAbs : Int) * (b.natAbs : Int) := Int.mul_pos (by omega) (by omega)
    have : a * b < 0 := by omega
    rcases g with ⟨g1, g2⟩ | ⟨g1, g2⟩
    · simp [g1, show ¬ b < 0 by omega, this]
    · simp [show ¬ a < 0 by omega, g2, this]
theorem val_pos {ds : List Int} (h : Dig ds) (t : Top ds) (hn : 0 < ds.length) : 0 < val ds := by
  have h1 := val_ge h t (fun e => by rw [e] at hn; exact absurd hn (by simp))
  have h2 : (0 : Int) < 1073741824 ^ (ds.length - 1) := Int.pow_pos (by omega)
  omega

theorem times_any (va vb : Value) (a b : Int) (L M N : Nat) (w : World) (ha : Whole w va a L) (hb : Whole w vb b M) (hL : L ≤ 100000) (hM : M ≤ 100000) (hN : L + M ≤ N) :
    Calls Try.prog 49 #[va, vb] w fun e w' => ∃ v, e = .returned v ∧ Below w.heap.size w w' ∧ Whole w' v (a * b) N := by
  obtain ⟨sa, da, rfl, ra, ⟨ga, ta, ea⟩, la⟩ := ha
  obtain ⟨sb, db, rfl, rb, ⟨gb, tb, eb⟩, lb⟩ := hb
  by_cases na : 0 < da.length
  · by_cases nb : 0 < db.length
    · have pa := val_pos ga ta na
      have pb := val_pos gb tb nb
      refine (times_digits sa sb da db _ _ w ra rb ga gb na nb (by omega) (by omega)).mono ?_
      rintro e w' ⟨v, rfl, hb, hs⟩
      refine ⟨_, rfl, hb, whole_mk (hs.mono (by omega)) (mul_sign a b (by omega) (by omega)) ?_⟩
      rw [ea, eb, Int.natAbs_mul, Int.natCast_mul]
    · have e0 : db = [] := List.eq_nil_of_length_eq_zero (by omega)
      subst e0
      have hb0 : b = 0 := by simp [val] at eb; omega
      obtain ⟨p, c, rfl, _⟩ := ra
      obtain ⟨q, d, rfl, _⟩ := rb
      refine (times_right p q _ c d _ _ w na).mono ?_
      rintro e w' ⟨rfl, hb⟩
      subst hb0
      rw [Int.mul_zero]
      exact ⟨_, rfl, hb, whole_zero _ _⟩
  · have e0 : da = [] := List.eq_nil_of_length_eq_zero (by omega)
    subst e0
    have ha0 : a = 0 := by simp [val] at ea; omega
    obtain ⟨p, c, rfl, _⟩ := ra
    obtain ⟨q, d, rfl, _⟩ := rb
    refine (times_left p q _ c d _ _ w).mono ?_
    rintro e w' ⟨rfl, hb⟩
    subst ha0
    rw [Int.zero_mul]
    exact ⟨_, rfl, hb, whole_zero _ _⟩
end Go.Proofs.Ytpoodmfhcoaleaa
