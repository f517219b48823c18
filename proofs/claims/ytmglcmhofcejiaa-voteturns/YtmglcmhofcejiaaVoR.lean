/- Package vote, as plain mathematics: units that stand in another order. -/
import Derived.Test.YtmglcmhofcejiaaVoH
namespace Go.Proofs.Ytmglcmhofcejiaa
open Go.RowKit Go.Great

def rt (k i : Nat) : Nat := (k + i) % 3
/-- units turned by k -/
def ruN (k : Nat) (u : Un) : Un := ⟨fun i => u.o (rt k i), fun i => u.x (rt k i)⟩
theorem rt_lt (k i : Nat) : rt k i < 3 := Nat.mod_lt _ (by decide)
theorem ruN_ok {k : Nat} {u : Un} (h : UOk u) : UOk (ruN k u) := ⟨fun i _ => h.x _ (rt_lt k i)⟩
/-- two voters, one of which has heard the units turned by k -/
structure Rot (k : Nat) (t t' : Vt) : Prop where
  st : t'.st = t.st
  sp : t'.sp = t.sp
  n : t'.n = t.n
  v : ∀ i, i < 3 → t'.v i = t.v (rt k i)
  a : ∀ i, i < 3 → t'.a i = t.a (rt k i)
theorem Rot.new (k : Nat) (s p : Int) : Rot k (vN s p) (vN s p) := ⟨rfl, rfl, rfl, fun _ _ => rfl, fun _ _ => rfl⟩
theorem Rot.hear {k : Nat} {t t' : Vt} (h : Rot k t t') (u : Un) : Rot k (hr u t 3) (hr (ruN k u) t' 3) := by
  obtain ⟨a1, a2, a3⟩ := hr_st u t 3
  obtain ⟨b1, b2, b3⟩ := hr_st (ruN k u) t' 3
  refine ⟨by rw [a1, b1, h.st], by rw [a2, b2, h.sp], by rw [a3, b3, h.n], fun i hi => ?_, fun i hi => ?_⟩
  · rw [(hr_v (ruN k u) t' i hi).1, (hr_v u t (rt k i) (rt_lt k i)).1, h.v i hi]; rfl
  · rw [(hr_v (ruN k u) t' i hi).2, (hr_v u t (rt k i) (rt_lt k i)).2, h.a i hi]; rfl
theorem rot_lists {p0 p1 p2 : Prop} [Decidable p0] [Decidable p1] [Decidable p2] (y0 y1 y2 : Int) :
    (midL ((if p1 then [y1] else []) ++ ((if p2 then [y2] else []) ++ if p0 then [y0] else [])) = midL ((if p0 then [y0] else []) ++ ((if p1 then [y1] else []) ++ if p2 then [y2] else [])))
    ∧ (farL ((if p1 then [y1] else []) ++ ((if p2 then [y2] else []) ++ if p0 then [y0] else [])) = farL ((if p0 then [y0] else []) ++ ((if p1 then [y1] else []) ++ if p2 then [y2] else [])))
    ∧ (((if p1 then [y1] else []) ++ ((if p2 then [y2] else []) ++ if p0 then [y0] else [])).isEmpty = ((if p0 then [y0] else []) ++ ((if p1 then [y1] else []) ++ if p2 then [y2] else [])).isEmpty) := by
  by_cases h0 : p0 <;> by_cases h1 : p1 <;> by_cases h2 : p2 <;> simp [h0, h1, h2, midL, farL, hlf] <;> omega
theorem Rot.lists {k : Nat} (hk : k < 3) {t t' : Vt} (h : Rot k t t') : midL (vl t' 3) = midL (vl t 3) ∧ farL (vl t' 3) = farL (vl t 3) ∧ (vl t' 3).isEmpty = (vl t 3).isEmpty := by
  rw [vl3 t', vl3 t, h.st, h.v 0 (by omega), h.v 1 (by omega), h.v 2 (by omega), h.a 0 (by omega), h.a 1 (by omega), h.a 2 (by omega)]
  obtain rfl | rfl | rfl : k = 0 ∨ k = 1 ∨ k = 2 := by omega
  · exact ⟨rfl, rfl, rfl⟩
  · exact rot_lists (t.v 0) (t.v 1) (t.v 2)
  · have h1 := rot_lists (p0 := t.a 0 ≤ t.st) (p1 := t.a 1 ≤ t.st) (p2 := t.a 2 ≤ t.st) (t.v 0) (t.v 1) (t.v 2)
    have h2 := rot_lists (p0 := t.a 1 ≤ t.st) (p1 := t.a 2 ≤ t.st) (p2 := t.a 0 ≤ t.st) (t.v 1) (t.v 2) (t.v 0)
    exact ⟨h2.1.trans h1.1, h2.2.1.trans h1.2.1, h2.2.2.trans h1.2.2⟩
theorem Rot.step {k : Nat} (hk : k < 3) {t t' : Vt} (h : Rot k t t') (u : Un) : Rot k (stp u t) (stp (ruN k u) t') ∧ sok (ruN k u) t' = sok u t ∧ sx (ruN k u) t' = sx u t := by
  have h1 := h.hear u
  obtain ⟨l1, l2, l3⟩ := h1.lists hk
  refine ⟨?_, by unfold sok; rw [l3], l1⟩
  unfold stp
  simp only
  rw [l2, h.sp]
  split
  · exact ⟨h1.st, h1.sp, by show cnt _ = cnt _; rw [h1.n], h1.v, h1.a⟩
  · exact h1
theorem tmod3 (k : Int) : k.tmod 3 = if 0 ≤ k then k % 3 else -((-k) % 3) := by
  by_cases h : 0 ≤ k
  · rw [if_pos h, Int.tmod_eq_emod_of_nonneg h]
  · rw [if_neg h]
    have := Int.neg_tmod (-k) 3
    rw [Int.neg_neg] at this
    rw [this, Int.tmod_eq_emod_of_nonneg (by omega)]
theorem tmod3_neg (k : Int) (h : k.tmod 3 < 0) : k.tmod 3 + 3 = k % 3 := by
  rw [tmod3] at h ⊢
  split at h
  · omega
  · rw [if_neg (by assumption)]; omega
theorem tmod3_pos (k : Int) (h : ¬ k.tmod 3 < 0) : k.tmod 3 = k % 3 := by
  rw [tmod3] at h ⊢
  split at h
  · rw [if_pos (by assumption)]
  · rw [if_neg (by assumption)]; omega
end Go.Proofs.Ytmglcmhofcejiaa
