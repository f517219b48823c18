/- Pure: round a polygon. -/
import Derived.Test.YtohepelnbmojiaaGeS
namespace Go.Proofs.Ytohepelnbmojiaa

def sB (b : Bool) : Int := if b then -1 else 1
theorem sB_xor (a b : Bool) : sB (a != b) = sB a * sB b := by cases a <;> cases b <;> rfl
theorem sB_sq (a : Bool) : sB a * sB a = 1 := by cases a <;> rfl
theorem par_step (l : List Pt) (m : Nat) (p : Pt) (pre : List (Fin m)) (x : Fin m) : parI l m p (pre ++ [x]) = sB (rtK l m p x.1) * parI l m p pre := by
  rw [parI_snoc]; unfold sB; split <;> simp
theorem pt_mod {l : List Pt} {m k : Nat} (h : k < m) : pt l (k % m) = pt l k := by rw [Nat.mod_eq_of_lt h]
theorem par_lt {l : List Pt} {m : Nat} {p q : Pt} (hpq : p.2 < q.2) (hn : ∀ k, k < m → ¬ MeetP (pt l k) (pt l (nxt m k)) p q) : ∀ k, k ≤ m → parI l m p (upto m k) * parI l m q (upto m k) = sB (inS p q (pt l (0 % m))) * sB (inS p q (pt l (k % m))) := by
  intro k
  induction k with
  | zero => intro _; rw [sB_sq]; rfl
  | succ k ih =>
    intro hk
    have hlt : k < m := by omega
    have e := edge_lt hpq (hn k hlt)
    have ih := ih (by omega)
    rw [upto_succ hlt, par_step, par_step]
    have e1 : sB (rtK l m p k) * sB (rtK l m q k) = sB (inS p q (pt l k)) * sB (inS p q (pt l (nxt m k))) := by
      rw [← sB_xor, ← sB_xor]
      exact congrArg sB e
    rw [pt_mod hlt] at ih
    have e2 : pt l (nxt m k) = pt l ((k + 1) % m) := rfl
    rw [e2] at e1
    have sq := sB_sq (inS p q (pt l k))
    generalize sB (inS p q (pt l k)) = u at *
    generalize sB (inS p q (pt l ((k + 1) % m))) = v at *
    generalize sB (inS p q (pt l (0 % m))) = z at *
    generalize sB (rtK l m p k) = r at *
    generalize sB (rtK l m q k) = t at *
    generalize parI l m p (upto m k) = x at *
    generalize parI l m q (upto m k) = y at *
    show r * x * (t * y) = z * v
    have h1 : r * x * (t * y) = (r * t) * (x * y) := by grind
    rw [h1, e1, ih]
    have h2 : u * v * (z * u) = (u * u) * (z * v) := by grind
    rw [h2, sq, Int.one_mul]
theorem par_eq {l : List Pt} {m : Nat} {p q : Pt} (hpq : p.2 = q.2) (hn : ∀ k, k < m → ¬ MeetP (pt l k) (pt l (nxt m k)) p q) : parI l m p (List.finRange m) = parI l m q (List.finRange m) := by
  have : ∀ k : Fin m, rtK l m p k.1 = rtK l m q k.1 := fun k => edge_eq hpq (hn k.1 k.2)
  unfold parI
  congr 1
  funext s k
  rw [this k]
theorem pm_eq {x y : Int} (hx : x = 1 ∨ x = -1) (hy : y = 1 ∨ y = -1) (h : x * y = 1) : x = y := by
  rcases hx with rfl | rfl <;> rcases hy with rfl | rfl <;> first | rfl | omega
theorem par_stays {l : List Pt} {m : Nat} {p q : Pt} (hn : ∀ k, k < m → ¬ MeetP (pt l k) (pt l (nxt m k)) p q) : parI l m p (List.finRange m) = parI l m q (List.finRange m) := by
  have key : ∀ {p q : Pt}, p.2 < q.2 → (∀ k, k < m → ¬ MeetP (pt l k) (pt l (nxt m k)) p q) → parI l m p (List.finRange m) = parI l m q (List.finRange m) := fun {p q} h hn => by
    have := par_lt h hn m (Nat.le_refl _)
    rw [upto_all, Nat.zero_mod, Nat.mod_self, sB_sq] at this
    exact pm_eq (parI_pm _ _ _ _) (parI_pm _ _ _ _) this
  rcases Int.lt_trichotomy p.2 q.2 with h | h | h
  · exact key h hn
  · exact par_eq h hn
  · exact (key h (fun k hk hm => hn k hk hm.flip)).symm
/-- GeoStays, of numbers -/
theorem stays {l : List Pt} {p q : Pt} (h : simE l = 0) (hp : fitB p = true) (hq : fitB q = true) (hn : ∀ k, k < l.length → meetB (pt l k) (pt l (nxt l.length k)) p q = false) : sdI l p = sdI l q ∧ sdI l p ≠ 0 := by
  have hn' : ∀ k, k < l.length → ¬ MeetP (pt l k) (pt l (nxt l.length k)) p q := fun k hk hm => by
    have := hn k hk; rw [(meetB_iff _ _ _ _).2 hm] at this; cases this
  have on0 : ∀ r : Pt, (r = p ∨ r = q) → (List.finRange l.length).any (fun k => onK l l.length r k.1) = false := fun r hr => by
    refine Bool.eq_false_iff.2 (fun e => ?_)
    obtain ⟨x, _, hx⟩ := List.any_eq_true.1 e
    unfold onK at hx
    rw [on_flat] at hx
    rcases hr with rfl | rfl
    · exact hn' x.1 x.2 (on_meet q hx)
    · exact hn' x.1 x.2 (on_meet p hx).flip
  unfold sdI sidI
  rw [if_pos h, if_pos h, if_pos hp, if_pos hq, on0 p (.inl rfl), on0 q (.inr rfl)]
  simp only [Bool.false_eq_true, if_false]
  refine ⟨par_stays hn', ?_⟩
  have := parI_pm l l.length p (List.finRange l.length)
  omega
/-- what is to the right of all corners is outside -/
theorem par_far {l : List Pt} {m : Nat} {p : Pt} (h : ∀ k, k < m → (pt l k).1 < p.1) (hm : 0 < m) : sidI l m p = -1 := by
  have no : ∀ {a b : Pt}, a.1 < p.1 → b.1 < p.1 → upB a b p = false := fun {a b} ha hb => by
    refine Bool.eq_false_iff.2 (fun e => ?_)
    obtain ⟨h1, h2, h3⟩ := (upB_iff a b p).1 e
    have p1 := Int.mul_pos (show 0 < p.1 - a.1 by omega) (show 0 < b.2 - p.2 by omega)
    have p2 := Int.mul_nonneg (show 0 ≤ p.1 - b.1 by omega) (show 0 ≤ p.2 - a.2 by omega)
    unfold cross at h3
    grind
  have rt : ∀ k : Fin m, rtK l m p k.1 = false := fun k => by
    have h1 := h k.1 k.2
    have h2 := h (nxt m k.1) (nxt_lt hm)
    unfold rtK rightB
    split
    · exact no h2 h1
    · exact no h1 h2
  have on : (List.finRange m).any (fun k => onK l m p k.1) = false := by
    refine Bool.eq_false_iff.2 (fun e => ?_)
    obtain ⟨x, _, hx⟩ := List.any_eq_true.1 e
    unfold onK at hx
    rw [on_flat, onB_iff, btw_iff] at hx
    have h1 := h x.1 x.2
    have h2 := h (nxt m x.1) (nxt_lt hm)
    omega
  unfold sidI parI
  rw [on]
  simp only [Bool.false_eq_true, if_false]
  have : ∀ pre : List (Fin m), pre.foldl (fun s k => if rtK l m p k.1 then -s else s) (-1 : Int) = -1 := fun pre => by
    induction pre with
    | nil => rfl
    | cons x pre ih => simp only [List.foldl_cons, rt x, Bool.false_eq_true, if_false]; exact ih
  exact this _
/-- a corner, and the middle of a side, are on it -/
theorem sid_on {l : List Pt} {m k : Nat} {p : Pt} (hk : k < m) (h : onB (pt l k) (pt l (nxt m k)) p = true) : sidI l m p = 0 := by
  unfold sidI
  rw [if_pos (List.any_eq_true.2 ⟨⟨k, hk⟩, List.mem_finRange _, by unfold onK; rw [on_flat]; exact h⟩)]
theorem on_corner (a b : Pt) : onB a b a = true := by
  rw [onB_iff]
  refine ⟨by unfold cross; grind, by simp, by simp⟩
theorem on_middle {a b p : Pt} (hx : 2 * p.1 = a.1 + b.1) (hy : 2 * p.2 = a.2 + b.2) : onB a b p = true := by
  rw [onB_iff, btw_iff, btw_iff]
  refine ⟨?_, by omega, by omega⟩
  have h4 : 2 * cross a b p = (b.1 - a.1) * (2 * p.2 - 2 * a.2) - (b.2 - a.2) * (2 * p.1 - 2 * a.1) := by unfold cross; grind
  rw [hx, hy] at h4
  have : (b.1 - a.1) * (a.2 + b.2 - 2 * a.2) - (b.2 - a.2) * (a.1 + b.1 - 2 * a.1) = 0 := by grind
  omega
end Go.Proofs.Ytohepelnbmojiaa
