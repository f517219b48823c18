/- Pure: sums; a simple polygon without level sides; what is right of a side. -/
import Derived.Test.YtohepelnbmojiaaGeW
namespace Go.Proofs.Ytohepelnbmojiaa

/-- n of them, from a on, added up -/
def sm (f : Nat → Int) (a : Nat) : Nat → Int
  | 0 => 0
  | n + 1 => sm f a n + f (a + n)
theorem sm_first (f : Nat → Int) (a n : Nat) : sm f a (n + 1) = f a + sm f (a + 1) n := by
  induction n with
  | zero => simp [sm]
  | succ n ih => rw [sm, ih, sm, Int.add_assoc]; congr 2; rw [Nat.add_assoc, Nat.add_comm 1 n]
theorem sm_tele (f g : Nat → Int) (a n : Nat) (h : ∀ i, i < n → f (a + i) = g (a + i + 1) - g (a + i)) : sm f a n = g (a + n) - g a := by
  induction n with
  | zero => simp [sm]
  | succ n ih => rw [sm, ih (fun i hi => h i (by omega)), h n (by omega), ← Nat.add_assoc]; omega
theorem sm_sub (f g : Nat → Int) (a n : Nat) : sm f a n - sm g a n = sm (fun j => f j - g j) a n := by
  induction n with
  | zero => rfl
  | succ n ih => rw [sm, sm, sm, ← ih]; omega
theorem sm_turn (f : Nat → Int) (m : Nat) (hp : ∀ j, f (j + m) = f j) (a : Nat) : sm f a m = sm f 0 m := by
  induction a with
  | zero => rfl
  | succ a ih =>
    rw [← ih]
    have h1 : sm f a (m + 1) = f a + sm f (a + 1) m := sm_first f a m
    have h2 : sm f a (m + 1) = sm f a m + f (a + m) := rfl
    rw [hp a] at h2
    omega
/-- a simple polygon without level sides -/
structure Sim (V : Nat → Pt) (m : Nat) : Prop where
  m3 : 3 ≤ m
  per : ∀ j, V (j + m) = V j
  ne : ∀ k, (V k).2 ≠ (V (k + 1)).2
  far : ∀ k j, k + 2 ≤ j → j + 2 ≤ k + m → ¬ MeetP (V j) (V (j + 1)) (V k) (V (k + 1))
  fold1 : ∀ k, ¬ onB (V k) (V (k + 1)) (V (k + 2)) = true
  fold2 : ∀ k, ¬ onB (V (k + 1)) (V (k + 2)) (V k) = true
/-- how often it goes round a point -/
def wd (V : Nat → Pt) (m : Nat) (q : Pt) : Int := sm (fun j => sj (V j) (V (j + 1)) q) 0 m
section
variable {V : Nat → Pt} {m : Nat}
theorem Sim.wd_at (H : Sim V m) (k : Nat) (q : Pt) : wd V m q = sj (V k) (V (k + 1)) q + sj (V (k + 1)) (V (k + 2)) q + sm (fun j => sj (V j) (V (j + 1)) q) (k + 2) (m - 3) + sj (V (k + m - 1)) (V k) q := by
  have hp : ∀ j, (fun j => sj (V j) (V (j + 1)) q) (j + m) = (fun j => sj (V j) (V (j + 1)) q) j := fun j => by
    show sj (V (j + m)) (V (j + m + 1)) q = sj (V j) (V (j + 1)) q
    rw [show j + m + 1 = j + 1 + m by omega, H.per, H.per]
  have h3 := H.m3
  unfold wd
  rw [← sm_turn _ m hp k]
  obtain ⟨n, rfl⟩ : ∃ n, m = n + 3 := ⟨m - 3, by omega⟩
  have e : k + (n + 3) - 1 + 1 = k + (n + 3) := by omega
  have e2 : V (k + (n + 3) - 1 + 1) = V k := by rw [e]; exact H.per k
  have a1 := sm_first (fun j => sj (V j) (V (j + 1)) q) k (n + 2)
  have a2 := sm_first (fun j => sj (V j) (V (j + 1)) q) (k + 1) (n + 1)
  have a3 : sm (fun j => sj (V j) (V (j + 1)) q) (k + 1 + 1) (n + 1) = sm (fun j => sj (V j) (V (j + 1)) q) (k + 1 + 1) n + (fun j => sj (V j) (V (j + 1)) q) (k + 1 + 1 + n) := rfl
  have e3 : k + 1 + 1 + n = k + (n + 3) - 1 := by omega
  rw [e3] at a3
  simp only [e2] at a3
  rw [show n + 3 - 3 = n by omega, a1, a2, a3]
  show sj (V k) (V (k + 1)) q + (sj (V (k + 1)) (V (k + 2)) q + (sm (fun j => sj (V j) (V (j + 1)) q) (k + 2) n + sj (V (k + (n + 3) - 1)) (V k) q)) = _
  omega
/-- the sides that are no neighbours of side k -/
theorem Sim.mid (H : Sim V m) (k : Nat) {p q : Pt} (hpq : p.2 < q.2) (hn : ∀ j, k + 2 ≤ j → j + 2 ≤ k + m → ¬ MeetP (V j) (V (j + 1)) p q) :
    sm (fun j => sj (V j) (V (j + 1)) p) (k + 2) (m - 3) - sm (fun j => sj (V j) (V (j + 1)) q) (k + 2) (m - 3) = iS p q (V (k + m - 1)) - iS p q (V (k + 2)) := by
  have h3 := H.m3
  rw [sm_sub, sm_tele _ (fun j => iS p q (V j)) (k + 2) (m - 3) (fun i hi => edge_sj hpq (hn _ (by omega) (by omega)))]
  rw [show k + 2 + (m - 3) = k + m - 1 by omega]
/-- what is right of side k, by its lower end -/
def rgt (V : Nat → Pt) (m k : Nat) : Int := if (V k).2 < (V (k + 1)).2 then wd V m (V k) - fst' (V k) (V (k + 1)) (V (k + m - 1)) else wd V m (V (k + 1)) + fst' (V (k + 1)) (V k) (V (k + 2))
theorem Sim.top_up (H : Sim V m) (k : Nat) (h : (V k).2 < (V (k + 1)).2) : rgt V m k = wd V m (V (k + 1)) - lst' (V k) (V (k + 1)) (V (k + 2)) := by
  have hm := H.mid k h (fun j h1 h2 => H.far k j h1 h2)
  have a1 := H.wd_at k (V k)
  have a2 := H.wd_at k (V (k + 1))
  have l := last_side (b := V (k + 2)) h
  have f := first_side (a := V (k + m - 1)) h
  rw [sj_start, sj_end] at a1
  rw [sj_end, sj_start] at a2
  rw [sj_neg (V k) (V (k + m - 1)) (V (k + 1))] at a2
  unfold rgt
  rw [if_pos h]
  omega
theorem Sim.top_down (H : Sim V m) (k : Nat) (h : (V (k + 1)).2 < (V k).2) : rgt V m k = wd V m (V k) + lst' (V (k + 1)) (V k) (V (k + m - 1)) := by
  have hm := H.mid k h (fun j h1 h2 g => H.far k j h1 h2 g.flip)
  have a1 := H.wd_at k (V k)
  have a2 := H.wd_at k (V (k + 1))
  have l := last_side (b := V (k + m - 1)) h
  have f := first_side (a := V (k + 2)) h
  rw [sj_start, sj_end] at a1
  rw [sj_end, sj_start] at a2
  rw [sj_neg (V k) (V (k + m - 1)) (V (k + 1))] at a2
  unfold rgt
  rw [if_neg (by omega)]
  omega
end
end Go.Proofs.Ytohepelnbmojiaa
