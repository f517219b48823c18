/- Package vote, as plain mathematics: what a voter keeps, how it goes on, what it tells. -/
import Derived.Test.YtmglcmhofcejiaaIn0
namespace Go.Proofs.Ytmglcmhofcejiaa
open Go.RowKit Go.Great

/-- a row of numbers with two neighbours exchanged -/
def swp (f : Nat → Int) (j : Nat) : Nat → Int := fun k => if k = j then f (j - 1) else if k = j - 1 then f j else f k
/-- the number at j goes down as far as it is less than the one below -/
def inn : Nat → (Nat → Int) → (Nat → Int)
  | 0, f => f
  | j + 1, f => if f (j + 1) < f j then inn j (swp f (j + 1)) else f
/-- k more numbers, from i on, are put into their places -/
def outr : Nat → Nat → (Nat → Int) → (Nat → Int)
  | 0, _, f => f
  | k + 1, i, f => outr k (i + 1) (inn i f)
theorem inn_go {j : Nat} {f : Nat → Int} (hj : 0 < j) (h : f j < f (j - 1)) : inn j f = inn (j - 1) (swp f j) := by
  obtain ⟨k, rfl⟩ : ∃ k, j = k + 1 := ⟨j - 1, by omega⟩
  simp only [Nat.add_sub_cancel] at h ⊢
  rw [inn, if_pos h]
theorem inn_stop {j : Nat} {f : Nat → Int} (h : j = 0 ∨ ¬ f j < f (j - 1)) : inn j f = f := by
  cases j with
  | zero => rfl
  | succ k =>
    rcases h with h | h
    · omega
    · rw [Nat.add_sub_cancel] at h; rw [inn, if_neg h]
theorem outr_go {n i : Nat} (f : Nat → Int) (h : i < n) : outr (n - i) i f = outr (n - (i + 1)) (i + 1) (inn i f) := by
  obtain ⟨k, hk⟩ : ∃ k, n - i = k + 1 := ⟨n - i - 1, by omega⟩
  rw [hk, show n - (i + 1) = k by omega, outr]
theorem outr_stop {n i : Nat} (f : Nat → Int) (h : n ≤ i) : outr (n - i) i f = f := by
  rw [show n - i = 0 by omega, outr]
/-- a list's numbers in their order -/
def srt (l : List Int) : Nat → Int := outr (l.length - 1) 1 (fun k => l.getD k 0)
theorem srt1 (a : Int) : srt [a] 0 = a := rfl
theorem srt2 (a b : Int) : srt [a, b] 0 = min a b ∧ srt [a, b] 1 = max a b := by
  by_cases h : b < a
  · simp [srt, outr, inn, swp, h]; omega
  · simp [srt, outr, inn, h]; omega
theorem srt3 (a b c : Int) : srt [a, b, c] 0 = min (min a b) c ∧ srt [a, b, c] 1 = max (min a b) (min (max a b) c) ∧ srt [a, b, c] 2 = max (max a b) c := by
  by_cases h1 : b < a
  · by_cases h2 : c < a
    · by_cases h3 : c < b
      · simp [srt, outr, inn, swp, h1, h2, h3]; omega
      · simp [srt, outr, inn, swp, h1, h2, h3]; omega
    · simp [srt, outr, inn, swp, h1, h2]; omega
  · by_cases h2 : c < b
    · by_cases h3 : c < a
      · simp [srt, outr, inn, swp, h1, h2, h3]; omega
      · simp [srt, outr, inn, swp, h1, h2, h3]; omega
    · simp [srt, outr, inn, h1, h2]; omega

/-- half a sum, rounded down -/
def hlf (a b : Int) : Int := (a + b) / 2
/-- one more, but no more than 65535 -/
def cnt (n : Int) : Int := min (n + 1) 65535
/-- what a voter keeps -/
structure Vt where
  st : Int
  sp : Int
  v : Nat → Int
  a : Nat → Int
  n : Int
/-- what units say -/
structure Un where
  o : Nat → Bool
  x : Nat → Int
def upI (f : Nat → Int) (i : Nat) (x : Int) : Nat → Int := fun k => if k = i then x else f k
/-- one unit is heard -/
def hr1 (u : Un) (t : Vt) (i : Nat) : Vt := if u.o i then { t with v := upI t.v i (u.x i), a := upI t.a i 0 } else { t with a := upI t.a i (cnt (t.a i)) }
def hr (u : Un) (t : Vt) : Nat → Vt
  | 0 => t
  | j + 1 => hr1 u (hr u t j) j
/-- the valid values, of the first j units -/
def vl (t : Vt) : Nat → List Int
  | 0 => []
  | j + 1 => vl t j ++ if t.a j ≤ t.st then [t.v j] else []
/-- the vote of these -/
def midL : List Int → Int
  | [a] => a
  | [a, b] => hlf a b
  | [a, b, c] => max (min a b) (min (max a b) c)
  | _ => 0
/-- how far the least and the greatest are apart -/
def farL : List Int → Int
  | [a, b] => max a b - min a b
  | [a, b, c] => max (max a b) c - min (min a b) c
  | _ => 0
/-- a tick -/
def stp (u : Un) (t : Vt) : Vt := let t1 := hr u t 3; if farL (vl t1 3) > t.sp then { t1 with n := cnt t1.n } else t1
/-- what is told -/
def sok (u : Un) (t : Vt) : Bool := !(vl (hr u t 3) 3).isEmpty
def sx (u : Un) (t : Vt) : Int := midL (vl (hr u t 3) 3)
/-- sound: what a voter may keep -/
structure VOk (t : Vt) : Prop where
  st0 : 0 ≤ t.st
  st1 : t.st ≤ 65534
  sp0 : 0 ≤ t.sp
  sp1 : t.sp ≤ 9223372036854775807
  v : ∀ i, i < 3 → I64 (t.v i)
  a : ∀ i, i < 3 → 0 ≤ t.a i ∧ t.a i ≤ 65535
  n : 0 ≤ t.n ∧ t.n ≤ 65535
structure UOk (u : Un) : Prop where
  x : ∀ i, i < 3 → I64 (u.x i)
theorem cnt_ok {n : Int} (h : 0 ≤ n ∧ n ≤ 65535) : 0 ≤ cnt n ∧ cnt n ≤ 65535 := by unfold cnt; omega
theorem hr1_ok {u : Un} {t : Vt} (hu : UOk u) (h : VOk t) (i : Nat) (hi : i < 3) : VOk (hr1 u t i) := by
  unfold hr1
  split
  · refine ⟨h.st0, h.st1, h.sp0, h.sp1, fun k hk => ?_, fun k hk => ?_, h.n⟩
    · show I64 (upI t.v i (u.x i) k)
      unfold upI; split
      · exact hu.x i hi
      · exact h.v k hk
    · show 0 ≤ upI t.a i 0 k ∧ upI t.a i 0 k ≤ 65535
      unfold upI; split
      · omega
      · exact h.a k hk
  · refine ⟨h.st0, h.st1, h.sp0, h.sp1, h.v, fun k hk => ?_, h.n⟩
    show 0 ≤ upI t.a i (cnt (t.a i)) k ∧ upI t.a i (cnt (t.a i)) k ≤ 65535
    unfold upI; split
    · exact cnt_ok (h.a i hi)
    · exact h.a k hk
theorem hr_ok {u : Un} {t : Vt} (hu : UOk u) (h : VOk t) : ∀ j, j ≤ 3 → VOk (hr u t j) := by
  intro j
  induction j with
  | zero => intro _; exact h
  | succ j ih => intro hj; exact hr1_ok hu (ih (by omega)) j (by omega)
theorem stp_ok {u : Un} {t : Vt} (hu : UOk u) (h : VOk t) : VOk (stp u t) := by
  have h1 := hr_ok hu h 3 (by omega)
  unfold stp
  simp only
  split
  · exact ⟨h1.st0, h1.st1, h1.sp0, h1.sp1, h1.v, h1.a, cnt_ok h1.n⟩
  · exact h1
theorem hr1_st (u : Un) (t : Vt) (i : Nat) : (hr1 u t i).st = t.st ∧ (hr1 u t i).sp = t.sp ∧ (hr1 u t i).n = t.n := by
  unfold hr1; split <;> exact ⟨rfl, rfl, rfl⟩
theorem hr_st (u : Un) (t : Vt) (j : Nat) : (hr u t j).st = t.st ∧ (hr u t j).sp = t.sp ∧ (hr u t j).n = t.n := by
  induction j with
  | zero => exact ⟨rfl, rfl, rfl⟩
  | succ j ih =>
    have := hr1_st u (hr u t j) j
    exact ⟨this.1.trans ih.1, this.2.1.trans ih.2.1, this.2.2.trans ih.2.2⟩
theorem vl_len (t : Vt) (j : Nat) : (vl t j).length ≤ j := by
  induction j with
  | zero => exact Nat.le_refl _
  | succ j ih =>
    rw [vl, List.length_append]
    split <;> simp <;> omega
theorem vl_ok {t : Vt} (h : VOk t) : ∀ j, j ≤ 3 → ∀ x ∈ vl t j, I64 x := by
  intro j
  induction j with
  | zero => intro _ x hx; cases hx
  | succ j ih =>
    intro hj x hx
    rw [vl, List.mem_append] at hx
    rcases hx with hx | hx
    · exact ih (by omega) x hx
    · split at hx
      · rw [List.mem_singleton] at hx; rw [hx]; exact h.v j (by omega)
      · cases hx
theorem vl_cases (l : List Int) (h : l.length ≤ 3) : l = [] ∨ (∃ a, l = [a]) ∨ (∃ a b, l = [a, b]) ∨ ∃ a b c, l = [a, b, c] := by
  match l, h with
  | [], _ => exact .inl rfl
  | [a], _ => exact .inr (.inl ⟨a, rfl⟩)
  | [a, b], _ => exact .inr (.inr (.inl ⟨a, b, rfl⟩))
  | [a, b, c], _ => exact .inr (.inr (.inr ⟨a, b, c, rfl⟩))
  | a :: b :: c :: d :: e, h => simp at h
/-- the two middles, and the ends, of what is sorted -/
theorem srt_mid (l : List Int) (h : l.length ≤ 3) (h0 : l ≠ []) : hlf (srt l ((l.length - 1) / 2)) (srt l (l.length / 2)) = midL l ∧ srt l (l.length - 1) - srt l 0 = farL l := by
  rcases vl_cases l h with rfl | ⟨a, rfl⟩ | ⟨a, b, rfl⟩ | ⟨a, b, c, rfl⟩
  · exact absurd rfl h0
  · have e : hlf a a = a := by unfold hlf; omega
    simp [srt1, midL, farL, e]
  · obtain ⟨e0, e1⟩ := srt2 a b
    simp only [List.length, midL, farL]
    simp only [Nat.zero_add, Nat.reduceAdd, Nat.reduceSub, Nat.reduceDiv]
    rw [e0, e1]; unfold hlf; omega
  · obtain ⟨e0, e1, e2⟩ := srt3 a b c
    simp only [List.length, midL, farL]
    simp only [Nat.zero_add, Nat.reduceAdd, Nat.reduceSub, Nat.reduceDiv]
    rw [e0, e1, e2]; unfold hlf; omega
theorem srt_ok {l : List Int} (h : l.length ≤ 3) (hl : ∀ x ∈ l, I64 x) (k : Nat) (hk : k < l.length) : I64 (srt l k) := by
  rcases vl_cases l h with rfl | ⟨a, rfl⟩ | ⟨a, b, rfl⟩ | ⟨a, b, c, rfl⟩
  · simp at hk
  · obtain rfl : k = 0 := by simp at hk; omega
    exact hl a (by simp)
  · have ha := hl a (by simp); have hb := hl b (by simp)
    obtain ⟨e0, e1⟩ := srt2 a b
    unfold I64 at *
    obtain rfl | rfl : k = 0 ∨ k = 1 := by simp at hk; omega
    · rw [e0]; omega
    · rw [e1]; omega
  · have ha := hl a (by simp); have hb := hl b (by simp); have hc := hl c (by simp)
    obtain ⟨e0, e1, e2⟩ := srt3 a b c
    unfold I64 at *
    obtain rfl | rfl | rfl : k = 0 ∨ k = 1 ∨ k = 2 := by simp at hk; omega
    · rw [e0]; omega
    · rw [e1]; omega
    · rw [e2]; omega
end Go.Proofs.Ytmglcmhofcejiaa
