/- What follows from the table: latches as bits, what a step leads to: pure. -/
import Derived.Test.YthheekneanhmkaaMoA
namespace Go.Proofs.Ythheekneanhmkaa
open Go.RowKit Go.Great

theorem bits_and1 (x : Int) : bits BinOp.and IntKind.i64 x 1 = x % 2 := by
  have h1 : ∀ y : BitVec 64, (y &&& 1#64).toNat = y.toNat % 2 := by
    intro y; rw [BitVec.toNat_and]; exact Nat.and_one_is_mod _
  show IntKind.i64.wrap (((BitVec.ofInt 64 x) &&& BitVec.ofInt 64 1).toNat : Int) = _
  rw [show BitVec.ofInt 64 1 = 1#64 from rfl, h1, BitVec.toNat_ofInt, IntKind.wrap_i64]
  omega
theorem has_iff (ev : Int) (i : Nat) : hasE ev i = decide (ev / 2 ^ i % 2 = 1) := by
  unfold hasE
  rw [bits_and1, Bool.eq_iff_iff]
  simp
/-- latches, bit by bit -/
def lat (f : Nat → Bool) : Int := (if f 0 = true then 1 else 0) + (if f 1 = true then 2 else 0) + (if f 2 = true then 4 else 0) + (if f 4 = true then 16 else 0) + (if f 5 = true then 32 else 0)
theorem and55_nat : ∀ k : Nat, k < 64 → k &&& 55 = k % 2 + 2 * (k / 2 % 2) + 4 * (k / 4 % 2) + 16 * (k / 16 % 2) + 32 * (k / 32 % 2) := by decide
theorem and55_any (n : Nat) : n &&& 55 = n % 2 + 2 * (n / 2 % 2) + 4 * (n / 4 % 2) + 16 * (n / 16 % 2) + 32 * (n / 32 % 2) := by
  have e : n &&& 55 = (n % 64) &&& 55 := by
    rw [show n % 64 = n &&& 63 from (Nat.and_two_pow_sub_one_eq_mod n 6).symm, Nat.and_assoc, show (63 &&& 55 : Nat) = 55 from rfl]
  rw [e, and55_nat _ (Nat.mod_lt _ (by decide))]
  omega
theorem bx0 (ev : Int) : (ev % 18446744073709551616).toNat % 2 = (ev / 1 % 2).toNat := by omega
theorem bx1 (ev : Int) : (ev % 18446744073709551616).toNat / 2 % 2 = (ev / 2 % 2).toNat := by omega
theorem bx2 (ev : Int) : (ev % 18446744073709551616).toNat / 4 % 2 = (ev / 4 % 2).toNat := by omega
theorem bx4 (ev : Int) : (ev % 18446744073709551616).toNat / 16 % 2 = (ev / 16 % 2).toNat := by omega
theorem bx5 (ev : Int) : (ev % 18446744073709551616).toNat / 32 % 2 = (ev / 32 % 2).toNat := by omega
theorem and_55 (ev : Int) : bits BinOp.and IntKind.i64 ev 55 = lat (hasE ev) := by
  show IntKind.i64.wrap (((BitVec.ofInt 64 ev) &&& BitVec.ofInt 64 55).toNat : Int) = _
  rw [BitVec.toNat_and, show (BitVec.ofInt 64 55).toNat = 55 from rfl, and55_any, BitVec.toNat_ofInt, IntKind.wrap_i64, show (((2 : Nat) ^ 64 : Nat) : Int) = 18446744073709551616 from rfl, bx0, bx1, bx2, bx4, bx5]
  unfold lat
  simp only [has_iff, decide_eq_true_eq]
  rw [show (2 : Int) ^ 0 = 1 from rfl, show (2 : Int) ^ 1 = 2 from rfl, show (2 : Int) ^ 2 = 4 from rfl, show (2 : Int) ^ 4 = 16 from rfl, show (2 : Int) ^ 5 = 32 from rfl]
  have h0 := Int.emod_two_eq (ev / 1)
  have h1 := Int.emod_two_eq (ev / 2)
  have h2 := Int.emod_two_eq (ev / 4)
  have h4 := Int.emod_two_eq (ev / 16)
  have h5 := Int.emod_two_eq (ev / 32)
  generalize ev / 1 % 2 = x0 at *
  generalize ev / 2 % 2 = x1 at *
  generalize ev / 4 % 2 = x2 at *
  generalize ev / 16 % 2 = x4 at *
  generalize ev / 32 % 2 = x5 at *
  rcases h0 with rfl | rfl <;> rcases h1 with rfl | rfl <;> rcases h2 with rfl | rfl <;> rcases h4 with rfl | rfl <;> rcases h5 with rfl | rfl <;> rfl
def latB (a b c d e : Bool) : Int := (if a = true then 1 else 0) + (if b = true then 2 else 0) + (if c = true then 4 else 0) + (if d = true then 16 else 0) + (if e = true then 32 else 0)
theorem or_latB : ∀ a b c d e a' b' c' d' e' : Bool, bits BinOp.or IntKind.i64 (latB a b c d e) (latB a' b' c' d' e') = latB (a || a') (b || b') (c || c') (d || d') (e || e') := of_decide_eq_true (by kernel_rfl)
theorem or_lat (f g : Nat → Bool) : bits BinOp.or IntKind.i64 (lat f) (lat g) = lat (fun i => f i || g i) := or_latB (f 0) (f 1) (f 2) (f 4) (f 5) (g 0) (g 1) (g 2) (g 4) (g 5)
theorem and4_latB : ∀ a b c d e : Bool, bits BinOp.and IntKind.i64 (latB a b c d e) 4 = if c = true then 4 else 0 := of_decide_eq_true (by kernel_rfl)
theorem and4_lat (f : Nat → Bool) : bits BinOp.and IntKind.i64 (lat f) 4 = if f 2 = true then 4 else 0 := and4_latB (f 0) (f 1) (f 2) (f 4) (f 5)
/-- the latches behind a step, bit by bit -/
def stF (m : Int) (f : Nat → Bool) (ev : Int) : Nat → Bool := if stM m ev = 0 ∨ stM m ev = 1 then fun _ => false else if flyB m = true then fun i => f i || hasE ev i else f
theorem stL_lat (m : Int) (f : Nat → Bool) (ev : Int) : stL m (lat f) ev = lat (stF m f ev) := by
  unfold stL la2 la1 stF
  split
  · rfl
  · split
    · rw [and_55, or_lat]
    · rfl
theorem fol_some {m : Int} {e : Int} : ∀ {l : List Int}, fol m l = some e → e ∈ l ∧ ¬ nx m e = m
  | [], h => by cases h
  | x :: l, h => by
    by_cases hx : nx m x = m
    · rw [fol_same l hx] at h
      have := fol_some h
      exact ⟨List.mem_cons_of_mem _ this.1, this.2⟩
    · rw [fol_go l hx] at h
      injection h with h
      subst h
      exact ⟨List.mem_cons_self, hx⟩
theorem fol_app {m : Int} (r : List Int) : ∀ l : List Int, fol m (l ++ r) = (fol m l).or (fol m r)
  | [] => by simp [fol]
  | x :: l => by
    rw [List.cons_append]
    by_cases hx : nx m x = m
    · rw [fol_same _ hx, fol_same _ hx, fol_app r l]
    · rw [fol_go _ hx, fol_go _ hx]; rfl
theorem fol_in {m x : Int} : ∀ {l : List Int}, x ∈ l → ¬ nx m x = m → ∃ e, fol m l = some e
  | y :: l, h, hx => by
    by_cases hy : nx m y = m
    · rw [fol_same _ hy]
      rcases List.mem_cons.1 h with e | e
      · subst e; exact absurd hy hx
      · exact fol_in e hx
    · exact ⟨y, fol_go _ hy⟩
theorem evs_mem (ev : Int) : ∀ (n : Nat) (x : Int), x ∈ evs ev n ↔ ∃ i : Nat, x = i ∧ i < n ∧ hasE ev i = true
  | 0, x => by simp [evs]
  | n + 1, x => by
    unfold evs
    rw [List.mem_append, evs_mem ev n x]
    constructor
    · rintro (⟨i, rfl, hi, hh⟩ | h)
      · exact ⟨i, rfl, by omega, hh⟩
      · split at h
        · next hh => exact ⟨n, by simpa using h, by omega, hh⟩
        · cases h
    · rintro ⟨i, rfl, hi, hh⟩
      by_cases e : i = n
      · subst e; right; rw [if_pos hh]; simp
      · left; exact ⟨i, rfl, by omega, hh⟩
/-- what a step leads to: nowhere, or by an event that is there -/
theorem st_ways (m ev : Int) : (stM m ev = m ∧ stE m ev = -1) ∨ ∃ i : Nat, i < 18 ∧ hasE ev i = true ∧ stE m ev = i ∧ stM m ev = nx m i ∧ ¬ nx m i = m := by
  cases h : fol m (evs ev 18) with
  | none => left; unfold stM folM stE folE; rw [h]; exact ⟨rfl, rfl⟩
  | some e =>
    obtain ⟨h1, h2⟩ := fol_some h
    obtain ⟨i, rfl, hi, hh⟩ := (evs_mem ev 18 e).1 h1
    right
    refine ⟨i, hi, hh, ?_, ?_, h2⟩
    · unfold stE folE; rw [h]; rfl
    · unfold stM folM; rw [h]
theorem evs_split (ev : Int) (a : Nat) : ∀ n, ∃ r, evs ev (a + n) = evs ev a ++ r
  | 0 => ⟨[], by simp⟩
  | n + 1 => by
    obtain ⟨r, h⟩ := evs_split ev a n
    refine ⟨r ++ (if hasE ev (a + n) = true then [((a + n : Nat) : Int)] else []), ?_⟩
    rw [← List.append_assoc, ← h]
    rfl
/-- the table over all modes and events, by the kernel -/
theorem all_nx (p : Nat → Nat → Int → Bool) (h : (List.range 15).all (fun m => (List.range 18).all fun i => p m i (nx m i)) = true) (m i : Nat) (hm : m < 15) (hi : i < 18) : p m i (nx m i) = true := by
  have h1 := List.all_eq_true.1 h m (List.mem_range.2 hm)
  exact List.all_eq_true.1 h1 i (List.mem_range.2 hi)
theorem nx_nat (m i : Nat) (hm : m < 15) (hi : i < 18) : ∃ k : Nat, nx m i = k ∧ k < 15 := by
  have := all_nx (fun _ _ x => decide (0 ≤ x) && decide (x < 15)) (by kernel_rfl) m i hm hi
  simp only [Bool.and_eq_true, decide_eq_true_eq] at this
  exact ⟨(nx m i).toNat, by omega, by omega⟩
theorem st_nat (m : Nat) (ev : Int) (hm : m < 15) : ∃ k : Nat, stM m ev = k ∧ k < 15 := by
  rcases st_ways m ev with ⟨h, _⟩ | ⟨i, hi, _, _, h, _⟩
  · exact ⟨m, h, hm⟩
  · rw [h]; exact nx_nat m i hm hi
/-- only Landed ends a flight -/
theorem st_land (m : Nat) (ev : Int) (hm : m < 15) (h1 : flyB m = true) (h2 : flyB (stM m ev) = false) : stM m ev = 14 ∧ stE m ev = 3 := by
  rcases st_ways m ev with ⟨h, _⟩ | ⟨i, hi, _, he, h, _⟩
  · rw [h, h1] at h2; cases h2
  · rw [h] at h2
    have := all_nx (fun m i x => !(flyB m) || flyB x || (decide (x = 14) && decide (i = 3))) (by kernel_rfl) m i hm hi
    rw [h1, h2] at this
    simp only [Bool.not_true, Bool.false_or, Bool.and_eq_true, decide_eq_true_eq] at this
    rw [h, he, this.1, this.2]
    exact ⟨rfl, rfl⟩
/-- nothing stops the backup -/
theorem st_backup (m : Nat) (ev : Int) (h : m = 12 ∨ m = 13) : stM m ev = 12 ∨ stM m ev = 13 ∨ stM m ev = 14 := by
  rcases st_ways m ev with ⟨h1, _⟩ | ⟨i, hi, _, he, h1, _⟩
  · omega
  · have := all_nx (fun m _ x => !(decide (m = 12) || decide (m = 13)) || (decide (x = 12) || decide (x = 13) || decide (x = 14))) (by kernel_rfl) m i (by omega) hi
    have e : (decide (m = 12) || decide (m = 13)) = true := by simpa using h
    simp only [e, Bool.not_true, Bool.false_or, Bool.or_eq_true, decide_eq_true_eq] at this
    rw [h1]
    omega
theorem st_down (ev : Int) : stM 14 ev = 14 ∨ stM 14 ev = 1 ∨ stM 14 ev = 0 := by
  rcases st_ways 14 ev with ⟨h1, _⟩ | ⟨i, hi, _, he, h1, _⟩
  · exact .inl h1
  · have := all_nx (fun m _ x => !(decide (m = 14)) || (decide (x = 14) || decide (x = 1) || decide (x = 0))) (by kernel_rfl) 14 i (by omega) hi
    rw [h1]
    simp at this
    rw [or_assoc] at this
    exact this
/-- who is dry brakes -/
theorem st_dry (m : Nat) (ev : Int) (h1 : 3 ≤ m) (h2 : m ≤ 11) (hh : hasE ev 2 = true) : stM m ev = 12 := by
  have low : ∀ i : Nat, i < 3 → nx m i = 12 := fun i hi => by
    have := all_nx (fun m i x => !(decide (3 ≤ m) && decide (m ≤ 11) && decide (i < 3)) || decide (x = 12)) (by kernel_rfl) m i (by omega) (by omega)
    simpa [h1, h2, hi] using this
  obtain ⟨r, hr⟩ := evs_split ev 3 15
  obtain ⟨e, he⟩ := fol_in (m := m) (x := 2) (l := evs ev 3) ((evs_mem ev 3 2).2 ⟨2, rfl, by omega, hh⟩) (by have := low 2 (by omega); rw [show ((2 : Nat) : Int) = 2 from rfl] at this; rw [this]; omega)
  obtain ⟨i, rfl, hi, _⟩ := (evs_mem ev 3 e).1 (fol_some he).1
  unfold stM folM
  rw [show evs ev 18 = evs ev 3 ++ r from hr, fol_app, he]
  exact low i hi
end Go.Proofs.Ythheekneanhmkaa
