/- What messages and payloads are, over lists of numbers and bytes. -/
import Derived.WalkKit
namespace Go.Proofs.Ytimkfipiebppiaa

/-- a width, in bytes, below 0 where a number may be so -/
def Wid (w : Int) : Prop := w = 1 ∨ w = 2 ∨ w = 4 ∨ w = -2 ∨ w = -4
def szW (w : Int) : Nat := w.natAbs
def leW (w : Int) : Int := if w < 0 then -(256 ^ szW w / 2) else 0
def grW (w : Int) : Int := leW w + 256 ^ szW w - 1
def fitB (w n : Int) : Bool := decide (leW w ≤ n) && decide (n ≤ grW w)
theorem fitB_iff (w n : Int) : fitB w n = true ↔ leW w ≤ n ∧ n ≤ grW w := by unfold fitB; simp
/-- the fields of a kind -/
def wsK (k : Int) : List Int :=
  if k = 1 then [1, 1, 4, -2, 2] else if k = 2 then [-4, -4, -4, -4, -4, -4, -4] else if k = 3 then [1, -4, -4, -4] else if k = 4 then [1, 2] else if k = 5 then [1, -4] else if k = 6 then [1, -4] else if k = 7 then [1, 2] else if k = 8 then [1, 2] else if k = 9 then [1, 2, 1, -4, -4, -4, -4] else if k = 10 then [1, 2] else if k = 11 then [1] else []
theorem wsK_cases (k : Int) : (k = 1 ∨ k = 2 ∨ k = 3 ∨ k = 4 ∨ k = 5 ∨ k = 6 ∨ k = 7 ∨ k = 8 ∨ k = 9 ∨ k = 10 ∨ k = 11) ∨ ((k < 1 ∨ 11 < k) ∧ wsK k = []) := by
  by_cases h : 1 ≤ k ∧ k ≤ 11
  · left; omega
  · right
    refine ⟨by omega, ?_⟩
    unfold wsK
    repeat rw [if_neg (by omega)]
theorem wsK_wid (k : Int) : ∀ w ∈ wsK k, Wid w := by
  rcases wsK_cases k with (h | h | h | h | h | h | h | h | h | h | h) | ⟨_, h⟩ <;> (first | (rw [h]; simp) | (subst h; unfold Wid; decide))
theorem wsK_len (k : Int) : (wsK k).length ≤ 7 := by
  rcases wsK_cases k with (h | h | h | h | h | h | h | h | h | h | h) | ⟨_, h⟩ <;> (first | (rw [h]; decide) | (subst h; decide))
theorem wsK_some {k : Int} (h : (wsK k).length ≠ 0) : 1 ≤ k ∧ k ≤ 11 := by
  rcases wsK_cases k with h1 | ⟨_, h1⟩
  · omega
  · rw [h1] at h; simp at h
theorem wsK_none {k : Int} (h : (wsK k).length = 0) : k < 1 ∨ 11 < k := by
  rcases wsK_cases k with (h1 | h1 | h1 | h1 | h1 | h1 | h1 | h1 | h1 | h1 | h1) | ⟨h1, _⟩
  all_goals (first | exact h1 | (subst h1; simp [wsK] at h))
theorem wid_cases {w : Int} (h : Wid w) : (szW w = 1 ∧ leW w = 0 ∧ grW w = 255) ∨ (szW w = 2 ∧ leW w = 0 ∧ grW w = 65535) ∨ (szW w = 4 ∧ leW w = 0 ∧ grW w = 4294967295) ∨ (szW w = 2 ∧ leW w = -32768 ∧ grW w = 32767) ∨ (szW w = 4 ∧ leW w = -2147483648 ∧ grW w = 2147483647) := by
  rcases h with h | h | h | h | h <;> subst h <;> decide
theorem wid_sz {w : Int} (h : Wid w) : 1 ≤ szW w ∧ szW w ≤ 4 := by rcases wid_cases h with h | h | h | h | h <;> omega
/-- the first bytes of a number -/
def byK (n : Int) : Nat → List UInt8
  | 0 => []
  | k + 1 => byK n k ++ [UInt8.ofNat (n / 256 ^ k % 256).toNat]
theorem byK_len (n : Int) (k : Nat) : (byK n k).length = k := by
  induction k with
  | zero => rfl
  | succ k ih => simp [byK, ih]
theorem byK_at (n : Int) (k i : Nat) (h : i < k) : (byK n k).getD i 0 = UInt8.ofNat (n / 256 ^ i % 256).toNat := by
  induction k with
  | zero => omega
  | succ k ih =>
    have hl := byK_len n k
    simp only [List.getD] at ih ⊢
    rw [byK]
    by_cases hk : i < k
    · rw [List.getElem?_append_left (by omega)]; exact ih hk
    · obtain rfl : i = k := by omega
      rw [List.getElem?_append_right (by omega), hl, Nat.sub_self]; rfl
def byW (w n : Int) : List UInt8 := byK n (szW w)
/-- the number of the first bytes -/
def nuK (l : List UInt8) : Nat → Int
  | 0 => 0
  | k + 1 => nuK l k + (l.getD k 0).toNat * 256 ^ k
def nuW (w : Int) (l : List UInt8) : Int := if grW w < nuK l (szW w) then nuK l (szW w) - 256 ^ szW w else nuK l (szW w)
theorem p256 (k : Nat) : (256 : Int) ^ (k + 1) = 256 ^ k * 256 := Int.pow_succ _ _
theorem p256_pos (k : Nat) : (0 : Int) < 256 ^ k := Int.pow_pos (by decide)
theorem nuK_bound (l : List UInt8) (k : Nat) : 0 ≤ nuK l k ∧ nuK l k < 256 ^ k := by
  induction k with
  | zero => exact ⟨by simp [nuK], by simp [nuK]⟩
  | succ k ih =>
    have hb := (l.getD k 0).toNat_lt
    have hp := p256_pos k
    rw [nuK, p256]
    have h1 : (0 : Int) ≤ ((l.getD k 0).toNat : Int) * 256 ^ k := Int.mul_nonneg (by omega) (by omega)
    have h2 : ((l.getD k 0).toNat : Int) * 256 ^ k ≤ 255 * 256 ^ k := Int.mul_le_mul_of_nonneg_right (by omega) (by omega)
    omega
theorem emod_next (n : Int) (k : Nat) : n % 256 ^ (k + 1) = n % 256 ^ k + n / 256 ^ k % 256 * 256 ^ k := by
  have hp := p256_pos k
  rw [p256]
  generalize (256 : Int) ^ k = a at hp
  have e1 := Int.mul_ediv_add_emod n a
  have e2 := Int.mul_ediv_add_emod (n / a) 256
  have l1 := Int.emod_nonneg n (show a ≠ 0 by omega)
  have l2 := Int.emod_lt_of_pos n hp
  have l3 := Int.emod_nonneg (n / a) (show (256 : Int) ≠ 0 by decide)
  have l4 := Int.emod_lt_of_pos (n / a) (show (0 : Int) < 256 by decide)
  generalize n / a % 256 = r at e2 l3 l4
  generalize n / a / 256 = q at e2
  generalize n / a = m at e1 e2
  generalize n % a = s at e1 l1 l2
  have h1 : 0 ≤ r * a := Int.mul_nonneg l3 (by omega)
  have h2 : r * a ≤ 255 * a := Int.mul_le_mul_of_nonneg_right (by omega) (by omega)
  refine ((Int.ediv_emod_unique (a := n) (b := a * 256) (q := q) (r := s + r * a) (by omega)).2 ⟨?_, by omega, by omega⟩).2
  rw [← e1, ← e2, Int.mul_add, Int.mul_assoc, Int.mul_comm a r]
  omega
theorem nuK_split (l : List UInt8) (j : Nat) : ∀ m, j < m → ∃ r : Int, nuK l m = nuK l j + 256 ^ j * ((l.getD j 0).toNat + 256 * r)
  | 0, h => absurd h (by omega)
  | m + 1, h => by
    by_cases hj : j = m
    · subst hj
      refine ⟨0, ?_⟩
      rw [nuK, Int.mul_zero, Int.add_zero, Int.mul_comm]
    · obtain ⟨r, hr⟩ := nuK_split l j m (by omega)
      refine ⟨r + (l.getD m 0).toNat * 256 ^ (m - j - 1), ?_⟩
      have e : (256 : Int) ^ m = 256 ^ j * (256 * 256 ^ (m - j - 1)) := by
        rw [Int.mul_comm 256, ← Int.pow_succ, ← Int.pow_add]; congr 1; omega
      rw [nuK, hr, e]
      generalize (256 : Int) ^ (m - j - 1) = Q
      generalize ((l.getD m 0).toNat : Int) = x
      generalize ((l.getD j 0).toNat : Int) = d
      have e2 : x * (256 ^ j * (256 * Q)) = 256 ^ j * (256 * (x * Q)) := by rw [Int.mul_left_comm, Int.mul_left_comm x]
      rw [e2, Int.mul_add, Int.mul_add, Int.mul_add, Int.mul_add]
      omega
theorem nuK_digit (l : List UInt8) (j m : Nat) (h : j < m) : nuK l m / 256 ^ j % 256 = ((l.getD j 0).toNat : Int) := by
  obtain ⟨r, hr⟩ := nuK_split l j m h
  have hb := nuK_bound l j
  have hp := p256_pos j
  have hl := (l.getD j 0).toNat_lt
  rw [hr, Int.add_mul_ediv_left _ _ (by omega), Int.ediv_eq_zero_of_lt hb.1 hb.2]
  omega
theorem nuK_byK (n : Int) (m k : Nat) (h : k ≤ m) : nuK (byK n m) k = n % 256 ^ k := by
  induction k with
  | zero => simp [nuK]
  | succ k ih =>
    rw [nuK, ih (by omega), byK_at n m k (by omega), emod_next]
    congr 2
    rw [UInt8.toNat_ofNat']
    omega
theorem byK_nuK (l : List UInt8) (k m : Nat) (h : k ≤ m) (hl : m ≤ l.length) : byK (nuK l m) k = l.take k := by
  induction k with
  | zero => rfl
  | succ k ih =>
    have hk : k < l.length := by omega
    rw [byK, ih (by omega), nuK_digit l k m (by omega), List.take_succ_eq_append_getElem hk]
    congr 2
    rw [List.getD, List.getElem?_eq_getElem hk]
    simp
theorem nuW_byW {w n : Int} (hw : Wid w) (h : fitB w n = true) : nuW w (byW w n) = n := by
  rw [fitB_iff] at h
  unfold nuW byW
  rw [nuK_byK _ _ _ (Nat.le_refl _)]
  rcases wid_cases hw with h1 | h1 | h1 | h1 | h1
  all_goals
    rw [h1.1, h1.2.2]
    rw [h1.2.1, h1.2.2] at h
    simp only [show (256 : Int) ^ 1 = 256 from rfl, show (256 : Int) ^ 2 = 65536 from rfl, show (256 : Int) ^ 4 = 4294967296 from rfl]
    split <;> omega
theorem nuW_fit {w : Int} (hw : Wid w) (l : List UInt8) : fitB w (nuW w l) = true := by
  rw [fitB_iff]
  unfold nuW
  have hb := nuK_bound l (szW w)
  rcases wid_cases hw with h1 | h1 | h1 | h1 | h1
  all_goals
    rw [h1.1] at hb ⊢
    rw [h1.2.1, h1.2.2]
    simp only [show (256 : Int) ^ 1 = 256 from rfl, show (256 : Int) ^ 2 = 65536 from rfl, show (256 : Int) ^ 4 = 4294967296 from rfl] at hb ⊢
    split <;> omega
theorem byK_mod (a b : Int) (k : Nat) (h : a % 256 ^ k = b % 256 ^ k) : byK a k = byK b k := by
  rw [← List.take_of_length_le (Nat.le_of_eq (byK_len a k)), ← List.take_of_length_le (Nat.le_of_eq (byK_len b k))]
  rw [← byK_nuK (byK a k) k k (Nat.le_refl _) (by rw [byK_len]; exact Nat.le_refl _), ← byK_nuK (byK b k) k k (Nat.le_refl _) (by rw [byK_len]; exact Nat.le_refl _)]
  rw [nuK_byK _ _ _ (Nat.le_refl _), nuK_byK _ _ _ (Nat.le_refl _), h]
theorem byW_nuW {w : Int} (l : List UInt8) (hl : l.length = szW w) : byW w (nuW w l) = l := by
  have h1 : byK (nuK l (szW w)) (szW w) = l := by
    rw [byK_nuK l _ _ (Nat.le_refl _) (by omega), List.take_of_length_le (by omega)]
  unfold byW nuW
  split
  · rw [byK_mod _ (nuK l (szW w)) _ (by rw [Int.sub_emod_right]), h1]
  · exact h1
/-- the bytes of the first fields -/
def payK (ws ns : List Int) : Nat → List UInt8
  | 0 => []
  | k + 1 => payK ws ns k ++ byW (ws.getD k 0) (ns.getD k 0)
/-- how many bytes the first fields have -/
def totK (ws : List Int) : Nat → Nat
  | 0 => 0
  | k + 1 => totK ws k + szW (ws.getD k 0)
/-- the first fields of bytes -/
def fieK (ws : List Int) (l : List UInt8) : Nat → List Int
  | 0 => []
  | k + 1 => fieK ws l k ++ [nuW (ws.getD k 0) ((l.drop (totK ws k)).take (szW (ws.getD k 0)))]
theorem byW_len (w n : Int) : (byW w n).length = szW w := byK_len _ _
theorem payK_len (ws ns : List Int) (k : Nat) : (payK ws ns k).length = totK ws k := by
  induction k with
  | zero => rfl
  | succ k ih => rw [payK, totK, List.length_append, ih, byW_len]
theorem totK_mono (ws : List Int) (i k : Nat) (h : i ≤ k) : totK ws i ≤ totK ws k := by
  induction k with
  | zero => obtain rfl : i = 0 := by omega
            exact Nat.le_refl _
  | succ k ih =>
    by_cases hk : i = k + 1
    · rw [hk]; exact Nat.le_refl _
    · have := ih (by omega)
      rw [totK]; omega
theorem fieK_len (ws : List Int) (l : List UInt8) (k : Nat) : (fieK ws l k).length = k := by
  induction k with
  | zero => rfl
  | succ k ih => simp [fieK, ih]
theorem fieK_at (ws : List Int) (l : List UInt8) (k i : Nat) (h : i < k) : (fieK ws l k).getD i 0 = nuW (ws.getD i 0) ((l.drop (totK ws i)).take (szW (ws.getD i 0))) := by
  induction k with
  | zero => omega
  | succ k ih =>
    have hl := fieK_len ws l k
    simp only [List.getD] at ih ⊢
    rw [fieK]
    by_cases hk : i < k
    · rw [List.getElem?_append_left (by omega)]; exact ih hk
    · obtain rfl : i = k := by omega
      rw [List.getElem?_append_right (by omega), hl, Nat.sub_self]; rfl
theorem payK_part (ws ns : List Int) (k i : Nat) (h : i < k) : ((payK ws ns k).drop (totK ws i)).take (szW (ws.getD i 0)) = byW (ws.getD i 0) (ns.getD i 0) := by
  induction k with
  | zero => omega
  | succ k ih =>
    have hl := payK_len ws ns k
    rw [payK]
    by_cases hk : i < k
    · have hm := totK_mono ws (i + 1) k (by omega)
      rw [totK] at hm
      rw [List.drop_append_of_le_length (by omega), List.take_append_of_le_length (by rw [List.length_drop]; omega)]
      exact ih hk
    · obtain rfl : i = k := by omega
      rw [← hl, List.drop_left, List.take_of_length_le (by rw [byW_len]; exact Nat.le_refl _)]
/-- each number is one that its width may be -/
def fitsK (ws ns : List Int) : Nat → Bool
  | 0 => true
  | k + 1 => fitsK ws ns k && fitB (ws.getD k 0) (ns.getD k 0)
theorem fitsK_at {ws ns : List Int} {k i : Nat} (h : fitsK ws ns k = true) (hi : i < k) : fitB (ws.getD i 0) (ns.getD i 0) = true := by
  induction k with
  | zero => omega
  | succ k ih =>
    rw [fitsK, Bool.and_eq_true] at h
    by_cases hk : i < k
    · exact ih h.1 hk
    · obtain rfl : i = k := by omega
      exact h.2
theorem fitsK_not {ws ns : List Int} {k i : Nat} (hi : i < k) (h : fitB (ws.getD i 0) (ns.getD i 0) = false) : fitsK ws ns k = false := by
  cases hh : fitsK ws ns k with
  | false => rfl
  | true => rw [fitsK_at hh hi] at h; cases h
theorem widD {ws : List Int} (hw : ∀ w ∈ ws, Wid w) (k : Nat) (h : k < ws.length) : Wid (ws.getD k 0) := by
  rw [List.getD, List.getElem?_eq_getElem h]
  exact hw _ (List.getElem_mem h)
theorem list_extM {a b : List Int} (hl : a.length = b.length) (h : ∀ i, i < a.length → a.getD i 0 = b.getD i 0) : a = b := by
  refine List.ext_getElem hl fun i h1 h2 => ?_
  have := h i h1
  rw [List.getD, List.getD, List.getElem?_eq_getElem h1, List.getElem?_eq_getElem h2] at this
  exact this
theorem fie_pay (ws ns : List Int) (hw : ∀ w ∈ ws, Wid w) (hl : ns.length = ws.length) (h : fitsK ws ns ws.length = true) : fieK ws (payK ws ns ws.length) ws.length = ns := by
  refine list_extM (by rw [fieK_len, hl]) fun i hi => ?_
  rw [fieK_len] at hi
  rw [fieK_at _ _ _ _ hi, payK_part _ _ _ _ hi, nuW_byW (widD hw i hi) (fitsK_at h hi)]
theorem pay_fie (ws : List Int) (l : List UInt8) (n : Nat) (hl : totK ws n ≤ l.length) (k : Nat) (hk : k ≤ n) : payK ws (fieK ws l n) k = l.take (totK ws k) := by
  induction k with
  | zero => simp [payK, totK]
  | succ k ih =>
    have hm := totK_mono ws (k + 1) n hk
    rw [totK] at hm
    rw [payK, ih (by omega), fieK_at _ _ _ _ (by omega), byW_nuW _ (by rw [List.length_take, List.length_drop]; omega), totK, List.take_add]
theorem fits_fie (ws : List Int) (hw : ∀ w ∈ ws, Wid w) (l : List UInt8) (n : Nat) (hn : n ≤ ws.length) (k : Nat) (hk : k ≤ n) : fitsK ws (fieK ws l n) k = true := by
  induction k with
  | zero => rfl
  | succ k ih => rw [fitsK, ih (by omega), fieK_at _ _ _ _ (by omega), nuW_fit (widD hw k (by omega))]; rfl
theorem tot_le (k : Int) : totK (wsK k) (wsK k).length ≤ 28 := by
  rcases wsK_cases k with (h | h | h | h | h | h | h | h | h | h | h) | ⟨_, h⟩ <;> (first | (rw [h]; decide) | (subst h; decide))
/-- what Encode answers -/
def encM (seq k : Int) (ns : List Int) : (Int × Int × ByteArray) × Int :=
  if (wsK k).length = 0 then ((0, 0, ⟨#[]⟩), 6) else if ns.length ≠ (wsK k).length then ((0, 0, ⟨#[]⟩), 50) else if 0 ≤ seq ∧ seq ≤ 255 ∧ fitsK (wsK k) ns (wsK k).length = true then ((seq, k, ⟨(payK (wsK k) ns (wsK k).length).toArray⟩), 0) else ((0, 0, ⟨#[]⟩), 5)
/-- what Decode answers -/
def decM (id : Int) (p : ByteArray) : (Int × List Int) × Int :=
  if (wsK id).length = 0 then ((0, []), 6) else if p.size ≠ totK (wsK id) (wsK id).length then ((0, []), 3) else ((id, fieK (wsK id) p.data.toList (wsK id).length), 0)
theorem dec_enc (seq k : Int) (ns : List Int) (h : (encM seq k ns).2 = 0) : (encM seq k ns).1.1 = seq ∧ (encM seq k ns).1.2.1 = k ∧ (encM seq k ns).1.2.2.size ≤ 28 ∧ decM k (encM seq k ns).1.2.2 = ((k, ns), 0) := by
  unfold encM at h ⊢
  by_cases h1 : (wsK k).length = 0
  · rw [if_pos h1] at h; cases h
  · rw [if_neg h1] at h ⊢
    by_cases h2 : ns.length ≠ (wsK k).length
    · rw [if_pos h2] at h; cases h
    · rw [if_neg h2] at h ⊢
      by_cases h3 : 0 ≤ seq ∧ seq ≤ 255 ∧ fitsK (wsK k) ns (wsK k).length = true
      · rw [if_pos h3]
        have hs : (⟨(payK (wsK k) ns (wsK k).length).toArray⟩ : ByteArray).size = totK (wsK k) (wsK k).length := by
          show (payK (wsK k) ns (wsK k).length).toArray.size = _
          rw [List.size_toArray, payK_len]
        refine ⟨rfl, rfl, by rw [hs]; exact tot_le k, ?_⟩
        unfold decM
        rw [if_neg h1, if_neg (by rw [hs]; simp)]
        show ((k, fieK (wsK k) (payK (wsK k) ns (wsK k).length) (wsK k).length), (0 : Int)) = _
        rw [fie_pay _ _ (wsK_wid k) (by omega) h3.2.2]
      · rw [if_neg h3] at h; cases h
theorem enc_dec (seq id : Int) (p : ByteArray) (h : (decM id p).2 = 0) : (decM id p).1.1 = id ∧ encM seq id (decM id p).1.2 = if 0 ≤ seq ∧ seq ≤ 255 then ((seq, id, p), 0) else ((0, 0, ⟨#[]⟩), 5) := by
  unfold decM at h ⊢
  by_cases h1 : (wsK id).length = 0
  · rw [if_pos h1] at h; cases h
  · rw [if_neg h1] at h ⊢
    by_cases h2 : p.size ≠ totK (wsK id) (wsK id).length
    · rw [if_pos h2] at h; cases h
    · rw [if_neg h2]
      refine ⟨rfl, ?_⟩
      have hz : p.data.toList.length = totK (wsK id) (wsK id).length := by
        have : p.data.toList.length = p.size := by simp
        omega
      unfold encM
      rw [if_neg h1, if_neg (by rw [fieK_len]; simp)]
      simp only [fits_fie _ (wsK_wid id) _ _ (Nat.le_refl _) _ (Nat.le_refl _), and_true]
      by_cases h3 : 0 ≤ seq ∧ seq ≤ 255
      · rw [if_pos h3, if_pos h3, pay_fie _ _ _ (by omega) _ (Nat.le_refl _), List.take_of_length_le (by omega)]
      · rw [if_neg h3, if_neg h3]
theorem enc_err {seq k : Int} {ns : List Int} (h : (encM seq k ns).2 ≠ 0) : (encM seq k ns).1 = (0, 0, ⟨#[]⟩) := by
  unfold encM at h ⊢
  split
  · rfl
  · split
    · rfl
    · split
      · rename_i h1 h2 h3
        rw [if_neg h1, if_neg h2, if_pos h3] at h
        exact absurd rfl h
      · rfl
theorem dec_err {id : Int} {p : ByteArray} (h : (decM id p).2 ≠ 0) : (decM id p).1 = (0, []) := by
  unfold decM at h ⊢
  split
  · rfl
  · split
    · rfl
    · rename_i h1 h2
      rw [if_neg h1, if_neg h2] at h
      exact absurd rfl h
end Go.Proofs.Ytimkfipiebppiaa
