/- Missions as bytes: pure. -/
import Derived.Test.YtnekjfidobglmaaMiM
namespace Go.Proofs.Ytnekjfidobglmaa
open Go.RowKit Go.Great

def by8 (x : Int) (k : Nat) : UInt8 := UInt8.ofNat (x / 256 ^ k % 256).toNat
def encB (x : Int) : List UInt8 := [by8 x 3, by8 x 2, by8 x 1, by8 x 0]
/-- four bytes as a number without a sign, with one -/
def natB (a b c d : UInt8) : Int := (a.toNat : Int) * 16777216 + (b.toNat : Int) * 65536 + (c.toNat : Int) * 256 + (d.toNat : Int)
def sgn (n : Int) : Int := if 2147483648 ≤ n then n - 4294967296 else n
def numB (a b c d : UInt8) : Int := sgn (natB a b c d)
def at8 (s : List UInt8) (i : Nat) : UInt8 := s.getD i 0
theorem by8_nat (x : Int) (k : Nat) : ((by8 x k).toNat : Int) = x / 256 ^ k % 256 := by
  unfold by8
  rw [UInt8.toNat_ofNat']
  omega
theorem num_enc (x : Int) (h0 : -2147483648 ≤ x) (h1 : x < 2147483648) : numB (by8 x 3) (by8 x 2) (by8 x 1) (by8 x 0) = x := by
  unfold numB natB
  rw [by8_nat, by8_nat, by8_nat, by8_nat]
  unfold sgn
  simp only [Int.reducePow, Int.pow_zero, Int.ediv_one]
  split <;> omega
theorem enc_num (a b c d : UInt8) : encB (numB a b c d) = [a, b, c, d] := by
  have ha := a.toNat_lt
  have hb := b.toNat_lt
  have hc := c.toNat_lt
  have hd := d.toNat_lt
  have key : ∀ (k : Nat) (y : UInt8), numB a b c d / 256 ^ k % 256 = (y.toNat : Int) → by8 (numB a b c d) k = y := by
    intro k y e
    unfold by8
    rw [e]
    simp
  unfold encB
  rw [key 3 a, key 2 b, key 1 c, key 0 d]
  all_goals (unfold numB natB sgn; simp only [Int.reducePow, Int.pow_zero, Int.ediv_one]; split <;> omega)
theorem encB_cells (x : Int) : bytesV (encB x) = [.int .u8 (x / 16777216 % 256), .int .u8 (x / 65536 % 256), .int .u8 (x / 256 % 256), .int .u8 (x % 256)] := by
  unfold bytesV encB
  simp only [List.map_cons, List.map_nil, by8_nat, Int.reducePow, Int.pow_zero, Int.ediv_one]
theorem encB_len (x : Int) : (encB x).length = 4 := rfl
theorem natB_in (a b c d : UInt8) : 0 ≤ natB a b c d ∧ natB a b c d < 4294967296 := by
  have ha := a.toNat_lt
  have hb := b.toNat_lt
  have hc := c.toNat_lt
  have hd := d.toNat_lt
  unfold natB
  omega
theorem numB_in (a b c d : UInt8) : I64 (numB a b c d) := by
  have h := natB_in a b c d
  unfold numB sgn I64
  split <;> omega
/-- an item's bytes, a mission's -/
def encIt (x : It) : List UInt8 := x.k :: (encB x.a ++ encB x.b ++ encB x.c)
def encR (L : List It) : List UInt8 := L.flatMap encIt
def encL (L : List It) : List UInt8 := UInt8.ofNat L.length :: encR L
theorem encIt_len (x : It) : (encIt x).length = 13 := rfl
theorem encR_len (L : List It) : (encR L).length = 13 * L.length := by
  induction L with
  | nil => rfl
  | cons x r ih => rw [encR, List.flatMap_cons, List.length_append, ← encR, ih, encIt_len, List.length_cons]; omega
theorem encR_snoc (L : List It) (x : It) : encR (L ++ [x]) = encR L ++ encIt x := by simp [encR]
/-- the number at these bytes, the item -/
def num4 (l : List UInt8) (i : Nat) : Int := numB (at8 l i) (at8 l (i + 1)) (at8 l (i + 2)) (at8 l (i + 3))
def decIt (l : List UInt8) : It := ⟨at8 l 0, num4 l 1, num4 l 5, num4 l 9⟩
def decK (l : List UInt8) : Nat → List It
  | 0 => []
  | k + 1 => decK l k ++ [decIt (l.drop (13 * k))]
theorem decK_len (l : List UInt8) (k : Nat) : (decK l k).length = k := by
  induction k with
  | zero => rfl
  | succ k ih => rw [decK, List.length_append, ih]; rfl
theorem decIt_ok (l : List UInt8) : ItOk (decIt l) := ⟨numB_in _ _ _ _, numB_in _ _ _ _, numB_in _ _ _ _⟩
theorem at8_app_left {l m : List UInt8} {i : Nat} (h : i < l.length) : at8 (l ++ m) i = at8 l i := by
  unfold at8
  rw [List.getD, List.getD, List.getElem?_append_left h]
theorem at8_drop (l : List UInt8) (n i : Nat) : at8 (l.drop n) i = at8 l (n + i) := by
  unfold at8
  rw [List.getD, List.getD, List.getElem?_drop]
theorem dec_enc1 (x : It) (m : List UInt8) (ha : -2147483648 ≤ x.a ∧ x.a < 2147483648) (hb : -2147483648 ≤ x.b ∧ x.b < 2147483648) (hc : -2147483648 ≤ x.c ∧ x.c < 2147483648) : decIt (encIt x ++ m) = x := by
  obtain ⟨k, a, b, c⟩ := x
  show It.mk _ (numB (by8 a 3) (by8 a 2) (by8 a 1) (by8 a 0)) (numB (by8 b 3) (by8 b 2) (by8 b 1) (by8 b 0)) (numB (by8 c 3) (by8 c 2) (by8 c 1) (by8 c 0)) = _
  simp only at ha hb hc
  rw [num_enc a ha.1 ha.2, num_enc b hb.1 hb.2, num_enc c hc.1 hc.2]
  rfl
theorem enc_dec1 (l : List UInt8) (h : 13 ≤ l.length) : encIt (decIt l) = l.take 13 := by
  unfold encIt decIt num4
  simp only
  rw [enc_num, enc_num, enc_num]
  match l, h with
  | a0 :: a1 :: a2 :: a3 :: a4 :: a5 :: a6 :: a7 :: a8 :: a9 :: a10 :: a11 :: a12 :: r, _ => rfl
theorem drop_encR (L : List It) (k : Nat) : (encR L).drop (13 * k) = encR (L.drop k) := by
  induction k generalizing L with
  | zero => rfl
  | succ k ih =>
    cases L with
    | nil => simp [encR]
    | cons x r =>
      rw [List.drop_succ_cons, ← ih r, encR, List.flatMap_cons, ← encR, show 13 * (k + 1) = 13 + 13 * k by omega, ← List.drop_drop, List.drop_left' (encIt_len x)]
/-- numbers that four bytes hold -/
def Sml (x : It) : Prop := (-2147483648 ≤ x.a ∧ x.a < 2147483648) ∧ (-2147483648 ≤ x.b ∧ x.b < 2147483648) ∧ (-2147483648 ≤ x.c ∧ x.c < 2147483648)
theorem okK_small {k a b c : Int} (h : okK k a b c = true) (h4 : k = 4 → 0 ≤ a ∧ a < 2147483648) : (-2147483648 ≤ a ∧ a < 2147483648) ∧ (-2147483648 ≤ b ∧ b < 2147483648) ∧ (-2147483648 ≤ c ∧ c < 2147483648) := by
  unfold okK at h
  unfold wi at h
  repeat' split at h
  all_goals simp at h
  all_goals (try omega)
theorem chk_sml {L : List It} (h : chk L = 0) : ∀ x ∈ L, Sml x := by
  intro x hx
  obtain ⟨h1, h2⟩ := chk_ok h
  obtain ⟨h3, h4⟩ := one_ok (h2 x hx)
  exact okK_small h3 (fun e => by have := h4 (by omega); omega)
theorem dec_encR (L : List It) (h : ∀ x ∈ L, Sml x) : ∀ k, k ≤ L.length → decK (encR L) k = L.take k
  | 0, _ => by simp [decK]
  | k + 1, hk => by
    have hlt : k < L.length := by omega
    rw [decK, dec_encR L h k (by omega), drop_encR, List.drop_eq_getElem_cons hlt, encR, List.flatMap_cons]
    obtain ⟨q1, q2, q3⟩ := h L[k] (List.getElem_mem hlt)
    rw [dec_enc1 _ _ q1 q2 q3, List.take_succ_eq_append_getElem hlt]
theorem enc_decK (l : List UInt8) (n : Nat) (hl : l.length = 13 * n) : ∀ k, k ≤ n → encR (decK l k) = l.take (13 * k)
  | 0, _ => by simp [decK, encR]
  | k + 1, hk => by
    rw [decK, encR_snoc, enc_decK l n hl k (by omega), enc_dec1 _ (by rw [List.length_drop]; omega), show 13 * (k + 1) = 13 * k + 13 by omega, List.take_add]
/-- what Decode answers -/
def szd (l : List UInt8) : Bool := decide (0 < l.length ∧ l.length = 1 + 13 * (at8 l 0).toNat)
def its (l : List UInt8) : List It := decK (l.drop 1) (at8 l 0).toNat
def decE (l : List UInt8) : Int := if szd l = true then chk (its l) else 3
def decA (l : List UInt8) : List It := if szd l = true ∧ chk (its l) = 0 then its l else []
/-- what Encode answers -/
def encA (L : List It) : List UInt8 := if chk L = 0 then encL L else []
theorem at8_cons (x : UInt8) (l : List UInt8) : at8 (x :: l) 0 = x := rfl
theorem its_enc {L : List It} (h : chk L = 0) : szd (encL L) = true ∧ its (encL L) = L := by
  have h64 := (chk_ok h).1
  have e : (UInt8.ofNat L.length).toNat = L.length := by rw [UInt8.toNat_ofNat']; omega
  refine ⟨?_, ?_⟩
  · unfold szd encL
    rw [at8_cons, List.length_cons, encR_len, e]
    simp
    omega
  · unfold its encL
    rw [at8_cons, e, List.drop_succ_cons, List.drop_zero, dec_encR L (chk_sml h) _ (Nat.le_refl _), List.take_length]
theorem enc_its {l : List UInt8} (h : szd l = true) : encL (its l) = l := by
  unfold szd at h
  simp at h
  obtain ⟨h0, h1⟩ := h
  cases l with
  | nil => simp at h0
  | cons x r =>
    rw [at8_cons, List.length_cons] at h1
    unfold its encL
    rw [at8_cons, List.drop_succ_cons, List.drop_zero, decK_len, enc_decK r x.toNat (by omega) _ (Nat.le_refl _), show UInt8.ofNat x.toNat = x by simp, List.take_of_length_le (by omega)]
end Go.Proofs.Ytnekjfidobglmaa
