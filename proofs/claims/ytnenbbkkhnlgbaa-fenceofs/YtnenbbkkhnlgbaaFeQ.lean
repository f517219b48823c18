/- A fence's bytes: what is written is read, what is read is written. -/
import Derived.Test.YtnenbbkkhnlgbaaFeD
namespace Go.Proofs.Ytnenbbkkhnlgbaa
open Go.RowKit Go.Great

theorem numL_four (a b c d : UInt8) : numL [a, b, c, d] = num a b c d := by
  have e : (wdN [a, b, c, d] [a, b, c, d].length : Int) = (a.toNat : Int) + 256 * b.toNat + 65536 * c.toNat + 16777216 * d.toNat := by
    simp [wdN]
    omega
  unfold numL num
  rw [e]
theorem four_of {l : List UInt8} (h : 4 ≤ l.length) : ∃ a b c d r, l = a :: b :: c :: d :: r := by
  match l, h with
  | a :: b :: c :: d :: r, _ => exact ⟨a, b, c, d, r, rfl⟩
theorem num_in (a b c d : UInt8) : -2147483648 ≤ num a b c d ∧ num a b c d < 2147483648 := by
  have ha := a.toNat_lt
  have hb := b.toNat_lt
  have hc := c.toNat_lt
  have hd := d.toNat_lt
  unfold num
  split <;> omega
theorem stp_ok {s : RS} (h : (stp s).2.2 = false) : s.2 = false ∧ s.1 = n4 (stp s).1 ++ (stp s).2.1 := by
  obtain ⟨l, sh⟩ := s
  unfold stp tkS at h
  simp only at h
  split at h
  · rename_i hc
    obtain ⟨rfl, hl⟩ := hc
    obtain ⟨a, b, c, d, r, rfl⟩ := four_of hl
    refine ⟨rfl, ?_⟩
    unfold stp tkT tkL
    rw [if_pos ⟨rfl, hl⟩, if_pos ⟨rfl, hl⟩]
    show _ = n4 (numL [a, b, c, d]) ++ r
    rw [numL_four, n4_num]
    rfl
  · cases h
theorem stN_ok {s : RS} : ∀ k, (stN k s).2 = false → s.2 = false ∧ s.1 = ptB (ptN k s) ++ (stN k s).1
  | 0, h => ⟨h, rfl⟩
  | k + 1, h => by
    rw [stN] at h
    obtain ⟨h1, e1⟩ := stp_ok h
    obtain ⟨h2, e2⟩ := stp_ok h1
    obtain ⟨h3, e3⟩ := stN_ok k h2
    refine ⟨h3, ?_⟩
    rw [e3, ptN, ptB_snoc, stN, e2, e1]
    simp
theorem u8_nat_self (c : UInt8) : u8 (c.toNat : Int) = c := u8_nat c _ (by have := c.toNat_lt; omega)
theorem rd1_ok {s : RS} (h : (rd1 s).2.2 = false) : s.2 = false ∧ s.1 = ptsB (rd1 s).1 ++ (rd1 s).2.1 := by
  obtain ⟨l, sh⟩ := s
  unfold rd1 at h ⊢
  simp only at h ⊢
  obtain ⟨h1, e1⟩ := stN_ok _ h
  simp only at h1 e1
  unfold tkS at h1
  split at h1
  · rename_i hc
    obtain ⟨rfl, hl⟩ := hc
    refine ⟨rfl, ?_⟩
    cases l with
    | nil => simp at hl
    | cons c l =>
      have t1 : tkT (c :: l) false 1 = [c] := by unfold tkT; rw [if_pos ⟨rfl, hl⟩]; rfl
      have t2 : tkL (c :: l) false 1 = l := by unfold tkL; rw [if_pos ⟨rfl, hl⟩]; rfl
      rw [t1, t2] at e1
      rw [t1, t2]
      simp only [List.getD_cons_zero] at e1 ⊢
      unfold ptsB
      rw [ptN_len, u8_nat_self, List.cons_append, ← e1]
  · cases h1
theorem dec_ok {l : List UInt8} (h : (decD l).2.2 = false) : l = encF (decD l).1.P (decD l).1.fl (decD l).1.ce (decD l).1.R ++ (decD l).2.1 := by
  unfold decD at h ⊢
  simp only at h ⊢
  obtain ⟨h1, e1⟩ := rd1_ok h
  obtain ⟨h2, e2⟩ := stp_ok h1
  obtain ⟨h3, e3⟩ := stp_ok h2
  obtain ⟨_, e4⟩ := rd1_ok h3
  simp only at e4
  rw [e3, e2, e1] at e4
  refine e4.trans ?_
  unfold encF
  simp
/-- what is read is written as it was -/
theorem dec_enc {l : List UInt8} (h : decE l = 0) : encF (decA l).P (decA l).fl (decA l).ce (decA l).R = l ∧ chk (decA l).P (decA l).fl (decA l).ce (decA l).R = 0 := by
  have hA : decA l = (decD l).1 := by unfold decA; rw [if_pos h]
  unfold decE at h
  split at h
  · rename_i hc
    have := dec_ok hc.1
    rw [hc.2, List.append_nil] at this
    rw [hA]
    exact ⟨this.symm, h⟩
  · omega
/-- a number that four bytes can be -/
def In32 (n : Int) : Prop := -2147483648 ≤ n ∧ n < 2147483648
theorem stp_of {n : Int} (h : In32 n) (r : List UInt8) : stp (n4 n ++ r, false) = (n, (r, false)) := by
  have hl : 4 ≤ (n4 n ++ r).length := by rw [List.length_append, n4_len]; omega
  have t1 : tkT (n4 n ++ r) false 4 = n4 n := by unfold tkT; rw [if_pos ⟨rfl, hl⟩, List.take_left' (n4_len n)]
  have t2 : tkL (n4 n ++ r) false 4 = r := by unfold tkL; rw [if_pos ⟨rfl, hl⟩, List.drop_left' (n4_len n)]
  have t3 : tkS (n4 n ++ r) false 4 = false := by unfold tkS; rw [if_pos ⟨rfl, hl⟩]
  unfold stp
  simp only
  rw [t1, t2, t3, n4_eq, numL_four, num_n4 h.1 h.2]
theorem pts_of : ∀ (L : List Pt), (∀ p ∈ L, In32 p.1 ∧ In32 p.2) → ∀ (pre : List Pt) (s : RS) (r : List UInt8), stN pre.length s = (ptB L ++ r, false) → ptN pre.length s = pre → stN (pre ++ L).length s = (r, false) ∧ ptN (pre ++ L).length s = pre ++ L
  | [], _, pre, s, r, h1, h2 => by rw [List.append_nil]; exact ⟨h1, h2⟩
  | p :: L, hL, pre, s, r, h1, h2 => by
    have hp := hL p (by simp)
    have e : ptB (p :: L) ++ r = n4 p.1 ++ (n4 p.2 ++ (ptB L ++ r)) := by simp [ptB]
    have s1 : stp (stN pre.length s) = (p.1, (n4 p.2 ++ (ptB L ++ r), false)) := by rw [h1, e, stp_of hp.1]
    have s2 : stp (stp (stN pre.length s)).2 = (p.2, (ptB L ++ r, false)) := by rw [s1, stp_of hp.2]
    have k1 : stN (pre ++ [p]).length s = (ptB L ++ r, false) := by
      rw [List.length_append]
      show stN (pre.length + 1) s = _
      rw [stN, s2]
    have k2 : ptN (pre ++ [p]).length s = pre ++ [p] := by
      rw [List.length_append]
      show ptN (pre.length + 1) s = _
      rw [ptN, h2, s1, stp_of hp.2]
    have := pts_of L (fun q hq => hL q (by simp [hq])) (pre ++ [p]) s r k1 k2
    rw [List.append_assoc] at this
    exact this
theorem rd1_of {L : List Pt} (hL : ∀ p ∈ L, In32 p.1 ∧ In32 p.2) (hn : L.length ≤ 255) (r : List UInt8) : rd1 (ptsB L ++ r, false) = (L, (r, false)) := by
  have hl : 1 ≤ (ptsB L ++ r).length := by rw [List.length_append, ptsB_len]; omega
  have e : ptsB L ++ r = u8 (L.length : Int) :: (ptB L ++ r) := rfl
  have t1 : tkT (ptsB L ++ r) false 1 = [u8 (L.length : Int)] := by unfold tkT; rw [if_pos ⟨rfl, hl⟩, e]; rfl
  have t2 : tkL (ptsB L ++ r) false 1 = ptB L ++ r := by unfold tkL; rw [if_pos ⟨rfl, hl⟩, e]; rfl
  have t3 : tkS (ptsB L ++ r) false 1 = false := by unfold tkS; rw [if_pos ⟨rfl, hl⟩]
  have hc : (u8 (L.length : Int)).toNat = L.length := by
    have := u8_back (L.length : Int)
    omega
  unfold rd1
  simp only
  rw [t1, t2, t3]
  simp only [List.getD_cons_zero]
  rw [hc]
  have := pts_of L hL [] (ptB L ++ r, false) r rfl rfl
  rw [List.nil_append] at this
  rw [this.1, this.2]
theorem decD_of {P R : List Pt} {fl ce : Int} (hP : ∀ p ∈ P, In32 p.1 ∧ In32 p.2) (hR : ∀ p ∈ R, In32 p.1 ∧ In32 p.2) (hf : In32 fl) (hc : In32 ce) (h1 : P.length ≤ 255) (h2 : R.length ≤ 255) : decD (encF P fl ce R) = (⟨P, fl, ce, R⟩, ([], false)) := by
  have e : encF P fl ce R = ptsB P ++ (n4 fl ++ (n4 ce ++ (ptsB R ++ []))) := by unfold encF; simp
  unfold decD
  simp only
  rw [e, rd1_of hP h1, stp_of hf, stp_of hc, rd1_of hR h2]
theorem dec_of {P R : List Pt} {fl ce : Int} (hP : ∀ p ∈ P, In32 p.1 ∧ In32 p.2) (hR : ∀ p ∈ R, In32 p.1 ∧ In32 p.2) (hf : In32 fl) (hc : In32 ce) (h1 : P.length ≤ 255) (h2 : R.length ≤ 255) : decE (encF P fl ce R) = chk P fl ce R ∧ (chk P fl ce R = 0 → decA (encF P fl ce R) = ⟨P, fl, ce, R⟩) := by
  have hd := decD_of hP hR hf hc h1 h2
  have hE : decE (encF P fl ce R) = chk P fl ce R := by
    unfold decE
    rw [hd, if_pos ⟨rfl, rfl⟩]
  refine ⟨hE, fun h => ?_⟩
  unfold decA
  rw [hE, if_pos h, hd]
theorem fit_32 {p : Pt} (h : fitB p = true) : In32 p.1 ∧ In32 p.2 := by
  obtain ⟨a, b, c, d⟩ := fit_of h
  exact ⟨⟨by omega, by omega⟩, ⟨by omega, by omega⟩⟩
/-- what is written is read as it was -/
theorem enc_dec {P R : List Pt} {fl ce : Int} (h : chk P fl ce R = 0) : decE (encF P fl ce R) = 0 ∧ decA (encF P fl ce R) = ⟨P, fl, ce, R⟩ := by
  obtain ⟨hs, hf, hc, _, _, h8, _⟩ := chk_ok h
  obtain ⟨_, h64, hall⟩ := sim_len hs
  rw [mayB_iff] at hf hc
  have := dec_of (P := P) (R := R) (fl := fl) (ce := ce) (fun p hp => fit_32 (List.all_eq_true.1 hall p hp)) (fun p hp => fit_32 (List.all_eq_true.1 (chk_fit h) p hp)) ⟨by omega, by omega⟩ ⟨by omega, by omega⟩ (by omega) (by omega)
  rw [this.1]
  exact ⟨h, this.2 h⟩
end Go.Proofs.Ytnenbbkkhnlgbaa
