/- Sensors' frames, in plain words: written, and read. -/
import Derived.Test.YtmlcknaahpfhbaaMsM
import Derived.Test.YtmlcknaahpfhbaaCrcM
namespace Go.Proofs.Ytmlcknaahpfhbaa

/-- the widths of a sensor's fields -/
def wsS (s : Nat) : List Int := if s = 1 then [2, -2, -2, -2] else if s = 2 then [-4, -4] else if s = 3 then [-4, -4, -4, -4] else if s = 4 then [-2, -2, -2, -2, 1] else if s = 5 then [1, -4] else []
theorem wsS_cases (s : Nat) : (s = 1 ∨ s = 2 ∨ s = 3 ∨ s = 4 ∨ s = 5) ∨ ((s < 1 ∨ 5 < s) ∧ wsS s = []) := by
  by_cases h : 1 ≤ s ∧ s ≤ 5
  · left; omega
  · right
    refine ⟨by omega, ?_⟩
    unfold wsS
    repeat rw [if_neg (by omega)]
theorem wsS_wid (s : Nat) : ∀ w ∈ wsS s, Wid w := by
  rcases wsS_cases s with (h | h | h | h | h) | ⟨_, h⟩ <;> (first | (rw [h]; simp) | (subst h; unfold Wid; decide))
theorem wsS_some {s : Nat} (h : (wsS s).length ≠ 0) : 1 ≤ s ∧ s ≤ 5 := by
  rcases wsS_cases s with h1 | ⟨_, h1⟩
  · omega
  · rw [h1] at h; simp at h
/-- how many bytes a sensor's fields have -/
def toS (s : Nat) : Nat := totK (wsS s) (wsS s).length
theorem toS_le (s : Nat) : toS s ≤ 16 := by
  rcases wsS_cases s with (h | h | h | h | h) | ⟨_, h⟩ <;> (first | (unfold toS; rw [h]; decide) | (subst h; decide))
/-- the check of bytes -/
def ckS (l : List UInt8) : BitVec 16 := cadds 65535#16 l
def loS (l : List UInt8) : UInt8 := UInt8.ofNat ((ckS l).toNat % 256)
def hiS (l : List UInt8) : UInt8 := UInt8.ofNat ((ckS l).toNat / 256)
/-- a frame's bytes -/
def frS (s : Nat) (b : List UInt8) : List UInt8 := 165 :: (UInt8.ofNat s :: b ++ [loS (UInt8.ofNat s :: b), hiS (UInt8.ofNat s :: b)])
theorem frS_len (s : Nat) (b : List UInt8) : (frS s b).length = b.length + 4 := by simp [frS]
/-- what Write answers -/
def wrE (s : Nat) (ns : List Int) : Int := if (wsS s).length = 0 then 6 else if ns.length ≠ (wsS s).length then 50 else if fitsK (wsS s) ns (wsS s).length = true then 0 else 5
/-- is the frame that begins here good? its fields' bytes are those behind the kind -/
def goS (s : Nat) (l : List UInt8) : Bool := decide (toS s + 4 ≤ l.length) && (l.take (toS s + 4) == frS s ((l.drop 2).take (toS s)))
/-- what was read so far -/
structure RdS where
  out : List Int
  is : Bool
  bad : Nat
def rdS (s : Nat) : Nat → List UInt8 → RdS → RdS
  | 0, _, r => r
  | _ + 1, [], r => r
  | n + 1, b :: l, r => if b = 165 then (if goS s (b :: l) = true then rdS s n ((b :: l).drop (toS s + 4)) ⟨fieK (wsS s) (((b :: l).drop 2).take (toS s)) (wsS s).length, true, r.bad⟩ else rdS s n l ⟨r.out, r.is, r.bad + 1⟩) else rdS s n l r
/-- more fuel than bytes is as much as bytes -/
theorem rdS_fuel (s : Nat) : ∀ (n m : Nat) (l : List UInt8) (r : RdS), l.length ≤ n → l.length ≤ m → rdS s n l r = rdS s m l r
  | 0, 0, _, _, _, _ => rfl
  | 0, m + 1, l, r, h, _ => by
    cases l with
    | nil => rfl
    | cons b l => simp at h
  | n + 1, 0, l, r, _, h => by
    cases l with
    | nil => rfl
    | cons b l => simp at h
  | n + 1, m + 1, l, r, hn, hm => by
    cases l with
    | nil => rfl
    | cons b l =>
      simp only [List.length_cons] at hn hm
      unfold rdS
      split
      · split
        · exact rdS_fuel s n m _ _ (by simp only [List.length_drop, List.length_cons]; omega) (by simp only [List.length_drop, List.length_cons]; omega)
        · exact rdS_fuel s n m _ _ (by omega) (by omega)
      · exact rdS_fuel s n m _ _ (by omega) (by omega)
def reS (s : Nat) (l : List UInt8) (r : RdS) : RdS := rdS s l.length l r
theorem reS_nil (s : Nat) (r : RdS) : reS s [] r = r := rfl
theorem reS_other (s : Nat) (b : UInt8) (l : List UInt8) (r : RdS) (h : b ≠ 165) : reS s (b :: l) r = reS s l r := by
  show rdS s (l.length + 1) (b :: l) r = _
  rw [rdS, if_neg h]
  rfl
theorem reS_bad (s : Nat) (l : List UInt8) (r : RdS) (h : goS s (165 :: l) = false) : reS s (165 :: l) r = reS s l ⟨r.out, r.is, r.bad + 1⟩ := by
  show rdS s (l.length + 1) (165 :: l) r = _
  rw [rdS, if_pos rfl, if_neg (by rw [h]; decide)]
  rfl
theorem reS_good (s : Nat) (l : List UInt8) (r : RdS) (h : goS s (165 :: l) = true) : reS s (165 :: l) r = reS s ((165 :: l).drop (toS s + 4)) ⟨fieK (wsS s) (((165 :: l).drop 2).take (toS s)) (wsS s).length, true, r.bad⟩ := by
  show rdS s (l.length + 1) (165 :: l) r = _
  rw [rdS, if_pos rfl, if_pos h]
  exact rdS_fuel s _ _ _ _ (by simp only [List.length_drop, List.length_cons]; omega) (Nat.le_refl _)
/-- bytes without A5 are passed over -/
theorem reS_quiet (s : Nat) : ∀ (q l : List UInt8) (r : RdS), (∀ b ∈ q, b ≠ 165) → reS s (q ++ l) r = reS s l r
  | [], l, r, _ => rfl
  | b :: q, l, r, h => by
    rw [List.cons_append, reS_other s b _ r (h b (by simp))]
    exact reS_quiet s q l r (fun c hc => h c (by simp [hc]))
theorem take_frame (s : Nat) (b l : List UInt8) (hb : b.length = toS s) : (frS s b ++ l).take (toS s + 4) = frS s b ∧ (frS s b ++ l).drop (toS s + 4) = l ∧ ((frS s b ++ l).drop 2).take (toS s) = b := by
  have hl := frS_len s b
  refine ⟨List.take_left' (by omega), List.drop_left' (by omega), ?_⟩
  have e : (frS s b ++ l).drop 2 = b ++ ([loS (UInt8.ofNat s :: b), hiS (UInt8.ofNat s :: b)] ++ l) := by simp [frS]
  rw [e, List.take_left' hb]
theorem goS_frame (s : Nat) (b l : List UInt8) (hb : b.length = toS s) : goS s (frS s b ++ l) = true := by
  unfold goS
  obtain ⟨h1, _, h3⟩ := take_frame s b l hb
  rw [h1, h3]
  have hl := frS_len s b
  simp
  omega
/-- a good frame is read -/
theorem reS_frame (s : Nat) (b l : List UInt8) (r : RdS) (hb : b.length = toS s) : reS s (frS s b ++ l) r = reS s l ⟨fieK (wsS s) b (wsS s).length, true, r.bad⟩ := by
  obtain ⟨_, h2, h3⟩ := take_frame s b l hb
  have hg := goS_frame s b l hb
  have e : frS s b ++ l = 165 :: ((UInt8.ofNat s :: b ++ [loS (UInt8.ofNat s :: b), hiS (UInt8.ofNat s :: b)]) ++ l) := rfl
  rw [e] at h2 h3 hg ⊢
  rw [reS_good s _ r hg, h2, h3]
/-- what is written is read -/
theorem reS_written (s : Nat) (ns : List Int) (l : List UInt8) (r : RdS) (h : wrE s ns = 0) : reS s (frS s (payK (wsS s) ns (wsS s).length) ++ l) r = reS s l ⟨ns, true, r.bad⟩ := by
  unfold wrE at h
  split at h
  · omega
  · split at h
    · omega
    · split at h
      · rename_i h1 h2 h3
        rw [reS_frame s _ l r (payK_len _ _ _), fie_pay _ _ (wsS_wid s) (by omega) h3]
      · omega
/-- nothing is made up -/
def marks (l : List UInt8) : Nat := (l.filter (fun b => b == 165)).length
theorem marks_cons (b : UInt8) (l : List UInt8) : marks (b :: l) = (if b = 165 then 1 else 0) + marks l := by
  unfold marks
  rw [List.filter_cons]
  by_cases h : b = 165
  · rw [if_pos (by simpa using h), if_pos h, List.length_cons]; omega
  · rw [if_neg (by simpa using h), if_neg h]; omega
theorem marks_drop (l : List UInt8) : ∀ k, marks (l.drop k) ≤ marks l := by
  induction l with
  | nil => intro k; simp
  | cons b l ih =>
    intro k
    cases k with
    | zero => exact Nat.le_refl _
    | succ k => rw [List.drop_succ_cons, marks_cons]; have := ih k; omega
/-- what a reading says of the bytes -/
def Says (s : Nat) (L : List UInt8) (r : RdS) : Prop := r.is = true → ∃ pre b post, L = pre ++ frS s b ++ post ∧ b.length = toS s ∧ r.out = fieK (wsS s) b (wsS s).length
theorem reS_stands (s : Nat) (L : List UInt8) : ∀ (n : Nat) (pre l : List UInt8) (r : RdS), l.length ≤ n → L = pre ++ l → Says s L r → Says s L (reS s l r) ∧ (reS s l r).bad ≤ r.bad + marks l ∧ ((reS s l r).is = true → r.is = true ∨ (reS s l r).bad < r.bad + marks l)
  | 0, pre, l, r, hn, hL, hs => by
    have e : l = [] := List.eq_nil_of_length_eq_zero (Nat.le_zero.1 hn)
    subst e
    rw [reS_nil]; exact ⟨hs, by omega, fun h => .inl h⟩
  | n + 1, pre, l, r, hn, hL, hs => by
    cases l with
    | nil => rw [reS_nil]; exact ⟨hs, by omega, fun h => .inl h⟩
    | cons b l =>
      rw [List.length_cons] at hn
      by_cases h : b = 165
      · subst h
        cases hg : goS s (165 :: l) with
        | false =>
          rw [reS_bad s l r hg, marks_cons, if_pos rfl]
          have := reS_stands s L n (pre ++ [165]) l ⟨r.out, r.is, r.bad + 1⟩ (by omega) (by rw [hL]; simp) hs
          exact ⟨this.1, by have := this.2.1; simp only at this; omega, fun h => by
            rcases this.2.2 h with h | h
            · exact .inl h
            · right; simp only at h; omega⟩
        | true =>
          rw [reS_good s l r hg, marks_cons, if_pos rfl]
          unfold goS at hg
          rw [Bool.and_eq_true, decide_eq_true_eq, beq_iff_eq] at hg
          have hlen : (((165 :: l).drop 2).take (toS s)).length = toS s := by
            rw [List.length_take, List.length_drop]; omega
          have hd := marks_drop l (toS s + 3)
          have e4 : (165 :: l).drop (toS s + 4) = l.drop (toS s + 3) := rfl
          have := reS_stands s L n (pre ++ (165 :: l).take (toS s + 4)) ((165 :: l).drop (toS s + 4)) ⟨fieK (wsS s) (((165 :: l).drop 2).take (toS s)) (wsS s).length, true, r.bad⟩ (by simp only [List.length_drop, List.length_cons]; omega) (by rw [hL, List.append_assoc, List.take_append_drop]) (fun _ => ⟨pre, _, (165 :: l).drop (toS s + 4), by rw [hL, ← hg.2, List.append_assoc, List.take_append_drop], hlen, rfl⟩)
          rw [e4] at this ⊢
          exact ⟨this.1, by have := this.2.1; simp only at this; omega, fun _ => by right; have := this.2.1; simp only at this; omega⟩
      · rw [reS_other s b l r h, marks_cons, if_neg h]
        have := reS_stands s L n (pre ++ [b]) l r (by omega) (by rw [hL]; simp) hs
        exact ⟨this.1, by omega, fun hh => by
          rcases this.2.2 hh with h | h
          · exact .inl h
          · right; omega⟩
/-- where no A5 begins a good frame none is read -/
theorem reS_none (s : Nat) : ∀ (l : List UInt8) (r : RdS), (∀ k, goS s (l.drop k) = false ∨ l.getD k 0 ≠ 165) → reS s l r = ⟨r.out, r.is, r.bad + marks l⟩
  | [], r, _ => rfl
  | b :: l, r, h => by
    have hl : ∀ k, goS s (l.drop k) = false ∨ l.getD k 0 ≠ 165 := fun k => by
      have := h (k + 1)
      rwa [List.drop_succ_cons, List.getD_cons_succ] at this
    by_cases e : b = 165
    · subst e
      have h0 : goS s (165 :: l) = false := by
        rcases h 0 with h | h
        · exact h
        · exact absurd rfl h
      rw [reS_bad s l r h0, reS_none s l _ hl, marks_cons, if_pos rfl]
      simp only [RdS.mk.injEq, true_and]
      omega
    · rw [reS_other s b l r e, reS_none s l r hl, marks_cons, if_neg e]
      simp only [RdS.mk.injEq, true_and]
      omega
/-- a frame that stands wholly needs its bytes -/
theorem goS_short (s : Nat) (l : List UInt8) (h : l.length < toS s + 4) : goS s l = false := by
  unfold goS
  rw [decide_eq_false (by omega), Bool.false_and]
/-- a good frame is one -/
theorem goS_frm {s : Nat} {l : List UInt8} (h : goS s l = true) : toS s + 4 ≤ l.length ∧ l.take (toS s + 4) = frS s ((l.drop 2).take (toS s)) := by
  unfold goS at h
  rw [Bool.and_eq_true, decide_eq_true_eq, beq_iff_eq] at h
  exact h
/-- one sensor's frame is none of another's -/
theorem goS_other {s t : Nat} (hs : s < 256) (ht : t < 256) (hne : s ≠ t) (b l : List UInt8) : goS t (frS s b ++ l) = false := by
  cases hg : goS t (frS s b ++ l) with
  | false => rfl
  | true =>
    exfalso
    obtain ⟨_, h2⟩ := goS_frm hg
    have h3 : ((frS s b ++ l).take (toS t + 4)).getD 1 0 = (frS t (((frS s b ++ l).drop 2).take (toS t))).getD 1 0 := congrArg (fun x : List UInt8 => x.getD 1 0) h2
    have e1 : ((frS s b ++ l).take (toS t + 4)).getD 1 0 = UInt8.ofNat s := by
      rw [List.getD, List.getElem?_take, if_pos (by omega)]
      rfl
    have e2 : (frS t (((frS s b ++ l).drop 2).take (toS t))).getD 1 0 = UInt8.ofNat t := rfl
    rw [e1, e2] at h3
    have h4 := congrArg UInt8.toNat h3
    rw [UInt8.toNat_ofNat', UInt8.toNat_ofNat'] at h4
    omega
theorem ck_turn (p q : List UInt8) (a b : UInt8) (h : ckS (p ++ a :: q) = ckS (p ++ b :: q)) : a = b := by
  unfold ckS cadds at h
  rw [List.foldl_append, List.foldl_append, List.foldl_cons, List.foldl_cons] at h
  exact cadd_bytes _ _ _ (cadds_nums q _ _ h)
theorem ck_of {l m : List UInt8} (h1 : loS l = loS m) (h2 : hiS l = hiS m) : ckS l = ckS m := by
  have a1 := congrArg UInt8.toNat h1
  have a2 := congrArg UInt8.toNat h2
  unfold loS at a1
  unfold hiS at a2
  rw [UInt8.toNat_ofNat', UInt8.toNat_ofNat'] at a1 a2
  have b1 := (ckS l).isLt
  have b2 := (ckS m).isLt
  refine BitVec.eq_of_toNat_eq ?_
  omega
theorem xor_self {a x : UInt8} (h : a = a ^^^ x) : x = 0 := by
  have : a ^^^ a = a ^^^ (a ^^^ x) := congrArg (a ^^^ ·) h
  rw [UInt8.xor_self, ← UInt8.xor_assoc, UInt8.xor_self, UInt8.zero_xor] at this
  exact this.symm
theorem split_at (b : List UInt8) (j : Nat) (h : j < b.length) (y : UInt8) : b = b.take j ++ b.getD j 0 :: b.drop (j + 1) ∧ b.set j y = b.take j ++ y :: b.drop (j + 1) := by
  constructor
  · have e : b.getD j 0 :: b.drop (j + 1) = b.drop j := by
      rw [List.drop_eq_getElem_cons h, List.getD, List.getElem?_eq_getElem h]
      rfl
    rw [e, List.take_append_drop]
  · exact List.set_eq_take_append_cons_drop.trans (if_pos h)
/-- a frame with a turned byte is not good -/
theorem goS_turned (s : Nat) (b : List UInt8) (hb : b.length = toS s) (i : Nat) (h2 : 2 ≤ i) (hi : i < b.length + 4) (x : UInt8) (hx : x ≠ 0) : goS s ((frS s b).set i ((frS s b).getD i 0 ^^^ x)) = false := by
  cases hg : goS s ((frS s b).set i ((frS s b).getD i 0 ^^^ x)) with
  | false => rfl
  | true =>
    exfalso
    obtain ⟨_, he⟩ := goS_frm hg
    rw [List.take_of_length_le (by rw [List.length_set, frS_len, hb]; exact Nat.le_refl _)] at he
    obtain ⟨j, rfl⟩ : ∃ j, i = j + 2 := ⟨i - 2, by omega⟩
    have e1 : ∀ y, (frS s b).set (j + 2) y = 165 :: UInt8.ofNat s :: (b ++ [loS (UInt8.ofNat s :: b), hiS (UInt8.ofNat s :: b)]).set j y := fun y => rfl
    have e2 : (frS s b).getD (j + 2) 0 = (b ++ [loS (UInt8.ofNat s :: b), hiS (UInt8.ofNat s :: b)]).getD j 0 := rfl
    rw [e1, e2] at he
    have e3 : ∀ m : List UInt8, (165 :: UInt8.ofNat s :: m).drop 2 = m := fun m => rfl
    rw [e3] at he
    by_cases hj : j < b.length
    · have e4 : (b ++ [loS (UInt8.ofNat s :: b), hiS (UInt8.ofNat s :: b)]).getD j 0 = b.getD j 0 := by rw [List.getD, List.getD, List.getElem?_append_left hj]
      rw [e4, List.set_append_left _ _ hj, List.take_left' (by rw [List.length_set]; exact hb)] at he
      unfold frS at he
      injection he with _ he
      have he : UInt8.ofNat s :: (b.set j (b.getD j 0 ^^^ x) ++ [loS (UInt8.ofNat s :: b), hiS (UInt8.ofNat s :: b)]) = UInt8.ofNat s :: (b.set j (b.getD j 0 ^^^ x) ++ [loS (UInt8.ofNat s :: b.set j (b.getD j 0 ^^^ x)), hiS (UInt8.ofNat s :: b.set j (b.getD j 0 ^^^ x))]) := he
      injection he with _ he
      have he := List.append_cancel_left he
      injection he with h3 h4
      injection h4 with h4 _
      have hc := ck_of h3 h4
      obtain ⟨s1, s2⟩ := split_at b j hj (b.getD j 0 ^^^ x)
      rw [s2] at hc
      have s3 : UInt8.ofNat s :: b = (UInt8.ofNat s :: b.take j) ++ b.getD j 0 :: b.drop (j + 1) := by rw [List.cons_append, ← s1]
      rw [s3, ← List.cons_append] at hc
      exact hx (xor_self (ck_turn _ _ _ _ hc))
    · rw [List.set_append_right _ _ (by omega), List.take_left' hb] at he
      unfold frS at he
      injection he with _ he
      have he : UInt8.ofNat s :: (b ++ _) = UInt8.ofNat s :: (b ++ [loS (UInt8.ofNat s :: b), hiS (UInt8.ofNat s :: b)]) := he
      injection he with _ he
      have he := List.append_cancel_left he
      have e5 : (b ++ [loS (UInt8.ofNat s :: b), hiS (UInt8.ofNat s :: b)]).getD j 0 = [loS (UInt8.ofNat s :: b), hiS (UInt8.ofNat s :: b)].getD (j - b.length) 0 := by rw [List.getD, List.getD, List.getElem?_append_right (by omega)]
      rw [e5] at he
      have hk : j - b.length = 0 ∨ j - b.length = 1 := by omega
      rcases hk with hk | hk
      · rw [hk] at he
        injection he with he _
        exact hx (xor_self he.symm)
      · rw [hk] at he
        injection he with _ he
        injection he with he _
        exact hx (xor_self he.symm)
/-- and nothing is read of it -/
theorem reS_turned (s : Nat) (b : List UInt8) (hb : b.length = toS s) (i : Nat) (h2 : 2 ≤ i) (hi : i < b.length + 4) (x : UInt8) (hx : x ≠ 0) (r : RdS) : reS s ((frS s b).set i ((frS s b).getD i 0 ^^^ x)) r = ⟨r.out, r.is, r.bad + marks ((frS s b).set i ((frS s b).getD i 0 ^^^ x))⟩ := by
  refine reS_none s _ r fun k => .inl ?_
  cases k with
  | zero => exact goS_turned s b hb i h2 hi x hx
  | succ k => exact goS_short s _ (by rw [List.length_drop, List.length_set, frS_len]; omega)
/-- a frame of another sensor, without A5 behind its first byte, is not read -/
theorem reS_others {s t : Nat} (hs : s < 256) (ht : t < 256) (hne : s ≠ t) (b : List UInt8) (h : ∀ k, (frS s b).getD (k + 1) 0 ≠ 165) (r : RdS) : reS t (frS s b) r = ⟨r.out, r.is, r.bad + marks (frS s b)⟩ := by
  refine reS_none t _ r fun k => ?_
  cases k with
  | zero =>
    left
    have := goS_other hs ht hne b []
    rw [List.append_nil] at this
    exact this
  | succ k => exact .inr (h k)
theorem marks_head (l : List UInt8) : 1 ≤ marks (165 :: l) := by rw [marks_cons, if_pos rfl]; omega
end Go.Proofs.Ytmlcknaahpfhbaa
