/- What is read stands in the bytes as it is written; what is written is read. -/
import Derived.Test.YtgdjphiicgiegaaFr6
namespace Go.Proofs.Ytgdjphiicgiegaa

theorem four {l : List UInt8} (h : 4 ≤ l.length) : ∃ a b c d t, l = a :: b :: c :: d :: t := by
  match l, h with
  | a :: b :: c :: d :: t, _ => exact ⟨a, b, c, d, t, rfl⟩
theorem take_two (t : List UInt8) (n : Nat) (h : n + 2 ≤ t.length) : t.take (n + 2) = t.take n ++ [t.getD n 0, t.getD (n + 1) 0] := by
  have e1 : t.take (n + 1 + 1) = t.take (n + 1) ++ [t[n + 1]] := List.take_succ_eq_append_getElem (by omega)
  have e2 : t.take (n + 1) = t.take n ++ [t[n]] := List.take_succ_eq_append_getElem (by omega)
  have e3 : t.getD n 0 = t[n] := by simp [List.getD, List.getElem?_eq_getElem (by omega : n < t.length)]
  have e4 : t.getD (n + 1) 0 = t[n + 1] := by simp [List.getD, List.getElem?_eq_getElem (by omega : n + 1 < t.length)]
  rw [e3, e4, show n + 2 = n + 1 + 1 from rfl, e1, e2, List.append_assoc]
  rfl
theorem ofNat_toNat (b : UInt8) : UInt8.ofNat b.toNat = b := by simp
/-- a good frame's bytes are the ones that Encode writes -/
theorem enc_good {l : List UInt8} (h0 : l.getD 0 0 = 253) (h6 : 6 + lenB l ≤ l.length) (hg : goodB l = true) : encF (frB l) = l.take (6 + lenB l) := by
  obtain ⟨a, b, c, d, t, rfl⟩ := four (l := l) (by omega)
  have e0 : a = 253 := h0
  have e1 : lenB (a :: b :: c :: d :: t) = b.toNat := rfl
  rw [e1] at h6 ⊢
  have ht : b.toNat + 2 ≤ t.length := by simp at h6; omega
  have ep : (frB (a :: b :: c :: d :: t)).2.2.data.toList = t.take b.toNat := by
    show (((a :: b :: c :: d :: t).drop 4).take (lenB (a :: b :: c :: d :: t))).toArray.toList = _
    rw [e1]; rfl
  have es : (frB (a :: b :: c :: d :: t)).2.2.size = b.toNat := by
    rw [← list_size, ep, List.length_take]; omega
  have hg' : chk (b :: c :: d :: t.take b.toNat) d = word (t.getD b.toNat 0) (t.getD (b.toNat + 1) 0) := by
    unfold goodB at hg
    rw [e1] at hg
    have e2 : ((a :: b :: c :: d :: t).drop 1).take (3 + b.toNat) = b :: c :: d :: t.take b.toNat := by
      rw [show 3 + b.toNat = b.toNat + 1 + 1 + 1 by omega]; rfl
    have e3 : (a :: b :: c :: d :: t).getD (4 + b.toNat) 0 = t.getD b.toNat 0 := by
      rw [show 4 + b.toNat = b.toNat + 1 + 1 + 1 + 1 by omega]; rfl
    have e4 : (a :: b :: c :: d :: t).getD (5 + b.toNat) 0 = t.getD (b.toNat + 1) 0 := by
      rw [show 5 + b.toNat = b.toNat + 1 + 1 + 1 + 1 + 1 by omega]; rfl
    rw [e2, e3, e4] at hg
    simpa using hg
  unfold encF encL
  rw [es, ep]
  have q1 : UInt8.ofNat (frB (a :: b :: c :: d :: t)).1.toNat = c := by
    show UInt8.ofNat ((c.toNat : Int)).toNat = c
    rw [Int.toNat_natCast, ofNat_toNat]
  have q2 : UInt8.ofNat (frB (a :: b :: c :: d :: t)).2.1.toNat = d := by
    show UInt8.ofNat ((d.toNat : Int)).toNat = d
    rw [Int.toNat_natCast, ofNat_toNat]
  rw [q1, q2, ofNat_toNat, hg', word_low, word_high, ← take_two t b.toNat ht, e0, show 6 + b.toNat = b.toNat + 2 + 1 + 1 + 1 + 1 by omega]
  rfl
theorem frB_right {l : List UInt8} (h64 : lenB l ≤ 64) : Right (frB l) := by
  have h2 := (l.getD 2 0).toNat_lt
  have h3 := (l.getD 3 0).toNat_lt
  refine ⟨?_, ?_, ?_, ?_, ?_⟩
  · show (0 : Int) ≤ ((l.getD 2 0).toNat : Int); omega
  · show ((l.getD 2 0).toNat : Int) ≤ 255; omega
  · show (0 : Int) ≤ ((l.getD 3 0).toNat : Int); omega
  · show ((l.getD 3 0).toNat : Int) ≤ 255; omega
  · show (((l.drop 4).take (lenB l)).toArray).size ≤ 64
    rw [List.size_toArray, List.length_take]; omega
theorem step_none_rest {l m : List UInt8} {b : Nat} (h : step l = some (none, b, m)) : m = l.drop 1 ∧ 0 < l.length := by
  cases l with
  | nil => simp [step] at h
  | cons x t =>
    rw [step_cons] at h
    split at h
    · split at h
      · cases h
      · split at h
        · cases h; simp
        · split at h
          · cases h
          · split at h
            · cases h
            · cases h; simp
    · cases h; simp
/-- frames that stand in a row one behind the other, from a place on; behind them h bytes -/
def Pos (d : List UInt8) (h : Nat) : List Fr → Nat → Prop
  | [], a => a + h ≤ d.length
  | f :: fs, a => ∃ k, a ≤ k ∧ k + (encF f).length ≤ d.length ∧ (d.drop k).take (encF f).length = encF f ∧ Pos d h fs (k + (encF f).length)
theorem Pos.mono {d : List UInt8} {h : Nat} {fs : List Fr} {a b : Nat} (hp : Pos d h fs a) (hb : b ≤ a) : Pos d h fs b := by
  cases fs with
  | nil => simp only [Pos] at hp ⊢; omega
  | cons f fs =>
    obtain ⟨k, h1, h2⟩ := hp
    exact ⟨k, by omega, h2⟩
theorem rd_pos (d l : List UInt8) : ∀ a, a ≤ d.length → l = d.drop a → Pos d (rd l).2.2.length (rd l).1 a ∧ ∀ f ∈ (rd l).1, Right f := by
  refine rd_ind (p := fun l => ∀ a, a ≤ d.length → l = d.drop a → Pos d (rd l).2.2.length (rd l).1 a ∧ ∀ f ∈ (rd l).1, Right f) ?_ ?_ l
  · intro l h a ha e
    rw [rd_stop h]
    refine ⟨?_, by simp⟩
    show a + l.length ≤ d.length
    rw [e, List.length_drop]; omega
  · intro l f b m h ih a ha e
    rw [rd_step h]
    cases f with
    | none =>
      obtain ⟨e2, h0⟩ := step_none_rest h
      rw [e, List.length_drop] at h0
      have := ih (a + 1) (by omega) (by rw [e2, e, List.drop_drop])
      exact ⟨this.1.mono (by omega), by simpa using this.2⟩
    | some f =>
      obtain ⟨_, hl, rfl, hg, h64, h6, hm, h0⟩ := step_good h
      have he := enc_good h0 h6 hg
      have hel : (encF (frB l)).length = 6 + lenB l := by rw [he, List.length_take]; omega
      have hld : l.length = d.length - a := by rw [e, List.length_drop]
      have := ih (a + (6 + lenB l)) (by omega) (hm.trans ((fun q => by rw [e, List.drop_drop] : ∀ q, l.drop q = d.drop (a + q)) _))
      refine ⟨?_, ?_⟩
      · refine ⟨a, Nat.le_refl _, by omega, ?_, ?_⟩
        · rw [hel, ← e, he]
        · rw [hel]; exact this.1
      · intro g hg2
        simp at hg2
        rcases hg2 with rfl | hg2
        · exact frB_right h64
        · exact this.2 g hg2
end Go.Proofs.Ytgdjphiicgiegaa
