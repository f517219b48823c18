/- Multiplying digits: the mathematics of the two loops, and the memory that they work on. -/
import Derived.Test.YtpoodmfhcoaleaaPlusAny
namespace Go.Proofs.Ytpoodmfhcoaleaa
open Go.RowKit

theorem val_set (ds : List Int) (j : Nat) (x : Int) (h : j < ds.length) : val (ds.set j x) = val ds + 1073741824 ^ j * (x - ds.getD j 0) := by
  induction ds generalizing j with
  | nil => simp at h
  | cons d r ih =>
    cases j with
    | zero => simp [val]; omega
    | succ j =>
      have := ih j (by simpa using h)
      simp only [List.set_cons_succ, val, this, Int.pow_succ]
      have e : r.getD j 0 = (d :: r).getD (j + 1) 0 := by simp
      rw [e, Int.mul_add, ← Int.mul_assoc, Int.mul_comm 1073741824 (1073741824 ^ j)]
      omega
theorem getD_set (ds : List Int) (i j : Nat) (x : Int) (h : j < ds.length) : (ds.set j x).getD i 0 = if i = j then x else ds.getD i 0 := by
  by_cases e : i = j
  · subst e; simp [List.getD_eq_getElem?_getD, h]
  · simp [List.getD_eq_getElem?_getD, e, Ne.symm e]
theorem Dig.set {ds : List Int} (h : Dig ds) (j : Nat) (x : Int) (h0 : 0 ≤ x) (h1 : x ≤ 1073741823) (hj : j < ds.length) : Dig (ds.set j x) := by
  intro i hi
  rw [getD_set ds i j x hj]
  split
  · exact ⟨h0, h1⟩
  · exact h i (by simpa using hi)
theorem dig_mul (a b : Int) (h : 0 ≤ a) (h' : a ≤ 1073741823) (g : 0 ≤ b) (g' : b ≤ 1073741823) : 0 ≤ a * b ∧ a * b ≤ 1152921502459363329 :=
  ⟨Int.mul_nonneg h g, Int.mul_le_mul h' g' g (by omega)⟩
theorem val_zeros (n : Nat) : val (List.replicate n 0) = 0 := by
  induction n with
  | zero => rfl
  | succ n ih => simp [List.replicate_succ, val, ih]
theorem getD_zeros (n i : Nat) : (List.replicate n (0 : Int)).getD i 0 = 0 := by
  simp [List.getD_eq_getElem?_getD, List.getElem?_replicate]
  split <;> rfl

/-- behind k rounds of the inner loop -/
def Inner (os0 os b : List Int) (i k : Nat) (p c : Int) : Prop :=
  os.length = os0.length ∧ Dig os ∧ 0 ≤ c ∧ c ≤ 1073741823 ∧ (∀ j, i + k ≤ j → os.getD j 0 = os0.getD j 0) ∧ val os + 1073741824 ^ (i + k) * c = val os0 + 1073741824 ^ i * (p * val (b.take k))
theorem inner_step {os0 os b : List Int} {i k : Nat} {p c s : Int} (h : Inner os0 os b i k p c) (hk : i + k < os0.length) (hp : 0 ≤ p) (hp' : p ≤ 1073741823) (hb : Dig b) (hs : s = os.getD (i + k) 0 + p * b.getD k 0 + c) :
    Inner os0 (os.set (i + k) (s % 1073741824)) b i (k + 1) p (s / 1073741824) ∧ 0 ≤ s ∧ s ≤ 1152921504606846975 := by
  obtain ⟨h1, h2, h3, h4, h5, h6⟩ := h
  have hd := hb.at k
  have hm := dig_mul p (b.getD k 0) hp hp' hd.1 hd.2
  have ho := h2.at (i + k)
  refine ⟨⟨by simpa using h1, h2.set _ _ (by omega) (by omega) (by omega), by omega, by omega, fun j hj => ?_, ?_⟩, by omega, by omega⟩
  · rw [getD_set _ _ _ _ (by omega), if_neg (by omega)]
    exact h5 j (by omega)
  · rw [val_set _ _ _ (by omega), val_take_succ, show i + (k + 1) = (i + k) + 1 by omega, Int.pow_succ]
    have e1 : (1073741824 : Int) ^ (i + k) * (s % 1073741824 - os.getD (i + k) 0) + 1073741824 ^ (i + k) * 1073741824 * (s / 1073741824) = 1073741824 ^ (i + k) * c + 1073741824 ^ (i + k) * (p * b.getD k 0) := by
      rw [Int.mul_assoc, ← Int.mul_add, ← Int.mul_add]; congr 1; omega
    have e2 : (1073741824 : Int) ^ i * (p * (val (b.take k) + 1073741824 ^ k * b.getD k 0)) = 1073741824 ^ i * (p * val (b.take k)) + 1073741824 ^ (i + k) * (p * b.getD k 0) := by
      rw [Int.mul_add p, Int.mul_add, Int.pow_add]
      congr 1
      rw [Int.mul_assoc, ← Int.mul_assoc p, Int.mul_comm p, Int.mul_assoc (1073741824 ^ k) p]
    omega
theorem inner_start (os0 b : List Int) (i : Nat) (p : Int) (h : Dig os0) : Inner os0 os0 b i 0 p 0 :=
  ⟨rfl, h, by omega, by omega, fun _ _ => rfl, by simp [val]⟩
/-- behind i rounds of the outer loop -/
def Outer (os a b : List Int) (i : Nat) : Prop :=
  os.length = a.length + b.length ∧ Dig os ∧ (∀ j, i + b.length ≤ j → os.getD j 0 = 0) ∧ val os = val (a.take i) * val b
theorem outer_start (a b : List Int) : Outer (List.replicate (a.length + b.length) 0) a b 0 :=
  ⟨by simp, fun i _ => by rw [getD_zeros]; omega, fun j _ => getD_zeros _ _, by simp [val_zeros, val]⟩
theorem outer_step {os0 os a b : List Int} {i : Nat} {p c : Int} (h0 : Outer os0 a b i) (h : Inner os0 os b i b.length p c) (hi : i < a.length) (hp : p = a.getD i 0) :
    os.getD (i + b.length) 0 = 0 ∧ Outer (os.set (i + b.length) (0 + c)) a b (i + 1) := by
  obtain ⟨g1, g2, g3, g4⟩ := h0
  obtain ⟨h1, h2, h3, h4, h5, h6⟩ := h
  have hz : os.getD (i + b.length) 0 = 0 := by rw [h5 _ (Nat.le_refl _)]; exact g3 _ (Nat.le_refl _)
  refine ⟨hz, by simpa using h1.trans g1, h2.set _ _ (by omega) (by omega) (by omega), fun j hj => ?_, ?_⟩
  · rw [getD_set _ _ _ _ (by omega), if_neg (by omega), h5 j (by omega)]
    exact g3 j (by omega)
  · rw [val_set _ _ _ (by omega), hz, val_take_succ, Int.add_mul]
    rw [List.take_of_length_le (Nat.le_refl _)] at h6
    have e : (1073741824 : Int) ^ i * (p * val b) = 1073741824 ^ i * a.getD i 0 * val b := by rw [hp, Int.mul_assoc]
    have e2 : (1073741824 : Int) ^ (i + b.length) * (0 + c - 0) = 1073741824 ^ (i + b.length) * c := by congr 1; omega
    omega

/-- the memory of Times: two boxes, the struct that is handed back, and the row that is worked on -/
structure TMem (w wr : World) (s t : Bool) (va vb : Value) (g n : Nat) (os : List Int) : Prop where
  a0 : wr.cell? ⟨w.heap.size, 0, none⟩ = some (.bool s)
  a1 : wr.cell? ⟨w.heap.size, 1, none⟩ = some va
  b0 : wr.cell? ⟨w.heap.size + 1, 0, none⟩ = some (.bool t)
  b1 : wr.cell? ⟨w.heap.size + 1, 1, none⟩ = some vb
  r0 : wr.cell? ⟨w.heap.size + 2, 0, none⟩ = some (.bool false)
  r1 : wr.cell? ⟨w.heap.size + 2, 1, none⟩ = some (.slice none 0 0)
  f0 : wr.frozen? ⟨w.heap.size + 2, 0, none⟩ = false
  f1 : wr.frozen? ⟨w.heap.size + 2, 1, none⟩ = false
  own : wr.ownsRow (w.heap.size + 3) 3 1 (.slice (some ⟨g, 0, none⟩) n n) n (os.map (Value.int .i64))
  bel : Below w.heap.size w wr
  ge : w.heap.size + 3 ≤ g
theorem TMem.at {w wr : World} {s t : Bool} {va vb : Value} {g n : Nat} {os : List Int} (h : TMem w wr s t va vb g n os) (hn : n = os.length) (j : Nat) (hj : j < n) : wr.cell? ⟨g, j, none⟩ = some (.int .i64 (os.getD j 0)) := by
  rw [h.own.cellAt j (by omega)]
  simp [List.getD_eq_getElem?_getD, List.getElem?_eq_getElem (show j < os.length by omega)]
theorem TMem.set {w wr : World} {s t : Bool} {va vb : Value} {g n : Nat} {os : List Int} (h : TMem w wr s t va vb g n os) (j : Nat) (x : Int) :
    TMem w (wr.setCell ⟨g, j, none⟩ (.int .i64 x)) s t va vb g n (os.set j x) := by
  have hg := h.ge
  refine ⟨?_, ?_, ?_, ?_, ?_, ?_, ?_, ?_, ?_, ?_, hg⟩
  · rw [World.cell?_setCell_other _ _ _ _ (by simp <;> omega)]; exact h.a0
  · rw [World.cell?_setCell_other _ _ _ _ (by simp <;> omega)]; exact h.a1
  · rw [World.cell?_setCell_other _ _ _ _ (by simp <;> omega)]; exact h.b0
  · rw [World.cell?_setCell_other _ _ _ _ (by simp <;> omega)]; exact h.b1
  · rw [World.cell?_setCell_other _ _ _ _ (by simp <;> omega)]; exact h.r0
  · rw [World.cell?_setCell_other _ _ _ _ (by simp <;> omega)]; exact h.r1
  · rw [World.frozen?_setCell]; exact h.f0
  · rw [World.frozen?_setCell]; exact h.f1
  · have := (h.own.stored j (.int .i64 x)).1
    rw [List.map_set]
    exact this
  · exact h.bel.setCell (by show w.heap.size ≤ g; omega) _
theorem TMem.drewN {w wr : World} {s t : Bool} {va vb : Value} {g n : Nat} {os : List Int} (h : TMem w wr s t va vb g n os) (q : Nat) : TMem w (wr.drewN q) s t va vb g n os :=
  ⟨h.a0, h.a1, h.b0, h.b1, h.r0, h.r1, h.f0, h.f1, h.own, below_draw h.bel q, h.ge⟩
end Go.Proofs.Ytpoodmfhcoaleaa
