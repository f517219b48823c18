/- A put on what lives; the block of what is known. -/
import Derived.Test.YtcjahdgppnmdkaaSoK
set_option maxRecDepth 100000
namespace Go.Proofs.Ytcjahdgppnmdkaa
open Go.RowKit Go.Great

theorem move_on {σ : St} {s : Sv} {id : Int} {v : List UInt8} (h : On σ) : ∀ τ s', moveS σ s id v = (τ, some s') → On τ := by
  intro τ s' e
  unfold moveS at e
  cases hb : (eraseS σ (1 - s.ac)).2
  · rw [hb] at e; simp only [Bool.false_eq_true, if_false] at e; injection e with _ e; cases e
  · rw [hb] at e
    simp only [if_true] at e
    have h1 := eraseS_on h hb
    cases hb2 : (eachS s.ac s.k id v 0 3 ⟨(eraseS σ (1 - s.ac)).1, 1, kz⟩).2
    · rw [hb2] at e; simp only [Bool.false_eq_true, if_false] at e; injection e with _ e; cases e
    · rw [hb2] at e
      simp only [if_true] at e
      have h2 := eachS_on s.ac s.k id v 3 0 ⟨(eraseS σ (1 - s.ac)).1, 1, kz⟩ h1 hb2
      split at e
      · rename_i hb3
        injection e with e1 _
        rw [← e1]
        exact progS_on _ _ _ h2 hb3
      · injection e with _ e; cases e
theorem wri_on {σ : St} {s : Sv} {i : Nat} {v : List UInt8} (h : On σ) : ∀ τ s', wriS σ s i v = (τ, some s') → On τ := by
  intro τ s' e
  unfold wriS at e
  split at e
  · cases hb : (addS s.ac i v ⟨σ, s.en, s.k⟩).2
    · rw [hb] at e; simp only [Bool.false_eq_true, if_false] at e; injection e with _ e; cases e
    · rw [hb] at e
      simp only [if_true] at e
      injection e with e1 _
      rw [← e1, addS_σ]
      rw [addS_2] at hb
      exact progS_on _ _ _ h hb
  · exact move_on h τ s' e
/-- what a put leaves of what lives -/
def PutK (σ : St) (s : Sv) (V : Vl) (id : Int) (v : List UInt8) (x : St × Option Sv × Int) : Prop :=
  ((¬ (0 ≤ id ∧ id < 3) ∨ 2000 < v.length) ∧ x = (σ, some s, 1)) ∨
  ∃ i : Nat, i < 3 ∧ id = (i : Int) ∧ v.length ≤ 2000 ∧ (x = (σ, some s, 70) ∨ (∃ τ s', x = (τ, some s', 0) ∧ Live τ.C s' (updV V i v) ∧ On τ) ∨ ∃ τ, x = (τ, none, 60) ∧ (Upx τ.C V ∨ Upx τ.C (updV V i v)))
theorem put_live {σ : St} {s : Sv} {V : Vl} (h : Live σ.C s V) (hon : On σ) (id : Int) (v : List UInt8) : PutK σ s V id v (putS σ s id v) := by
  by_cases hb : ¬ (0 ≤ id ∧ id < 3) ∨ 2000 < v.length
  · left
    refine ⟨hb, ?_⟩
    unfold putS
    rw [if_pos hb]
  · right
    refine ⟨id.toNat, by omega, by omega, by omega, ?_⟩
    by_cases hn : needN s.k id.toNat v.length ≤ 4096
    · obtain ⟨w1, w2⟩ := h.write id.toNat (by omega) v (by omega) hn
      have e := wri_put σ s id.toNat (by omega) v (by omega) hn
      rw [show ((id.toNat : Nat) : Int) = id by omega] at e
      rw [e]
      right
      obtain ⟨⟨τ, so⟩, hx⟩ : ∃ x, wriS σ s id.toNat v = x := ⟨_, rfl⟩
      rw [hx]
      cases so with
      | some s' => exact .inl ⟨τ, s', rfl, w1 τ s' hx, wri_on hon τ s' hx⟩
      | none =>
        obtain ⟨ac, hu⟩ := w2 τ hx
        exact .inr ⟨τ, rfl, hu.elim (fun h => .inl ⟨ac, h⟩) (fun h => .inr ⟨ac, h⟩)⟩
    · left
      unfold putS
      rw [if_neg hb, if_pos (by omega)]
/-- the block of what is known of three objects -/
def knC (f : Nat → Vf) : Array Value := #[.bool (f 0).is, .string (f 0).s, .bool (f 0).cut, .string (f 0).late, .bool (f 1).is, .string (f 1).s, .bool (f 1).cut, .string (f 1).late, .bool (f 2).is, .string (f 2).s, .bool (f 2).cut, .string (f 2).late]
def Kn (w : World) (K : Nat) (f : Nat → Vf) : Prop := w.heap[K]? = some (.cells (knC f) 42 (0, 0))
theorem Kn.at {w : World} {K : Nat} {f : Nat → Vf} (h : Kn w K f) (i : Nat) (v : Value) (hc : (knC f)[i]? = some v) : w.cell? ⟨K, i, none⟩ = some v := by
  unfold Kn at h; simp [World.cell?, h, hc]
theorem Kn.fz {w : World} {K : Nat} {f : Nat → Vf} (h : Kn w K f) (i : Nat) : w.frozen? ⟨K, i, none⟩ = false := by unfold Kn at h; simp [World.frozen?, h]
theorem Kn.lt {w : World} {K : Nat} {f : Nat → Vf} (h : Kn w K f) : K < w.heap.size := lt_of_block h
theorem Kn.below {w w' : World} {K : Nat} {f : Nat → Vf} (h : Kn w K f) (hb : Below w.heap.size w w') : Kn w' K f := by
  unfold Kn at h ⊢; rw [hb.block K (lt_of_block h), h]
theorem Kn.kept {w w' : World} {K R : Nat} {f : Nat → Vf} (h : Kn w K f) (hk : Kept R w w') (hne : K ≠ R) : Kn w' K f := hk.other h hne
theorem Kn.kep2 {w w' : World} {K R S : Nat} {f : Nat → Vf} (h : Kn w K f) (hk : Kep2 R S w w') (h1 : K ≠ R) (h2 : K ≠ S) : Kn w' K f := hk.other h h1 h2
def updf (f : Nat → Vf) (i : Nat) (x : Vf) : Nat → Vf := fun j => if j = i then x else f j
theorem Kn.put0 {w : World} {K : Nat} {f : Nat → Vf} (h : Kn w K f) (x : Vf) : Kn ((((w.setCell ⟨K, 0, none⟩ (.bool x.is)).setCell ⟨K, 1, none⟩ (.string x.s)).setCell ⟨K, 2, none⟩ (.bool x.cut)).setCell ⟨K, 3, none⟩ (.string x.late)) K (updf f 0 x) := by
  have := cells_set (cells_set (cells_set (cells_set h 0 (.bool x.is)) 1 (.string x.s)) 2 (.bool x.cut)) 3 (.string x.late)
  exact this
theorem Kn.put1 {w : World} {K : Nat} {f : Nat → Vf} (h : Kn w K f) (x : Vf) : Kn ((((w.setCell ⟨K, 4, none⟩ (.bool x.is)).setCell ⟨K, 5, none⟩ (.string x.s)).setCell ⟨K, 6, none⟩ (.bool x.cut)).setCell ⟨K, 7, none⟩ (.string x.late)) K (updf f 1 x) := by
  have := cells_set (cells_set (cells_set (cells_set h 4 (.bool x.is)) 5 (.string x.s)) 6 (.bool x.cut)) 7 (.string x.late)
  exact this
theorem Kn.put2 {w : World} {K : Nat} {f : Nat → Vf} (h : Kn w K f) (x : Vf) : Kn ((((w.setCell ⟨K, 8, none⟩ (.bool x.is)).setCell ⟨K, 9, none⟩ (.string x.s)).setCell ⟨K, 10, none⟩ (.bool x.cut)).setCell ⟨K, 11, none⟩ (.string x.late)) K (updf f 2 x) := by
  have := cells_set (cells_set (cells_set (cells_set h 8 (.bool x.is)) 9 (.string x.s)) 10 (.bool x.cut)) 11 (.string x.late)
  exact this
def lateF (x : Vf) (t : ByteArray) : Vf := ⟨x.is, x.s, true, t⟩
theorem Kn.late0 {w : World} {K : Nat} {f : Nat → Vf} (h : Kn w K f) (t : ByteArray) : Kn ((w.setCell ⟨K, 2, none⟩ (.bool true)).setCell ⟨K, 3, none⟩ (.string t)) K (updf f 0 (lateF (f 0) t)) := by
  have := cells_set (cells_set h 2 (.bool true)) 3 (.string t)
  exact this
theorem Kn.late1 {w : World} {K : Nat} {f : Nat → Vf} (h : Kn w K f) (t : ByteArray) : Kn ((w.setCell ⟨K, 6, none⟩ (.bool true)).setCell ⟨K, 7, none⟩ (.string t)) K (updf f 1 (lateF (f 1) t)) := by
  have := cells_set (cells_set h 6 (.bool true)) 7 (.string t)
  exact this
theorem Kn.late2 {w : World} {K : Nat} {f : Nat → Vf} (h : Kn w K f) (t : ByteArray) : Kn ((w.setCell ⟨K, 10, none⟩ (.bool true)).setCell ⟨K, 11, none⟩ (.string t)) K (updf f 2 (lateF (f 2) t)) := by
  have := cells_set (cells_set h 10 (.bool true)) 11 (.string t)
  exact this
theorem kept_set {R : Nat} (w : World) (i : Nat) (u : Value) : Kept R w (w.setCell ⟨R, i, none⟩ u) := Kept.set (Kept.refl R w) i u
end Go.Proofs.Ytcjahdgppnmdkaa
