/- Two lists of frames that are the same. -/
import Derived.Test.YtgdjphiicgiegaaFr7
namespace Go.Proofs.Ytgdjphiicgiegaa
open Go.RowKit Go.Great

/-- a slice of frames, as it reads -/
def Frs (w : World) (v : Value) (fs : List Fr) : Prop :=
  ∃ a cap, v = .slice a fs.length cap ∧ (0 < fs.length → ∃ g o, a = some ⟨g, o, none⟩ ∧ ∀ (i : Nat) (h : i < fs.length), w.cell? ⟨g, o + i * 3, none⟩ = some (.int .i64 fs[i].1) ∧ w.cell? ⟨g, o + i * 3 + 1, none⟩ = some (.int .i64 fs[i].2.1) ∧ w.cell? ⟨g, o + i * 3 + 2, none⟩ = some (.string fs[i].2.2))
theorem cellsF_at (fs : List Fr) : ∀ (i : Nat) (h : i < fs.length), (cellsF fs)[i * 3]? = some (.int .i64 fs[i].1) ∧ (cellsF fs)[i * 3 + 1]? = some (.int .i64 fs[i].2.1) ∧ (cellsF fs)[i * 3 + 2]? = some (.string fs[i].2.2) := by
  induction fs with
  | nil => intro i h; simp at h
  | cons f fs ih =>
    intro i h
    have e : cellsF (f :: fs) = .int .i64 f.1 :: .int .i64 f.2.1 :: .string f.2.2 :: cellsF fs := by simp [cellsF]
    cases i with
    | zero => rw [e]; simp
    | succ i =>
      have := ih i (by simpa using h)
      rw [e, show (i + 1) * 3 = i * 3 + 3 by omega, show i * 3 + 3 + 1 = (i * 3 + 1) + 3 by omega, show i * 3 + 3 + 2 = (i * 3 + 2) + 3 by omega]
      simpa using this
theorem frs_own {w : World} {base : Nat} {v : Value} {fs : List Fr} (h : w.ownsRow base 28 3 v fs.length (cellsF fs)) : Frs w v fs := by
  by_cases h0 : 0 < fs.length
  · obtain ⟨g, cap, rfl, _, _, hc, _⟩ := own_row h h0
    refine ⟨_, cap, rfl, fun _ => ⟨g, 0, rfl, fun i hi => ?_⟩⟩
    obtain ⟨c0, c1, c2⟩ := cellsF_at fs i hi
    rw [Nat.zero_add]
    exact ⟨(hc _ (by omega)).trans c0, (hc _ (by omega)).trans c1, (hc _ (by omega)).trans c2⟩
  · obtain ⟨a, cap, rfl⟩ := own_shape h
    exact ⟨a, cap, rfl, fun hh => absurd hh h0⟩
theorem Frs.same {w w' : World} {v : Value} {fs : List Fr} (h : Frs w v fs) (hc : ∀ a, w'.cell? a = w.cell? a) : Frs w' v fs := by
  obtain ⟨a, cap, rfl, h1⟩ := h
  refine ⟨a, cap, rfl, fun h0 => ?_⟩
  obtain ⟨g, o, e, h2⟩ := h1 h0
  exact ⟨g, o, e, fun i hi => by rw [hc, hc, hc]; exact h2 i hi⟩
theorem drewN_cell (w : World) (n : Nat) (a : Addr) : (w.drewN n).cell? a = w.cell? a := by
  induction n with
  | zero => rfl
  | succ n ih => exact ih
theorem drewN_drewN (w : World) (n k : Nat) : (w.drewN n).drewN k = w.drewN (n + k) := by
  induction k with
  | zero => rfl
  | succ k ih => exact congrArg World.drew ih
theorem cellsF_one' (fs : List Fr) : ∀ u ∈ cellsF fs, u.oneCell' = true := by
  intro u hu
  unfold cellsF at hu
  rw [List.mem_flatMap] at hu
  obtain ⟨f, _, hf⟩ := hu
  exact one_cells _ _ _ u hf
theorem own_below {w w' : World} {base n : Nat} {v : Value} {xs : List Value} (h : w.ownsRow base 28 3 v n xs) (hb : Below w.heap.size w w') : w'.ownsRow base 28 3 v n xs := h.kept (grown_below hb none) (by cases v.ownBlock <;> simp)
/-- a slice that is owned, whether it is nil or not -/
theorem own_cases {w : World} {base n : Nat} {v : Value} {xs : List Value} (h : w.ownsRow base 28 3 v n xs) : (v = .slice none 0 0 ∧ n = 0) ∨ ∃ g cap, v = .slice (some ⟨g, 0, none⟩) n cap ∧ base ≤ g ∧ ∀ j u, xs[j]? = some u → w.cell? ((⟨g, 0, none⟩ : Addr).add j) = some u := by
  have h0 := h
  rcases h.2 with h1 | ⟨g, cap, cur, rfl, hb, _⟩
  · exact .inl h1
  · exact .inr ⟨g, cap, rfl, hb, fun j u hu => h0.cells rfl j u hu⟩
end Go.Proofs.Ytgdjphiicgiegaa
