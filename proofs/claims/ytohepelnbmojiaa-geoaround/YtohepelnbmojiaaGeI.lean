/- What is wrong with a polygon; on which side of it a point is. -/
import Derived.Test.YtohepelnbmojiaaGeH
namespace Go.Proofs.Ytohepelnbmojiaa
open Go.RowKit Go.Shelf

attribute [local go_sem] Oper.semAt_some

theorem pt_eq (l : List Pt) (k : Nat) : pt l k = l.getD k (0, 0) := rfl
/-- what Simple answers -/
def simE (l : List Pt) : Int := if l.length < 3 then 90 else if 64 < l.length then 4 else if l.all fitB = false then 5 else if twinB l l.length then 91 else if tangB l l.length then 92 else 0
theorem poly_of {w : World} {g o cap : Nat} {l : List Pt} (h0 : 0 < l.length) (hl : l.length ≤ 4611686018427387904) (hg : g < w.heap.size) (hc : ∀ i, i < l.length → w.cell? ⟨g, o + i * 2, none⟩ = some (.int .i64 (l.getD i (0, 0)).1) ∧ w.cell? ⟨g, o + i * 2 + 1, none⟩ = some (.int .i64 (l.getD i (0, 0)).2)) : Poly w g o l.length cap l := ⟨h0, hl, rfl, hg, hc⟩
theorem fits_of {l : List Pt} (h : l.all fitB = true) : ∀ k, k < l.length → Fit (pt l k) := fun _ hk => fit_of (at_all h hk)
set_option maxHeartbeats 2000000 in
theorem simple_any (l : List Pt) (v : Value) (w : World) (hv : Pts w v l) (hl : l.length ≤ 4611686018427387904) : Calls Try.prog 22 #[v] w fun e w' => e = .returned (.int .i64 (simE l)) ∧ Below w.heap.size w w' := by
  have M := fun w' hb => mayBe_any l v w' (hv.below hb) hl
  obtain ⟨a, cap, rfl, hc⟩ := hv
  by_cases h1 : l.length < 3
  · have e : simE l = 90 := by unfold simE; rw [if_pos h1]
    rw [e]
    have h1' : (l.length : Int) < 3 := by omega
    generalize l.length = m at *
    go_enter Try.func22, Try.ntmps22
    go_wp2_with fail
    go_ret
    exact ⟨rfl, Below.refl _ _⟩
  by_cases h2 : 64 < l.length
  · have e : simE l = 4 := by unfold simE; rw [if_neg h1, if_pos h2]
    rw [e]
    have h1' : ¬ (l.length : Int) < 3 := by omega
    have h2' : (64 : Int) < l.length := by omega
    generalize l.length = m at *
    go_enter Try.func22, Try.ntmps22
    go_wp2_with fail
    go_ret
    exact ⟨rfl, Below.refl _ _⟩
  obtain ⟨g, o, rfl, hg, hcc⟩ := hc (by omega)
  have hpo : Poly w g o l.length cap l := poly_of (by omega) hl hg hcc
  have h1' : ¬ (l.length : Int) < 3 := by omega
  have h2' : ¬ (64 : Int) < l.length := by omega
  by_cases h3 : l.all fitB = false
  · have e : simE l = 5 := by unfold simE; rw [if_neg h1, if_neg h2, if_pos h3]
    rw [e]
    rw [h3] at M
    clear hpo hc hcc
    generalize l.length = m at *
    go_enter Try.func22, Try.ntmps22
    go_wp2_with (go_at_call 34; refine (M _ (Below.refl _ _)).mono ?_; rintro e w1 ⟨rfl, hb1⟩)
    go_ret
    exact ⟨rfl, hb1⟩
  have h3' : l.all fitB = true := by simpa using h3
  have TW := fun w' (hb : Below w.heap.size w w') => callsIn_wide.1 (hasTwins_in Fence.wide 20 (fun _ => trivial) rfl (by omega) g o l.length cap l w' (hpo.below hb))
  have TA := fun w' (hb : Below w.heap.size w w') => callsIn_wide.1 (isTangled_in 20 (by omega) g o l.length cap l (fits_of h3') w' (hpo.below hb))
  have e : simE l = if twinB l l.length then 91 else if tangB l l.length then 92 else 0 := by unfold simE; rw [if_neg h1, if_neg h2, if_neg h3]
  rw [e]
  rw [h3'] at M
  clear hpo hc hcc e h3 h3'
  generalize twinB l l.length = r1 at *
  generalize tangB l l.length = r2 at *
  generalize l.length = m at *
  cases r1
  · cases r2
    all_goals
      go_enter Try.func22, Try.ntmps22
      go_wp2_with (first | (go_at_call 34; refine (M _ (Below.refl _ _)).mono ?_; rintro e w1 ⟨rfl, hb1⟩) | (go_at_call 43; refine (TW _ hb1).mono ?_; rintro e w2 ⟨rfl, hb2⟩; have hb2' := below_next hb1 (Nat.le_refl _) hb2) | (go_at_call 44; refine (TA _ hb2').mono ?_; rintro e w3 ⟨rfl, hb3⟩))
      go_ret
      exact ⟨by simp, below_next hb2' (Nat.le_refl _) hb3⟩
  · go_enter Try.func22, Try.ntmps22
    go_wp2_with (first | (go_at_call 34; refine (M _ (Below.refl _ _)).mono ?_; rintro e w1 ⟨rfl, hb1⟩) | (go_at_call 43; refine (TW _ hb1).mono ?_; rintro e w2 ⟨rfl, hb2⟩))
    go_ret
    exact ⟨by simp, below_next hb1 (Nat.le_refl _) hb2⟩
end Go.Proofs.Ytohepelnbmojiaa
