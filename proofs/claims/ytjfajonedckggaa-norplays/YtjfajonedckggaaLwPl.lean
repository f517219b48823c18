/- NorPlays. -/
import Derived.Test.YtjfajonedckggaaNoO
namespace Go.Proofs.Ytjfajonedckggaa
open Go.RowKit Go.Great

theorem plays_bad (s : ByteArray) (h0 : s.size ≠ 0) (hs : s.size ≠ 8192) (v : Value) (w : World) : Calls Try.prog 3 #[.string s, v] w fun e w' => e = .returned (.bool true) ∧ Below w.heap.size w w' := by
  have M := made_bad s h0 hs w
  clear hs h0
  go_enter Try.func3, Try.ntmps3
  go_wp2_with fail
  refine M.mono ?_
  rintro e w1 ⟨rfl, hw⟩
  obtain rfl := hw.symm
  clear hw M
  go_wp2_with fail
  refine (awake_true w).mono ?_
  rintro e w1 ⟨rfl, b1⟩
  go_wp2_with fail
  go_ret
  exact ⟨rfl, b1⟩
theorem both_new {w w1 : World} {R X D cap : Nat} {C : List UInt8} (h : Made w w1 R X D cap C) : Both w.heap.size w w1 R X D cap (st0 C) (st0 C) :=
  ⟨h.1, h.2.1, h.2.2.1, Nat.le_refl _, h.2.2.2.1, h.2.2.2.2.1, h.2.2.2.2.2.1, h.2.2.2.2.2.2.1, rel_new C, h.2.2.2.2.2.2.2⟩
set_option maxHeartbeats 1000000 in
set_option maxRecDepth 100000 in
theorem plays_good (s : ByteArray) (hs : okI s) (v : Value) (w : World) (cs : List Cl) (hv : CallsL w v cs) : Calls Try.prog 3 #[.string s, v] w fun e w' => e = .returned (.bool true) ∧ Below w.heap.size w w' := by
  have M := made_good s hs w
  clear hs
  obtain ⟨hml, ⟨va, vc, rfl, hcell⟩, hall⟩ := hv
  have HALL := hide hall
  have HCELL := hide hcell
  obtain ⟨n, hn⟩ : ∃ n, cs.length = n := ⟨_, rfl⟩
  have HN := hide hn
  have hn9 : (n : Int) ≤ 9223372036854775807 := by unfold maxLen at hml; omega
  rw [hn]
  clear hall hcell hn hml
  go_enter Try.func3, Try.ntmps3
  go_wp2_with fail
  refine M.mono ?_
  rintro e w1 ⟨R, X, D, cap, rfl, hM⟩
  have H1 := hide (both_new hM)
  clear hM M
  go_wp2_with fail
  go_loopw [8] (fun v wr => ∃ (i : Nat) (σ ρ : St), v = .int .i64 (i : Int) ∧ i ≤ n ∧ Both w.heap.size w wr R X D cap σ ρ) (fun v _ => n - (intOf v).toNat)
  case atStart => exact ⟨0, _, _, rfl, Nat.zero_le _, H1.out⟩
  case round =>
    obtain ⟨i, σ, ρ, rfl, hi, hB⟩ := hrel
    have HB := hide hB
    clear hB
    by_cases hlt : i < n
    · have hlc : i < cs.length := by rw [HN.out]; exact hlt
      obtain ⟨g, o, rfl, hg, hc⟩ := HCELL.out (by omega)
      obtain ⟨a0, a1, a2, a3⟩ := hc i hlc
      have hI := HALL.out cs[i] (List.getElem_mem hlc)
      obtain ⟨⟨k, a, m, d⟩, hcl⟩ : ∃ c, cs[i] = c := ⟨_, rfl⟩
      rw [hcl] at a0 a1 a2 a3 hI
      simp only at a0 a1 a2 a3 hI
      have b0 := (HB.out.b.cell (p := ⟨g, o + i * 4, none⟩) hg).trans a0
      have b1 := (HB.out.b.cell (p := ⟨g, o + i * 4 + 1, none⟩) hg).trans a1
      have b2 := (HB.out.b.cell (p := ⟨g, o + i * 4 + 2, none⟩) hg).trans a2
      have b3 := (HB.out.b.cell (p := ⟨g, o + i * 4 + 3, none⟩) hg).trans a3
      have DD := does_any w.heap.size w wr R X D cap σ ρ HB.out k a m d hI.1 hI.2.1 hI.2.2
      clear hc a0 a1 a2 a3 hI hcl hlc hg
      go_wp2_with fail
      refine DD.mono ?_
      rintro e w2 ⟨rfl, σ2, ρ2, h2⟩
      have H2 := hide h2
      clear h2 DD b0 b1 b2 b3
      go_wp2_with fail
      go_roundw
      case rel => exact ⟨i + 1, σ2, ρ2, by go_num, by omega, H2.out⟩
      case measure => simp [intOf]; omega
    · obtain rfl : i = n := by omega
      go_wp2_with fail
      refine (awake_true wr).mono ?_
      rintro e w2 ⟨rfl, b2⟩
      have H2 := hide (HB.out.below b2)
      have DD := does_any w.heap.size w w2 R X D cap σ ρ H2.out 5 0 0 ⟨#[]⟩ (by unfold I64; omega) (by unfold I64; omega) (by show (0 : Nat) ≤ _; omega)
      clear b2
      go_wp2_with fail
      refine DD.mono ?_
      rintro e w3 ⟨rfl, σ3, ρ3, h3⟩
      have H3 := hide h3
      clear h3 DD
      go_wp2_with fail
      go_ret
      exact ⟨rfl, H3.out.b⟩
/-- NorPlays -/
theorem NorPlays_walk (s : ByteArray) (v : Value) (w : World) (_hs : s.size ≤ 140737488351232) (hv : ∃ cs, CallsL w v cs) : Calls Try.prog 3 #[.string s, v] w fun e w' => e = .returned (.bool true) ∧ Below w.heap.size w w' := by
  obtain ⟨cs, hv⟩ := hv
  by_cases h0 : s.size = 0 ∨ s.size = 8192
  · exact plays_good s h0 v w cs hv
  · exact plays_bad s (fun h => h0 (.inl h)) (fun h => h0 (.inr h)) v w
end Go.Proofs.Ytjfajonedckggaa
