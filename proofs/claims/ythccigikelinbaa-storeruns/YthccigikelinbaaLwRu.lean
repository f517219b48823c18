/- StoreRuns. -/
import Derived.Test.YthccigikelinbaaSqV
import Derived.Test.YthccigikelinbaaSqW
import Derived.Test.YthccigikelinbaaSo14
import Derived.Test.YthccigikelinbaaSqO
namespace Go.Proofs.Ythccigikelinbaa
open Go.RowKit Go.Great

theorem tw_new {w w1 : World} {R X D cap : Nat} {C : List UInt8} (hR : w.heap.size ≤ R) (hX : w.heap.size ≤ X) (hD : w.heap.size ≤ D) (n1 : R ≠ X) (n2 : R ≠ D) (hF : Fl w1 R (st0 C)) (hQ : Rf w1 X D cap (st0 C)) (hb : Below w.heap.size w w1) : Tw w.heap.size w (w1.alloc (.cells #[fp R, .pointer none, fp X, .pointer none] 28)) w1.heap.size R X D cap (st0 C) (st0 C) (.pointer none) (.pointer none) := by
  have h1 := hF.lt
  have h2 := hQ.ltX
  have h3 := hQ.lt
  have hA := below_alloc w1 (.cells #[fp R, .pointer none, fp X, .pointer none] 28)
  exact ⟨hb.size, hR, hX, hD, Nat.le_refl _, by omega, by omega, by omega, n1, n2, hF.below hA, hQ.below hA, rel_new C, Bl.new _ _ _, below_next hb (Nat.le_refl _) hA, .inl ⟨rfl, rfl⟩⟩
set_option maxHeartbeats 2000000 in
set_option maxRecDepth 100000 in
theorem runs_bad (s : ByteArray) (h0 : s.size ≠ 0) (hs : s.size ≠ 8192) (v : Value) (w : World) : Calls Try.prog 3 #[.string s, v] w fun e w' => e = .returned (.bool true) ∧ Below w.heap.size w w' := by
  have M := flash_bad s h0 hs w
  unfold flV at M
  clear hs h0
  go_enter Try.func3, Try.ntmps3
  go_wp2_with fail
  refine M.mono ?_
  rintro e w1 ⟨rfl, b1⟩
  have HB1 := hide (below_next b1 (Nat.le_refl _) (below_alloc w1 (.cells #[.pointer none, .pointer none, .pointer none, .pointer none] 28)))
  clear M b1
  go_wp2_with fail
  refine (awake7 _).mono ?_
  rintro e w3 ⟨rfl, b3⟩
  have HB3 := hide (below_next HB1.out (Nat.le_refl _) b3)
  clear b3
  go_wp2_with fail
  go_ret
  exact ⟨rfl, HB3.out⟩
set_option maxHeartbeats 2000000 in
set_option maxRecDepth 100000 in
theorem runs_good (s : ByteArray) (C0 : List UInt8) (M : ∀ w, Calls Try.prog 10 #[.string s] w fun e w' => FlEnd w C0 e w') (v : Value) (w : World) (cs : List Cl7) (hv : CallsL7 w v cs) : Calls Try.prog 3 #[.string s, v] w fun e w' => e = .returned (.bool true) ∧ Below w.heap.size w w' := by
  obtain ⟨hml, ⟨va, vc, rfl, hcell⟩, hall⟩ := hv
  have HALL := hide hall
  have HCELL := hide hcell
  obtain ⟨n, hn⟩ : ∃ n, cs.length = n := ⟨_, rfl⟩
  have HN := hide hn
  have hn9 : (n : Int) ≤ 9223372036854775807 := by unfold maxLen at hml; omega
  rw [hn]
  clear hall hcell hn hml
  go_enter Try.func3, Try.ntmps3
  go_wp2_with fail
  refine (M _).mono ?_
  rintro e w1 ⟨R, X, D, cap, rfl, h1, h2, h3, h4, h5, hF, hQ, hb⟩
  have H1 := hide (tw_new h1 h2 h3 h4 h5 hF hQ hb)
  clear M h1 h2 h3 h4 h5 hF hQ hb
  unfold flV
  go_upto_region 2 with fail
  obtain ⟨w2, hw2⟩ : ∃ w2, w1.alloc (.cells #[fp R, .pointer none, fp X, .pointer none] 28) = w2 := ⟨_, rfl⟩
  have hw2' : w1.alloc (.cells #[.pointer (some ⟨R, 0, none⟩), .pointer none, .pointer (some ⟨X, 0, none⟩), .pointer none] 28) = w2 := hw2
  rw [hw2']
  rw [hw2] at H1
  clear hw2'
  obtain ⟨P, hP⟩ : ∃ P, w1.heap.size = P := ⟨_, rfl⟩
  rw [hP] at H1
  have p0 := H1.out.p.cell 0 (v := fp R) rfl
  have BT := pboot_any w.heap.size w w2 P R X D cap _ _ _ _ H1.out
  rw [hP]
  clear hw2 hP
  go_wp2_with fail
  refine BT.mono ?_
  rintro e w3 ⟨rfl, σ, ρ, sp, tp, h3⟩
  have H3 := hide h3
  clear h3 BT p0 H1
  go_wp2_with fail
  go_loopw [7] (fun v wr => ∃ (i : Nat) (σ ρ : St) (sp tp : Value), v = .int .i64 (i : Int) ∧ i ≤ n ∧ Hid (Tw w.heap.size w wr P R X D cap σ ρ sp tp)) (fun v _ => n - (intOf v).toNat)
  case atStart => exact ⟨0, _, _, _, _, rfl, Nat.zero_le _, H3⟩
  case round =>
    clear H3
    obtain ⟨i, σ, ρ, sp, tp, rfl, hi, HB⟩ := hrel
    by_cases hlt : i < n
    · have hlc : i < cs.length := by rw [HN.out]; exact hlt
      obtain ⟨g, o, rfl, hg, hc⟩ := HCELL.out (by omega)
      obtain ⟨a0, a1, a2⟩ := hc i hlc
      have hI := HALL.out cs[i] (List.getElem_mem hlc)
      obtain ⟨⟨k, m, d⟩, hcl⟩ : ∃ c, cs[i] = c := ⟨_, rfl⟩
      rw [hcl] at a0 a1 a2 hI
      simp only at a0 a1 a2 hI
      have b0 := (HB.out.b.cell (p := ⟨g, o + i * 3, none⟩) hg).trans a0
      have b1 := (HB.out.b.cell (p := ⟨g, o + i * 3 + 1, none⟩) hg).trans a1
      have b2 := (HB.out.b.cell (p := ⟨g, o + i * 3 + 2, none⟩) hg).trans a2
      have DD := dz_any w.heap.size w wr P R X D cap σ ρ sp tp HB.out k m d hI.1 hI.2.1 hI.2.2
      clear hc a0 a1 a2 hI hcl hlc hg
      go_wp2_with fail
      refine DD.mono ?_
      rintro e w2 ⟨rfl, σ2, ρ2, sp2, tp2, h2⟩
      have H2 := hide h2
      clear h2 DD b0 b1 b2
      go_wp2_with fail
      go_roundw
      case rel => exact ⟨i + 1, σ2, ρ2, sp2, tp2, by go_num, by omega, H2⟩
      case measure => simp [intOf]; omega
    · obtain rfl : i = n := by omega
      go_wp2_with fail
      go_loopw [8] (fun v wr => ∃ (j : Nat) (σ ρ : St) (sp tp : Value), v = .int .i64 ((j : Int) - 1) ∧ j ≤ 5 ∧ Hid (Tw w.heap.size w wr P R X D cap σ ρ sp tp)) (fun v _ => (5 - intOf v).toNat)
      case atStart => exact ⟨0, _, _, _, _, rfl, by omega, HB⟩
      case round =>
        clear HB
        obtain ⟨j, σ, ρ, sp, tp, rfl, hj, HB⟩ := hrel
        by_cases hlt : j < 5
        · have hcd : ((j : Int) - 1 < 4) := by omega
          obtain ⟨q, hq⟩ : ∃ q : Int, (j : Int) - 1 = q := ⟨_, rfl⟩
          have DD := dz_any w.heap.size w _ P R X D cap σ ρ sp tp HB.out 1 q ⟨#[]⟩ (by unfold I64; omega) (by unfold I64; omega) (by show (0 : Nat) ≤ _; omega)
          have hq1 : -1 ≤ q := by omega
          have hq4 : q < 4 := by omega
          have HJ : Hid (q = (j : Int) - 1) := hide hq.symm
          rw [hq] at hcd ⊢
          clear hq hcd
          go_wp2_with fail
          refine DD.mono ?_
          rintro e w2 ⟨rfl, σ2, ρ2, sp2, tp2, h2⟩
          have H2 := hide h2
          clear h2 DD
          go_wp2_with fail
          go_roundw
          case rel => exact ⟨j + 1, σ2, ρ2, sp2, tp2, by have := HJ.out; congr 1; omega, by omega, H2⟩
          case measure => simp only [intOf]; have := HJ.out; omega
        · have hcd : ¬ ((j : Int) - 1 < 4) := by omega
          obtain ⟨q, hq⟩ : ∃ q : Int, (j : Int) - 1 = q := ⟨_, rfl⟩
          have hq4 : ¬ q < 4 := by omega
          have hq5 : q ≤ 4 := by omega
          rw [hq]
          clear hq hcd
          go_wp2_with fail
          refine (awake7 _).mono ?_
          rintro e w2 ⟨rfl, b2⟩
          have H2 := hide (HB.out.below b2)
          have DD := dz_any w.heap.size w w2 P R X D cap σ ρ sp tp H2.out 4 0 ⟨#[]⟩ (by unfold I64; omega) (by unfold I64; omega) (by show (0 : Nat) ≤ _; omega)
          clear b2
          go_wp2_with fail
          refine DD.mono ?_
          rintro e w3 ⟨rfl, σ3, ρ3, sp3, tp3, h3⟩
          have H3 := hide h3
          clear h3 DD
          go_wp2_with fail
          go_ret
          exact ⟨rfl, H3.out.b⟩
/-- StoreRuns -/
theorem StoreRuns_walk (s : ByteArray) (v : Value) (w : World) (_hs : s.size ≤ 140737488351232) (hv : ∃ cs, CallsL7 w v cs) : Calls Try.prog 3 #[.string s, v] w fun e w' => e = .returned (.bool true) ∧ Below w.heap.size w w' := by
  obtain ⟨cs, hv⟩ := hv
  by_cases h0 : s.size = 0
  · obtain rfl : s = ⟨#[]⟩ := by
      apply ByteArray.ext
      exact Array.eq_empty_of_size_eq_zero h0
    exact runs_good _ _ (fun w => flash_new w) v w cs hv
  · by_cases h1 : s.size = 8192
    · exact runs_good _ _ (fun w => flash_in s h1 w) v w cs hv
    · exact runs_bad s h0 h1 v w
end Go.Proofs.Ythccigikelinbaa
