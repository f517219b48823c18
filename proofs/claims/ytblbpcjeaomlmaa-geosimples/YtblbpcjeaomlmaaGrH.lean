/- The document's Area2. -/
import Derived.Test.YtblbpcjeaomlmaaGrG
namespace Go.Proofs.Ytblbpcjeaomlmaa
open Go.RowKit Go.Great

theorem wrap_add (x y : Int) : wrap64 (wrap64 x + y) = wrap64 (x + y) := by unfold wrap64; omega
/-- the corners' shares, up to a corner -/
def Tsum (l : List Pt) : Nat → Int
  | 0 => 0
  | k + 1 => Tsum l k + (ptx l k * pty l (k + 1) - pty l k * ptx l (k + 1))
def Asum (l : List Pt) (i : Nat) : Int := Tsum l i + (ptx l i * pty l 0 - pty l i * ptx l 0)
theorem Asum_one (l : List Pt) : Asum l 1 = 0 := by unfold Asum Tsum Tsum; grind
theorem Asum_succ (l : List Pt) (i : Nat) : Asum l (i + 1) = Asum l i + cross (pt l 0) (pt l i) (pt l (i + 1)) := by
  unfold Asum cross pt
  rw [Tsum]
  grind
theorem arS_upto {l : List Pt} {m : Nat} : ∀ k, k + 1 ≤ m → arS l m (upto m k) = wrap64 (Tsum l k)
  | 0, _ => by
    have h : wrap64 (Tsum l 0) = 0 := by unfold Tsum wrap64; omega
    rw [h]
    simp [arS, upto]
  | k + 1, h => by
    rw [upto_succ (by omega), arS_snoc, arS_upto k (by omega), wrap_add]
    show wrap64 (Tsum l k + arK l m k) = _
    unfold arK
    rw [nxt_succ (by omega)]
    rfl
theorem arS_all {l : List Pt} {m : Nat} (hm : 0 < m) : arS l m (List.finRange m) = wrap64 (Asum l (m - 1)) := by
  rw [← upto_all]
  obtain ⟨n, rfl⟩ : ∃ n, m = n + 1 := ⟨m - 1, by omega⟩
  rw [upto_succ (by omega), arS_snoc, arS_upto n (by omega), wrap_add]
  show wrap64 (Tsum l n + arK l (n + 1) n) = _
  unfold arK
  rw [nxt_last rfl]
  rfl
set_option maxRecDepth 100000 in
set_option maxHeartbeats 4000000 in
theorem rarea_any (l : List Pt) (v : Value) (w : World) (hv : Pts w v l) (hl : l.length ≤ 4611686018427387904) : Calls Try.prog 24 #[v] w fun e w' => e = .returned (.tuple #[.int .i64 (araI l), .int .i64 (simE l)]) ∧ Below w.heap.size w w' := by
  have SI := fun w' hb => rsimple_any l v w' (hv.below hb) hl
  have HV := hide hv
  have HSL := hide (@sim_len l)
  obtain ⟨a, cap, rfl, hc⟩ := hv
  clear hc
  unfold araI
  have HAR : Hid (0 < l.length → arS l l.length (List.finRange l.length) = wrap64 (Asum l (l.length - 1))) := arS_all
  generalize arS l l.length (List.finRange l.length) = SD at *
  obtain ⟨m, hm⟩ : ∃ m, l.length = m := ⟨_, rfl⟩
  have HM := hide hm
  rw [hm] at SI hl HAR ⊢
  clear hm
  generalize simE l = E at *
  go_enter Try.func24, Try.ntmps24
  go_wp2_with fail
  refine (SI _ (Below.refl _ _)).mono ?_
  rintro e w1 ⟨rfl, hB⟩
  clear SI
  by_cases hE : E = 0
  · subst hE
    obtain ⟨h3, h64, hall⟩ := HSL.out (by trivial)
    have hml := HM.out
    obtain ⟨a', cap', hsl, hcc0⟩ := HV.out.below hB
    injection hsl with ea em ec
    subst ea ec
    obtain ⟨g, o, rfl, hg, hcc⟩ := hcc0 (by omega)
    have hpo : Poly w1 g o m cap l := by have := poly_of (cap := cap) (by omega) (by omega) hg hcc; rw [hml] at this; exact this
    have HPO := hide hpo
    have HFit := hide (fun k (hk : k < m) => fits_of hall k (by omega))
    have hm3 : 3 ≤ m := by omega
    have hm64 : m ≤ 64 := by omega
    have HB := hide hB
    have HA := hide (HAR.out (by omega))
    clear hcc hcc0 em h3 h64 hall hml hpo hB HSL HAR HV HM
    go_wp2_with fail
    go_loopw [5, 6] (fun s i wx => ∃ (k : Nat) (z : Int), 1 ≤ k ∧ k + 1 ≤ m ∧ i = .int .i64 k ∧ s = .int .i64 z ∧ Hid (z = wrap64 (Asum l k)) ∧ Hid (Below w1.heap.size w1 wx)) (fun _ i _ => m - (intOf i).toNat)
    case atStart => exact ⟨1, 0, by omega, by omega, rfl, rfl, hide (by rw [Asum_one]; unfold wrap64; omega), hide (Below.refl _ _)⟩
    case round =>
      obtain ⟨k, z, h1, hk, rfl, rfl, hz, hb⟩ := hrel
      by_cases hlt : k + 1 < m
      · have hpw := hide (HPO.out.below hb.out)
        have gl := hpw.out.lt
        obtain ⟨a0, a1⟩ := hpw.out.at' 0 (by omega)
        obtain ⟨b0, b1⟩ := hpw.out.at' k (by omega)
        obtain ⟨c0, c1⟩ := hpw.out.at' (k + 1) hlt
        simp only [Nat.zero_mul, Nat.add_zero] at a0 a1
        have A0 := fun x : BelowW wr => x.cell a0 gl
        have A1 := fun x : BelowW wr => x.cell a1 gl
        have B0 := fun x : BelowW wr => x.cell b0 gl
        have B1 := fun x : BelowW wr => x.cell b1 gl
        have C0 := fun x : BelowW wr => x.cell c0 gl
        have C1 := fun x : BelowW wr => x.cell c1 gl
        have CR := rcross_any (pt l 0) (pt l k) (pt l (k + 1)) (HFit.out 0 (by omega)) (HFit.out k (by omega)) (HFit.out _ hlt)
        have hst := hide (Asum_succ l k)
        generalize cross (pt l 0) (pt l k) (pt l (k + 1)) = j at CR hst
        simp only [pV, pt] at CR
        generalize ptx l 0 = x0 at *
        generalize pty l 0 = y0 at *
        generalize ptx l (k + 1) = x2 at *
        generalize pty l (k + 1) = y2 at *
        generalize ptx l k = x1 at *
        generalize pty l k = y1 at *
        have hne : Nonempty (BelowW wr) := ⟨⟨wr, Below.refl _ _⟩⟩
        clear a0 a1 b0 b1 c0 c1
        go_wp2_with fail
        refine wp_region_calm (by kernel_rfl) (by kernel_rfl) ?_
        repeat (go_big_quiet_step (first | (go_at_call 38; exact calm_of (CR _))))
        refine wpQuiet_nil ?_
        rintro w5 ⟨⟨q3, hq⟩, e3⟩
        have e4 : w5 = q3 := e3
        clear e3
        subst e4
        have HB5 := hide (below_next hb.out (Nat.le_refl _) hq)
        clear A0 A1 B0 B1 C0 C1 hne CR hq
        go_wp2_with fail
        go_roundw
        case rel => exact ⟨k + 1, _, by omega, by omega, by go_num, rfl, hide (by rw [hst.out, ← wrap_add (Asum l k) j, ← hz.out]), HB5⟩
        case measure => simp [intOf]; omega
      · go_wp2_with fail
        go_ret2
        have hsd : z = SD := by rw [HA.out, show m - 1 = k by omega, hz.out]
        subst hsd
        exact ⟨by first | rfl | simp, below_next HB.out (Nat.le_refl _) hb.out⟩
  · go_wp2_with fail
    go_ret2
    exact ⟨by simp, hB⟩
end Go.Proofs.Ytblbpcjeaomlmaa
