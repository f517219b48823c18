/- Package mixer, walked: each arm's push parted among its two motors. -/
import Derived.Test.YtpoodmfhcoaleaaMx2
namespace Go.Proofs.Ytpoodmfhcoaleaa
open Go.RowKit Go.Great

theorem four_boxesM (w : World) (A B C D : Array Value) (t u v x : TypeId) : ∃ W0, (((w.alloc (.cells A t)).alloc (.cells B u)).alloc (.cells C v)).alloc (.cells D x) = W0 ∧ Below w.heap.size w W0 ∧ Blk W0 w.heap.size A t ∧ Blk W0 (w.heap.size + 1) B u ∧ Blk W0 (w.heap.size + 1 + 1) C v ∧ Blk W0 (w.heap.size + 1 + 1 + 1) D x ∧ W0.heap.size = w.heap.size + 4 := by
  obtain ⟨W1, h, b, B1, B2, B3, hz⟩ := three_boxes w A B C t u v
  refine ⟨_, rfl, ?_, ?_, ?_, ?_, ?_, ?_⟩
  · rw [h]; exact below_next b (Nat.le_refl _) (below_alloc _ _)
  · rw [h]; exact B1.alloc _
  · rw [h]; exact B2.alloc _
  · rw [h]; exact B3.alloc _
  · have := Blk.new W1 D x; rw [hz] at this; rw [h]; exact this
  · rw [h, size_alloc, hz]
theorem eight_cells {W : World} {B : Nat} {a b c d e f g h : Value} {t : TypeId} (H : Blk W B #[a, b, c, d, e, f, g, h] t) : W.cell? ⟨B, 0, none⟩ = some a ∧ W.cell? ⟨B, 1, none⟩ = some b ∧ W.cell? ⟨B, 2, none⟩ = some c ∧ W.cell? ⟨B, 3, none⟩ = some d ∧ W.cell? ⟨B, 4, none⟩ = some e ∧ W.cell? ⟨B, 5, none⟩ = some f ∧ W.cell? ⟨B, 6, none⟩ = some g ∧ W.cell? ⟨B, 7, none⟩ = some h := ⟨H.cell 0 rfl, H.cell 1 rfl, H.cell 2 rfl, H.cell 3 rfl, H.cell 4 rfl, H.cell 5 rfl, H.cell 6 rfl, H.cell 7 rfl⟩
theorem eight_set {W : World} {B : Nat} {cs : Array Value} {t : TypeId} (H : Blk W B cs t) : W.frozen? ⟨B, 0, none⟩ = false ∧ W.frozen? ⟨B, 1, none⟩ = false ∧ W.frozen? ⟨B, 2, none⟩ = false ∧ W.frozen? ⟨B, 3, none⟩ = false ∧ W.frozen? ⟨B, 4, none⟩ = false ∧ W.frozen? ⟨B, 5, none⟩ = false ∧ W.frozen? ⟨B, 6, none⟩ = false ∧ W.frozen? ⟨B, 7, none⟩ = false := ⟨H.frozen 0, H.frozen 1, H.frozen 2, H.frozen 3, H.frozen 4, H.frozen 5, H.frozen 6, H.frozen 7⟩
theorem Blk.set44 {W : World} {B : Nat} {x y z q x' y' z' q' : Value} {t : TypeId} (H : Blk W B #[x, y, z, q, x', y', z', q'] t) (a b c d e f g h : Value) : Blk ((((((((W.setCell ⟨B, 0, none⟩ a).setCell ⟨B, 1, none⟩ b).setCell ⟨B, 2, none⟩ c).setCell ⟨B, 3, none⟩ d).setCell ⟨B, 4, none⟩ e).setCell ⟨B, 5, none⟩ f).setCell ⟨B, 6, none⟩ g).setCell ⟨B, 7, none⟩ h) B #[a, b, c, d, e, f, g, h] t := blk_cells ((((((((H.set 0 a).set 1 b).set 2 c).set 3 d).set 4 e).set 5 f).set 6 g).set 7 h) (by kernel_rfl)
theorem below_set44 {n : Nat} {w w1 : World} (H : Below n w w1) (B : Nat) (a b c d e f g h : Value) (hg : n ≤ B) (hn : n ≤ w1.heap.size) : Below n w ((((((((w1.setCell ⟨B, 0, none⟩ a).setCell ⟨B, 1, none⟩ b).setCell ⟨B, 2, none⟩ c).setCell ⟨B, 3, none⟩ d).setCell ⟨B, 4, none⟩ e).setCell ⟨B, 5, none⟩ f).setCell ⟨B, 6, none⟩ g).setCell ⟨B, 7, none⟩ h) := by
  have h4 := below_set4 H B a b c d hg hn
  have hz : n ≤ ((((w1.setCell ⟨B, 0, none⟩ a).setCell ⟨B, 1, none⟩ b).setCell ⟨B, 2, none⟩ c).setCell ⟨B, 3, none⟩ d).heap.size := by
    rw [setCell_size, setCell_size, setCell_size, setCell_size]; exact hn
  exact below_set (below_set (below_set (below_set h4 _ _ _ hg hz) _ _ _ hg (by rw [setCell_size]; exact hz)) _ _ _ hg (by rw [setCell_size, setCell_size]; exact hz)) _ _ _ hg (by rw [setCell_size, setCell_size, setCell_size]; exact hz)
theorem eight_back {fn : Func} {p : Tmp} (h : fn.results = #[.cell p 26]) (tmps : Array Value) (w : World) (B : Nat) (a b c d e f g i : Value) (hp : tmps.getD p undef = .pointer (some ⟨B, 0, none⟩)) (hg : Blk w B #[a, b, c, d, e, f, g, i] 26) : (results fn tmps).run Try.prog w = .ok (.agg #[a, b, c, d, e, f, g, i]) w :=
  arr_back h Try.underlying26 (by kernel_rfl) tmps w B hp hg
/-- the parts of the first i arms -/
def mC (p0 p1 p2 p3 u0 u1 u2 u3 : Int) : Nat → Array Value
  | 0 => eC 0 0 0 0 0 0 0 0
  | 1 => eC u0 (p0 - u0) 0 0 0 0 0 0
  | 2 => eC u0 (p0 - u0) u1 (p1 - u1) 0 0 0 0
  | 3 => eC u0 (p0 - u0) u1 (p1 - u1) u2 (p2 - u2) 0 0
  | _ => eC u0 (p0 - u0) u1 (p1 - u1) u2 (p2 - u2) u3 (p3 - u3)
/-- each arm's push, parted -/
abbrev spV (p0 p1 p2 p3 t0 t1 t2 t3 : Int) : Value := eV ((p0 + t0) / 2) (p0 - (p0 + t0) / 2) ((p1 + t1) / 2) (p1 - (p1 + t1) / 2) ((p2 + t2) / 2) (p2 - (p2 + t2) / 2) ((p3 + t3) / 2) (p3 - (p3 + t3) / 2)
theorem mC_set0 {p0 p1 p2 p3 u0 u1 u2 u3 v : Int} (h : v = p0 - u0) : ((mC p0 p1 p2 p3 u0 u1 u2 u3 0).setIfInBounds 0 (.int .i64 u0)).setIfInBounds 1 (.int .i64 v) = mC p0 p1 p2 p3 u0 u1 u2 u3 1 := by rw [h]; rfl
theorem mC_set1 {p0 p1 p2 p3 u0 u1 u2 u3 v : Int} (h : v = p1 - u1) : ((mC p0 p1 p2 p3 u0 u1 u2 u3 1).setIfInBounds 2 (.int .i64 u1)).setIfInBounds 3 (.int .i64 v) = mC p0 p1 p2 p3 u0 u1 u2 u3 2 := by rw [h]; rfl
theorem mC_set2 {p0 p1 p2 p3 u0 u1 u2 u3 v : Int} (h : v = p2 - u2) : ((mC p0 p1 p2 p3 u0 u1 u2 u3 2).setIfInBounds 4 (.int .i64 u2)).setIfInBounds 5 (.int .i64 v) = mC p0 p1 p2 p3 u0 u1 u2 u3 3 := by rw [h]; rfl
theorem mC_set3 {p0 p1 p2 p3 u0 u1 u2 u3 v : Int} (h : v = p3 - u3) : ((mC p0 p1 p2 p3 u0 u1 u2 u3 3).setIfInBounds 6 (.int .i64 u3)).setIfInBounds 7 (.int .i64 v) = mC p0 p1 p2 p3 u0 u1 u2 u3 4 := by rw [h]; rfl
theorem wi0 (a b c d : Int) (w : World) : (Instr.index 57 (wV a b c d) (.int .i64 0)).run Try.prog w = .ok (.int .i64 a) w := by kernel_rfl
theorem wi1 (a b c d : Int) (w : World) : (Instr.index 57 (wV a b c d) (.int .i64 1)).run Try.prog w = .ok (.int .i64 b) w := by kernel_rfl
theorem wi2 (a b c d : Int) (w : World) : (Instr.index 57 (wV a b c d) (.int .i64 2)).run Try.prog w = .ok (.int .i64 c) w := by kernel_rfl
theorem wi3 (a b c d : Int) (w : World) : (Instr.index 57 (wV a b c d) (.int .i64 3)).run Try.prog w = .ok (.int .i64 d) w := by kernel_rfl
def Pb (p : Int) : Prop := -10000 ≤ p ∧ p ≤ 10000
theorem Pb.i {p : Int} (h : Pb p) : I64 p := by unfold Pb at h; unfold I64; omega
set_option maxHeartbeats 2000000 in
theorem split_any (p0 p1 p2 p3 t0 t1 t2 t3 : Int) (w : World) (hp0 : Pb p0) (hp1 : Pb p1) (hp2 : Pb p2) (hp3 : Pb p3) (ht0 : Pb t0) (ht1 : Pb t1) (ht2 : Pb t2) (ht3 : Pb t3) : Calls Try.prog 38 #[wV p0 p1 p2 p3, wV t0 t1 t2 t3] w fun e w' => e = .returned (spV p0 p1 p2 p3 t0 t1 t2 t3) ∧ Below w.heap.size w w' := by
  have D0 := hide (fun W => middle_any p0 t0 W hp0.i ht0.i)
  have D1 := hide (fun W => middle_any p1 t1 W hp1.i ht1.i)
  have D2 := hide (fun W => middle_any p2 t2 W hp2.i ht2.i)
  have D3 := hide (fun W => middle_any p3 t3 W hp3.i ht3.i)
  unfold Pb at hp0 hp1 hp2 hp3 ht0 ht1 ht2 ht3
  show Calls Try.prog 38 _ w fun e w' => e = .returned (eV ((p0 + t0) / 2) (p0 - (p0 + t0) / 2) ((p1 + t1) / 2) (p1 - (p1 + t1) / 2) ((p2 + t2) / 2) (p2 - (p2 + t2) / 2) ((p3 + t3) / 2) (p3 - (p3 + t3) / 2)) ∧ Below w.heap.size w w'
  have hu0 : -10000 ≤ (p0 + t0) / 2 ∧ (p0 + t0) / 2 ≤ 10000 := by omega
  generalize (p0 + t0) / 2 = u0 at *
  have hu1 : -10000 ≤ (p1 + t1) / 2 ∧ (p1 + t1) / 2 ≤ 10000 := by omega
  generalize (p1 + t1) / 2 = u1 at *
  have hu2 : -10000 ≤ (p2 + t2) / 2 ∧ (p2 + t2) / 2 ≤ 10000 := by omega
  generalize (p2 + t2) / 2 = u2 at *
  have hu3 : -10000 ≤ (p3 + t3) / 2 ∧ (p3 + t3) / 2 ≤ 10000 := by omega
  generalize (p3 + t3) / 2 = u3 at *
  clear ht0 ht1 ht2 ht3
  obtain ⟨W0, hW0, b0, P0, T0, R0, M0, hz0⟩ := four_boxesM w (wC p0 p1 p2 p3) (wC t0 t1 t2 t3) (eC 0 0 0 0 0 0 0 0) (eC 0 0 0 0 0 0 0 0) 57 57 26 26
  have Hb := hide b0
  have HT := hide T0
  have HR := hide R0
  have HM := hide M0
  obtain ⟨q0, q1, q2, q3⟩ := four_cells P0
  clear b0 T0 R0 M0 P0
  go_enter Try.func38, Try.ntmps38
  go_wp2_with fail
  go_loopw [10] (fun v wr => ∃ i : Nat, v = .int .i64 (i : Int) ∧ i ≤ 4 ∧ Blk wr (w.heap.size + 1) (wC t0 t1 t2 t3) 57 ∧ Blk wr (w.heap.size + 1 + 1) (eC 0 0 0 0 0 0 0 0) 26 ∧ Blk wr (w.heap.size + 1 + 1 + 1) (mC p0 p1 p2 p3 u0 u1 u2 u3 i) 26 ∧ Below w.heap.size w wr) (fun v _ => 4 - (intOf v).toNat)
  case atStart => exact ⟨0, rfl, by omega, HT.out, HR.out, HM.out, Hb.out⟩
  case round =>
    clear HT HR HM Hb q0 q1 q2 q3 hW0 hz0
    obtain ⟨i, rfl, hi, hT, hR, hM, hb⟩ := hrel
    have HT := hide hT
    have HR := hide hR
    have Hb := hide hb
    have HM := hide hM
    have hz := hM.lt
    clear hT hR hb hM
    obtain rfl | rfl | rfl | rfl | rfl : i = 0 ∨ i = 1 ∨ i = 2 ∨ i = 3 ∨ i = 4 := by omega
    · have IX := wi0
      obtain ⟨t0, t1, t2, t3⟩ := four_cells HT.out
      have m0 := HM.out.cell 0 rfl
      have m1 := HM.out.cell 1 rfl
      have f0 := HM.out.frozen 0
      have f1 := HM.out.frozen 1
      go_wp2_with (first | (go_at_call 50; refine (D0.out _).mono ?_; rintro e w2 ⟨rfl, hw⟩; obtain rfl := hw.symm))
      go_roundw
      case rel => exact ⟨1, by go_num, by omega, (HT.out.setOther (by omega) _ _).setOther (by omega) _ _, (HR.out.setOther (by omega) _ _).setOther (by omega) _ _, blk_cells ((HM.out.set 0 _).set 1 _) (mC_set0 (by omega)), below_set (below_set Hb.out _ _ _ (by omega) Hb.out.size) _ _ _ (by omega) (by rw [setCell_size]; exact Hb.out.size)⟩
      case measure => simp [intOf]
    · have IX := wi1
      obtain ⟨t0, t1, t2, t3⟩ := four_cells HT.out
      have m0 := HM.out.cell 2 rfl
      have m1 := HM.out.cell 3 rfl
      have f0 := HM.out.frozen 2
      have f1 := HM.out.frozen 3
      go_wp2_with (first | (go_at_call 50; refine (D1.out _).mono ?_; rintro e w2 ⟨rfl, hw⟩; obtain rfl := hw.symm))
      go_roundw
      case rel => exact ⟨2, by go_num, by omega, (HT.out.setOther (by omega) _ _).setOther (by omega) _ _, (HR.out.setOther (by omega) _ _).setOther (by omega) _ _, blk_cells ((HM.out.set 2 _).set 3 _) (mC_set1 (by omega)), below_set (below_set Hb.out _ _ _ (by omega) Hb.out.size) _ _ _ (by omega) (by rw [setCell_size]; exact Hb.out.size)⟩
      case measure => simp [intOf]
    · have IX := wi2
      obtain ⟨t0, t1, t2, t3⟩ := four_cells HT.out
      have m0 := HM.out.cell 4 rfl
      have m1 := HM.out.cell 5 rfl
      have f0 := HM.out.frozen 4
      have f1 := HM.out.frozen 5
      go_wp2_with (first | (go_at_call 50; refine (D2.out _).mono ?_; rintro e w2 ⟨rfl, hw⟩; obtain rfl := hw.symm))
      go_roundw
      case rel => exact ⟨3, by go_num, by omega, (HT.out.setOther (by omega) _ _).setOther (by omega) _ _, (HR.out.setOther (by omega) _ _).setOther (by omega) _ _, blk_cells ((HM.out.set 4 _).set 5 _) (mC_set2 (by omega)), below_set (below_set Hb.out _ _ _ (by omega) Hb.out.size) _ _ _ (by omega) (by rw [setCell_size]; exact Hb.out.size)⟩
      case measure => simp [intOf]
    · have IX := wi3
      obtain ⟨t0, t1, t2, t3⟩ := four_cells HT.out
      have m0 := HM.out.cell 6 rfl
      have m1 := HM.out.cell 7 rfl
      have f0 := HM.out.frozen 6
      have f1 := HM.out.frozen 7
      go_wp2_with (first | (go_at_call 50; refine (D3.out _).mono ?_; rintro e w2 ⟨rfl, hw⟩; obtain rfl := hw.symm))
      go_roundw
      case rel => exact ⟨4, by go_num, by omega, (HT.out.setOther (by omega) _ _).setOther (by omega) _ _, (HR.out.setOther (by omega) _ _).setOther (by omega) _ _, blk_cells ((HM.out.set 6 _).set 7 _) (mC_set3 (by omega)), below_set (below_set Hb.out _ _ _ (by omega) Hb.out.size) _ _ _ (by omega) (by rw [setCell_size]; exact Hb.out.size)⟩
      case measure => simp [intOf]
    · obtain ⟨m0, m1, m2, m3, m4, m5, m6, m7⟩ := eight_cells HM.out
      obtain ⟨r0, r1, r2, r3, r4, r5, r6, r7⟩ := eight_cells HR.out
      obtain ⟨f0, f1, f2, f3, f4, f5, f6, f7⟩ := eight_set HR.out
      go_wp2_with fail
      exact bodyPost_ret (eight_back (p := 4) (by kernel_rfl) _ _ (w.heap.size + 1 + 1) _ _ _ _ _ _ _ _ rfl (HR.out.set44 _ _ _ _ _ _ _ _)) rfl ⟨rfl, below_set44 Hb.out _ _ _ _ _ _ _ _ _ (by omega) Hb.out.size⟩
end Go.Proofs.Ytpoodmfhcoaleaa
