/- Package guard, walked: outward, stretch. -/
import Derived.Test.YtjinfjibodoflaaGu2
namespace Go.Proofs.Ytjinfjibodoflaa
open Go.RowKit Go.Great

/-- a span's value -/
abbrev spG (l h : Int) : Value := .agg #[.int .i64 l, .int .i64 h]
/-- an axis: its place's span and its velocity's -/
structure Ax where
  pl : Int
  ph : Int
  vl : Int
  vh : Int
structure AOk (a : Ax) : Prop where
  pl : I64 a.pl
  ph : I64 a.ph
  vl : I64 a.vl
  vh : I64 a.vh
abbrev axC (a : Ax) : Array Value := #[.int .i64 a.pl, .int .i64 a.ph, .int .i64 a.vl, .int .i64 a.vh]
abbrev axV (a : Ax) : Value := .agg (axC a)
/-- margins -/
structure Mg where
  br : Int
  dr : Int
  jo : Int
  fa : Int
  la : Int
  dn : Int
abbrev mgC (m : Mg) : Array Value := #[.int .i64 m.br, .int .i64 m.dr, .int .i64 m.jo, .int .i64 m.fa, .int .i64 m.la, .int .i64 m.dn]
abbrev mgV (m : Mg) : Value := .agg (mgC m)
/-- a mm's parts, rounded up -/
def upm (x : Int) : Int := -((-x) / 6400)
/-- what one tick without braking may add to a velocity -/
def uu (br : Int) : Int := sat (86 + sat (64 - br))
def dnv (vl acc br : Int) : Int := sat (sat (vl + acc) - uu br)
def upv (vh acc br : Int) : Int := sat (sat (vh + acc) + uu br)
def rlo (pl vl acc br jo : Int) : Int := sat (sat (pl + dnv vl acc br) - stp (sat (sat (0 - dnv vl acc br) + jo)) br)
def rhi (ph vh acc br jo : Int) : Int := sat (sat (ph + upv vh acc br) + stp (sat (upv vh acc br + jo)) br)
theorem stp_in (v b : Int) : I64 (stp v b) := by
  unfold stp
  split
  · exact i64_0
  · exact sat_any _
theorem spanG_back {fn : Func} {p : Tmp} (h : fn.results = #[.cell p 26]) (tmps : Array Value) (w : World) (g : Nat) (x y : Value) (hp : tmps.getD p undef = .pointer (some ⟨g, 0, none⟩)) (hg : Blk w g #[x, y] 26) : (results fn tmps).run Try.prog w = .ok (.agg #[x, y]) w :=
  res_back h Try.underlying26 (by kernel_rfl) tmps w g hp hg
theorem two_cellsG {W : World} {d : Nat} {a b : Value} {t : TypeId} (h : Blk W d #[a, b] t) : W.cell? ⟨d, 0, none⟩ = some a ∧ W.cell? ⟨d, 1, none⟩ = some b := ⟨h.cell 0 rfl, h.cell 1 rfl⟩
theorem below_set2 {n : Nat} {w w1 : World} (h : Below n w w1) (g : Nat) (a b : Value) (hg : n ≤ g) (hn : n ≤ w1.heap.size) : Below n w ((w1.setCell ⟨g, 0, none⟩ a).setCell ⟨g, 1, none⟩ b) :=
  below_set (below_set h _ _ _ hg hn) _ _ _ hg (by rw [setCell_size]; exact hn)
theorem outward_any (l h : Int) (w : World) (hl : I64 l) (hh : I64 h) : Calls Try.prog 46 #[spG l h] w fun e w' => e = .returned (spG (l / 6400) (upm h)) ∧ Below w.heap.size w w' := by
  have DO := hide (fun W => down_any l 6400 W hl (by decide))
  have UP := hide (fun W => up_any h 6400 W hh (by decide))
  rw [show -((-h) / 6400) = upm h from rfl] at UP
  generalize l / 6400 = x at *
  generalize upm h = y at *
  clear hl hh
  obtain ⟨W0, hW0, b0, hA, hR, z0⟩ := two_boxes w #[.int .i64 l, .int .i64 h] #[.int .i64 0, .int .i64 0] 26 26
  obtain ⟨a0, a1⟩ := two_cellsG hA
  obtain ⟨r0, r1⟩ := two_cellsG hR
  have f0 := hR.frozen 0
  have f1 := hR.frozen 1
  have HR := hide hR
  have Hb := hide b0
  clear hA hR b0 z0
  go_enter Try.func46, Try.ntmps46
  go_wp2_with (first
    | (go_at_call 54; refine (DO.out _).mono ?_; rintro e w1 ⟨rfl, hw⟩; obtain rfl := hw.symm)
    | (go_at_call 55; refine (UP.out _).mono ?_; rintro e w1 ⟨rfl, hw⟩; obtain rfl := hw.symm))
  exact bodyPost_ret (spanG_back (p := 2) (by kernel_rfl) _ _ (w.heap.size + 1) _ _ rfl (HR.out.set2 _ _)) rfl ⟨rfl, below_set2 Hb.out _ _ _ (by omega) Hb.out.size⟩
set_option maxHeartbeats 2000000 in
theorem stretch_any (a : Ax) (acc : Int) (m : Mg) (w : World) (ha : AOk a) (hc : I64 acc) (hbr : I64 m.br) (hjo : I64 m.jo) : Calls Try.prog 28 #[axV a, .int .i64 acc, mgV m] w fun e w' => e = .returned (spG (rlo a.pl a.vl acc m.br m.jo / 6400) (upm (rhi a.ph a.vh acc m.br m.jo))) ∧ Below w.heap.size w w' := by
  obtain ⟨pl, ph, vl, vh⟩ := a
  obtain ⟨br, dr, jo, fa, la, dn⟩ := m
  obtain ⟨hpl, hph, hvl, hvh⟩ := ha
  simp only at hpl hph hvl hvh hbr hjo ⊢
  have A1 := hide (fun W => sub_any 64 br W (i64_of (by decide)) hbr)
  have A2 := hide (fun W => add_any 86 (sat (64 - br)) W (i64_of (by decide)) (sat_any _))
  have A3 := hide (fun W => add_any vl acc W hvl hc)
  have A4 := hide (fun W => sub_any (sat (vl + acc)) (uu br) W (sat_any _) (sat_any _))
  have A5 := hide (fun W => add_any vh acc W hvh hc)
  have A6 := hide (fun W => add_any (sat (vh + acc)) (uu br) W (sat_any _) (sat_any _))
  have B1 := hide (fun W => add_any pl (dnv vl acc br) W hpl (sat_any _))
  have B2 := hide (fun W => sub_any 0 (dnv vl acc br) W i64_0 (sat_any _))
  have B3 := hide (fun W => add_any (sat (0 - dnv vl acc br)) jo W (sat_any _) hjo)
  have B4 := hide (fun W => stop_any (sat (sat (0 - dnv vl acc br) + jo)) br W (sat_any _) hbr)
  have B5 := hide (fun W => sub_any (sat (pl + dnv vl acc br)) (stp (sat (sat (0 - dnv vl acc br) + jo)) br) W (sat_any _) (stp_in _ _))
  have C1 := hide (fun W => add_any ph (upv vh acc br) W hph (sat_any _))
  have C3 := hide (fun W => add_any (upv vh acc br) jo W (sat_any _) hjo)
  have C4 := hide (fun W => stop_any (sat (upv vh acc br + jo)) br W (sat_any _) hbr)
  have C5 := hide (fun W => add_any (sat (ph + upv vh acc br)) (stp (sat (upv vh acc br + jo)) br) W (sat_any _) (stp_in _ _))
  have OU := hide (fun W => outward_any (rlo pl vl acc br jo) (rhi ph vh acc br jo) W (sat_any _) (sat_any _))
  rw [show sat (sat (pl + dnv vl acc br) - stp (sat (sat (0 - dnv vl acc br) + jo)) br) = rlo pl vl acc br jo from rfl] at B5
  rw [show sat (sat (ph + upv vh acc br) + stp (sat (upv vh acc br + jo)) br) = rhi ph vh acc br jo from rfl] at C5
  rw [show sat (sat (vl + acc) - uu br) = dnv vl acc br from rfl] at A4
  rw [show sat (sat (vh + acc) + uu br) = upv vh acc br from rfl] at A6
  rw [show sat (86 + sat (64 - br)) = uu br from rfl] at A2
  generalize rlo pl vl acc br jo / 6400 = zl at *
  generalize upm (rhi ph vh acc br jo) = zh at *
  generalize rlo pl vl acc br jo = rl at *
  generalize rhi ph vh acc br jo = rh at *
  generalize stp (sat (sat (0 - dnv vl acc br) + jo)) br = s1 at *
  generalize stp (sat (upv vh acc br + jo)) br = s2 at *
  generalize sat (sat (0 - dnv vl acc br) + jo) = b3 at *
  generalize sat (0 - dnv vl acc br) = b2 at *
  generalize sat (pl + dnv vl acc br) = b1 at *
  generalize sat (upv vh acc br + jo) = c3 at *
  generalize sat (ph + upv vh acc br) = c1 at *
  generalize dnv vl acc br = dv at *
  generalize upv vh acc br = uv at *
  generalize sat (vl + acc) = a3 at *
  generalize sat (vh + acc) = a5 at *
  generalize uu br = u at *
  generalize sat (64 - br) = a1 at *
  clear hpl hph hvl hvh hbr hjo hc
  obtain ⟨W0, hW0, b0, hA, hM, hR, z0⟩ := three_boxes w (axC ⟨pl, ph, vl, vh⟩) (mgC ⟨br, dr, jo, fa, la, dn⟩) #[.int .i64 0, .int .i64 0] 28 32 26
  have HA := hide hA
  have HM := hide hM
  have HR := hide hR
  have Hb := hide b0
  have p0 := hA.cell 0 rfl
  have p1 := hA.cell 1 rfl
  have p2 := hA.cell 2 rfl
  have p3 := hA.cell 3 rfl
  have m0 := hM.cell 0 rfl
  have m2 := hM.cell 2 rfl
  clear hA hM hR b0 z0
  go_enter Try.func28, Try.ntmps28
  go_upto_region 2 with (first
    | (go_at_call 45; refine (A1.out _).mono ?_; rintro e w1 ⟨rfl, hw⟩; obtain rfl := hw.symm)
    | (go_at_call 44; refine (A2.out _).mono ?_; rintro e w1 ⟨rfl, hw⟩; obtain rfl := hw.symm))
  clear A1 A2
  go_upto_region 3 with (first
    | (go_at_call 45; refine (A4.out _).mono ?_; rintro e w1 ⟨rfl, hw⟩; obtain rfl := hw.symm)
    | (go_at_call 44; refine (A3.out _).mono ?_; rintro e w1 ⟨rfl, hw⟩; obtain rfl := hw.symm))
  clear A3 A4
  go_upto_region 4 with (first
    | (go_at_call_of 44 (Value.int IntKind.i64 vh); refine (A5.out _).mono ?_; rintro e w1 ⟨rfl, hw⟩; obtain rfl := hw.symm)
    | (go_at_call_of 44 (Value.int IntKind.i64 a5); refine (A6.out _).mono ?_; rintro e w1 ⟨rfl, hw⟩; obtain rfl := hw.symm))
  clear A5 A6
  go_quiet (first
    | (go_at_call_of 44 (Value.int IntKind.i64 pl); exact Calls.quiet_of_same (B1.out _))
    | (go_at_call_of 45 (Value.int IntKind.i64 0); exact Calls.quiet_of_same (B2.out _))
    | (go_at_call_of 44 (Value.int IntKind.i64 b2); exact Calls.quiet_of_same (B3.out _))
    | (go_at_call 10; exact Calls.quiet_of (B4.out _))
    | (go_at_call_of 45 (Value.int IntKind.i64 b1); exact Calls.quiet_of_same (B5.out _)))
  clear B1 B2 B3 B4 B5
  replace HA := hide (blk_drewN HA.out nq)
  replace HM := hide (blk_drewN HM.out nq)
  replace HR := hide (blk_drewN HR.out nq)
  replace Hb := hide (below_drewN Hb.out nq)
  clear p0 p1 p2 p3 m0 m2 hW0
  generalize W0.drewN nq = W1 at *
  have p1 := HA.out.cell 1 rfl
  have m0 := HM.out.cell 0 rfl
  have m2 := HM.out.cell 2 rfl
  go_upto_region 5 with fail
  go_quiet (first
    | (go_at_call_of 44 (Value.int IntKind.i64 ph); exact Calls.quiet_of_same (C1.out _))
    | (go_at_call_of 44 (Value.int IntKind.i64 uv); exact Calls.quiet_of_same (C3.out _))
    | (go_at_call 10; exact Calls.quiet_of (C4.out _))
    | (go_at_call_of 44 (Value.int IntKind.i64 c1); exact Calls.quiet_of_same (C5.out _)))
  clear C1 C3 C4 C5
  replace HR := hide (blk_drewN HR.out nq)
  replace Hb := hide (below_drewN Hb.out nq)
  clear p1 m0 m2 HA HM
  generalize W1.drewN nq = W2 at *
  go_wp2_with fail
  refine (OU.out _).mono ?_
  rintro e w1 ⟨rfl, hb1⟩
  replace HR := hide (HR.out.after hb1)
  replace Hb := hide (below_next Hb.out (Nat.le_refl _) hb1)
  clear hb1
  obtain ⟨r0, r1⟩ := two_cellsG HR.out
  have f0 := HR.out.frozen 0
  have f1 := HR.out.frozen 1
  go_wp2_with fail
  exact bodyPost_ret (spanG_back (p := 6) (by kernel_rfl) _ _ (w.heap.size + 1 + 1) _ _ rfl (HR.out.set2 _ _)) rfl ⟨rfl, below_set2 Hb.out _ _ _ (by omega) Hb.out.size⟩
end Go.Proofs.Ytjinfjibodoflaa
