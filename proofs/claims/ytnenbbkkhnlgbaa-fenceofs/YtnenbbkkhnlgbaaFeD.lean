/- Package fence: sound, Decode. -/
import Derived.Test.YtnenbbkkhnlgbaaFe9
import Derived.Test.YtnenbbkkhnlgbaaGeL
namespace Go.Proofs.Ytnenbbkkhnlgbaa
open Go.RowKit Go.Great

theorem fence_back {fn : Func} (h : fn.results = #[.cell 2 24, .tmp 3]) (tmps : Array Value) (w : World) (g : Nat) (x y z u : Value) (b : Value) (hp : tmps.getD 2 undef = .pointer (some ⟨g, 0, none⟩)) (hq : tmps.getD 3 undef = b) (hg : Blk w g #[x, y, z, u] 24) : (results fn tmps).run Try.prog w = .ok (.tuple #[.agg #[x, y, z, u], b]) w := by
  rw [results_cell_tmp h]
  have := run_loadVar_row (P := Try.prog) w g 24 24 #[x, y, z, u] (0, 0) _ hg Try.underlying24 rfl (by kernel_rfl)
  rw [hp, hq]
  simp [asAddr, this, Result.andThen]
theorem fence_one {fn : Func} {p : Tmp} (h : fn.results = #[.cell p 24]) (tmps : Array Value) (w : World) (g : Nat) (x y z u : Value) (hp : tmps.getD p undef = .pointer (some ⟨g, 0, none⟩)) (hg : Blk w g #[x, y, z, u] 24) : (results fn tmps).run Try.prog w = .ok (.agg #[x, y, z, u]) w := by
  rw [results_one h]
  have := run_loadVar_row (P := Try.prog) w g 24 24 #[x, y, z, u] (0, 0) _ hg Try.underlying24 rfl (by kernel_rfl)
  rw [hp]
  simp [asAddr, this, Result.andThen]
theorem Blk.set4 {W : World} {B : Nat} {a b c d : Value} {t : TypeId} (h : Blk W B #[a, b, c, d] t) (x y z u : Value) : Blk ((((W.setCell ⟨B, 0, none⟩ x).setCell ⟨B, 1, none⟩ y).setCell ⟨B, 2, none⟩ z).setCell ⟨B, 3, none⟩ u) B #[x, y, z, u] t := heap_set (heap_set (heap_set (heap_set h 0 x) 1 y) 2 z) 3 u
theorem setCell_size (w : World) (g k : Nat) (x : Value) : (w.setCell ⟨g, k, none⟩ x).heap.size = w.heap.size := by
  have h1 := (grown_set w g k x).size
  refine Nat.le_antisymm ?_ h1
  unfold World.setCell
  split <;> simp
theorem below_set {n : Nat} {w w1 : World} (h : Below n w w1) (g k : Nat) (x : Value) (hg : n ≤ g) (hn : n ≤ w1.heap.size) : Below n w (w1.setCell ⟨g, k, none⟩ x) := h.grown (grown_set w1 g k x) hn (fun j e => by injection e with e; omega)
theorem below_set4 {n : Nat} {w w1 : World} (h : Below n w w1) (g : Nat) (x y z u : Value) (hg : n ≤ g) (hn : n ≤ w1.heap.size) : Below n w ((((w1.setCell ⟨g, 0, none⟩ x).setCell ⟨g, 1, none⟩ y).setCell ⟨g, 2, none⟩ z).setCell ⟨g, 3, none⟩ u) := by
  refine below_set (below_set (below_set (below_set h g 0 x hg hn) g 1 y hg ?_) g 2 z hg ?_) g 3 u hg ?_
  all_goals simp only [setCell_size]; exact hn
theorem grown_set4 (w1 : World) (g : Nat) (x y z u : Value) : w1.grownBy ((((w1.setCell ⟨g, 0, none⟩ x).setCell ⟨g, 1, none⟩ y).setCell ⟨g, 2, none⟩ z).setCell ⟨g, 3, none⟩ u) (some g) := by
  have h1 := grown_set w1 g 0 x
  have h2 := grown_then h1 (grown_set _ g 1 y) (fun k e => by injection e with e; exact Or.inl e.symm)
  have h3 := grown_then h2 (grown_set _ g 2 z) (fun k e => by injection e with e; exact Or.inl e.symm)
  exact grown_then h3 (grown_set _ g 3 u) (fun k e => by injection e with e; exact Or.inl e.symm)
/-- a fence that was read, or none -/
def sndV (c : Int) (p : Value) (fl ce : Int) (r : Value) : Value := if c = 0 then fV p fl ce r else fV (.slice none 0 0) 0 0 (.slice none 0 0)
set_option maxRecDepth 100000 in
set_option maxHeartbeats 4000000 in
theorem sound_any (P R : List Pt) (fl ce : Int) (p r : Value) (w : World) (hp : Pts w p P) (hr : Pts w r R) (hP : P.length ≤ 4611686018427387904) (hR : R.length ≤ 4611686018427387904) : Calls Try.prog 64 #[fV p fl ce r] w fun e w' => e = .returned (.tuple #[sndV (chk P fl ce R) p fl ce r, .int .i64 (chk P fl ce R)]) ∧ Below w.heap.size w w' := by
  have CH := fun W (hb : Below w.heap.size w W) => check_any P R fl ce p r W (hp.below hb) (hr.below hb) hP hR
  generalize chk P fl ce R = c at CH ⊢
  obtain ⟨ap, cp, rfl, hcl⟩ := hp
  obtain ⟨ar, cr, rfl, hcl'⟩ := hr
  generalize P.length = n1 at *
  generalize R.length = n2 at *
  clear hcl hcl' hP hR
  simp only [fV] at *
  go_enter Try.func64, Try.ntmps64
  go_wp2_with fail
  obtain ⟨W0, hW0, hB, B0, B1, hz⟩ := two_boxes w #[.slice ap n1 cp, .int .i64 fl, .int .i64 ce, .slice ar n2 cr] #[.slice none 0 0, .int .i64 0, .int .i64 0, .slice none 0 0] 24 24
  rw [hW0]
  clear hW0
  refine (CH W0 hB).mono ?_
  rintro e w1 ⟨rfl, hb1⟩
  have hz1 := hb1.size
  replace B0 := B0.after hb1
  replace B1 := B1.after hb1
  replace hB := below_next hB (Nat.le_refl _) hb1
  clear hb1 CH
  have k0 := B0.cell 0 rfl
  have k1 := B0.cell 1 rfl
  have k2 := B0.cell 2 rfl
  have k3 := B0.cell 3 rfl
  have m0 := B1.cell 0 rfl
  have m1 := B1.cell 1 rfl
  have m2 := B1.cell 2 rfl
  have m3 := B1.cell 3 rfl
  have fz := B1.frozen
  have HB1 := hide B1
  have HB := hide hB
  clear B0 B1 hB
  by_cases hs : c = 0
  · subst hs
    go_wp2_with fail
    refine bodyPost_ret (fence_back Try.results64 _ _ (w.heap.size + 1) _ _ _ _ _ rfl rfl (HB1.out.set4 _ _ _ _)) rfl ?_
    exact ⟨by rw [sndV, if_pos rfl]; rfl, below_set4 HB.out _ _ _ _ _ (by omega) (by omega)⟩
  · go_wp2_with fail
    all_goals refine bodyPost_ret (fence_back Try.results64 _ _ (w.heap.size + 1) _ _ _ _ _ rfl rfl (HB1.out.set4 _ _ _ _)) rfl ?_
    all_goals exact ⟨by rw [sndV, if_neg hs]; rfl, below_set4 HB.out _ _ _ _ _ (by omega) (by omega)⟩
/-- what bytes are read as -/
structure Dec where
  P : List Pt
  fl : Int
  ce : Int
  R : List Pt
def rd1 (s : RS) : List Pt × RS := (ptN ((tkT s.1 s.2 1).getD 0 0).toNat (tkL s.1 s.2 1, tkS s.1 s.2 1), stN ((tkT s.1 s.2 1).getD 0 0).toNat (tkL s.1 s.2 1, tkS s.1 s.2 1))
def decD (l : List UInt8) : Dec × RS :=
  let a := rd1 (l, false)
  let b := stp a.2
  let c := stp b.2
  let d := rd1 c.2
  (⟨a.1, b.1, c.1, d.1⟩, d.2)
def decE (l : List UInt8) : Int := if (decD l).2.2 = false ∧ (decD l).2.1 = [] then chk (decD l).1.P (decD l).1.fl (decD l).1.ce (decD l).1.R else 3
/-- what Decode answers -/
def decA (l : List UInt8) : Dec := if decE l = 0 then (decD l).1 else ⟨[], 0, 0, []⟩
theorem rd1_len (s : RS) : (rd1 s).1.length ≤ 255 ∧ (rd1 s).2.1.length ≤ s.1.length := by
  unfold rd1
  refine ⟨?_, Nat.le_trans (stN_len _ _) (tkL_len _ _ _)⟩
  simp only
  rw [ptN_len]
  have := ((tkT s.1 s.2 1).getD 0 0).toNat_lt
  omega
theorem stp_len (s : RS) : (stp s).2.1.length ≤ s.1.length := tkL_len _ _ _
set_option maxRecDepth 100000 in
set_option maxHeartbeats 4000000 in
theorem decode_any (s : ByteArray) (hs : s.size ≤ 4611686018427387904) (w : World) : Calls Try.prog 29 #[.string s] w fun e w' => ∃ p r, e = .returned (.tuple #[fV p (decA s.data.toList).fl (decA s.data.toList).ce r, .int .i64 (decE s.data.toList)]) ∧ PRow w' w.heap.size p (decA s.data.toList).P ∧ PRow w' w.heap.size r (decA s.data.toList).R ∧ (∀ g, p.ownBlock = some g → r.ownBlock ≠ some g) ∧ Below w.heap.size w w' := by
  obtain ⟨l, rfl⟩ : ∃ l, s = bs l := ⟨_, (bs_of s).symm⟩
  rw [bs_list]
  rw [bs_size] at hs
  have Z1 := rd1_len (l, false)
  have P1 := fun W B (h : Rd W B l false) => points_any l false hs B W h
  have HA : Hid (rd1 (l, false) = (ptN ((tkT l false 1).getD 0 0).toNat (tkL l false 1, tkS l false 1), stN ((tkT l false 1).getD 0 0).toNat (tkL l false 1, tkS l false 1))) := rfl
  obtain ⟨a, ha⟩ : ∃ a, rd1 (l, false) = a := ⟨_, rfl⟩
  obtain ⟨b, hb⟩ : ∃ b, stp a.2 = b := ⟨_, rfl⟩
  obtain ⟨c, hc⟩ : ∃ c, stp b.2 = c := ⟨_, rfl⟩
  obtain ⟨d, hd⟩ : ∃ d, rd1 c.2 = d := ⟨_, rfl⟩
  have HD : Hid (decD l = (⟨a.1, b.1, c.1, d.1⟩, d.2)) := hide (by unfold decD; simp only [ha, hb, hc, hd])
  have z1 := ha ▸ Z1
  have z2 := hb ▸ stp_len a.2
  have z3 := hc ▸ stp_len b.2
  have z4 := hd ▸ rd1_len c.2
  simp only at z1
  have N1 := fun W B (h : Rd W B a.2.1 a.2.2) => number_any a.2.1 a.2.2 (by omega) B W h
  have N2 := fun W B (h : Rd W B b.2.1 b.2.2) => number_any b.2.1 b.2.2 (by omega) B W h
  have P2 := fun W B (h : Rd W B c.2.1 c.2.2) => points_any c.2.1 c.2.2 (by omega) B W h
  have e1 : numL (tkT a.2.1 a.2.2 4) = b.1 := congrArg Prod.fst hb
  have e2 : tkL a.2.1 a.2.2 4 = b.2.1 := congrArg (fun z => z.2.1) hb
  have e3 : tkS a.2.1 a.2.2 4 = b.2.2 := congrArg (fun z => z.2.2) hb
  have e4 : numL (tkT b.2.1 b.2.2 4) = c.1 := congrArg Prod.fst hc
  have e5 : tkL b.2.1 b.2.2 4 = c.2.1 := congrArg (fun z => z.2.1) hc
  have e6 : tkS b.2.1 b.2.2 4 = c.2.2 := congrArg (fun z => z.2.2) hc
  have e7 : ptN ((tkT c.2.1 c.2.2 1).getD 0 0).toNat (tkL c.2.1 c.2.2 1, tkS c.2.1 c.2.2 1) = d.1 := congrArg Prod.fst hd
  have e8 : stN ((tkT c.2.1 c.2.2 1).getD 0 0).toNat (tkL c.2.1 c.2.2 1, tkS c.2.1 c.2.2 1) = d.2 := congrArg Prod.snd hd
  have e9 : ptN ((tkT l false 1).getD 0 0).toNat (tkL l false 1, tkS l false 1) = a.1 := (congrArg Prod.fst HA.out).symm.trans (congrArg Prod.fst ha)
  have e10 : stN ((tkT l false 1).getD 0 0).toNat (tkL l false 1, tkS l false 1) = a.2 := (congrArg Prod.snd HA.out).symm.trans (congrArg Prod.snd ha)
  rw [e1, e2, e3] at N1
  rw [e4, e5, e6] at N2
  rw [e7, e8] at P2
  rw [e9, e10] at P1
  clear e1 e2 e3 e4 e5 e6 e7 e8 e9 e10 HA Z1 z2 z3 ha hb hc hd
  have SO := fun W (p r : Value) (h1 : Pts W p a.1) (h2 : Pts W r d.1) => sound_any a.1 d.1 b.1 c.1 p r W h1 h2 (by omega) (by omega)
  have HDE : Hid (decE l = if d.2.2 = false ∧ d.2.1 = [] then chk a.1 b.1 c.1 d.1 else 3) := hide (by unfold decE; rw [HD.out])
  have HDA : Hid (decA l = if decE l = 0 then ⟨a.1, b.1, c.1, d.1⟩ else ⟨[], 0, 0, []⟩) := hide (by unfold decA; rw [HD.out])
  clear HD
  generalize decA l = D at *
  generalize decE l = E at *
  obtain ⟨aP, aS, aF⟩ := a
  obtain ⟨bN, bS, bF⟩ := b
  obtain ⟨cN, cS, cF⟩ := c
  obtain ⟨dP, dS, dF⟩ := d
  simp only at *
  have HZA := hide z1
  have HZD := hide z4
  clear z1 z4
  go_enter Try.func29, Try.ntmps29
  go_wp2_with fail
  obtain ⟨W0, hW0, hB, B0, B1, hz⟩ := two_boxes w #[.slice none 0 0, .int .i64 0, .int .i64 0, .slice none 0 0] #[.string (bs l), .bool false] 24 86
  rw [hW0]
  clear hW0
  refine (P1 _ _ B1).mono ?_
  rintro e w1 ⟨p, rfl, hP1, hR1, hg1⟩
  have B0a := B0.grown hg1 (by simp)
  clear B0 B1 P1
  obtain ⟨pa, pc, rfl⟩ := hP1.form
  generalize hpl : aP.length = pl at *
  have HPL := hide hpl
  clear hpl
  go_wp2_with fail
  refine (N1 _ _ hR1).mono ?_
  rintro e w2 ⟨rfl, hR2, hg2⟩
  have hP2 := hP1.grown hg2 (hP1.noblk hR1 (by decide))
  have B0b := B0a.grown hg2 (by simp)
  have g12 := grown_then hg1 hg2 (fun k e => by injection e with e; exact Or.inl e.symm)
  have hz1 := hg1.size
  have hz2 := hg2.size
  clear N1 hR1 B0a hg1 hg2
  go_wp2_with fail
  refine (N2 _ _ hR2).mono ?_
  rintro e w3 ⟨rfl, hR3, hg3⟩
  have hP3 := hP2.grown hg3 (hP2.noblk hR2 (by decide))
  have B0c := B0b.grown hg3 (by simp)
  have g13 := grown_then g12 hg3 (fun k e => by injection e with e; exact Or.inl e.symm)
  have hz3 := hg3.size
  clear N2 hR2 B0b g12 hg3 hP2
  go_wp2_with fail
  refine (P2 _ _ hR3).mono ?_
  rintro e w4 ⟨r, rfl, hP4, hR4, hg4⟩
  have hP5 := hP3.grown hg4 (hP3.noblk hR3 (by decide))
  have B0d := B0c.grown hg4 (by simp)
  have g14 := grown_then g13 hg4 (fun k e => by injection e with e; exact Or.inl e.symm)
  have hz4 := hg4.size
  have HAP : Hid (∀ g, (Value.slice pa pl pc).ownBlock = some g → r.ownBlock ≠ some g) := fun g h1 h2 => by
    have q1 := (hP1.lt g h1).2
    have q2 := (hP4.lt g h2).1
    omega
  have hB4 : Below w.heap.size w w4 := hB.grown g14 (by omega) (fun k e => by injection e with e; omega)
  have HP := hide (hP5.mono (base' := w.heap.size) (by omega))
  have HR := hide (hP4.mono (base' := w.heap.size) (by omega))
  clear P2 hR3 B0c g13 hg4 hP1 hP3 hP4 hP5 g14
  obtain ⟨ra, rc, rfl⟩ := HR.out.form
  generalize hrl : dP.length = rl at *
  have HRL := hide hrl
  clear hrl
  have B0e := B0d.alloc (.cells #[.slice pa pl pc, .int .i64 bN, .int .i64 cN, .slice ra rl rc] 24)
  have hR5 : Rd (w4.alloc (.cells #[.slice pa pl pc, .int .i64 bN, .int .i64 cN, .slice ra rl rc] 24)) (w.heap.size + 1) dS dF := Blk.alloc hR4 _
  have B2 := Blk.new w4 #[.slice pa pl pc, .int .i64 bN, .int .i64 cN, .slice ra rl rc] 24
  obtain ⟨W5, hW5⟩ : ∃ W5, w4.alloc (.cells #[.slice pa pl pc, .int .i64 bN, .int .i64 cN, .slice ra rl rc] 24) = W5 := ⟨_, rfl⟩
  have hb5 : Below w4.heap.size w4 W5 := hW5 ▸ below_alloc _ _
  rw [hW5] at B0e hR5 B2
  have k0 := hR5.cell 0 rfl
  have k1 := hR5.cell 1 rfl
  have j0 := B2.cell 0 rfl
  have j1 := B2.cell 1 rfl
  have j2 := B2.cell 2 rfl
  have j3 := B2.cell 3 rfl
  have m0 := B0e.cell 0 rfl
  have m1 := B0e.cell 1 rfl
  have m2 := B0e.cell 2 rfl
  have m3 := B0e.cell 3 rfl
  have fz := B0e.frozen
  have HP6 := hide (HP.out.below hb5)
  have HR6 := hide (HR.out.below hb5)
  have HB5 := hide (below_next hB4 (by omega) hb5)
  have hz5 := hb5.size
  have HB0e := hide B0e
  have HR5 := hide hR5
  clear hR4 B0d hB4 hb5 HP HR B0e B2 hR5
  by_cases hfin : dF = false ∧ dS = []
  · obtain ⟨rfl, rfl⟩ := hfin
    have HE2 : Hid (E = chk aP bN cN dP) := hide (by rw [HDE.out]; simp)
    have hbs : bs [] = ⟨#[]⟩ := rfl
    rw [hbs] at k0
    clear HDE
    go_wp2_with fail
    by_cases hE : chk aP bN cN dP = 0
    · refine (SO _ _ _ HP6.out.pts HR6.out.pts).mono ?_
      rintro e w7 ⟨rfl, hb7⟩
      rw [hE]
      have HD2 : Hid (D = ⟨aP, bN, cN, dP⟩) := hide (by rw [HDA.out, if_pos (by rw [HE2.out, hE])])
      have HE3 : Hid (E = 0) := hide (by rw [HE2.out, hE])
      clear HDA HE2 hE SO k0 k1 j0 j1 j2 j3 m0 m1 m2 m3 fz
      have B8 := HB0e.out.after hb7
      have m0 := B8.cell 0 rfl
      have m1 := B8.cell 1 rfl
      have m2 := B8.cell 2 rfl
      have m3 := B8.cell 3 rfl
      have fz := B8.frozen
      have HB8 := hide B8
      have HP7 := hide (HP6.out.below hb7)
      have HR7 := hide (HR6.out.below hb7)
      have HB7 := hide (below_next HB5.out (by omega) hb7)
      have hz7 := hb7.size
      rw [sndV, if_pos rfl]
      simp only [fV]
      clear B8 hb7
      go_wp2_with fail
      refine bodyPost_ret (fence_back Try.results29 _ _ w.heap.size _ _ _ _ _ rfl rfl (HB8.out.set4 _ _ _ _)) rfl ?_
      rw [HD2.out, HE3.out]
      refine ⟨_, _, rfl, ?_, ?_, HAP.out, below_set4 HB7.out _ _ _ _ _ (by omega) (by omega)⟩
      · exact HP7.out.grown (grown_set4 _ _ _ _ _ _) (HP7.out.noblk HB8.out (by decide))
      · exact HR7.out.grown (grown_set4 _ _ _ _ _ _) (HR7.out.noblk HB8.out (by decide))
    · refine (SO _ _ _ HP6.out.pts HR6.out.pts).mono ?_
      rintro e w7 ⟨rfl, hb7⟩
      have HD2 : Hid (D = ⟨[], 0, 0, []⟩) := hide (by rw [HDA.out, if_neg (by rw [HE2.out]; exact hE)])
      rw [sndV, if_neg hE, ← HE2.out]
      clear HDA HE2 hE SO k0 k1 j0 j1 j2 j3 m0 m1 m2 m3 fz
      have B8 := HB0e.out.after hb7
      have m0 := B8.cell 0 rfl
      have m1 := B8.cell 1 rfl
      have m2 := B8.cell 2 rfl
      have m3 := B8.cell 3 rfl
      have fz := B8.frozen
      have HB8 := hide B8
      have HB7 := hide (below_next HB5.out (by omega) hb7)
      have hz7 := hb7.size
      simp only [fV]
      clear B8 hb7
      go_wp2_with fail
      refine bodyPost_ret (fence_back Try.results29 _ _ w.heap.size _ _ _ _ _ rfl rfl (HB8.out.set4 _ _ _ _)) rfl ?_
      rw [HD2.out]
      exact ⟨_, _, rfl, PRow.nil _ _, PRow.nil _ _, (fun g h => by cases h), below_set4 HB7.out _ _ _ _ _ (by omega) (by omega)⟩
  · have HE2 : Hid (E = 3) := hide (by rw [HDE.out, if_neg hfin])
    have HD2 : Hid (D = ⟨[], 0, 0, []⟩) := hide (by rw [HDA.out, HE2.out]; rfl)
    clear HDE HDA SO j0 j1 j2 j3
    cases dF
    · have hne : (bs dS).toList.isEmpty = false := by
        rw [ByteArray.toList_eq, bs_list]
        cases dS with
        | nil => exact absurd ⟨rfl, rfl⟩ hfin
        | cons x y => rfl
      generalize bs dS = ds at *
      clear hfin
      go_wp2_with fail
      refine bodyPost_ret (fence_back Try.results29 _ _ w.heap.size _ _ _ _ _ rfl rfl (HB0e.out.set4 _ _ _ _)) rfl ?_
      rw [HD2.out, HE2.out]
      exact ⟨_, _, rfl, PRow.nil _ _, PRow.nil _ _, (fun g h => by cases h), below_set4 HB5.out _ _ _ _ _ (by omega) (by omega)⟩
    · generalize bs dS = ds at *
      clear hfin
      go_wp2_with fail
      refine bodyPost_ret (fence_back Try.results29 _ _ w.heap.size _ _ _ _ _ rfl rfl (HB0e.out.set4 _ _ _ _)) rfl ?_
      rw [HD2.out, HE2.out]
      exact ⟨_, _, rfl, PRow.nil _ _, PRow.nil _ _, (fun g h => by cases h), below_set4 HB5.out _ _ _ _ _ (by omega) (by omega)⟩
end Go.Proofs.Ytnenbbkkhnlgbaa
