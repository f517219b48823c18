/- Sq7. -/
import Derived.Test.YtcjahdgppnmdkaaStoreRunsG07
set_option maxRecDepth 100000
namespace Go.Proofs.Ytcjahdgppnmdkaa
open Go.RowKit Go.Great
/-- what Put of a good number and value leaves: the flash, the store, whether it stands, an error's number -/
def putA (ρ : St) (sec : Nat) (V : Nat → Option (List UInt8)) (en i : Nat) (v : List UInt8) : St × Kpt × Bool × Int :=
  if 4096 < sumV (upV V i v) 3 then (ρ, (sec, V, en), false, 70)
  else if en + (4 + v.length) ≤ 4096 then
    if (progRR ρ ((sec * 4096 + en : Nat) : Int) (bs (recB i v))).2 = 0 then ((progRR ρ ((sec * 4096 + en : Nat) : Int) (bs (recB i v))).1, (sec, upV V i v, en + (4 + v.length)), false, 0)
    else ((progRR ρ ((sec * 4096 + en : Nat) : Int) (bs (recB i v))).1, (sec, V, en), true, (progRR ρ ((sec * 4096 + en : Nat) : Int) (bs (recB i v))).2)
  else if (moveR ρ sec (upV V i v)).2.2 = 0 then ((moveR ρ sec (upV V i v)).1, (1 - sec, upV V i v, (moveR ρ sec (upV V i v)).2.1), false, 0)
  else ((moveR ρ sec (upV V i v)).1, (sec, V, en), true, (moveR ρ sec (upV V i v)).2.2)
def putR (ρ : St) (sec : Nat) (V : Nat → Option (List UInt8)) (en : Nat) (st : Bool) (id : Int) (v : List UInt8) : St × Kpt × Bool × Int :=
  if st = true then (ρ, (sec, V, en), true, 60)
  else if ¬ (0 ≤ id ∧ id < 3) ∨ 2000 < v.length then (ρ, (sec, V, en), false, 1)
  else putA ρ sec V en id.toNat v
def PtEnd (x : St × Kpt × Bool × Int) (X D cap T : Nat) (w : World) (e : Ending) (w' : World) : Prop :=
  e = .returned (.int .i64 x.2.2.2) ∧ Rf w' X D cap x.1 ∧ Bl w' T (skC X (x.2.1.1 : Int) x.2.1.2.1 (x.2.1.2.2 : Nat) false x.2.2.1) 133 ∧ K3 X D T w w'
theorem pt_fin {w w5 : World} {X D cap T B : Nat} {τ : St} {se c0 c1 c2 c3 c4 c5 c6 c7 c8 : Value} {h0 h1 h2 : Bool} {s0 s1 s2 : ByteArray} {a : Int} (hR : Rf w5 X D cap τ) (hT : Bl w5 T #[fp X, se, c0, c1, c2, c3, c4, c5, c6, c7, c8] 133) (hk : K3 X D T w w5) (hB : w.heap.size ≤ B) (b1 : B ≠ X) (b2 : B ≠ D) (b3 : B ≠ T) (hTX : T ≠ X) (hTD : T ≠ D) : Rf ((((((((((w5.setCell ⟨B, 6, none⟩ (.int .i64 a)).setCell ⟨T, 2, none⟩ (.bool h0)).setCell ⟨T, 3, none⟩ (.bool h1)).setCell ⟨T, 4, none⟩ (.bool h2)).setCell ⟨T, 5, none⟩ (.string s0)).setCell ⟨T, 6, none⟩ (.string s1)).setCell ⟨T, 7, none⟩ (.string s2)).setCell ⟨T, 8, none⟩ (.int .i64 a)).setCell ⟨T, 9, none⟩ (.bool false)).setCell ⟨T, 10, none⟩ (.bool false)) X D cap τ ∧ Bl ((((((((((w5.setCell ⟨B, 6, none⟩ (.int .i64 a)).setCell ⟨T, 2, none⟩ (.bool h0)).setCell ⟨T, 3, none⟩ (.bool h1)).setCell ⟨T, 4, none⟩ (.bool h2)).setCell ⟨T, 5, none⟩ (.string s0)).setCell ⟨T, 6, none⟩ (.string s1)).setCell ⟨T, 7, none⟩ (.string s2)).setCell ⟨T, 8, none⟩ (.int .i64 a)).setCell ⟨T, 9, none⟩ (.bool false)).setCell ⟨T, 10, none⟩ (.bool false)) T #[fp X, se, .bool h0, .bool h1, .bool h2, .string s0, .string s1, .string s2, .int .i64 a, .bool false, .bool false] 133 ∧ K3 X D T w ((((((((((w5.setCell ⟨B, 6, none⟩ (.int .i64 a)).setCell ⟨T, 2, none⟩ (.bool h0)).setCell ⟨T, 3, none⟩ (.bool h1)).setCell ⟨T, 4, none⟩ (.bool h2)).setCell ⟨T, 5, none⟩ (.string s0)).setCell ⟨T, 6, none⟩ (.string s1)).setCell ⟨T, 7, none⟩ (.string s2)).setCell ⟨T, 8, none⟩ (.int .i64 a)).setCell ⟨T, 9, none⟩ (.bool false)).setCell ⟨T, 10, none⟩ (.bool false)) := by
  refine ⟨?_, ?_, ?_⟩
  · exact (((((((((hR.set3 b1 b2 _ _).set3 hTX hTD _ _).set3 hTX hTD _ _).set3 hTX hTD _ _).set3 hTX hTD _ _).set3 hTX hTD _ _).set3 hTX hTD _ _).set3 hTX hTD _ _).set3 hTX hTD _ _).set3 hTX hTD _ _
  · have g := hT.setOther (C := B) (Ne.symm b3) 6 (.int .i64 a)
    have g0 : Bl _ T #[fp X, se, .bool h0, c1, c2, c3, c4, c5, c6, c7, c8] 133 := g.set 2 (.bool h0)
    have g1 : Bl _ T #[fp X, se, .bool h0, .bool h1, c2, c3, c4, c5, c6, c7, c8] 133 := g0.set 3 (.bool h1)
    have g2 : Bl _ T #[fp X, se, .bool h0, .bool h1, .bool h2, c3, c4, c5, c6, c7, c8] 133 := g1.set 4 (.bool h2)
    have g3 : Bl _ T #[fp X, se, .bool h0, .bool h1, .bool h2, .string s0, c4, c5, c6, c7, c8] 133 := g2.set 5 (.string s0)
    have g4 : Bl _ T #[fp X, se, .bool h0, .bool h1, .bool h2, .string s0, .string s1, c5, c6, c7, c8] 133 := g3.set 6 (.string s1)
    have g5 : Bl _ T #[fp X, se, .bool h0, .bool h1, .bool h2, .string s0, .string s1, .string s2, c6, c7, c8] 133 := g4.set 7 (.string s2)
    have g6 : Bl _ T #[fp X, se, .bool h0, .bool h1, .bool h2, .string s0, .string s1, .string s2, .int .i64 a, c7, c8] 133 := g5.set 8 (.int .i64 a)
    have g7 : Bl _ T #[fp X, se, .bool h0, .bool h1, .bool h2, .string s0, .string s1, .string s2, .int .i64 a, .bool false, c8] 133 := g6.set 9 (.bool false)
    exact g7.set 10 (.bool false)
  · exact (((((((((hk.setNew B 6 _ hB).setT 2 _).setT 3 _).setT 4 _).setT 5 _).setT 6 _).setT 7 _).setT 8 _).setT 9 _).setT 10 _
theorem PtEnd.full {ρ : St} {sec en : Nat} {V : Nat → Option (List UInt8)} {PA : St × Kpt × Bool × Int} {X D cap T : Nat} {w w' : World} (h : (ρ, ((sec, V, en) : Kpt), false, (70 : Int)) = PA) (hR : Rf w' X D cap ρ) (hT : Bl w' T (skC X (sec : Int) V (en : Int) false false) 133) (hk : K3 X D T w w') : PtEnd PA X D cap T w (.returned (.int .i64 70)) w' := by
  subst h
  exact ⟨rfl, hR, hT, hk⟩
theorem sk_st {w : World} {X T : Nat} {sec en : Int} {V : Nat → Option (List UInt8)} {d st : Bool} (hT : Bl w T (skC X sec V en d st) 133) (b : Bool) : Bl (w.setCell ⟨T, 10, none⟩ (.bool b)) T (skC X sec V en d b) 133 := hT.set 10 (.bool b)
theorem upV_len {V : Nat → Option (List UInt8)} (hV : ∀ i, i < 3 → ((V i).getD []).length ≤ 2000) (i : Nat) (v : List UInt8) (hv : v.length ≤ 2000) : ∀ j, j < 3 → ((upV V i v j).getD []).length ≤ 2000 := by
  intro j hj
  unfold upV
  split
  · exact hv
  · exact hV j hj
theorem Bl.drew {W : World} {B : Nat} {cs : Array Value} {t : TypeId} (h : Bl W B cs t) : Bl W.drew B cs t := h
theorem K3.drew {X D T : Nat} {w w1 : World} (h : K3 X D T w w1) : K3 X D T w w1.drew := ⟨h.os, h.tape, h.output, h.size, h.block⟩
set_option maxRecDepth 100000 in
set_option maxHeartbeats 8000000 in
theorem rput_0 (w : World) (X D cap T : Nat) (ρ : St) (hR : Rf w X D cap ρ) (hj : ρ.jk.size ≤ 140737488351232) (sec : Nat) (hs : sec < 2) (V : Nat → Option (List UInt8)) (hV : ∀ i, i < 3 → ((V i).getD []).length ≤ 2000) (en : Nat) (hen : en ≤ 4096) (hT : Bl w T (skC X (sec : Int) V (en : Int) false false) 133) (hTX : T ≠ X) (hTD : T ≠ D) (v : List UInt8) (hv : v.length ≤ 2000) : Calls Try.prog 45 #[fp T, .int .i64 0, .string (bs v)] w fun e w' => PtEnd (putA ρ sec V en 0 v) X D cap T w e w' := by
  obtain ⟨PA, HPA⟩ : ∃ PA, Hid (putA ρ sec V en 0 v = PA) := ⟨_, rfl⟩
  rw [HPA.out]
  have HUL := hide (upV_len hV 0 v hv)
  have SZ : ∀ W, Calls Try.prog 71 #[.agg #[.bool true, .bool (V 1).isSome, .bool (V 2).isSome, .string (bs v), .string (bs ((V 1).getD [])), .string (bs ((V 2).getD [])), .int .i64 (en : Int), .bool false]] W fun e w' => e = .returned (.int .i64 (sumV (upV V 0 v) 3 : Nat)) ∧ Below W.heap.size W w' := fun W => size_any (upV V 0 v) (fun j h => Nat.le_trans (HUL.out j h) (by decide)) (en : Int) false W
  have RC := fun W => record_any 0 (by decide) v hv W
  obtain ⟨pl, hpl⟩ : ∃ pl : Nat, ((sec * 4096 : Nat) : Int) + (en : Int) = (pl : Int) := ⟨sec * 4096 + en, by omega⟩
  obtain ⟨ps, hps⟩ : ∃ ps : Nat, (sec : Int) * 4096 = (ps : Int) := ⟨sec * 4096, by omega⟩
  have HPL : Hid (sec * 4096 + en = pl) := hide (by omega)
  have hpl2 : (ps : Int) + (en : Int) = (pl : Int) := by omega
  clear hpl
  have PG := fun W hR => rprog_any W X D cap ρ hR hj (pl : Int) (by unfold I64; omega) (bs (recB 0 v))
  have RM : ∀ W, Rf W X D cap ρ → Bl W T (skC X (sec : Int) V (en : Int) false false) 133 → Calls Try.prog 68 #[fp T, .agg #[.bool true, .bool (V 1).isSome, .bool (V 2).isSome, .string (bs v), .string (bs ((V 1).getD [])), .string (bs ((V 2).getD [])), .int .i64 (en : Int), .bool false]] W fun e w' => MvEnd (moveR ρ sec (upV V 0 v)) X D cap T sec V (upV V 0 v) (en : Int) false false W e w' := fun W hr hT => rmove_any W X D cap T ρ hr hj sec hs V (upV V 0 v) (en : Int) (en : Int) false false false hT hTX hTD HUL.out
  have HRL : Hid ((bs (recB 0 v)).size = 4 + v.length) := hide (by rw [bs_size, recB_length])
  have hsm : sumV (upV V 0 v) 3 ≤ 100000 := by
    have h0 := HUL.out 0 (by decide)
    have h1 := HUL.out 1 (by decide)
    have h2 := HUL.out 2 (by decide)
    have z := fun k => szQ_two (upV V 0 v) k
    have zz : ∀ k, ((upV V 0 v k).getD []).length ≤ 2000 → szQ (upV V 0 v) k ≤ 2004 := fun k hk => by
      cases hh : (upV V 0 v k).isSome with
      | true => rw [(z k).1 hh]; omega
      | false => rw [(z k).2 hh]; omega
    have y0 := zz 0 h0
    have y1 := zz 1 h1
    have y2 := zz 2 h2
    show 1 + szQ (upV V 0 v) 0 + szQ (upV V 0 v) 1 + szQ (upV V 0 v) 2 ≤ 100000
    omega
  have HPA2 := HPA
  unfold putA at HPA2
  rw [HPL.out] at HPA2
  have hzs : (bs v).size = v.length := bs_size v
  have hsd : ¬ (2000 : Int) < ((bs v).size : Int) := by omega
  generalize hVV : upV V 0 v = VV at *
  have HVV := hide hVV
  clear hVV HPA
  have c0 := hT.cell 0 (v := fp X) rfl
  have c1 := hT.cell 1 (v := .int .i64 (sec : Int)) rfl
  have c2 := hT.cell 2 (v := .bool (V 0).isSome) rfl
  have c3 := hT.cell 3 (v := .bool (V 1).isSome) rfl
  have c4 := hT.cell 4 (v := .bool (V 2).isSome) rfl
  have c5 := hT.cell 5 (v := .string (bs ((V 0).getD []))) rfl
  have c6 := hT.cell 6 (v := .string (bs ((V 1).getD []))) rfl
  have c7 := hT.cell 7 (v := .string (bs ((V 2).getD []))) rfl
  have c8 := hT.cell 8 (v := .int .i64 (en : Int)) rfl
  have c9 := hT.cell 9 (v := .bool false) rfl
  have c10 := hT.cell 10 (v := .bool false) rfl
  have HA := hide (below_alloc w (.cells #[.bool true, .bool (V 1).isSome, .bool (V 2).isSome, .string (bs v), .string (bs ((V 1).getD [])), .string (bs ((V 2).getD [])), .int .i64 (en : Int), .bool false] 131))
  have HK1 := hide (Bl.new w #[.bool true, .bool (V 1).isSome, .bool (V 2).isSome, .string (bs v), .string (bs ((V 1).getD [])), .string (bs ((V 2).getD [])), .int .i64 (en : Int), .bool false] 131)
  obtain ⟨w1, hw1⟩ : ∃ w1, w.alloc (.cells #[.bool true, .bool (V 1).isSome, .bool (V 2).isSome, .string (bs v), .string (bs ((V 1).getD [])), .string (bs ((V 2).getD [])), .int .i64 (en : Int), .bool false] 131) = w1 := ⟨_, rfl⟩
  rw [hw1] at HA HK1
  have hTl := hT.lt
  have hXl := hR.ltX
  have hDl := hR.lt
  have HR1 := hide (hR.below HA.out)
  have HT1 := hide (hT.below HA.out)
  have H31 := hide (K3.below HA.out X D T)
  obtain ⟨rb, HRB⟩ : ∃ rb, Hid (bs (recB 0 v) = rb) := ⟨_, rfl⟩
  rw [HRB.out] at RC PG HRL HPA2
  obtain ⟨B, hB⟩ : ∃ B, w.heap.size = B := ⟨_, rfl⟩
  have HBB := hide hB
  rw [hB] at HK1 hTl hXl hDl
  generalize sumV VV 3 = sm at *
  generalize hd : bs v = d at *
  have HD := hide hd
  clear hd
  clear hR hT hj hV
  go_enter Try.func45, Try.ntmps45
  go_upto_region 8 with fail
  have k0 := HK1.out.cell 0 (v := .bool true) rfl
  have k1 := HK1.out.cell 1 (v := .bool (V 1).isSome) rfl
  have k2 := HK1.out.cell 2 (v := .bool (V 2).isSome) rfl
  have k3 := HK1.out.cell 3 (v := .string d) rfl
  have k4 := HK1.out.cell 4 (v := .string (bs ((V 1).getD []))) rfl
  have k5 := HK1.out.cell 5 (v := .string (bs ((V 2).getD []))) rfl
  have k6 := HK1.out.cell 6 (v := .int .i64 (en : Int)) rfl
  have k7 := HK1.out.cell 7 (v := .bool false) rfl
  clear hw1 c0 c1 c2 c3 c4 c5 c6 c7 c8 c9 c10
  by_cases hfull : 4096 < sm
  · have hfd : (4096 : Int) < (sm : Int) := by omega
    rw [if_pos hfull] at HPA2
    clear hfull RM PG RC
    go_wp2_with fail
    refine (SZ _).mono ?_
    rintro e w2 ⟨rfl, hb2⟩
    have HE := hide (PtEnd.full HPA2.out (HR1.out.below hb2) (HT1.out.below hb2) (H31.out.trans (K3.below hb2 X D T)))
    clear hb2 SZ
    go_wp2_with fail
    go_ret
    exact HE.out
  · have hfd : ¬ (4096 : Int) < (sm : Int) := by omega
    rw [if_neg hfull] at HPA2
    clear hfull
    by_cases hroom : en + (4 + v.length) ≤ 4096
    · rw [if_pos hroom] at HPA2
      obtain ⟨en2, hen2⟩ : ∃ en2 : Nat, (en : Int) + (rb.size : Int) = (en2 : Int) := ⟨en + rb.size, by omega⟩
      have HE2 : Hid (en + (4 + v.length) = en2) := hide (by have := HRL.out; omega)
      have hrd : (en2 : Int) ≤ 4096 := by have := HE2.out; omega
      rw [HE2.out] at HPA2
      clear hroom RM
      go_wp2_with fail
      refine (SZ _).mono ?_
      rintro e w2 ⟨rfl, hb2⟩
      have HR2 := hide (HR1.out.below hb2)
      have HT2 := hide (HT1.out.below hb2)
      have HK2 := hide (HK1.out.below hb2)
      have H32 := hide (H31.out.trans (K3.below hb2 X D T))
      clear hb2 SZ k0 k1 k2 k3 k4 k5 k6 k7
      go_wp2_with fail
      refine (RC _).mono ?_
      rintro e w3 ⟨rfl, hb3⟩
      have HR3 := hide (HR2.out.below hb3)
      have HT3 := hide (HT2.out.below hb3)
      have HK3 := hide (HK2.out.below hb3)
      have H33 := hide (H32.out.trans (K3.below hb3 X D T))
      have c0 := HT3.out.cell 0 (v := fp X) rfl
      have c1 := HT3.out.cell 1 (v := .int .i64 (sec : Int)) rfl
      have c8 := HT3.out.cell 8 (v := .int .i64 (en : Int)) rfl
      clear hb3 RC
      go_wp2_with fail
      refine wp_region_held_drew (S := fun wx => wx.cell? ⟨T, 0, none⟩ = some (fp X) ∧ wx.cell? ⟨T, 1, none⟩ = some (.int .i64 (sec : Int)) ∧ wx.cell? ⟨T, 8, none⟩ = some (.int .i64 (en : Int))) (by kernel_rfl) (⟨c0, c1, c8⟩) (fun hHeld => ?_)
      refine takeQ (i := 0) (v := fp T) (d := some 51) rfl rfl (by kernel_rfl) (by kernel_rfl) (by kernel_rfl) (fun _ _ _ h => h) (Or.inl ⟨by rfl, fun wS ⟨hS0, hS1, hS2⟩ => by go_simp; all_goals (rw [IntKind.wrap_i64]; omega)⟩) (by assumption) ?_
      simp only [Act.put, List.setIfInBounds_toArray, List.set_cons_zero, List.set_cons_succ]
      refine takeQ (i := 1) (v := .pointer (some ⟨T, 0, none⟩)) (d := some 52) rfl rfl (by kernel_rfl) (by kernel_rfl) (by kernel_rfl) (fun _ _ _ h => h) (Or.inl ⟨by rfl, fun wS ⟨hS0, hS1, hS2⟩ => by go_simp; all_goals (rw [IntKind.wrap_i64]; omega)⟩) (by assumption) ?_
      simp only [Act.put, List.setIfInBounds_toArray, List.set_cons_zero, List.set_cons_succ]
      refine takeQ (i := 2) (v := .pointer (some ⟨T, 0, none⟩)) (d := some 53) rfl rfl (by kernel_rfl) (by kernel_rfl) (by kernel_rfl) (fun _ _ _ h => h) (Or.inl ⟨by rfl, fun wS ⟨hS0, hS1, hS2⟩ => by go_simp; all_goals (rw [IntKind.wrap_i64]; omega)⟩) (by assumption) ?_
      simp only [Act.put, List.setIfInBounds_toArray, List.set_cons_zero, List.set_cons_succ]
      refine takeQ (i := 3) (v := fp X) (d := some 54) rfl rfl (by kernel_rfl) (by kernel_rfl) (by kernel_rfl) (fun _ _ _ h => h) (Or.inl ⟨by rfl, fun wS ⟨hS0, hS1, hS2⟩ => by go_simp; all_goals (rw [IntKind.wrap_i64]; omega)⟩) (by assumption) ?_
      simp only [Act.put, List.setIfInBounds_toArray, List.set_cons_zero, List.set_cons_succ]
      refine takeQ (i := 4) (v := fp T) (d := some 55) rfl rfl (by kernel_rfl) (by kernel_rfl) (by kernel_rfl) (fun _ _ _ h => h) (Or.inl ⟨by rfl, fun wS ⟨hS0, hS1, hS2⟩ => by go_simp; all_goals (rw [IntKind.wrap_i64]; omega)⟩) (by assumption) ?_
      simp only [Act.put, List.setIfInBounds_toArray, List.set_cons_zero, List.set_cons_succ]
      refine takeQ (i := 5) (v := .pointer (some ⟨T, 0, none⟩)) (d := some 56) rfl rfl (by kernel_rfl) (by kernel_rfl) (by kernel_rfl) (fun _ _ _ h => h) (Or.inl ⟨by rfl, fun wS ⟨hS0, hS1, hS2⟩ => by go_simp; all_goals (rw [IntKind.wrap_i64]; omega)⟩) (by assumption) ?_
      simp only [Act.put, List.setIfInBounds_toArray, List.set_cons_zero, List.set_cons_succ]
      refine takeQ (i := 6) (v := .pointer (some ⟨T, 1, none⟩)) (d := some 57) rfl rfl (by kernel_rfl) (by kernel_rfl) (by kernel_rfl) (fun _ _ _ h => h) (Or.inl ⟨by rfl, fun wS ⟨hS0, hS1, hS2⟩ => by go_simp; all_goals (rw [IntKind.wrap_i64]; omega)⟩) (by assumption) ?_
      simp only [Act.put, List.setIfInBounds_toArray, List.set_cons_zero, List.set_cons_succ]
      refine takeQ (i := 7) (v := .int .i64 (sec : Int)) (d := some 58) rfl rfl (by kernel_rfl) (by kernel_rfl) (by kernel_rfl) (fun _ _ _ h => h) (Or.inl ⟨by rfl, fun wS ⟨hS0, hS1, hS2⟩ => by go_simp; all_goals (rw [IntKind.wrap_i64]; omega)⟩) (by assumption) ?_
      simp only [Act.put, List.setIfInBounds_toArray, List.set_cons_zero, List.set_cons_succ]
      refine takeQ (i := 8) (v := .int .i64 (ps : Int)) (d := some 59) rfl rfl (by kernel_rfl) (by kernel_rfl) (by kernel_rfl) (fun _ _ _ h => h) (Or.inl ⟨by rfl, fun wS ⟨hS0, hS1, hS2⟩ => by go_simp; all_goals (rw [IntKind.wrap_i64]; omega)⟩) (by assumption) ?_
      simp only [Act.put, List.setIfInBounds_toArray, List.set_cons_zero, List.set_cons_succ]
      refine takeQ (i := 9) (v := fp T) (d := some 60) rfl rfl (by kernel_rfl) (by kernel_rfl) (by kernel_rfl) (fun _ _ _ h => h) (Or.inl ⟨by rfl, fun wS ⟨hS0, hS1, hS2⟩ => by go_simp; all_goals (rw [IntKind.wrap_i64]; omega)⟩) (by assumption) ?_
      simp only [Act.put, List.setIfInBounds_toArray, List.set_cons_zero, List.set_cons_succ]
      refine takeQ (i := 10) (v := .pointer (some ⟨T, 0, none⟩)) (d := some 61) rfl rfl (by kernel_rfl) (by kernel_rfl) (by kernel_rfl) (fun _ _ _ h => h) (Or.inl ⟨by rfl, fun wS ⟨hS0, hS1, hS2⟩ => by go_simp; all_goals (rw [IntKind.wrap_i64]; omega)⟩) (by assumption) ?_
      simp only [Act.put, List.setIfInBounds_toArray, List.set_cons_zero, List.set_cons_succ]
      refine takeQ (i := 11) (v := .pointer (some ⟨T, 2, none⟩)) (d := some 62) rfl rfl (by kernel_rfl) (by kernel_rfl) (by kernel_rfl) (fun _ _ _ h => h) (Or.inl ⟨by rfl, fun wS ⟨hS0, hS1, hS2⟩ => by go_simp; all_goals (rw [IntKind.wrap_i64]; omega)⟩) (by assumption) ?_
      simp only [Act.put, List.setIfInBounds_toArray, List.set_cons_zero, List.set_cons_succ]
      refine takeQ (i := 12) (v := .pointer (some ⟨T, 8, none⟩)) (d := some 63) rfl rfl (by kernel_rfl) (by kernel_rfl) (by kernel_rfl) (fun _ _ _ h => h) (Or.inl ⟨by rfl, fun wS ⟨hS0, hS1, hS2⟩ => by go_simp; all_goals (rw [IntKind.wrap_i64]; omega)⟩) (by assumption) ?_
      simp only [Act.put, List.setIfInBounds_toArray, List.set_cons_zero, List.set_cons_succ]
      refine takeQ (i := 13) (v := .int .i64 (en : Int)) (d := some 64) rfl rfl (by kernel_rfl) (by kernel_rfl) (by kernel_rfl) (fun _ _ _ h => h) (Or.inl ⟨by rfl, fun wS ⟨hS0, hS1, hS2⟩ => by go_simp; all_goals (rw [IntKind.wrap_i64]; omega)⟩) (by assumption) ?_
      simp only [Act.put, List.setIfInBounds_toArray, List.set_cons_zero, List.set_cons_succ]
      refine takeQ (i := 14) (v := .int .i64 (pl : Int)) (d := some 65) rfl rfl (by kernel_rfl) (by kernel_rfl) (by kernel_rfl) (fun _ _ _ h => h) (Or.inl ⟨by rfl, fun wS ⟨hS0, hS1, hS2⟩ => by go_simp; all_goals (rw [IntKind.wrap_i64]; omega)⟩) (by assumption) ?_
      simp only [Act.put, List.setIfInBounds_toArray, List.set_cons_zero, List.set_cons_succ]
      refine takeQ (i := 15) (v := .string rb) (d := some 66) rfl rfl (by kernel_rfl) (by kernel_rfl) (by kernel_rfl) (fun _ _ _ h => h) (Or.inl ⟨by rfl, fun wS ⟨hS0, hS1, hS2⟩ => by go_simp; all_goals (rw [IntKind.wrap_i64]; omega)⟩) (by assumption) ?_
      simp only [Act.put, List.setIfInBounds_toArray, List.set_cons_zero, List.set_cons_succ]
      refine wpAnyH_ready (rs := [16]) (by kernel_rfl) (by simp) ?_
      refine AllReadyH.cons rfl (fun K hK => ?_) AllReadyH.nil
      go_simp
      refine (PG _ HR3.out.drew).mono ?_
      rintro e w5 ⟨rfl, hR5, hk5⟩
      have q0 : w5.cell? ⟨T, 0, none⟩ = some (fp X) := (HT3.out.drew.kept2 hk5 hTX hTD).cell 0 rfl
      have q1 : w5.cell? ⟨T, 1, none⟩ = some (.int .i64 (sec : Int)) := (HT3.out.drew.kept2 hk5 hTX hTD).cell 1 rfl
      have q2 : w5.cell? ⟨T, 8, none⟩ = some (.int .i64 (en : Int)) := (HT3.out.drew.kept2 hk5 hTX hTD).cell 8 rfl
      clear hHeld
      refine hK.out _ _ ⟨q0, q1, q2⟩ (fun hHeld => ?_)
      clear hK K
      refine wpAnyH_ready (rs := [17]) (by kernel_rfl) (by simp) ?_
      refine AllReadyH.cons rfl (fun K hK => ?_) AllReadyH.nil
      go_simp
      refine hK.out _ _ hHeld (fun hHeld => ?_)
      clear hK K hHeld
      refine wpAnyH_done (by kernel_rfl) ?_ _
      have HK5 := hide (HK3.out.drew.kept2 hk5 (by omega) (by omega))
      have HT5 := hide (HT3.out.drew.kept2 hk5 hTX hTD)
      have HK35 := hide (H33.out.drew.trans (K3.of2 hk5 T))
      have HR5 := hide hR5
      clear hR5 hk5
      generalize progRR ρ (pl : Int) rb = PR at *
      obtain ⟨τ, pe⟩ := PR
      have k0 := HK5.out.cell 0 (v := .bool true) rfl
      have k1 := HK5.out.cell 1 (v := .bool (V 1).isSome) rfl
      have k2 := HK5.out.cell 2 (v := .bool (V 2).isSome) rfl
      have k3 := HK5.out.cell 3 (v := .string d) rfl
      have k4 := HK5.out.cell 4 (v := .string (bs ((V 1).getD []))) rfl
      have k5 := HK5.out.cell 5 (v := .string (bs ((V 2).getD []))) rfl
      have k6 := HK5.out.cell 6 (v := .int .i64 (en : Int)) rfl
      have k7 := HK5.out.cell 7 (v := .bool false) rfl
      have fk := HK5.out.fz
      have ft := HT5.out.fz
      have hne : ¬ T = B := by omega
      have hne2 : ¬ B = T := by omega
      have d2 := HT5.out.cell 2 (v := .bool (V 0).isSome) rfl
      have d3 := HT5.out.cell 3 (v := .bool (V 1).isSome) rfl
      have d4 := HT5.out.cell 4 (v := .bool (V 2).isSome) rfl
      have d5 := HT5.out.cell 5 (v := .string (bs ((V 0).getD []))) rfl
      have d6 := HT5.out.cell 6 (v := .string (bs ((V 1).getD []))) rfl
      have d7 := HT5.out.cell 7 (v := .string (bs ((V 2).getD []))) rfl
      have d8 := HT5.out.cell 8 (v := .int .i64 (en : Int)) rfl
      have d9 := HT5.out.cell 9 (v := .bool false) rfl
      have d10 := HT5.out.cell 10 (v := .bool false) rfl
      by_cases hp : pe = 0
      · have HP0 := hide hp
        have hpb : (pe == 0) = true := by rw [hp]; rfl
        have hpn : (pe != 0) = false := by rw [hp]; rfl
        rw [if_pos (show (τ, pe).2 = 0 from hp)] at HPA2
        clear hp
        go_wp2_with fail
        go_ret
        obtain ⟨z1, z2, z3⟩ := pt_fin (B := B) (h0 := true) (h1 := (V 1).isSome) (h2 := (V 2).isSome) (s0 := d) (s1 := (bs ((V 1).getD []))) (s2 := (bs ((V 2).getD []))) (a := (en2 : Int)) HR5.out HT5.out HK35.out (by rw [HBB.out]; exact Nat.le_refl _) (by omega) (by omega) (by omega) hTX hTD
        rw [← HPA2.out]
        refine ⟨by rw [HP0.out]; rfl, z1, ?_, z3⟩
        rw [← HVV.out]
        rw [← HD.out] at z2 ⊢
        exact z2
      · have hpb : (pe == 0) = false := by simpa using hp
        have hpn : (pe != 0) = true := by simpa using hp
        rw [if_neg (show ¬ (τ, pe).2 = 0 from hp)] at HPA2
        clear hp
        go_wp2_with fail
        go_ret
        rw [← HPA2.out]
        exact ⟨rfl, (HR5.out.set3 (by omega) (by omega) _ _).set3 hTX hTD _ _, sk_st (HT5.out.setOther (C := B) hne 6 _) true, (HK35.out.setNew B 6 _ (by rw [HBB.out]; exact Nat.le_refl _)).setT 10 _⟩
    · rw [if_neg hroom] at HPA2
      obtain ⟨en2, hen2⟩ : ∃ en2 : Nat, (en : Int) + (rb.size : Int) = (en2 : Int) := ⟨en + rb.size, by omega⟩
      have hrd : (4096 : Int) < (en2 : Int) := by have := HRL.out; omega
      have hre : (en2 : Int) ≤ 8192 := by have := HRL.out; omega
      generalize moveR ρ sec VV = MM at *
      obtain ⟨m1, m2, me⟩ := MM
      clear hroom PG
      go_wp2_with fail
      refine (SZ _).mono ?_
      rintro e w2 ⟨rfl, hb2⟩
      have HR2 := hide (HR1.out.below hb2)
      have HT2 := hide (HT1.out.below hb2)
      have HK2 := hide (HK1.out.below hb2)
      have H32 := hide (H31.out.trans (K3.below hb2 X D T))
      clear hb2 SZ k0 k1 k2 k3 k4 k5 k6 k7
      go_wp2_with fail
      refine (RC _).mono ?_
      rintro e w3 ⟨rfl, hb3⟩
      have HR3 := hide (HR2.out.below hb3)
      have HT3 := hide (HT2.out.below hb3)
      have HK3 := hide (HK2.out.below hb3)
      have H33 := hide (H32.out.trans (K3.below hb3 X D T))
      have c8 := HT3.out.cell 8 (v := .int .i64 (en : Int)) rfl
      have k0 := HK3.out.cell 0 (v := .bool true) rfl
      have k1 := HK3.out.cell 1 (v := .bool (V 1).isSome) rfl
      have k2 := HK3.out.cell 2 (v := .bool (V 2).isSome) rfl
      have k3 := HK3.out.cell 3 (v := .string d) rfl
      have k4 := HK3.out.cell 4 (v := .string (bs ((V 1).getD []))) rfl
      have k5 := HK3.out.cell 5 (v := .string (bs ((V 2).getD []))) rfl
      have k6 := HK3.out.cell 6 (v := .int .i64 (en : Int)) rfl
      have k7 := HK3.out.cell 7 (v := .bool false) rfl
      clear hb3 RC
      go_wp2_with fail
      refine (RM _ HR3.out HT3.out).mono ?_
      rintro e w5 ⟨rfl, hR5, hY, hN, hk5⟩
      have HK35 := hide (H33.out.trans hk5)
      have HR5 := hide hR5
      have HY5 := hide hY
      have HN5 := hide hN
      clear hR5 hk5 hY hN RM k0 k1 k2 k3 k4 k5 k6 k7 c8
      by_cases hm : me = 0
      · have HM0 := hide hm
        have hmn : (me != 0) = false := by rw [hm]; rfl
        rw [if_pos (show (m1, m2, me).2.2 = 0 from hm)] at HPA2
        have HT5 := hide (HY5.out hm)
        have ft := HT5.out.fz
        have d10 := HT5.out.cell 10 (v := .bool false) rfl
        clear hm HY5 HN5
        go_wp2_with fail
        go_ret
        rw [← HPA2.out]
        exact ⟨by rw [HM0.out]; rfl, HR5.out.set3 hTX hTD _ _, sk_st HT5.out false, HK35.out.setT 10 _⟩
      · have hmn : (me != 0) = true := by simpa using hm
        rw [if_neg (show ¬ (m1, m2, me).2.2 = 0 from hm)] at HPA2
        have HT5 := hide (HN5.out hm)
        have ft := HT5.out.fz
        have d10 := HT5.out.cell 10 (v := .bool false) rfl
        clear hm HY5 HN5
        go_wp2_with fail
        go_ret
        rw [← HPA2.out]
        exact ⟨rfl, HR5.out.set3 hTX hTD _ _, sk_st HT5.out true, HK35.out.setT 10 _⟩
set_option maxRecDepth 100000 in
set_option maxHeartbeats 8000000 in
theorem rput_1 (w : World) (X D cap T : Nat) (ρ : St) (hR : Rf w X D cap ρ) (hj : ρ.jk.size ≤ 140737488351232) (sec : Nat) (hs : sec < 2) (V : Nat → Option (List UInt8)) (hV : ∀ i, i < 3 → ((V i).getD []).length ≤ 2000) (en : Nat) (hen : en ≤ 4096) (hT : Bl w T (skC X (sec : Int) V (en : Int) false false) 133) (hTX : T ≠ X) (hTD : T ≠ D) (v : List UInt8) (hv : v.length ≤ 2000) : Calls Try.prog 45 #[fp T, .int .i64 1, .string (bs v)] w fun e w' => PtEnd (putA ρ sec V en 1 v) X D cap T w e w' := by
  obtain ⟨PA, HPA⟩ : ∃ PA, Hid (putA ρ sec V en 1 v = PA) := ⟨_, rfl⟩
  rw [HPA.out]
  have HUL := hide (upV_len hV 1 v hv)
  have SZ : ∀ W, Calls Try.prog 71 #[.agg #[.bool (V 0).isSome, .bool true, .bool (V 2).isSome, .string (bs ((V 0).getD [])), .string (bs v), .string (bs ((V 2).getD [])), .int .i64 (en : Int), .bool false]] W fun e w' => e = .returned (.int .i64 (sumV (upV V 1 v) 3 : Nat)) ∧ Below W.heap.size W w' := fun W => size_any (upV V 1 v) (fun j h => Nat.le_trans (HUL.out j h) (by decide)) (en : Int) false W
  have RC := fun W => record_any 1 (by decide) v hv W
  obtain ⟨pl, hpl⟩ : ∃ pl : Nat, ((sec * 4096 : Nat) : Int) + (en : Int) = (pl : Int) := ⟨sec * 4096 + en, by omega⟩
  obtain ⟨ps, hps⟩ : ∃ ps : Nat, (sec : Int) * 4096 = (ps : Int) := ⟨sec * 4096, by omega⟩
  have HPL : Hid (sec * 4096 + en = pl) := hide (by omega)
  have hpl2 : (ps : Int) + (en : Int) = (pl : Int) := by omega
  clear hpl
  have PG := fun W hR => rprog_any W X D cap ρ hR hj (pl : Int) (by unfold I64; omega) (bs (recB 1 v))
  have RM : ∀ W, Rf W X D cap ρ → Bl W T (skC X (sec : Int) V (en : Int) false false) 133 → Calls Try.prog 68 #[fp T, .agg #[.bool (V 0).isSome, .bool true, .bool (V 2).isSome, .string (bs ((V 0).getD [])), .string (bs v), .string (bs ((V 2).getD [])), .int .i64 (en : Int), .bool false]] W fun e w' => MvEnd (moveR ρ sec (upV V 1 v)) X D cap T sec V (upV V 1 v) (en : Int) false false W e w' := fun W hr hT => rmove_any W X D cap T ρ hr hj sec hs V (upV V 1 v) (en : Int) (en : Int) false false false hT hTX hTD HUL.out
  have HRL : Hid ((bs (recB 1 v)).size = 4 + v.length) := hide (by rw [bs_size, recB_length])
  have hsm : sumV (upV V 1 v) 3 ≤ 100000 := by
    have h0 := HUL.out 0 (by decide)
    have h1 := HUL.out 1 (by decide)
    have h2 := HUL.out 2 (by decide)
    have z := fun k => szQ_two (upV V 1 v) k
    have zz : ∀ k, ((upV V 1 v k).getD []).length ≤ 2000 → szQ (upV V 1 v) k ≤ 2004 := fun k hk => by
      cases hh : (upV V 1 v k).isSome with
      | true => rw [(z k).1 hh]; omega
      | false => rw [(z k).2 hh]; omega
    have y0 := zz 0 h0
    have y1 := zz 1 h1
    have y2 := zz 2 h2
    show 1 + szQ (upV V 1 v) 0 + szQ (upV V 1 v) 1 + szQ (upV V 1 v) 2 ≤ 100000
    omega
  have HPA2 := HPA
  unfold putA at HPA2
  rw [HPL.out] at HPA2
  have hzs : (bs v).size = v.length := bs_size v
  have hsd : ¬ (2000 : Int) < ((bs v).size : Int) := by omega
  generalize hVV : upV V 1 v = VV at *
  have HVV := hide hVV
  clear hVV HPA
  have c0 := hT.cell 0 (v := fp X) rfl
  have c1 := hT.cell 1 (v := .int .i64 (sec : Int)) rfl
  have c2 := hT.cell 2 (v := .bool (V 0).isSome) rfl
  have c3 := hT.cell 3 (v := .bool (V 1).isSome) rfl
  have c4 := hT.cell 4 (v := .bool (V 2).isSome) rfl
  have c5 := hT.cell 5 (v := .string (bs ((V 0).getD []))) rfl
  have c6 := hT.cell 6 (v := .string (bs ((V 1).getD []))) rfl
  have c7 := hT.cell 7 (v := .string (bs ((V 2).getD []))) rfl
  have c8 := hT.cell 8 (v := .int .i64 (en : Int)) rfl
  have c9 := hT.cell 9 (v := .bool false) rfl
  have c10 := hT.cell 10 (v := .bool false) rfl
  have HA := hide (below_alloc w (.cells #[.bool (V 0).isSome, .bool true, .bool (V 2).isSome, .string (bs ((V 0).getD [])), .string (bs v), .string (bs ((V 2).getD [])), .int .i64 (en : Int), .bool false] 131))
  have HK1 := hide (Bl.new w #[.bool (V 0).isSome, .bool true, .bool (V 2).isSome, .string (bs ((V 0).getD [])), .string (bs v), .string (bs ((V 2).getD [])), .int .i64 (en : Int), .bool false] 131)
  obtain ⟨w1, hw1⟩ : ∃ w1, w.alloc (.cells #[.bool (V 0).isSome, .bool true, .bool (V 2).isSome, .string (bs ((V 0).getD [])), .string (bs v), .string (bs ((V 2).getD [])), .int .i64 (en : Int), .bool false] 131) = w1 := ⟨_, rfl⟩
  rw [hw1] at HA HK1
  have hTl := hT.lt
  have hXl := hR.ltX
  have hDl := hR.lt
  have HR1 := hide (hR.below HA.out)
  have HT1 := hide (hT.below HA.out)
  have H31 := hide (K3.below HA.out X D T)
  obtain ⟨rb, HRB⟩ : ∃ rb, Hid (bs (recB 1 v) = rb) := ⟨_, rfl⟩
  rw [HRB.out] at RC PG HRL HPA2
  obtain ⟨B, hB⟩ : ∃ B, w.heap.size = B := ⟨_, rfl⟩
  have HBB := hide hB
  rw [hB] at HK1 hTl hXl hDl
  generalize sumV VV 3 = sm at *
  generalize hd : bs v = d at *
  have HD := hide hd
  clear hd
  clear hR hT hj hV
  go_enter Try.func45, Try.ntmps45
  go_upto_region 8 with fail
  have k0 := HK1.out.cell 0 (v := .bool (V 0).isSome) rfl
  have k1 := HK1.out.cell 1 (v := .bool true) rfl
  have k2 := HK1.out.cell 2 (v := .bool (V 2).isSome) rfl
  have k3 := HK1.out.cell 3 (v := .string (bs ((V 0).getD []))) rfl
  have k4 := HK1.out.cell 4 (v := .string d) rfl
  have k5 := HK1.out.cell 5 (v := .string (bs ((V 2).getD []))) rfl
  have k6 := HK1.out.cell 6 (v := .int .i64 (en : Int)) rfl
  have k7 := HK1.out.cell 7 (v := .bool false) rfl
  clear hw1 c0 c1 c2 c3 c4 c5 c6 c7 c8 c9 c10
  by_cases hfull : 4096 < sm
  · have hfd : (4096 : Int) < (sm : Int) := by omega
    rw [if_pos hfull] at HPA2
    clear hfull RM PG RC
    go_wp2_with fail
    refine (SZ _).mono ?_
    rintro e w2 ⟨rfl, hb2⟩
    have HE := hide (PtEnd.full HPA2.out (HR1.out.below hb2) (HT1.out.below hb2) (H31.out.trans (K3.below hb2 X D T)))
    clear hb2 SZ
    go_wp2_with fail
    go_ret
    exact HE.out
  · have hfd : ¬ (4096 : Int) < (sm : Int) := by omega
    rw [if_neg hfull] at HPA2
    clear hfull
    by_cases hroom : en + (4 + v.length) ≤ 4096
    · rw [if_pos hroom] at HPA2
      obtain ⟨en2, hen2⟩ : ∃ en2 : Nat, (en : Int) + (rb.size : Int) = (en2 : Int) := ⟨en + rb.size, by omega⟩
      have HE2 : Hid (en + (4 + v.length) = en2) := hide (by have := HRL.out; omega)
      have hrd : (en2 : Int) ≤ 4096 := by have := HE2.out; omega
      rw [HE2.out] at HPA2
      clear hroom RM
      go_wp2_with fail
      refine (SZ _).mono ?_
      rintro e w2 ⟨rfl, hb2⟩
      have HR2 := hide (HR1.out.below hb2)
      have HT2 := hide (HT1.out.below hb2)
      have HK2 := hide (HK1.out.below hb2)
      have H32 := hide (H31.out.trans (K3.below hb2 X D T))
      clear hb2 SZ k0 k1 k2 k3 k4 k5 k6 k7
      go_wp2_with fail
      refine (RC _).mono ?_
      rintro e w3 ⟨rfl, hb3⟩
      have HR3 := hide (HR2.out.below hb3)
      have HT3 := hide (HT2.out.below hb3)
      have HK3 := hide (HK2.out.below hb3)
      have H33 := hide (H32.out.trans (K3.below hb3 X D T))
      have c0 := HT3.out.cell 0 (v := fp X) rfl
      have c1 := HT3.out.cell 1 (v := .int .i64 (sec : Int)) rfl
      have c8 := HT3.out.cell 8 (v := .int .i64 (en : Int)) rfl
      clear hb3 RC
      go_wp2_with fail
      refine wp_region_held_drew (S := fun wx => wx.cell? ⟨T, 0, none⟩ = some (fp X) ∧ wx.cell? ⟨T, 1, none⟩ = some (.int .i64 (sec : Int)) ∧ wx.cell? ⟨T, 8, none⟩ = some (.int .i64 (en : Int))) (by kernel_rfl) (⟨c0, c1, c8⟩) (fun hHeld => ?_)
      refine takeQ (i := 0) (v := fp T) (d := some 51) rfl rfl (by kernel_rfl) (by kernel_rfl) (by kernel_rfl) (fun _ _ _ h => h) (Or.inl ⟨by rfl, fun wS ⟨hS0, hS1, hS2⟩ => by go_simp; all_goals (rw [IntKind.wrap_i64]; omega)⟩) (by assumption) ?_
      simp only [Act.put, List.setIfInBounds_toArray, List.set_cons_zero, List.set_cons_succ]
      refine takeQ (i := 1) (v := .pointer (some ⟨T, 0, none⟩)) (d := some 52) rfl rfl (by kernel_rfl) (by kernel_rfl) (by kernel_rfl) (fun _ _ _ h => h) (Or.inl ⟨by rfl, fun wS ⟨hS0, hS1, hS2⟩ => by go_simp; all_goals (rw [IntKind.wrap_i64]; omega)⟩) (by assumption) ?_
      simp only [Act.put, List.setIfInBounds_toArray, List.set_cons_zero, List.set_cons_succ]
      refine takeQ (i := 2) (v := .pointer (some ⟨T, 0, none⟩)) (d := some 53) rfl rfl (by kernel_rfl) (by kernel_rfl) (by kernel_rfl) (fun _ _ _ h => h) (Or.inl ⟨by rfl, fun wS ⟨hS0, hS1, hS2⟩ => by go_simp; all_goals (rw [IntKind.wrap_i64]; omega)⟩) (by assumption) ?_
      simp only [Act.put, List.setIfInBounds_toArray, List.set_cons_zero, List.set_cons_succ]
      refine takeQ (i := 3) (v := fp X) (d := some 54) rfl rfl (by kernel_rfl) (by kernel_rfl) (by kernel_rfl) (fun _ _ _ h => h) (Or.inl ⟨by rfl, fun wS ⟨hS0, hS1, hS2⟩ => by go_simp; all_goals (rw [IntKind.wrap_i64]; omega)⟩) (by assumption) ?_
      simp only [Act.put, List.setIfInBounds_toArray, List.set_cons_zero, List.set_cons_succ]
      refine takeQ (i := 4) (v := fp T) (d := some 55) rfl rfl (by kernel_rfl) (by kernel_rfl) (by kernel_rfl) (fun _ _ _ h => h) (Or.inl ⟨by rfl, fun wS ⟨hS0, hS1, hS2⟩ => by go_simp; all_goals (rw [IntKind.wrap_i64]; omega)⟩) (by assumption) ?_
      simp only [Act.put, List.setIfInBounds_toArray, List.set_cons_zero, List.set_cons_succ]
      refine takeQ (i := 5) (v := .pointer (some ⟨T, 0, none⟩)) (d := some 56) rfl rfl (by kernel_rfl) (by kernel_rfl) (by kernel_rfl) (fun _ _ _ h => h) (Or.inl ⟨by rfl, fun wS ⟨hS0, hS1, hS2⟩ => by go_simp; all_goals (rw [IntKind.wrap_i64]; omega)⟩) (by assumption) ?_
      simp only [Act.put, List.setIfInBounds_toArray, List.set_cons_zero, List.set_cons_succ]
      refine takeQ (i := 6) (v := .pointer (some ⟨T, 1, none⟩)) (d := some 57) rfl rfl (by kernel_rfl) (by kernel_rfl) (by kernel_rfl) (fun _ _ _ h => h) (Or.inl ⟨by rfl, fun wS ⟨hS0, hS1, hS2⟩ => by go_simp; all_goals (rw [IntKind.wrap_i64]; omega)⟩) (by assumption) ?_
      simp only [Act.put, List.setIfInBounds_toArray, List.set_cons_zero, List.set_cons_succ]
      refine takeQ (i := 7) (v := .int .i64 (sec : Int)) (d := some 58) rfl rfl (by kernel_rfl) (by kernel_rfl) (by kernel_rfl) (fun _ _ _ h => h) (Or.inl ⟨by rfl, fun wS ⟨hS0, hS1, hS2⟩ => by go_simp; all_goals (rw [IntKind.wrap_i64]; omega)⟩) (by assumption) ?_
      simp only [Act.put, List.setIfInBounds_toArray, List.set_cons_zero, List.set_cons_succ]
      refine takeQ (i := 8) (v := .int .i64 (ps : Int)) (d := some 59) rfl rfl (by kernel_rfl) (by kernel_rfl) (by kernel_rfl) (fun _ _ _ h => h) (Or.inl ⟨by rfl, fun wS ⟨hS0, hS1, hS2⟩ => by go_simp; all_goals (rw [IntKind.wrap_i64]; omega)⟩) (by assumption) ?_
      simp only [Act.put, List.setIfInBounds_toArray, List.set_cons_zero, List.set_cons_succ]
      refine takeQ (i := 9) (v := fp T) (d := some 60) rfl rfl (by kernel_rfl) (by kernel_rfl) (by kernel_rfl) (fun _ _ _ h => h) (Or.inl ⟨by rfl, fun wS ⟨hS0, hS1, hS2⟩ => by go_simp; all_goals (rw [IntKind.wrap_i64]; omega)⟩) (by assumption) ?_
      simp only [Act.put, List.setIfInBounds_toArray, List.set_cons_zero, List.set_cons_succ]
      refine takeQ (i := 10) (v := .pointer (some ⟨T, 0, none⟩)) (d := some 61) rfl rfl (by kernel_rfl) (by kernel_rfl) (by kernel_rfl) (fun _ _ _ h => h) (Or.inl ⟨by rfl, fun wS ⟨hS0, hS1, hS2⟩ => by go_simp; all_goals (rw [IntKind.wrap_i64]; omega)⟩) (by assumption) ?_
      simp only [Act.put, List.setIfInBounds_toArray, List.set_cons_zero, List.set_cons_succ]
      refine takeQ (i := 11) (v := .pointer (some ⟨T, 2, none⟩)) (d := some 62) rfl rfl (by kernel_rfl) (by kernel_rfl) (by kernel_rfl) (fun _ _ _ h => h) (Or.inl ⟨by rfl, fun wS ⟨hS0, hS1, hS2⟩ => by go_simp; all_goals (rw [IntKind.wrap_i64]; omega)⟩) (by assumption) ?_
      simp only [Act.put, List.setIfInBounds_toArray, List.set_cons_zero, List.set_cons_succ]
      refine takeQ (i := 12) (v := .pointer (some ⟨T, 8, none⟩)) (d := some 63) rfl rfl (by kernel_rfl) (by kernel_rfl) (by kernel_rfl) (fun _ _ _ h => h) (Or.inl ⟨by rfl, fun wS ⟨hS0, hS1, hS2⟩ => by go_simp; all_goals (rw [IntKind.wrap_i64]; omega)⟩) (by assumption) ?_
      simp only [Act.put, List.setIfInBounds_toArray, List.set_cons_zero, List.set_cons_succ]
      refine takeQ (i := 13) (v := .int .i64 (en : Int)) (d := some 64) rfl rfl (by kernel_rfl) (by kernel_rfl) (by kernel_rfl) (fun _ _ _ h => h) (Or.inl ⟨by rfl, fun wS ⟨hS0, hS1, hS2⟩ => by go_simp; all_goals (rw [IntKind.wrap_i64]; omega)⟩) (by assumption) ?_
      simp only [Act.put, List.setIfInBounds_toArray, List.set_cons_zero, List.set_cons_succ]
      refine takeQ (i := 14) (v := .int .i64 (pl : Int)) (d := some 65) rfl rfl (by kernel_rfl) (by kernel_rfl) (by kernel_rfl) (fun _ _ _ h => h) (Or.inl ⟨by rfl, fun wS ⟨hS0, hS1, hS2⟩ => by go_simp; all_goals (rw [IntKind.wrap_i64]; omega)⟩) (by assumption) ?_
      simp only [Act.put, List.setIfInBounds_toArray, List.set_cons_zero, List.set_cons_succ]
      refine takeQ (i := 15) (v := .string rb) (d := some 66) rfl rfl (by kernel_rfl) (by kernel_rfl) (by kernel_rfl) (fun _ _ _ h => h) (Or.inl ⟨by rfl, fun wS ⟨hS0, hS1, hS2⟩ => by go_simp; all_goals (rw [IntKind.wrap_i64]; omega)⟩) (by assumption) ?_
      simp only [Act.put, List.setIfInBounds_toArray, List.set_cons_zero, List.set_cons_succ]
      refine wpAnyH_ready (rs := [16]) (by kernel_rfl) (by simp) ?_
      refine AllReadyH.cons rfl (fun K hK => ?_) AllReadyH.nil
      go_simp
      refine (PG _ HR3.out.drew).mono ?_
      rintro e w5 ⟨rfl, hR5, hk5⟩
      have q0 : w5.cell? ⟨T, 0, none⟩ = some (fp X) := (HT3.out.drew.kept2 hk5 hTX hTD).cell 0 rfl
      have q1 : w5.cell? ⟨T, 1, none⟩ = some (.int .i64 (sec : Int)) := (HT3.out.drew.kept2 hk5 hTX hTD).cell 1 rfl
      have q2 : w5.cell? ⟨T, 8, none⟩ = some (.int .i64 (en : Int)) := (HT3.out.drew.kept2 hk5 hTX hTD).cell 8 rfl
      clear hHeld
      refine hK.out _ _ ⟨q0, q1, q2⟩ (fun hHeld => ?_)
      clear hK K
      refine wpAnyH_ready (rs := [17]) (by kernel_rfl) (by simp) ?_
      refine AllReadyH.cons rfl (fun K hK => ?_) AllReadyH.nil
      go_simp
      refine hK.out _ _ hHeld (fun hHeld => ?_)
      clear hK K hHeld
      refine wpAnyH_done (by kernel_rfl) ?_ _
      have HK5 := hide (HK3.out.drew.kept2 hk5 (by omega) (by omega))
      have HT5 := hide (HT3.out.drew.kept2 hk5 hTX hTD)
      have HK35 := hide (H33.out.drew.trans (K3.of2 hk5 T))
      have HR5 := hide hR5
      clear hR5 hk5
      generalize progRR ρ (pl : Int) rb = PR at *
      obtain ⟨τ, pe⟩ := PR
      have k0 := HK5.out.cell 0 (v := .bool (V 0).isSome) rfl
      have k1 := HK5.out.cell 1 (v := .bool true) rfl
      have k2 := HK5.out.cell 2 (v := .bool (V 2).isSome) rfl
      have k3 := HK5.out.cell 3 (v := .string (bs ((V 0).getD []))) rfl
      have k4 := HK5.out.cell 4 (v := .string d) rfl
      have k5 := HK5.out.cell 5 (v := .string (bs ((V 2).getD []))) rfl
      have k6 := HK5.out.cell 6 (v := .int .i64 (en : Int)) rfl
      have k7 := HK5.out.cell 7 (v := .bool false) rfl
      have fk := HK5.out.fz
      have ft := HT5.out.fz
      have hne : ¬ T = B := by omega
      have hne2 : ¬ B = T := by omega
      have d2 := HT5.out.cell 2 (v := .bool (V 0).isSome) rfl
      have d3 := HT5.out.cell 3 (v := .bool (V 1).isSome) rfl
      have d4 := HT5.out.cell 4 (v := .bool (V 2).isSome) rfl
      have d5 := HT5.out.cell 5 (v := .string (bs ((V 0).getD []))) rfl
      have d6 := HT5.out.cell 6 (v := .string (bs ((V 1).getD []))) rfl
      have d7 := HT5.out.cell 7 (v := .string (bs ((V 2).getD []))) rfl
      have d8 := HT5.out.cell 8 (v := .int .i64 (en : Int)) rfl
      have d9 := HT5.out.cell 9 (v := .bool false) rfl
      have d10 := HT5.out.cell 10 (v := .bool false) rfl
      by_cases hp : pe = 0
      · have HP0 := hide hp
        have hpb : (pe == 0) = true := by rw [hp]; rfl
        have hpn : (pe != 0) = false := by rw [hp]; rfl
        rw [if_pos (show (τ, pe).2 = 0 from hp)] at HPA2
        clear hp
        go_wp2_with fail
        go_ret
        obtain ⟨z1, z2, z3⟩ := pt_fin (B := B) (h0 := (V 0).isSome) (h1 := true) (h2 := (V 2).isSome) (s0 := (bs ((V 0).getD []))) (s1 := d) (s2 := (bs ((V 2).getD []))) (a := (en2 : Int)) HR5.out HT5.out HK35.out (by rw [HBB.out]; exact Nat.le_refl _) (by omega) (by omega) (by omega) hTX hTD
        rw [← HPA2.out]
        refine ⟨by rw [HP0.out]; rfl, z1, ?_, z3⟩
        rw [← HVV.out]
        rw [← HD.out] at z2 ⊢
        exact z2
      · have hpb : (pe == 0) = false := by simpa using hp
        have hpn : (pe != 0) = true := by simpa using hp
        rw [if_neg (show ¬ (τ, pe).2 = 0 from hp)] at HPA2
        clear hp
        go_wp2_with fail
        go_ret
        rw [← HPA2.out]
        exact ⟨rfl, (HR5.out.set3 (by omega) (by omega) _ _).set3 hTX hTD _ _, sk_st (HT5.out.setOther (C := B) hne 6 _) true, (HK35.out.setNew B 6 _ (by rw [HBB.out]; exact Nat.le_refl _)).setT 10 _⟩
    · rw [if_neg hroom] at HPA2
      obtain ⟨en2, hen2⟩ : ∃ en2 : Nat, (en : Int) + (rb.size : Int) = (en2 : Int) := ⟨en + rb.size, by omega⟩
      have hrd : (4096 : Int) < (en2 : Int) := by have := HRL.out; omega
      have hre : (en2 : Int) ≤ 8192 := by have := HRL.out; omega
      generalize moveR ρ sec VV = MM at *
      obtain ⟨m1, m2, me⟩ := MM
      clear hroom PG
      go_wp2_with fail
      refine (SZ _).mono ?_
      rintro e w2 ⟨rfl, hb2⟩
      have HR2 := hide (HR1.out.below hb2)
      have HT2 := hide (HT1.out.below hb2)
      have HK2 := hide (HK1.out.below hb2)
      have H32 := hide (H31.out.trans (K3.below hb2 X D T))
      clear hb2 SZ k0 k1 k2 k3 k4 k5 k6 k7
      go_wp2_with fail
      refine (RC _).mono ?_
      rintro e w3 ⟨rfl, hb3⟩
      have HR3 := hide (HR2.out.below hb3)
      have HT3 := hide (HT2.out.below hb3)
      have HK3 := hide (HK2.out.below hb3)
      have H33 := hide (H32.out.trans (K3.below hb3 X D T))
      have c8 := HT3.out.cell 8 (v := .int .i64 (en : Int)) rfl
      have k0 := HK3.out.cell 0 (v := .bool (V 0).isSome) rfl
      have k1 := HK3.out.cell 1 (v := .bool true) rfl
      have k2 := HK3.out.cell 2 (v := .bool (V 2).isSome) rfl
      have k3 := HK3.out.cell 3 (v := .string (bs ((V 0).getD []))) rfl
      have k4 := HK3.out.cell 4 (v := .string d) rfl
      have k5 := HK3.out.cell 5 (v := .string (bs ((V 2).getD []))) rfl
      have k6 := HK3.out.cell 6 (v := .int .i64 (en : Int)) rfl
      have k7 := HK3.out.cell 7 (v := .bool false) rfl
      clear hb3 RC
      go_wp2_with fail
      refine (RM _ HR3.out HT3.out).mono ?_
      rintro e w5 ⟨rfl, hR5, hY, hN, hk5⟩
      have HK35 := hide (H33.out.trans hk5)
      have HR5 := hide hR5
      have HY5 := hide hY
      have HN5 := hide hN
      clear hR5 hk5 hY hN RM k0 k1 k2 k3 k4 k5 k6 k7 c8
      by_cases hm : me = 0
      · have HM0 := hide hm
        have hmn : (me != 0) = false := by rw [hm]; rfl
        rw [if_pos (show (m1, m2, me).2.2 = 0 from hm)] at HPA2
        have HT5 := hide (HY5.out hm)
        have ft := HT5.out.fz
        have d10 := HT5.out.cell 10 (v := .bool false) rfl
        clear hm HY5 HN5
        go_wp2_with fail
        go_ret
        rw [← HPA2.out]
        exact ⟨by rw [HM0.out]; rfl, HR5.out.set3 hTX hTD _ _, sk_st HT5.out false, HK35.out.setT 10 _⟩
      · have hmn : (me != 0) = true := by simpa using hm
        rw [if_neg (show ¬ (m1, m2, me).2.2 = 0 from hm)] at HPA2
        have HT5 := hide (HN5.out hm)
        have ft := HT5.out.fz
        have d10 := HT5.out.cell 10 (v := .bool false) rfl
        clear hm HY5 HN5
        go_wp2_with fail
        go_ret
        rw [← HPA2.out]
        exact ⟨rfl, HR5.out.set3 hTX hTD _ _, sk_st HT5.out true, HK35.out.setT 10 _⟩
set_option maxRecDepth 100000 in
set_option maxHeartbeats 8000000 in
theorem rput_2 (w : World) (X D cap T : Nat) (ρ : St) (hR : Rf w X D cap ρ) (hj : ρ.jk.size ≤ 140737488351232) (sec : Nat) (hs : sec < 2) (V : Nat → Option (List UInt8)) (hV : ∀ i, i < 3 → ((V i).getD []).length ≤ 2000) (en : Nat) (hen : en ≤ 4096) (hT : Bl w T (skC X (sec : Int) V (en : Int) false false) 133) (hTX : T ≠ X) (hTD : T ≠ D) (v : List UInt8) (hv : v.length ≤ 2000) : Calls Try.prog 45 #[fp T, .int .i64 2, .string (bs v)] w fun e w' => PtEnd (putA ρ sec V en 2 v) X D cap T w e w' := by
  obtain ⟨PA, HPA⟩ : ∃ PA, Hid (putA ρ sec V en 2 v = PA) := ⟨_, rfl⟩
  rw [HPA.out]
  have HUL := hide (upV_len hV 2 v hv)
  have SZ : ∀ W, Calls Try.prog 71 #[.agg #[.bool (V 0).isSome, .bool (V 1).isSome, .bool true, .string (bs ((V 0).getD [])), .string (bs ((V 1).getD [])), .string (bs v), .int .i64 (en : Int), .bool false]] W fun e w' => e = .returned (.int .i64 (sumV (upV V 2 v) 3 : Nat)) ∧ Below W.heap.size W w' := fun W => size_any (upV V 2 v) (fun j h => Nat.le_trans (HUL.out j h) (by decide)) (en : Int) false W
  have RC := fun W => record_any 2 (by decide) v hv W
  obtain ⟨pl, hpl⟩ : ∃ pl : Nat, ((sec * 4096 : Nat) : Int) + (en : Int) = (pl : Int) := ⟨sec * 4096 + en, by omega⟩
  obtain ⟨ps, hps⟩ : ∃ ps : Nat, (sec : Int) * 4096 = (ps : Int) := ⟨sec * 4096, by omega⟩
  have HPL : Hid (sec * 4096 + en = pl) := hide (by omega)
  have hpl2 : (ps : Int) + (en : Int) = (pl : Int) := by omega
  clear hpl
  have PG := fun W hR => rprog_any W X D cap ρ hR hj (pl : Int) (by unfold I64; omega) (bs (recB 2 v))
  have RM : ∀ W, Rf W X D cap ρ → Bl W T (skC X (sec : Int) V (en : Int) false false) 133 → Calls Try.prog 68 #[fp T, .agg #[.bool (V 0).isSome, .bool (V 1).isSome, .bool true, .string (bs ((V 0).getD [])), .string (bs ((V 1).getD [])), .string (bs v), .int .i64 (en : Int), .bool false]] W fun e w' => MvEnd (moveR ρ sec (upV V 2 v)) X D cap T sec V (upV V 2 v) (en : Int) false false W e w' := fun W hr hT => rmove_any W X D cap T ρ hr hj sec hs V (upV V 2 v) (en : Int) (en : Int) false false false hT hTX hTD HUL.out
  have HRL : Hid ((bs (recB 2 v)).size = 4 + v.length) := hide (by rw [bs_size, recB_length])
  have hsm : sumV (upV V 2 v) 3 ≤ 100000 := by
    have h0 := HUL.out 0 (by decide)
    have h1 := HUL.out 1 (by decide)
    have h2 := HUL.out 2 (by decide)
    have z := fun k => szQ_two (upV V 2 v) k
    have zz : ∀ k, ((upV V 2 v k).getD []).length ≤ 2000 → szQ (upV V 2 v) k ≤ 2004 := fun k hk => by
      cases hh : (upV V 2 v k).isSome with
      | true => rw [(z k).1 hh]; omega
      | false => rw [(z k).2 hh]; omega
    have y0 := zz 0 h0
    have y1 := zz 1 h1
    have y2 := zz 2 h2
    show 1 + szQ (upV V 2 v) 0 + szQ (upV V 2 v) 1 + szQ (upV V 2 v) 2 ≤ 100000
    omega
  have HPA2 := HPA
  unfold putA at HPA2
  rw [HPL.out] at HPA2
  have hzs : (bs v).size = v.length := bs_size v
  have hsd : ¬ (2000 : Int) < ((bs v).size : Int) := by omega
  generalize hVV : upV V 2 v = VV at *
  have HVV := hide hVV
  clear hVV HPA
  have c0 := hT.cell 0 (v := fp X) rfl
  have c1 := hT.cell 1 (v := .int .i64 (sec : Int)) rfl
  have c2 := hT.cell 2 (v := .bool (V 0).isSome) rfl
  have c3 := hT.cell 3 (v := .bool (V 1).isSome) rfl
  have c4 := hT.cell 4 (v := .bool (V 2).isSome) rfl
  have c5 := hT.cell 5 (v := .string (bs ((V 0).getD []))) rfl
  have c6 := hT.cell 6 (v := .string (bs ((V 1).getD []))) rfl
  have c7 := hT.cell 7 (v := .string (bs ((V 2).getD []))) rfl
  have c8 := hT.cell 8 (v := .int .i64 (en : Int)) rfl
  have c9 := hT.cell 9 (v := .bool false) rfl
  have c10 := hT.cell 10 (v := .bool false) rfl
  have HA := hide (below_alloc w (.cells #[.bool (V 0).isSome, .bool (V 1).isSome, .bool true, .string (bs ((V 0).getD [])), .string (bs ((V 1).getD [])), .string (bs v), .int .i64 (en : Int), .bool false] 131))
  have HK1 := hide (Bl.new w #[.bool (V 0).isSome, .bool (V 1).isSome, .bool true, .string (bs ((V 0).getD [])), .string (bs ((V 1).getD [])), .string (bs v), .int .i64 (en : Int), .bool false] 131)
  obtain ⟨w1, hw1⟩ : ∃ w1, w.alloc (.cells #[.bool (V 0).isSome, .bool (V 1).isSome, .bool true, .string (bs ((V 0).getD [])), .string (bs ((V 1).getD [])), .string (bs v), .int .i64 (en : Int), .bool false] 131) = w1 := ⟨_, rfl⟩
  rw [hw1] at HA HK1
  have hTl := hT.lt
  have hXl := hR.ltX
  have hDl := hR.lt
  have HR1 := hide (hR.below HA.out)
  have HT1 := hide (hT.below HA.out)
  have H31 := hide (K3.below HA.out X D T)
  obtain ⟨rb, HRB⟩ : ∃ rb, Hid (bs (recB 2 v) = rb) := ⟨_, rfl⟩
  rw [HRB.out] at RC PG HRL HPA2
  obtain ⟨B, hB⟩ : ∃ B, w.heap.size = B := ⟨_, rfl⟩
  have HBB := hide hB
  rw [hB] at HK1 hTl hXl hDl
  generalize sumV VV 3 = sm at *
  generalize hd : bs v = d at *
  have HD := hide hd
  clear hd
  clear hR hT hj hV
  go_enter Try.func45, Try.ntmps45
  go_upto_region 8 with fail
  have k0 := HK1.out.cell 0 (v := .bool (V 0).isSome) rfl
  have k1 := HK1.out.cell 1 (v := .bool (V 1).isSome) rfl
  have k2 := HK1.out.cell 2 (v := .bool true) rfl
  have k3 := HK1.out.cell 3 (v := .string (bs ((V 0).getD []))) rfl
  have k4 := HK1.out.cell 4 (v := .string (bs ((V 1).getD []))) rfl
  have k5 := HK1.out.cell 5 (v := .string d) rfl
  have k6 := HK1.out.cell 6 (v := .int .i64 (en : Int)) rfl
  have k7 := HK1.out.cell 7 (v := .bool false) rfl
  clear hw1 c0 c1 c2 c3 c4 c5 c6 c7 c8 c9 c10
  by_cases hfull : 4096 < sm
  · have hfd : (4096 : Int) < (sm : Int) := by omega
    rw [if_pos hfull] at HPA2
    clear hfull RM PG RC
    go_wp2_with fail
    refine (SZ _).mono ?_
    rintro e w2 ⟨rfl, hb2⟩
    have HE := hide (PtEnd.full HPA2.out (HR1.out.below hb2) (HT1.out.below hb2) (H31.out.trans (K3.below hb2 X D T)))
    clear hb2 SZ
    go_wp2_with fail
    go_ret
    exact HE.out
  · have hfd : ¬ (4096 : Int) < (sm : Int) := by omega
    rw [if_neg hfull] at HPA2
    clear hfull
    by_cases hroom : en + (4 + v.length) ≤ 4096
    · rw [if_pos hroom] at HPA2
      obtain ⟨en2, hen2⟩ : ∃ en2 : Nat, (en : Int) + (rb.size : Int) = (en2 : Int) := ⟨en + rb.size, by omega⟩
      have HE2 : Hid (en + (4 + v.length) = en2) := hide (by have := HRL.out; omega)
      have hrd : (en2 : Int) ≤ 4096 := by have := HE2.out; omega
      rw [HE2.out] at HPA2
      clear hroom RM
      go_wp2_with fail
      refine (SZ _).mono ?_
      rintro e w2 ⟨rfl, hb2⟩
      have HR2 := hide (HR1.out.below hb2)
      have HT2 := hide (HT1.out.below hb2)
      have HK2 := hide (HK1.out.below hb2)
      have H32 := hide (H31.out.trans (K3.below hb2 X D T))
      clear hb2 SZ k0 k1 k2 k3 k4 k5 k6 k7
      go_wp2_with fail
      refine (RC _).mono ?_
      rintro e w3 ⟨rfl, hb3⟩
      have HR3 := hide (HR2.out.below hb3)
      have HT3 := hide (HT2.out.below hb3)
      have HK3 := hide (HK2.out.below hb3)
      have H33 := hide (H32.out.trans (K3.below hb3 X D T))
      have c0 := HT3.out.cell 0 (v := fp X) rfl
      have c1 := HT3.out.cell 1 (v := .int .i64 (sec : Int)) rfl
      have c8 := HT3.out.cell 8 (v := .int .i64 (en : Int)) rfl
      clear hb3 RC
      go_wp2_with fail
      refine wp_region_held_drew (S := fun wx => wx.cell? ⟨T, 0, none⟩ = some (fp X) ∧ wx.cell? ⟨T, 1, none⟩ = some (.int .i64 (sec : Int)) ∧ wx.cell? ⟨T, 8, none⟩ = some (.int .i64 (en : Int))) (by kernel_rfl) (⟨c0, c1, c8⟩) (fun hHeld => ?_)
      refine takeQ (i := 0) (v := fp T) (d := some 51) rfl rfl (by kernel_rfl) (by kernel_rfl) (by kernel_rfl) (fun _ _ _ h => h) (Or.inl ⟨by rfl, fun wS ⟨hS0, hS1, hS2⟩ => by go_simp; all_goals (rw [IntKind.wrap_i64]; omega)⟩) (by assumption) ?_
      simp only [Act.put, List.setIfInBounds_toArray, List.set_cons_zero, List.set_cons_succ]
      refine takeQ (i := 1) (v := .pointer (some ⟨T, 0, none⟩)) (d := some 52) rfl rfl (by kernel_rfl) (by kernel_rfl) (by kernel_rfl) (fun _ _ _ h => h) (Or.inl ⟨by rfl, fun wS ⟨hS0, hS1, hS2⟩ => by go_simp; all_goals (rw [IntKind.wrap_i64]; omega)⟩) (by assumption) ?_
      simp only [Act.put, List.setIfInBounds_toArray, List.set_cons_zero, List.set_cons_succ]
      refine takeQ (i := 2) (v := .pointer (some ⟨T, 0, none⟩)) (d := some 53) rfl rfl (by kernel_rfl) (by kernel_rfl) (by kernel_rfl) (fun _ _ _ h => h) (Or.inl ⟨by rfl, fun wS ⟨hS0, hS1, hS2⟩ => by go_simp; all_goals (rw [IntKind.wrap_i64]; omega)⟩) (by assumption) ?_
      simp only [Act.put, List.setIfInBounds_toArray, List.set_cons_zero, List.set_cons_succ]
      refine takeQ (i := 3) (v := fp X) (d := some 54) rfl rfl (by kernel_rfl) (by kernel_rfl) (by kernel_rfl) (fun _ _ _ h => h) (Or.inl ⟨by rfl, fun wS ⟨hS0, hS1, hS2⟩ => by go_simp; all_goals (rw [IntKind.wrap_i64]; omega)⟩) (by assumption) ?_
      simp only [Act.put, List.setIfInBounds_toArray, List.set_cons_zero, List.set_cons_succ]
      refine takeQ (i := 4) (v := fp T) (d := some 55) rfl rfl (by kernel_rfl) (by kernel_rfl) (by kernel_rfl) (fun _ _ _ h => h) (Or.inl ⟨by rfl, fun wS ⟨hS0, hS1, hS2⟩ => by go_simp; all_goals (rw [IntKind.wrap_i64]; omega)⟩) (by assumption) ?_
      simp only [Act.put, List.setIfInBounds_toArray, List.set_cons_zero, List.set_cons_succ]
      refine takeQ (i := 5) (v := .pointer (some ⟨T, 0, none⟩)) (d := some 56) rfl rfl (by kernel_rfl) (by kernel_rfl) (by kernel_rfl) (fun _ _ _ h => h) (Or.inl ⟨by rfl, fun wS ⟨hS0, hS1, hS2⟩ => by go_simp; all_goals (rw [IntKind.wrap_i64]; omega)⟩) (by assumption) ?_
      simp only [Act.put, List.setIfInBounds_toArray, List.set_cons_zero, List.set_cons_succ]
      refine takeQ (i := 6) (v := .pointer (some ⟨T, 1, none⟩)) (d := some 57) rfl rfl (by kernel_rfl) (by kernel_rfl) (by kernel_rfl) (fun _ _ _ h => h) (Or.inl ⟨by rfl, fun wS ⟨hS0, hS1, hS2⟩ => by go_simp; all_goals (rw [IntKind.wrap_i64]; omega)⟩) (by assumption) ?_
      simp only [Act.put, List.setIfInBounds_toArray, List.set_cons_zero, List.set_cons_succ]
      refine takeQ (i := 7) (v := .int .i64 (sec : Int)) (d := some 58) rfl rfl (by kernel_rfl) (by kernel_rfl) (by kernel_rfl) (fun _ _ _ h => h) (Or.inl ⟨by rfl, fun wS ⟨hS0, hS1, hS2⟩ => by go_simp; all_goals (rw [IntKind.wrap_i64]; omega)⟩) (by assumption) ?_
      simp only [Act.put, List.setIfInBounds_toArray, List.set_cons_zero, List.set_cons_succ]
      refine takeQ (i := 8) (v := .int .i64 (ps : Int)) (d := some 59) rfl rfl (by kernel_rfl) (by kernel_rfl) (by kernel_rfl) (fun _ _ _ h => h) (Or.inl ⟨by rfl, fun wS ⟨hS0, hS1, hS2⟩ => by go_simp; all_goals (rw [IntKind.wrap_i64]; omega)⟩) (by assumption) ?_
      simp only [Act.put, List.setIfInBounds_toArray, List.set_cons_zero, List.set_cons_succ]
      refine takeQ (i := 9) (v := fp T) (d := some 60) rfl rfl (by kernel_rfl) (by kernel_rfl) (by kernel_rfl) (fun _ _ _ h => h) (Or.inl ⟨by rfl, fun wS ⟨hS0, hS1, hS2⟩ => by go_simp; all_goals (rw [IntKind.wrap_i64]; omega)⟩) (by assumption) ?_
      simp only [Act.put, List.setIfInBounds_toArray, List.set_cons_zero, List.set_cons_succ]
      refine takeQ (i := 10) (v := .pointer (some ⟨T, 0, none⟩)) (d := some 61) rfl rfl (by kernel_rfl) (by kernel_rfl) (by kernel_rfl) (fun _ _ _ h => h) (Or.inl ⟨by rfl, fun wS ⟨hS0, hS1, hS2⟩ => by go_simp; all_goals (rw [IntKind.wrap_i64]; omega)⟩) (by assumption) ?_
      simp only [Act.put, List.setIfInBounds_toArray, List.set_cons_zero, List.set_cons_succ]
      refine takeQ (i := 11) (v := .pointer (some ⟨T, 2, none⟩)) (d := some 62) rfl rfl (by kernel_rfl) (by kernel_rfl) (by kernel_rfl) (fun _ _ _ h => h) (Or.inl ⟨by rfl, fun wS ⟨hS0, hS1, hS2⟩ => by go_simp; all_goals (rw [IntKind.wrap_i64]; omega)⟩) (by assumption) ?_
      simp only [Act.put, List.setIfInBounds_toArray, List.set_cons_zero, List.set_cons_succ]
      refine takeQ (i := 12) (v := .pointer (some ⟨T, 8, none⟩)) (d := some 63) rfl rfl (by kernel_rfl) (by kernel_rfl) (by kernel_rfl) (fun _ _ _ h => h) (Or.inl ⟨by rfl, fun wS ⟨hS0, hS1, hS2⟩ => by go_simp; all_goals (rw [IntKind.wrap_i64]; omega)⟩) (by assumption) ?_
      simp only [Act.put, List.setIfInBounds_toArray, List.set_cons_zero, List.set_cons_succ]
      refine takeQ (i := 13) (v := .int .i64 (en : Int)) (d := some 64) rfl rfl (by kernel_rfl) (by kernel_rfl) (by kernel_rfl) (fun _ _ _ h => h) (Or.inl ⟨by rfl, fun wS ⟨hS0, hS1, hS2⟩ => by go_simp; all_goals (rw [IntKind.wrap_i64]; omega)⟩) (by assumption) ?_
      simp only [Act.put, List.setIfInBounds_toArray, List.set_cons_zero, List.set_cons_succ]
      refine takeQ (i := 14) (v := .int .i64 (pl : Int)) (d := some 65) rfl rfl (by kernel_rfl) (by kernel_rfl) (by kernel_rfl) (fun _ _ _ h => h) (Or.inl ⟨by rfl, fun wS ⟨hS0, hS1, hS2⟩ => by go_simp; all_goals (rw [IntKind.wrap_i64]; omega)⟩) (by assumption) ?_
      simp only [Act.put, List.setIfInBounds_toArray, List.set_cons_zero, List.set_cons_succ]
      refine takeQ (i := 15) (v := .string rb) (d := some 66) rfl rfl (by kernel_rfl) (by kernel_rfl) (by kernel_rfl) (fun _ _ _ h => h) (Or.inl ⟨by rfl, fun wS ⟨hS0, hS1, hS2⟩ => by go_simp; all_goals (rw [IntKind.wrap_i64]; omega)⟩) (by assumption) ?_
      simp only [Act.put, List.setIfInBounds_toArray, List.set_cons_zero, List.set_cons_succ]
      refine wpAnyH_ready (rs := [16]) (by kernel_rfl) (by simp) ?_
      refine AllReadyH.cons rfl (fun K hK => ?_) AllReadyH.nil
      go_simp
      refine (PG _ HR3.out.drew).mono ?_
      rintro e w5 ⟨rfl, hR5, hk5⟩
      have q0 : w5.cell? ⟨T, 0, none⟩ = some (fp X) := (HT3.out.drew.kept2 hk5 hTX hTD).cell 0 rfl
      have q1 : w5.cell? ⟨T, 1, none⟩ = some (.int .i64 (sec : Int)) := (HT3.out.drew.kept2 hk5 hTX hTD).cell 1 rfl
      have q2 : w5.cell? ⟨T, 8, none⟩ = some (.int .i64 (en : Int)) := (HT3.out.drew.kept2 hk5 hTX hTD).cell 8 rfl
      clear hHeld
      refine hK.out _ _ ⟨q0, q1, q2⟩ (fun hHeld => ?_)
      clear hK K
      refine wpAnyH_ready (rs := [17]) (by kernel_rfl) (by simp) ?_
      refine AllReadyH.cons rfl (fun K hK => ?_) AllReadyH.nil
      go_simp
      refine hK.out _ _ hHeld (fun hHeld => ?_)
      clear hK K hHeld
      refine wpAnyH_done (by kernel_rfl) ?_ _
      have HK5 := hide (HK3.out.drew.kept2 hk5 (by omega) (by omega))
      have HT5 := hide (HT3.out.drew.kept2 hk5 hTX hTD)
      have HK35 := hide (H33.out.drew.trans (K3.of2 hk5 T))
      have HR5 := hide hR5
      clear hR5 hk5
      generalize progRR ρ (pl : Int) rb = PR at *
      obtain ⟨τ, pe⟩ := PR
      have k0 := HK5.out.cell 0 (v := .bool (V 0).isSome) rfl
      have k1 := HK5.out.cell 1 (v := .bool (V 1).isSome) rfl
      have k2 := HK5.out.cell 2 (v := .bool true) rfl
      have k3 := HK5.out.cell 3 (v := .string (bs ((V 0).getD []))) rfl
      have k4 := HK5.out.cell 4 (v := .string (bs ((V 1).getD []))) rfl
      have k5 := HK5.out.cell 5 (v := .string d) rfl
      have k6 := HK5.out.cell 6 (v := .int .i64 (en : Int)) rfl
      have k7 := HK5.out.cell 7 (v := .bool false) rfl
      have fk := HK5.out.fz
      have ft := HT5.out.fz
      have hne : ¬ T = B := by omega
      have hne2 : ¬ B = T := by omega
      have d2 := HT5.out.cell 2 (v := .bool (V 0).isSome) rfl
      have d3 := HT5.out.cell 3 (v := .bool (V 1).isSome) rfl
      have d4 := HT5.out.cell 4 (v := .bool (V 2).isSome) rfl
      have d5 := HT5.out.cell 5 (v := .string (bs ((V 0).getD []))) rfl
      have d6 := HT5.out.cell 6 (v := .string (bs ((V 1).getD []))) rfl
      have d7 := HT5.out.cell 7 (v := .string (bs ((V 2).getD []))) rfl
      have d8 := HT5.out.cell 8 (v := .int .i64 (en : Int)) rfl
      have d9 := HT5.out.cell 9 (v := .bool false) rfl
      have d10 := HT5.out.cell 10 (v := .bool false) rfl
      by_cases hp : pe = 0
      · have HP0 := hide hp
        have hpb : (pe == 0) = true := by rw [hp]; rfl
        have hpn : (pe != 0) = false := by rw [hp]; rfl
        rw [if_pos (show (τ, pe).2 = 0 from hp)] at HPA2
        clear hp
        go_wp2_with fail
        go_ret
        obtain ⟨z1, z2, z3⟩ := pt_fin (B := B) (h0 := (V 0).isSome) (h1 := (V 1).isSome) (h2 := true) (s0 := (bs ((V 0).getD []))) (s1 := (bs ((V 1).getD []))) (s2 := d) (a := (en2 : Int)) HR5.out HT5.out HK35.out (by rw [HBB.out]; exact Nat.le_refl _) (by omega) (by omega) (by omega) hTX hTD
        rw [← HPA2.out]
        refine ⟨by rw [HP0.out]; rfl, z1, ?_, z3⟩
        rw [← HVV.out]
        rw [← HD.out] at z2 ⊢
        exact z2
      · have hpb : (pe == 0) = false := by simpa using hp
        have hpn : (pe != 0) = true := by simpa using hp
        rw [if_neg (show ¬ (τ, pe).2 = 0 from hp)] at HPA2
        clear hp
        go_wp2_with fail
        go_ret
        rw [← HPA2.out]
        exact ⟨rfl, (HR5.out.set3 (by omega) (by omega) _ _).set3 hTX hTD _ _, sk_st (HT5.out.setOther (C := B) hne 6 _) true, (HK35.out.setNew B 6 _ (by rw [HBB.out]; exact Nat.le_refl _)).setT 10 _⟩
    · rw [if_neg hroom] at HPA2
      obtain ⟨en2, hen2⟩ : ∃ en2 : Nat, (en : Int) + (rb.size : Int) = (en2 : Int) := ⟨en + rb.size, by omega⟩
      have hrd : (4096 : Int) < (en2 : Int) := by have := HRL.out; omega
      have hre : (en2 : Int) ≤ 8192 := by have := HRL.out; omega
      generalize moveR ρ sec VV = MM at *
      obtain ⟨m1, m2, me⟩ := MM
      clear hroom PG
      go_wp2_with fail
      refine (SZ _).mono ?_
      rintro e w2 ⟨rfl, hb2⟩
      have HR2 := hide (HR1.out.below hb2)
      have HT2 := hide (HT1.out.below hb2)
      have HK2 := hide (HK1.out.below hb2)
      have H32 := hide (H31.out.trans (K3.below hb2 X D T))
      clear hb2 SZ k0 k1 k2 k3 k4 k5 k6 k7
      go_wp2_with fail
      refine (RC _).mono ?_
      rintro e w3 ⟨rfl, hb3⟩
      have HR3 := hide (HR2.out.below hb3)
      have HT3 := hide (HT2.out.below hb3)
      have HK3 := hide (HK2.out.below hb3)
      have H33 := hide (H32.out.trans (K3.below hb3 X D T))
      have c8 := HT3.out.cell 8 (v := .int .i64 (en : Int)) rfl
      have k0 := HK3.out.cell 0 (v := .bool (V 0).isSome) rfl
      have k1 := HK3.out.cell 1 (v := .bool (V 1).isSome) rfl
      have k2 := HK3.out.cell 2 (v := .bool true) rfl
      have k3 := HK3.out.cell 3 (v := .string (bs ((V 0).getD []))) rfl
      have k4 := HK3.out.cell 4 (v := .string (bs ((V 1).getD []))) rfl
      have k5 := HK3.out.cell 5 (v := .string d) rfl
      have k6 := HK3.out.cell 6 (v := .int .i64 (en : Int)) rfl
      have k7 := HK3.out.cell 7 (v := .bool false) rfl
      clear hb3 RC
      go_wp2_with fail
      refine (RM _ HR3.out HT3.out).mono ?_
      rintro e w5 ⟨rfl, hR5, hY, hN, hk5⟩
      have HK35 := hide (H33.out.trans hk5)
      have HR5 := hide hR5
      have HY5 := hide hY
      have HN5 := hide hN
      clear hR5 hk5 hY hN RM k0 k1 k2 k3 k4 k5 k6 k7 c8
      by_cases hm : me = 0
      · have HM0 := hide hm
        have hmn : (me != 0) = false := by rw [hm]; rfl
        rw [if_pos (show (m1, m2, me).2.2 = 0 from hm)] at HPA2
        have HT5 := hide (HY5.out hm)
        have ft := HT5.out.fz
        have d10 := HT5.out.cell 10 (v := .bool false) rfl
        clear hm HY5 HN5
        go_wp2_with fail
        go_ret
        rw [← HPA2.out]
        exact ⟨by rw [HM0.out]; rfl, HR5.out.set3 hTX hTD _ _, sk_st HT5.out false, HK35.out.setT 10 _⟩
      · have hmn : (me != 0) = true := by simpa using hm
        rw [if_neg (show ¬ (m1, m2, me).2.2 = 0 from hm)] at HPA2
        have HT5 := hide (HN5.out hm)
        have ft := HT5.out.fz
        have d10 := HT5.out.cell 10 (v := .bool false) rfl
        clear hm HY5 HN5
        go_wp2_with fail
        go_ret
        rw [← HPA2.out]
        exact ⟨rfl, HR5.out.set3 hTX hTD _ _, sk_st HT5.out true, HK35.out.setT 10 _⟩
set_option maxRecDepth 100000 in
set_option maxHeartbeats 8000000 in
theorem rput_any (w : World) (X D cap T : Nat) (ρ : St) (hR : Rf w X D cap ρ) (hj : ρ.jk.size ≤ 140737488351232) (sec : Nat) (hs : sec < 2) (V : Nat → Option (List UInt8)) (hV : ∀ i, i < 3 → ((V i).getD []).length ≤ 2000) (en : Nat) (hen : en ≤ 4096) (st : Bool) (hT : Bl w T (skC X (sec : Int) V (en : Int) false st) 133) (hTX : T ≠ X) (hTD : T ≠ D) (id : Int) (v : List UInt8) (hv : v.length ≤ 140737488355328) : Calls Try.prog 45 #[fp T, .int .i64 id, .string (bs v)] w fun e w' => PtEnd (putR ρ sec V en st id v) X D cap T w e w' := by
  have c10 := hT.cell 10 (v := .bool st) rfl
  cases st with
  | true =>
    have HE : Hid (PtEnd (putR ρ sec V en true id v) X D cap T w (.returned (.int .i64 60)) w) := hide (by
      unfold putR
      rw [if_pos rfl]
      exact ⟨rfl, hR, hT, K3.refl _ _ _ _⟩)
    go_enter Try.func45, Try.ntmps45
    go_wp2_with fail
    go_ret
    exact HE.out
  | false =>
    by_cases hb : ¬ (0 ≤ id ∧ id < 3) ∨ 2000 < v.length
    · have HE : Hid (PtEnd (putR ρ sec V en false id v) X D cap T w (.returned (.int .i64 1)) w) := hide (by
        unfold putR
        rw [if_neg (by decide), if_pos hb]
        exact ⟨rfl, hR, hT, K3.refl _ _ _ _⟩)
      have hzs : ((bs v).size : Int) ≤ 140737488355328 := by rw [bs_size]; omega
      have h3 : id < 0 ∨ (0 ≤ id ∧ 2 < id) ∨ (0 ≤ id ∧ id ≤ 2 ∧ (2000 : Int) < ((bs v).size : Int)) := by
        rw [bs_size]
        rcases hb with hb | hb
        · have : id < 0 ∨ 3 ≤ id := by omega
          omega
        · omega
      generalize bs v = d at *
      generalize putR ρ sec V en false id v = PA at *
      clear hb hv
      rcases h3 with h3 | ⟨h3, h4⟩ | ⟨h3, h4, h5⟩
      · go_enter Try.func45, Try.ntmps45
        go_wp2_with fail
        go_ret
        exact HE.out
      · go_enter Try.func45, Try.ntmps45
        go_wp2_with fail
        go_ret
        exact HE.out
      · go_enter Try.func45, Try.ntmps45
        go_wp2_with fail
        go_ret
        exact HE.out
    · have h3 : id = 0 ∨ id = 1 ∨ id = 2 := by omega
      have hv2 : v.length ≤ 2000 := by omega
      unfold putR
      rw [if_neg (by decide), if_neg hb]
      rcases h3 with rfl | rfl | rfl
      · exact rput_0 w X D cap T ρ hR hj sec hs V hV en hen hT hTX hTD v hv2
      · exact rput_1 w X D cap T ρ hR hj sec hs V hV en hen hT hTX hTD v hv2
      · exact rput_2 w X D cap T ρ hR hj sec hs V hV en hen hT hTX hTD v hv2
end Go.Proofs.Ytcjahdgppnmdkaa
