/- The document's store: Boot. -/
import Derived.Test.YthccigikelinbaaSq5
namespace Go.Proofs.Ythccigikelinbaa
open Go.RowKit Go.Great

abbrev Kpt := Nat × (Nat → Option (List UInt8)) × Nat
def bootA (ρ : St) (sec : Nat) (R : (Nat → Option (List UInt8)) × Nat × Bool) : St × Option Kpt × Int :=
  if R.2.2 = false then ((moveR ρ sec R.1).1, if (moveR ρ sec R.1).2.2 = 0 then some (1 - sec, R.1, (moveR ρ sec R.1).2.1) else none, (moveR ρ sec R.1).2.2)
  else if ρ.C.getD ((1 - sec) * 4096) 0 ≠ 255 ∧ cdB (ρ.C.getD ((1 - sec) * 4096) 0) = false then ((eraseRR ρ ((1 - sec : Nat) : Int)).1, if (eraseRR ρ ((1 - sec : Nat) : Int)).2 = 0 then some (sec, R.1, R.2.1) else none, (eraseRR ρ ((1 - sec : Nat) : Int)).2)
  else (ρ, some (sec, R.1, R.2.1), 0)
/-- what Boot leaves: the flash, a store (its sector, its values, its end), an error's number -/
def bootR (ρ : St) : St × Option Kpt × Int :=
  if ρ.off then (ρ, none, 60)
  else if acR (ρ.C.getD 0 0) (ρ.C.getD 4096 0) < 0 then ((formR ρ).1, if (formR ρ).2 = 0 then some (0, noneV, 1) else none, (formR ρ).2)
  else bootA ρ (acR (ρ.C.getD 0 0) (ρ.C.getD 4096 0)).toNat (rdV (secL ρ.C (acR (ρ.C.getD 0 0) (ρ.C.getD 4096 0)).toNat) 4096 1 noneV)
def BtEnd (x : St × Option Kpt × Int) (X D cap : Nat) (w : World) (e : Ending) (w' : World) : Prop :=
  ∃ T, e = .returned (.tuple #[if x.2.1.isSome then fp T else .pointer none, .int .i64 x.2.2]) ∧ Rf w' X D cap x.1 ∧ (∀ k, x.2.1 = some k → Bl w' T (skC X (k.1 : Int) k.2.1 (k.2.2 : Int) false false) 105) ∧ w.heap.size ≤ T ∧ Kept2 X D w w'
theorem acR_range (a b : UInt8) : acR a b = -1 ∨ acR a b = 0 ∨ acR a b = 1 := by
  unfold acR
  split
  · split
    · exact .inr (.inr rfl)
    · exact .inr (.inl rfl)
  · split
    · exact .inr (.inl rfl)
    · split
      · exact .inr (.inr rfl)
      · exact .inl rfl
/-- values that were read are not longer than may be -/
theorem rdV_len (l : List UInt8) : ∀ (f a : Nat) (V : Nat → Option (List UInt8)), (∀ i, ((V i).getD []).length ≤ 2000) → ∀ i, (((rdV l f a V).1 i).getD []).length ≤ 2000
  | 0, _, V, h, i => h i
  | f + 1, a, V, h, i => by
    rw [rdV]
    by_cases h1 : blankB l a = true
    · rw [if_pos h1]; exact h i
    · rw [if_neg h1]
      by_cases h2 : wholeB l a = true
      · rw [if_pos h2]
        refine rdV_len l f _ _ (fun j => ?_) i
        unfold upV
        split
        · have := (wholeB_true h2).2.2.1
          show ((l.drop (a + 3)).take (lenAt l a)).length ≤ 2000
          rw [List.length_take]; omega
        · exact h j
      · rw [if_neg h2]; exact h i
theorem noneV_len (i : Nat) : ((noneV i).getD []).length ≤ 2000 := by simp [noneV]
theorem Rf.c1' {w : World} {X D cap : Nat} {ρ : St} (h : Rf w X D cap ρ) : w.cell? ⟨X, 1, none⟩ = some (.bool ρ.off) := Bl.cell (t := 79) h.blk 1 rfl
theorem K3.to2 {X D T : Nat} {w w1 : World} (h : K3 X D T w w1) (hT : w.heap.size ≤ T) : Kept2 X D w w1 := ⟨h.os, h.tape, h.output, h.size, fun k hk h1 h2 => h.block k hk h1 h2 (by omega)⟩
theorem Kept2.of_below {X D : Nat} {w w1 : World} (h : Below w.heap.size w w1) : Kept2 X D w w1 := ⟨h.os, h.tape, h.output, h.size, fun k hk _ _ => h.block k hk⟩
set_option maxRecDepth 100000 in
set_option maxHeartbeats 4000000 in
theorem rboot_any (w : World) (X D cap : Nat) (ρ : St) (hR : Rf w X D cap ρ) (hj : ρ.jk.size ≤ 140737488351232) : Calls Try.prog 29 #[fp X] w fun e w' => BtEnd (bootR ρ) X D cap w e w' := by
  have c1 := hR.c1'
  have HB : Hid (bootR ρ = if ρ.off then (ρ, none, 60) else if acR (ρ.C.getD 0 0) (ρ.C.getD 4096 0) < 0 then ((formR ρ).1, if (formR ρ).2 = 0 then some (0, noneV, 1) else none, (formR ρ).2) else bootA ρ (acR (ρ.C.getD 0 0) (ρ.C.getD 4096 0)).toNat (rdV (secL ρ.C (acR (ρ.C.getD 0 0) (ρ.C.getD 4096 0)).toNat) 4096 1 noneV)) := rfl
  generalize bootR ρ = BR at *
  have HR := hide hR
  have HJ := hide hj
  have hXl := hR.ltX
  have hDl := hR.lt
  cases ho : ρ.off with
  | true =>
    rw [ho] at c1 HB
    rw [HB.out]
    clear HB ho hj hR
    go_enter Try.func29, Try.ntmps29
    go_wp2_with fail
    go_ret2
    exact ⟨w.heap.size, rfl, HR.out, (fun k h => by cases h), Nat.le_refl _, Kept2.refl _ _ _⟩
  | false =>
    rw [ho] at c1 HB
    have IM := rimage_any w X D cap ρ hR
    have AC := fun W => active_any ρ.C hR.len W
    have HLEN := hide hR.len
    have hac := acR_range (ρ.C.getD 0 0) (ρ.C.getD 4096 0)
    have HB2 : Hid (BR = if acR (ρ.C.getD 0 0) (ρ.C.getD 4096 0) < 0 then ((formR ρ).1, if (formR ρ).2 = 0 then some (0, noneV, 1) else none, (formR ρ).2) else bootA ρ (acR (ρ.C.getD 0 0) (ρ.C.getD 4096 0)).toNat (rdV (secL ρ.C (acR (ρ.C.getD 0 0) (ρ.C.getD 4096 0)).toNat) 4096 1 noneV)) := hide (by rw [HB.out]; rfl)
    generalize acR (ρ.C.getD 0 0) (ρ.C.getD 4096 0) = A at *
    obtain ⟨im, HIM⟩ : ∃ im, Hid (bs ρ.C = im) := ⟨_, rfl⟩
    rw [HIM.out] at IM AC
    clear HB ho hj hR
    by_cases hneg : A < 0
    · rw [if_pos hneg] at HB2
      rw [HB2.out]
      have FM := rformat_any w X D cap ρ HR.out HJ.out
      generalize formR ρ = FR at *
      by_cases hf : FR.2 = 0
      · have hfb : (FR.2 != 0) = false := by rw [hf]; rfl
        have HF0 := hide hf
        rw [if_pos hf]
        generalize hfe : FR.2 = fe at *
        clear hf hfe
        go_enter Try.func29, Try.ntmps29
        go_wp2_with fail
        refine IM.mono ?_
        rintro e w1 ⟨rfl, hw1⟩
        obtain rfl := hw1.symm
        go_wp2_with fail
        refine (AC _).mono ?_
        rintro e w1 ⟨rfl, hw1⟩
        obtain rfl := hw1.symm
        go_wp2_with fail
        refine FM.mono ?_
        rintro e w2 ⟨rfl, hR2, hk2⟩
        go_wp2_with fail
        go_ret2
        refine ⟨w2.heap.size, by rw [HF0.out]; rfl, hR2.below (below_alloc _ _), (fun k h => ?_), hk2.size, hk2.trans (Kept2.of_below (below_alloc _ _))⟩
        injection h with h
        subst h
        exact Bl.new _ _ _
      · have hfb : (FR.2 != 0) = true := by simpa using hf
        rw [if_neg hf]
        generalize hfe : FR.2 = fe at *
        clear hfe
        go_enter Try.func29, Try.ntmps29
        go_wp2_with fail
        refine IM.mono ?_
        rintro e w1 ⟨rfl, hw1⟩
        obtain rfl := hw1.symm
        go_wp2_with fail
        refine (AC _).mono ?_
        rintro e w1 ⟨rfl, hw1⟩
        obtain rfl := hw1.symm
        go_wp2_with fail
        refine FM.mono ?_
        rintro e w2 ⟨rfl, hR2, hk2⟩
        go_wp2_with fail
        go_ret2
        exact ⟨w2.heap.size, rfl, hR2, (fun k h => by cases h), hk2.size, hk2⟩
    · rw [if_neg hneg] at HB2
      obtain ⟨sec, hsec, hs2⟩ : ∃ sec : Nat, A = (sec : Int) ∧ sec < 2 := ⟨A.toNat, by omega, by omega⟩
      subst hsec
      rw [show ((sec : Int)).toNat = sec by omega] at HB2
      have hsl8 : (secL ρ.C sec).length = 4096 := by unfold secL; rw [List.length_take, List.length_drop, HLEN.out]; omega
      have RD := fun W => readS_any (secL ρ.C sec) hsl8 W
      have HLV := hide (rdV_len (secL ρ.C sec) 4096 1 noneV noneV_len)
      generalize rdV (secL ρ.C sec) 4096 1 noneV = R at *
      obtain ⟨pa, hpa⟩ : ∃ pa : Nat, (sec : Int) * 4096 = (pa : Int) := ⟨sec * 4096, by omega⟩
      obtain ⟨s1, hs1⟩ : ∃ s1 : Nat, (sec : Int) + 1 = (s1 : Int) := ⟨sec + 1, by omega⟩
      obtain ⟨pb, hpb⟩ : ∃ pb : Nat, (s1 : Int) * 4096 = (pb : Int) := ⟨s1 * 4096, by omega⟩
      obtain ⟨sp, hsp⟩ : ∃ sp : Nat, (1 : Int) - (sec : Int) = (sp : Int) := ⟨1 - sec, by omega⟩
      obtain ⟨pf, hpf⟩ : ∃ pf : Nat, (sp : Int) * 4096 = (pf : Int) := ⟨sp * 4096, by omega⟩
      have hsz : im.size = 8192 := by rw [← HIM.out, bs_size, HLEN.out]
      have hsl : ∀ wx, (Instr.slice 9 (.string im) (some (.int .i64 (pa : Int))) (some (.int .i64 (pb : Int))) none).run Try.prog wx = .ok (.string (bs (secL ρ.C sec))) wx := fun wx => by
        rw [cut_run im pa pb (by omega) (by omega) wx, ← HIM.out, extQ]
        unfold secL
        rw [show pb - pa = 4096 by omega, show pa = sec * 4096 by omega]
      have gpf : pf < im.size := by omega
      have HFF : Hid (im[pf] = ρ.C.getD pf 0) := hide (by
        have := getD_bs ρ.C pf (by rw [HIM.out]; exact gpf)
        simp only [HIM.out] at this
        exact this)
      have hpfi : (pf : Int) < (im.size : Int) := by omega
      have HSP : Hid (1 - sec = sp) := hide (by omega)
      have HPF : Hid (sp * 4096 = pf) := hide (by omega)
      have hsp2 : sp < 2 := by omega
      generalize bs (secL ρ.C sec) = ts at *
      have HBA : Hid (BR = bootA ρ sec R) := HB2
      unfold bootA at HBA
      rw [HSP.out, HPF.out] at HBA
      have RM := fun W T (hr : Rf W X D cap ρ) hT h1 h2 => rmove_any W X D cap T ρ hr HJ.out sec hs2 R.1 R.1 (R.2.1 : Nat) (R.2.1 : Nat) (!R.2.2) (!R.2.2) false hT h1 h2 (fun i _ => HLV.out i)
      have ER := fun W hr => rerase_any W X D cap ρ hr HJ.out (sp : Int)
      unfold kpC at RD RM
      have CO := fun W => code_any (ρ.C.getD pf 0) W
      clear HB2 hac hneg
      cases hcl : R.2.2 with
      | false =>
        rw [if_pos hcl] at HBA
        rw [HBA.out]
        generalize hMM : moveR ρ sec R.1 = MM at *
        have HCL := hide hcl
        rw [show (!R.2.2) = true by rw [hcl]; rfl] at RD RM
        obtain ⟨m1, m2, me⟩ := MM
        by_cases hm : me = 0
        · have hmb : (me != 0) = false := by rw [hm]; rfl
          have HM0 := hide hm
          rw [if_pos (show (m1, m2, me).2.2 = 0 from hm)]
          clear hm
          go_enter Try.func29, Try.ntmps29
          go_wp2_with fail
          refine IM.mono ?_
          rintro e w1 ⟨rfl, hw1⟩
          obtain rfl := hw1.symm
          go_wp2_with fail
          refine (AC _).mono ?_
          rintro e w1 ⟨rfl, hw1⟩
          obtain rfl := hw1.symm
          go_wp2_with fail
          refine (RD _).mono ?_
          rintro e w2 ⟨rfl, hb2⟩
          have hR2 := HR.out.below hb2
          have hA := below_alloc w2 (.cells (skC X (sec : Int) R.1 (R.2.1 : Nat) true false) 105)
          have hT3 := Bl.new w2 (skC X (sec : Int) R.1 (R.2.1 : Nat) true false) 105
          have hz2 := hb2.size
          obtain ⟨w3, hw3⟩ : ∃ w3, w2.alloc (.cells (skC X (sec : Int) R.1 (R.2.1 : Nat) true false) 105) = w3 := ⟨_, rfl⟩
          rw [hw3] at hA hT3
          have hR3 := hR2.below hA
          have HB3 := hide (below_next hb2 (Nat.le_refl _) hA)
          have HT3 := hide hT3
          have HR3 := hide hR3
          unfold skC at hw3
          clear hb2 hR2 hA hR3
          generalize hTT : w2.heap.size = T at *
          have hT1 : T < w3.heap.size := HT3.out.lt
          have q0 := HT3.out.cell 2 (v := .bool (R.1 0).isSome) rfl
          have q1 := HT3.out.cell 3 (v := .bool (R.1 1).isSome) rfl
          have q2 := HT3.out.cell 4 (v := .bool (R.1 2).isSome) rfl
          have q3 := HT3.out.cell 5 (v := .string (bs ((R.1 0).getD []))) rfl
          have q4 := HT3.out.cell 6 (v := .string (bs ((R.1 1).getD []))) rfl
          have q5 := HT3.out.cell 7 (v := .string (bs ((R.1 2).getD []))) rfl
          have q6 := HT3.out.cell 8 (v := .int .i64 (R.2.1 : Nat)) rfl
          have q7 := HT3.out.cell 9 (v := .bool true) rfl
          have RMM := RM w3 T HR3.out HT3.out (by omega) (by omega)
          clear RM
          go_wp2_with fail
          refine RMM.mono ?_
          rintro e w4 ⟨rfl, hR4, hY, hN, hk4⟩
          have HY4 := hide hY
          have HN4 := hide hN
          have HK4 : Hid (Kept2 X D w w4) := hide (((K3.below HB3.out X D T).trans hk4).to2 (by omega))
          have HR4 := hide hR4
          clear hY hN hk4 hR4 RMM
          have HTE := hide (HY4.out HM0.out)
          clear q0 q1 q2 q3 q4 q5 q6 q7
          go_wp2_with fail
          go_ret2
          refine ⟨T, by rw [HM0.out]; rfl, HR4.out, (fun k h => ?_), by omega, HK4.out⟩
          injection h with h
          subst h
          have := HTE.out
          rw [HSP.out] at this
          exact this
        · have hmb : (me != 0) = true := by simpa using hm
          rw [if_neg (show ¬ (m1, m2, me).2.2 = 0 from hm)]
          clear hm
          go_enter Try.func29, Try.ntmps29
          go_wp2_with fail
          refine IM.mono ?_
          rintro e w1 ⟨rfl, hw1⟩
          obtain rfl := hw1.symm
          go_wp2_with fail
          refine (AC _).mono ?_
          rintro e w1 ⟨rfl, hw1⟩
          obtain rfl := hw1.symm
          go_wp2_with fail
          refine (RD _).mono ?_
          rintro e w2 ⟨rfl, hb2⟩
          have hR2 := HR.out.below hb2
          have hA := below_alloc w2 (.cells (skC X (sec : Int) R.1 (R.2.1 : Nat) true false) 105)
          have hT3 := Bl.new w2 (skC X (sec : Int) R.1 (R.2.1 : Nat) true false) 105
          have hz2 := hb2.size
          obtain ⟨w3, hw3⟩ : ∃ w3, w2.alloc (.cells (skC X (sec : Int) R.1 (R.2.1 : Nat) true false) 105) = w3 := ⟨_, rfl⟩
          rw [hw3] at hA hT3
          have hR3 := hR2.below hA
          have HB3 := hide (below_next hb2 (Nat.le_refl _) hA)
          have HT3 := hide hT3
          have HR3 := hide hR3
          unfold skC at hw3
          clear hb2 hR2 hA hR3
          generalize hTT : w2.heap.size = T at *
          have hT1 : T < w3.heap.size := HT3.out.lt
          have q0 := HT3.out.cell 2 (v := .bool (R.1 0).isSome) rfl
          have q1 := HT3.out.cell 3 (v := .bool (R.1 1).isSome) rfl
          have q2 := HT3.out.cell 4 (v := .bool (R.1 2).isSome) rfl
          have q3 := HT3.out.cell 5 (v := .string (bs ((R.1 0).getD []))) rfl
          have q4 := HT3.out.cell 6 (v := .string (bs ((R.1 1).getD []))) rfl
          have q5 := HT3.out.cell 7 (v := .string (bs ((R.1 2).getD []))) rfl
          have q6 := HT3.out.cell 8 (v := .int .i64 (R.2.1 : Nat)) rfl
          have q7 := HT3.out.cell 9 (v := .bool true) rfl
          have RMM := RM w3 T HR3.out HT3.out (by omega) (by omega)
          clear RM
          go_wp2_with fail
          refine RMM.mono ?_
          rintro e w4 ⟨rfl, hR4, hY, hN, hk4⟩
          have HY4 := hide hY
          have HN4 := hide hN
          have HK4 : Hid (Kept2 X D w w4) := hide (((K3.below HB3.out X D T).trans hk4).to2 (by omega))
          have HR4 := hide hR4
          clear hY hN hk4 hR4 RMM
          clear q0 q1 q2 q3 q4 q5 q6 q7
          go_wp2_with fail
          go_ret2
          exact ⟨T, rfl, HR4.out, (fun k h => by cases h), by omega, HK4.out⟩
      | true =>
        rw [if_neg (by rw [hcl]; decide)] at HBA
        have HCL := hide hcl
        rw [show (!R.2.2) = false by rw [hcl]; rfl] at RD
        by_cases hff : ρ.C.getD pf 0 = 255
        · have hfb : ((im[pf].toNat : Int) != 255) = false := by rw [HFF.out, hff]; rfl
          rw [if_neg (fun h => h.1 hff)] at HBA
          rw [HBA.out]
          clear hff RM
          go_enter Try.func29, Try.ntmps29
          go_wp2_with fail
          refine IM.mono ?_
          rintro e w1 ⟨rfl, hw1⟩
          obtain rfl := hw1.symm
          go_wp2_with fail
          refine (AC _).mono ?_
          rintro e w1 ⟨rfl, hw1⟩
          obtain rfl := hw1.symm
          go_wp2_with fail
          refine (RD _).mono ?_
          rintro e w2 ⟨rfl, hb2⟩
          have hR2 := HR.out.below hb2
          have hA := below_alloc w2 (.cells (skC X (sec : Int) R.1 (R.2.1 : Nat) false false) 105)
          have hT3 := Bl.new w2 (skC X (sec : Int) R.1 (R.2.1 : Nat) false false) 105
          have hz2 := hb2.size
          obtain ⟨w3, hw3⟩ : ∃ w3, w2.alloc (.cells (skC X (sec : Int) R.1 (R.2.1 : Nat) false false) 105) = w3 := ⟨_, rfl⟩
          rw [hw3] at hA hT3
          have hR3 := hR2.below hA
          have HB3 := hide (below_next hb2 (Nat.le_refl _) hA)
          have HT3 := hide hT3
          have HR3 := hide hR3
          unfold skC at hw3
          clear hb2 hR2 hA hR3
          generalize hTT : w2.heap.size = T at *
          have hT1 : T < w3.heap.size := HT3.out.lt
          have q7 := HT3.out.cell 9 (v := .bool false) rfl
          go_wp2_with fail
          go_ret2
          refine ⟨T, rfl, HR3.out, (fun k h => ?_), by omega, Kept2.of_below HB3.out⟩
          injection h with h
          subst h
          exact HT3.out
        · have hfb : ((im[pf].toNat : Int) != 255) = true := by
            rw [HFF.out, bne, show ((255 : Int)) = (((255 : UInt8).toNat : Nat) : Int) from rfl, u8_eq]
            have : (ρ.C.getD pf 0 == 255) = false := by simpa using hff
            rw [this]; rfl
          rw [← HFF.out] at CO
          cases hcd : cdB (ρ.C.getD pf 0) with
          | true =>
            rw [if_neg (by rw [hcd]; exact fun h => by cases h.2)] at HBA
            rw [HBA.out]
            rw [HFF.out, hcd] at CO
            rw [← HFF.out] at CO
            clear hff RM hcd
            go_enter Try.func29, Try.ntmps29
            go_wp2_with fail
            refine IM.mono ?_
            rintro e w1 ⟨rfl, hw1⟩
            obtain rfl := hw1.symm
            go_wp2_with fail
            refine (AC _).mono ?_
            rintro e w1 ⟨rfl, hw1⟩
            obtain rfl := hw1.symm
            go_wp2_with fail
            refine (RD _).mono ?_
            rintro e w2 ⟨rfl, hb2⟩
            have hR2 := HR.out.below hb2
            have hA := below_alloc w2 (.cells (skC X (sec : Int) R.1 (R.2.1 : Nat) false false) 105)
            have hT3 := Bl.new w2 (skC X (sec : Int) R.1 (R.2.1 : Nat) false false) 105
            have hz2 := hb2.size
            obtain ⟨w3, hw3⟩ : ∃ w3, w2.alloc (.cells (skC X (sec : Int) R.1 (R.2.1 : Nat) false false) 105) = w3 := ⟨_, rfl⟩
            rw [hw3] at hA hT3
            have hR3 := hR2.below hA
            have HB3 := hide (below_next hb2 (Nat.le_refl _) hA)
            have HT3 := hide hT3
            have HR3 := hide hR3
            unfold skC at hw3
            clear hb2 hR2 hA hR3
            generalize hTT : w2.heap.size = T at *
            have hT1 : T < w3.heap.size := HT3.out.lt
            have q7 := HT3.out.cell 9 (v := .bool false) rfl
            go_wp2_with fail
            refine (CO _).mono ?_
            rintro e w4 ⟨rfl, hw4⟩
            obtain rfl := hw4.symm
            go_wp2_with fail
            go_ret2
            refine ⟨T, rfl, HR3.out, (fun k h => ?_), by omega, Kept2.of_below HB3.out⟩
            injection h with h
            subst h
            exact HT3.out
          | false =>
            rw [if_pos ⟨hff, hcd⟩] at HBA
            rw [HBA.out]
            rw [HFF.out, hcd] at CO
            rw [← HFF.out] at CO
            generalize eraseRR ρ (sp : Int) = EE at *
            clear hff RM hcd
            by_cases he : EE.2 = 0
            · have heb : (EE.2 != 0) = false := by rw [he]; rfl
              have HE0 := hide he
              rw [if_pos he]
              generalize hee : EE.2 = ee at *
              clear he hee
              go_enter Try.func29, Try.ntmps29
              go_wp2_with fail
              refine IM.mono ?_
              rintro e w1 ⟨rfl, hw1⟩
              obtain rfl := hw1.symm
              go_wp2_with fail
              refine (AC _).mono ?_
              rintro e w1 ⟨rfl, hw1⟩
              obtain rfl := hw1.symm
              go_wp2_with fail
              refine (RD _).mono ?_
              rintro e w2 ⟨rfl, hb2⟩
              have hR2 := HR.out.below hb2
              have hA := below_alloc w2 (.cells (skC X (sec : Int) R.1 (R.2.1 : Nat) false false) 105)
              have hT3 := Bl.new w2 (skC X (sec : Int) R.1 (R.2.1 : Nat) false false) 105
              have hz2 := hb2.size
              obtain ⟨w3, hw3⟩ : ∃ w3, w2.alloc (.cells (skC X (sec : Int) R.1 (R.2.1 : Nat) false false) 105) = w3 := ⟨_, rfl⟩
              rw [hw3] at hA hT3
              have hR3 := hR2.below hA
              have HB3 := hide (below_next hb2 (Nat.le_refl _) hA)
              have HT3 := hide hT3
              have HR3 := hide hR3
              unfold skC at hw3
              clear hb2 hR2 hA hR3
              generalize hTT : w2.heap.size = T at *
              have hT1 : T < w3.heap.size := HT3.out.lt
              have q7 := HT3.out.cell 9 (v := .bool false) rfl
              have EEE := ER w3 HR3.out
              clear ER
              go_wp2_with fail
              refine (CO _).mono ?_
              rintro e w4 ⟨rfl, hw4⟩
              obtain rfl := hw4.symm
              go_wp2_with fail
              refine EEE.mono ?_
              rintro e w5 ⟨rfl, hR5, hk5⟩
              go_wp2_with fail
              go_ret2
              refine ⟨T, by rw [HE0.out]; rfl, hR5, (fun k h => ?_), by omega, (Kept2.of_below HB3.out).trans hk5⟩
              injection h with h
              subst h
              exact HT3.out.kept2 hk5 (by omega) (by omega)
            · have heb : (EE.2 != 0) = true := by simpa using he
              rw [if_neg he]
              generalize hee : EE.2 = ee at *
              clear hee
              go_enter Try.func29, Try.ntmps29
              go_wp2_with fail
              refine IM.mono ?_
              rintro e w1 ⟨rfl, hw1⟩
              obtain rfl := hw1.symm
              go_wp2_with fail
              refine (AC _).mono ?_
              rintro e w1 ⟨rfl, hw1⟩
              obtain rfl := hw1.symm
              go_wp2_with fail
              refine (RD _).mono ?_
              rintro e w2 ⟨rfl, hb2⟩
              have hR2 := HR.out.below hb2
              have hA := below_alloc w2 (.cells (skC X (sec : Int) R.1 (R.2.1 : Nat) false false) 105)
              have hT3 := Bl.new w2 (skC X (sec : Int) R.1 (R.2.1 : Nat) false false) 105
              have hz2 := hb2.size
              obtain ⟨w3, hw3⟩ : ∃ w3, w2.alloc (.cells (skC X (sec : Int) R.1 (R.2.1 : Nat) false false) 105) = w3 := ⟨_, rfl⟩
              rw [hw3] at hA hT3
              have hR3 := hR2.below hA
              have HB3 := hide (below_next hb2 (Nat.le_refl _) hA)
              have HT3 := hide hT3
              have HR3 := hide hR3
              unfold skC at hw3
              clear hb2 hR2 hA hR3
              generalize hTT : w2.heap.size = T at *
              have hT1 : T < w3.heap.size := HT3.out.lt
              have q7 := HT3.out.cell 9 (v := .bool false) rfl
              have EEE := ER w3 HR3.out
              clear ER
              go_wp2_with fail
              refine (CO _).mono ?_
              rintro e w4 ⟨rfl, hw4⟩
              obtain rfl := hw4.symm
              go_wp2_with fail
              refine EEE.mono ?_
              rintro e w5 ⟨rfl, hR5, hk5⟩
              go_wp2_with fail
              go_ret2
              exact ⟨T, rfl, hR5, (fun k h => by cases h), by omega, (Kept2.of_below HB3.out).trans hk5⟩
end Go.Proofs.Ythccigikelinbaa
