/- The document's store: format, Get. -/
import Derived.Test.YthccigikelinbaaSq4
namespace Go.Proofs.Ythccigikelinbaa
open Go.RowKit Go.Great

def form1 (ρ : St) : St × Int := if ρ.C.getD 4096 0 = 255 then (ρ, 0) else eraseRR ρ 1
def formR (ρ : St) : St × Int := if (form1 ρ).2 = 0 then (if (eraseRR (form1 ρ).1 0).2 = 0 then progRR (eraseRR (form1 ρ).1 0).1 0 (bs [15]) else eraseRR (form1 ρ).1 0) else form1 ρ
theorem form1_jk (ρ : St) : (form1 ρ).1.jk = ρ.jk := by
  unfold form1; split
  · rfl
  · exact eraseRR_jk ρ 1
theorem formR_jk (ρ : St) : (formR ρ).1.jk = ρ.jk := by
  unfold formR
  split
  · split
    · rw [progRR_jk, eraseRR_jk, form1_jk]
    · rw [eraseRR_jk, form1_jk]
  · exact form1_jk ρ
theorem Rf.x0 {w : World} {X D cap : Nat} {ρ : St} (h : Rf w X D cap ρ) : w.cell? ⟨X, 0, none⟩ = some (.slice (some ⟨D, 0, none⟩) 8192 cap) := by
  have := h.blk
  rw [h.len] at this
  exact Bl.cell (t := 79) this 0 rfl
theorem Rf.cap {w : World} {X D cap : Nat} {ρ : St} (h : Rf w X D cap ρ) : 8192 ≤ cap := by have := h.cle; rw [h.len] at this; exact this
/-- the second half of format -/
def form2 (ρ : St) : St × Int := if (eraseRR ρ 0).2 = 0 then progRR (eraseRR ρ 0).1 0 (bs [15]) else eraseRR ρ 0
theorem formR_eq (ρ : St) : formR ρ = if (form1 ρ).2 = 0 then form2 (form1 ρ).1 else form1 ρ := rfl
set_option maxRecDepth 100000 in
set_option maxHeartbeats 4000000 in
theorem rformat_any (w : World) (X D cap : Nat) (ρ : St) (hR : Rf w X D cap ρ) (hj : ρ.jk.size ≤ 140737488351232) : Calls Try.prog 46 #[fp X] w fun e w' => e = .returned (.int .i64 (formR ρ).2) ∧ Rf w' X D cap (formR ρ).1 ∧ Kept2 X D w w' := by
  have cX := hR.x0
  have hcap := hR.cap
  have cD := row_cell hR.row 4096 (by rw [hR.len]; omega)
  have E1 := rerase_any w X D cap ρ hR hj 1
  have E0 := fun W τ (h : Rf W X D cap τ) (hjj : τ.jk.size ≤ 140737488351232) => rerase_any W X D cap τ h hjj 0
  have P0 := fun W τ (h : Rf W X D cap τ) (hjj : τ.jk.size ≤ 140737488351232) => rprog_any W X D cap τ h hjj 0 (by unfold I64; omega) (bs [15])
  rw [show bs [15] = ⟨#[15]⟩ from rfl] at P0
  have HR := hide hR
  have HJ := hide hj
  have HF : Hid (formR ρ = if (form1 ρ).2 = 0 then form2 (form1 ρ).1 else form1 ρ) := rfl
  generalize formR ρ = FR at *
  clear hR hj
  by_cases hb : ρ.C.getD 4096 0 = 255
  · have hx : (((ρ.C.getD 4096 0).toNat : Int) != 255) = false := by rw [hb]; rfl
    have HF1 : Hid (FR = form2 ρ) := hide (by rw [HF.out]; unfold form1; rw [if_pos hb]; rfl)
    have EE := E0 w ρ HR.out HJ.out
    have HJE := hide (eraseRR_jk ρ 0)
    unfold form2 at HF1
    generalize eraseRR ρ 0 = X0 at *
    generalize ρ.C.getD 4096 0 = cc at *
    clear hb E1 HF
    by_cases he : X0.2 = 0
    · have heb : (X0.2 != 0) = false := by rw [he]; rfl
      rw [if_pos he] at HF1
      rw [HF1.out]
      have HJ0 : Hid (X0.1.jk.size ≤ 140737488351232) := hide (by rw [HJE.out]; exact HJ.out)
      have PP := fun W h => P0 W X0.1 h HJ0.out
      rw [show bs [15] = ⟨#[15]⟩ from rfl]
      generalize progRR X0.1 0 ⟨#[15]⟩ = Y0 at *
      generalize X0.2 = xe at *
      clear he E0 P0
      go_enter Try.func46, Try.ntmps46
      go_wp2_with fail
      refine EE.mono ?_
      rintro e w1 ⟨rfl, hR1, hk1⟩
      have PP1 := PP _ hR1
      clear EE PP cX cD
      go_wp2_with fail
      refine PP1.mono ?_
      rintro e w2 ⟨rfl, hR2, hk2⟩
      go_wp2_with fail
      go_ret
      exact ⟨rfl, hR2, hk1.trans hk2⟩
    · have heb : (X0.2 != 0) = true := by simpa using he
      rw [if_neg he] at HF1
      rw [HF1.out]
      generalize X0.2 = xe at *
      clear E0 P0
      go_enter Try.func46, Try.ntmps46
      go_wp2_with fail
      refine EE.mono ?_
      rintro e w1 ⟨rfl, hR1, hk1⟩
      go_wp2_with fail
      go_ret
      exact ⟨rfl, hR1, hk1⟩
  · have hx : (((ρ.C.getD 4096 0).toNat : Int) != 255) = true := by
      rw [bne, show ((255 : Int)) = (((255 : UInt8).toNat : Nat) : Int) from rfl, u8_eq]
      have : (ρ.C.getD 4096 0 == 255) = false := by simpa using hb
      rw [this]; rfl
    have HF1 : Hid (FR = if (eraseRR ρ 1).2 = 0 then form2 (eraseRR ρ 1).1 else eraseRR ρ 1) := hide (by rw [HF.out]; unfold form1; rw [if_neg hb])
    have HJ1 := hide (eraseRR_jk ρ 1)
    generalize eraseRR ρ 1 = X1 at *
    generalize ρ.C.getD 4096 0 = cc at *
    clear hb HF
    have HJX : Hid (X1.1.jk.size ≤ 140737488351232) := hide (by rw [HJ1.out]; exact HJ.out)
    by_cases he1 : X1.2 = 0
    · have heb1 : (X1.2 != 0) = false := by rw [he1]; rfl
      rw [if_pos he1] at HF1
      unfold form2 at HF1
      have EE := fun W h => E0 W X1.1 h HJX.out
      have HJE := hide (eraseRR_jk X1.1 0)
      generalize eraseRR X1.1 0 = X0 at *
      by_cases he : X0.2 = 0
      · have heb : (X0.2 != 0) = false := by rw [he]; rfl
        rw [if_pos he] at HF1
        rw [HF1.out]
        have HJ0 : Hid (X0.1.jk.size ≤ 140737488351232) := hide (by rw [HJE.out]; exact HJX.out)
        have PP := fun W h => P0 W X0.1 h HJ0.out
        rw [show bs [15] = ⟨#[15]⟩ from rfl]
        generalize progRR X0.1 0 ⟨#[15]⟩ = Y0 at *
        generalize X0.2 = xe at *
        generalize X1.2 = x1e at *
        clear he he1 E0 P0
        go_enter Try.func46, Try.ntmps46
        go_wp2_with fail
        refine E1.mono ?_
        rintro e w0 ⟨rfl, hR0, hk0⟩
        have EE1 := EE _ hR0
        clear E1 EE cX cD
        go_wp2_with fail
        refine EE1.mono ?_
        rintro e w1 ⟨rfl, hR1, hk1⟩
        have PP1 := PP _ hR1
        clear EE1 PP
        go_wp2_with fail
        refine PP1.mono ?_
        rintro e w2 ⟨rfl, hR2, hk2⟩
        go_wp2_with fail
        go_ret
        exact ⟨rfl, hR2, (hk0.trans hk1).trans hk2⟩
      · have heb : (X0.2 != 0) = true := by simpa using he
        rw [if_neg he] at HF1
        rw [HF1.out]
        generalize X0.2 = xe at *
        generalize X1.2 = x1e at *
        clear he1 E0 P0
        go_enter Try.func46, Try.ntmps46
        go_wp2_with fail
        refine E1.mono ?_
        rintro e w0 ⟨rfl, hR0, hk0⟩
        have EE1 := EE _ hR0
        clear E1 EE cX cD
        go_wp2_with fail
        refine EE1.mono ?_
        rintro e w1 ⟨rfl, hR1, hk1⟩
        go_wp2_with fail
        go_ret
        exact ⟨rfl, hR1, hk0.trans hk1⟩
    · have heb1 : (X1.2 != 0) = true := by simpa using he1
      rw [if_neg he1] at HF1
      rw [HF1.out]
      generalize X1.2 = x1e at *
      clear E0 P0
      go_enter Try.func46, Try.ntmps46
      go_wp2_with fail
      refine E1.mono ?_
      rintro e w0 ⟨rfl, hR0, hk0⟩
      go_wp2_with fail
      go_ret
      exact ⟨rfl, hR0, hk0⟩
theorem drewN_below (w : World) (n : Nat) : Below w.heap.size w (w.drewN n) := by
  induction n with
  | zero => exact Below.refl _ _
  | succ n ih => exact ih.drew
/-- what Get answers -/
def getR (V : Nat → Option (List UInt8)) (st : Bool) (id : Int) : Option (List UInt8) := if st = false ∧ 0 ≤ id ∧ id < 3 then V id.toNat else none
def gV (x : Option (List UInt8)) : Value := .tuple #[.string (bs (x.getD [])), .bool x.isSome]
set_option maxRecDepth 100000 in
set_option maxHeartbeats 4000000 in
theorem rget_any (w : World) (X T : Nat) (sec en : Int) (V : Nat → Option (List UInt8)) (d st : Bool) (hT : Bl w T (skC X sec V en d st) 105) (id : Int) : Calls Try.prog 34 #[fp T, .int .i64 id] w fun e w' => e = .returned (gV (getR V st id)) ∧ Below w.heap.size w w' := by
  have c10 := hT.cell 10 (v := .bool st) rfl
  have c2 := hT.cell 2 (v := .bool (V 0).isSome) rfl
  have c3 := hT.cell 3 (v := .bool (V 1).isSome) rfl
  have c4 := hT.cell 4 (v := .bool (V 2).isSome) rfl
  have c5 := hT.cell 5 (v := .string (bs ((V 0).getD []))) rfl
  have c6 := hT.cell 6 (v := .string (bs ((V 1).getD []))) rfl
  have c7 := hT.cell 7 (v := .string (bs ((V 2).getD []))) rfl
  by_cases h : st = false ∧ 0 ≤ id ∧ id < 3
  · have HG : Hid (getR V st id = V id.toNat) := hide (by unfold getR; rw [if_pos h])
    obtain ⟨rfl, h1, h2⟩ := h
    have h3 : id = 0 ∨ id = 1 ∨ id = 2 := by omega
    rcases h3 with rfl | rfl | rfl
    · rw [HG.out]
      go_enter Try.func34, Try.ntmps34
      go_wp2_with fail
      go_quiet (fail)
      go_wp2_with fail
      go_ret2
      exact ⟨rfl, drewN_below w nq⟩
    · rw [HG.out]
      go_enter Try.func34, Try.ntmps34
      go_wp2_with fail
      go_quiet (fail)
      go_wp2_with fail
      go_ret2
      exact ⟨rfl, drewN_below w nq⟩
    · rw [HG.out]
      go_enter Try.func34, Try.ntmps34
      go_wp2_with fail
      go_quiet (fail)
      go_wp2_with fail
      go_ret2
      exact ⟨rfl, drewN_below w nq⟩
  · have HG : Hid (getR V st id = none) := hide (by unfold getR; rw [if_neg h])
    rw [HG.out]
    cases st with
    | true =>
      go_enter Try.func34, Try.ntmps34
      go_wp2_with fail
      go_ret2
      exact ⟨rfl, Below.refl _ _⟩
    | false =>
      have h2 : id < 0 ∨ (0 ≤ id ∧ 2 < id) := by
        have : ¬ (0 ≤ id ∧ id < 3) := fun hh => h ⟨rfl, hh⟩
        omega
      clear h
      rcases h2 with h2 | ⟨h3, h2⟩
      · go_enter Try.func34, Try.ntmps34
        go_wp2_with fail
        go_ret2
        exact ⟨rfl, Below.refl _ _⟩
      · go_enter Try.func34, Try.ntmps34
        go_wp2_with fail
        go_ret2
        exact ⟨rfl, Below.refl _ _⟩
end Go.Proofs.Ythccigikelinbaa
