/- Package sense: the reader, and what recovers. -/
import Derived.Test.YtmlcknaahpfhbaaSe3
import Derived.Defers
import Derived.Recover
namespace Go.Proofs.Ytmlcknaahpfhbaa
open Go.RowKit Go.Great

/-- a reader's block -/
def Rd (w : World) (B : Nat) (l : List UInt8) : Prop := Blk w B #[.string (bs l)] 61
theorem Rd.set {w : World} {B : Nat} {l : List UInt8} (h : Rd w B l) (m : List UInt8) : Rd (w.setCell ⟨B, 0, none⟩ (.string (bs m))) B m := heap_set h 0 _
theorem ext_take (l : List UInt8) (n : Nat) : (bs l).extract 0 n = bs (l.take n) := bs_ext (by rw [extract_list, bs_list, bs_list, List.drop_zero, Nat.sub_zero])
theorem ext_drop (l : List UInt8) (n : Nat) : (bs l).extract n (bs l).size = bs (l.drop n) := by rw [extract_from, bs_list]
/-- what a reader panics with -/
def early : Value := .iface 9 (.string ⟨#[116, 104, 101, 32, 98, 121, 116, 101, 115, 32, 101, 110, 100, 32, 116, 111, 111, 32, 101, 97, 114, 108, 121]⟩)
set_option maxRecDepth 100000 in
set_option maxHeartbeats 2000000 in
theorem take_ok (l : List UInt8) (n : Nat) (hl : l.length ≤ 4611686018427387904) (hn : n ≤ l.length) (B : Nat) (w : World) (hR : Rd w B l) : Calls Try.prog 34 #[.pointer (some ⟨B, 0, none⟩), .int .i64 (n : Int)] w fun e w' => e = .returned (.string (bs (l.take n))) ∧ w' = w.setCell ⟨B, 0, none⟩ (.string (bs (l.drop n))) := by
  have hsz := bs_size l
  have e1 := ext_take l n
  have e2 := ext_drop l n
  have c0 := hR.cell 0 rfl
  have fz := hR.frozen
  have HE1 := hide e1
  have HE2 := hide e2
  have hnl2 : ((n : Int) ≤ ((bs l).size : Int)) := by rw [hsz]; omega
  have hsz2 : ((bs l).size : Int) ≤ 4611686018427387904 := by rw [hsz]; omega
  generalize bs l = s at *
  clear e1 e2 hsz hR
  go_enter Try.func34, Try.ntmps34
  go_wp2_with fail
  go_ret
  rw [HE2.out]
  exact ⟨by rw [← HE1.out]; rfl, rfl⟩
set_option maxRecDepth 100000 in
set_option maxHeartbeats 2000000 in
theorem take_short (l : List UInt8) (n : Nat) (hn : l.length < n) (B : Nat) (w : World) (hR : Rd w B l) : Calls Try.prog 34 #[.pointer (some ⟨B, 0, none⟩), .int .i64 (n : Int)] w fun e w' => e = .panicked [{ v := early, recovered := false }] ∧ w' = w := by
  have hsz := bs_size l
  have c0 := hR.cell 0 rfl
  have hnl2 : (((bs l).size : Int) < (n : Int)) := by rw [hsz]; omega
  generalize bs l = s at *
  clear hsz hR
  have hp : ∀ (t : TypeId) (v : Value) (w : World), (Instr.panic (.iface t v)).run Try.prog w = .halt (.panic (.iface t v)) w := fun _ _ _ => rfl
  unfold early
  go_enter Try.func34, Try.ntmps34
  go_wp2_with fail
  exact ⟨rfl, rfl, rfl⟩
theorem catch_panicking (B1 B2 B3 : Nat) (u : TypeId) (pv : Value) (older : List PanicEntry) (w : World) (x y z : Value) (h1 : Blk w B1 #[x] 22) (h2 : Blk w B2 #[y] 9) (h3 : Blk w B3 #[z] 4) (n12 : B1 ≠ B2) (n13 : B1 ≠ B3) (n23 : B2 ≠ B3) :
    CallsD Try.prog 33 #[.pointer (some ⟨B1, 0, none⟩), .pointer (some ⟨B2, 0, none⟩), .pointer (some ⟨B3, 0, none⟩)] (.panicking ({ v := .iface u pv, recovered := false } :: older)) w fun e u' w' =>
      e = .returned (.tuple #[]) ∧ u' = .panicking ({ v := .iface u pv, recovered := true } :: older) ∧ w' = ((w.setCell ⟨B1, 0, none⟩ (.slice none 0 0)).setCell ⟨B2, 0, none⟩ (.string ⟨#[]⟩)).setCell ⟨B3, 0, none⟩ (.bool false) := by
  have c1 := h1.cell 0 rfl
  have c2 := h2.cell 0 rfl
  have c3 := h3.cell 0 rfl
  have f1 := h1.frozen 0
  have f2 := h2.frozen 0
  have f3 := h3.frozen 0
  refine callsD_of_wpS Try.func33 rfl fun c₀ cs hu => ?_
  apply wpS_seq
  apply wpS_region
  simp [wpOpsS, go_sem, recoverD, hu, Try.ntmps33, Exit.thenS]
  refine wpS_cond (t := true) (by simp [Act.eval, Array.replicate]) ?_
  simp only [if_true]
  have g2 := (h2.setOther (C := B1) (Ne.symm n12) 0 (.slice none 0 0))
  have g3 := (h3.setOther (C := B1) (Ne.symm n13) 0 (.slice none 0 0)).setOther (C := B2) (Ne.symm n23) 0 (.string ⟨#[]⟩)
  have d2 := g2.cell 0 rfl
  have d3 := g3.cell 0 rfl
  have e2 := g2.frozen 0
  have e3 := g3.frozen 0
  apply wpS_region
  simp [wpOpsS, go_sem, c1, f1, d2, d3, e2, e3, bodyPostS, results, Try.results33]
theorem catch_idle (p q r : Addr) (w : World) :
    CallsD Try.prog 33 #[.pointer (some p), .pointer (some q), .pointer (some r)] .returning w fun e u' w' => e = .returned (.tuple #[]) ∧ u' = .returning ∧ w' = w := by
  refine callsD_of_wpS Try.func33 rfl fun c₀ cs hu => ?_
  apply wpS_seq
  apply wpS_region
  simp [wpOpsS, go_sem, recoverD, hu, Try.ntmps33, Exit.thenS]
  refine wpS_cond (t := false) (by simp [Act.eval, Array.replicate]) ?_
  simp only [Bool.false_eq_true, if_false]
  refine wpS_of_wp (wp_skip ?_)
  cases c₀
  simp_all [bodyPostS, results, Try.results33]
end Go.Proofs.Ytmlcknaahpfhbaa
