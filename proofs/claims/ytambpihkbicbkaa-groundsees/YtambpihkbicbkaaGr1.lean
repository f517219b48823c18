/- Package ground, walked: a detector's block, New, Step, Seen. -/
import Derived.Test.YtambpihkbicbkaaGn0
namespace Go.Proofs.Ytambpihkbicbkaa
open Go.RowKit Go.Great

/-- does a step look like standing? -/
def lk (f : Bool) (c a : Int) : Bool := f && decide (-(a.tdiv 2) ≤ c)
/-- for how many steps it has looked so -/
def gs (n : Int) (f : Bool) (c a : Int) : Int := if lk f c a = true then (if n < 65535 then n + 1 else 65535) else 0
/-- a detector's cells: the look that is bound to 2, and what was seen -/
def gC (n : Int) : Array Value := #[.func (.func 12) #[.int .i64 2] #[], .int .i64 n]
/-- the detector in block B -/
abbrev Det (w : World) (B : Nat) (n : Int) : Prop := Blk w B (gC n) 37
abbrev gP (B : Nat) : Value := .pointer (some ⟨B, 0, none⟩)
theorem tdiv2 (a : Int) (h : I64 a) : -4611686018427387904 ≤ a.tdiv 2 ∧ a.tdiv 2 ≤ 4611686018427387904 := by
  unfold I64 at h
  have h1 := Int.mul_tdiv_add_tmod a 2
  have h2 := Int.tmod_lt_of_pos a (show (0 : Int) < 2 by decide)
  have h3 := Int.lt_tmod_of_pos a (show (0 : Int) < 2 by decide)
  omega
theorem gs_in {n : Int} (h : 0 ≤ n ∧ n ≤ 65535) (f : Bool) (c a : Int) : 0 ≤ gs n f c a ∧ gs n f c a ≤ 65535 := by
  unfold gs
  split
  · split <;> omega
  · omega
theorem fn_nil (w : World) : (binOp BinOp.eql 27 (.func (.func 12) #[.int .i64 2] #[]) .nilFunc).run Try.prog w = .ok (.bool false) w := by
  rfl
theorem stands_any (f : Bool) (c a : Int) (w : World) (ha : I64 a) : Calls Try.prog 12 #[.int .i64 2, .bool f, .int .i64 c, .int .i64 a] w fun e w' => e = .returned (.bool (lk f c a)) ∧ w' = w := by
  have h := tdiv2 a ha
  unfold lk
  cases f
  · go_enter Try.func12, Try.ntmps12
    go_wp2
    go_ret
    simp
  · go_enter Try.func12, Try.ntmps12
    go_wp2
    go_ret
    simp
theorem newG_any (w : World) : Calls Try.prog 7 #[] w fun e w' => ∃ B, e = .returned (gP B) ∧ Det w' B 0 ∧ Below w.heap.size w w' ∧ w.heap.size ≤ B := by
  have hmf : ∀ (fn : Fn) (first cap : Array Value) (w : World), (Instr.makeFunc fn first cap).run Try.prog w = .ok (.func fn first cap) w := fun _ _ _ _ => rfl
  go_enter Try.func7, Try.ntmps7
  go_wp2
  go_ret
  exact ⟨_, rfl, Blk.new _ _ _, below_alloc _ _, Nat.le_refl _⟩
theorem stepG_nil (f : Bool) (c a : Int) (w : World) : Calls Try.prog 8 #[.pointer none, .bool f, .int .i64 c, .int .i64 a] w fun e w' => e = .returned (.bool false) ∧ w' = w := by
  go_enter Try.func8, Try.ntmps8
  go_wp2
  go_ret
  simp
theorem seen_nil (w : World) : Calls Try.prog 10 #[.pointer none] w fun e w' => e = .returned (.int .i64 0) ∧ w' = w := by
  go_enter Try.func10, Try.ntmps10
  go_wp2
  go_ret
  simp
theorem seen_any (w : World) (B : Nat) (n : Int) (hB : Det w B n) : Calls Try.prog 10 #[gP B] w fun e w' => e = .returned (.int .i64 n) ∧ w' = w := by
  have c1 : w.cell? ⟨B, 1, none⟩ = some (.int .i64 n) := hB.cell 1 rfl
  clear hB
  go_enter Try.func10, Try.ntmps10
  go_wp2
  go_ret
  simp
def GEnd (w : World) (B : Nat) (m : Int) (e : Ending) (w' : World) : Prop := e = .returned (.bool (decide (40 ≤ m))) ∧ Det w' B m ∧ w.grownBy w' (some B)
theorem stepG_any (w : World) (B : Nat) (n : Int) (f : Bool) (c a : Int) (hB : Det w B n) (hn : 0 ≤ n ∧ n ≤ 65535) (ha : I64 a) : Calls Try.prog 8 #[gP B, .bool f, .int .i64 c, .int .i64 a] w (GEnd w B (gs n f c a)) := by
  have ST := hide (fun W => stands_any f c a W ha)
  have HB := hide hB
  have c0 : w.cell? ⟨B, 0, none⟩ = some (.func (.func 12) #[.int .i64 2] #[]) := hB.cell 0 rfl
  have c1 : w.cell? ⟨B, 1, none⟩ = some (.int .i64 n) := hB.cell 1 rfl
  have f1 := hB.frozen 1
  have FN := fn_nil
  have S1 : ∀ m : Int, Hid (Det (w.setCell ⟨B, 1, none⟩ (.int .i64 m)) B m) := fun m => hide (hB.set 1 (.int .i64 m))
  have G1 : ∀ m : Int, Hid (w.grownBy (w.setCell ⟨B, 1, none⟩ (.int .i64 m)) (some B)) := fun m => hide (grown_set w B 1 (.int .i64 m))
  have EQ : Hid (gs n f c a = if lk f c a = true then (if n < 65535 then n + 1 else 65535) else 0) := hide rfl
  clear hB ha
  rw [EQ.out]
  clear EQ
  generalize lk f c a = y at *
  cases y
  · go_enter Try.func8, Try.ntmps8
    go_wp2_with (go_at_call 12; refine (ST.out _).mono ?_; rintro e w1 ⟨rfl, rfl⟩)
    go_ret
    exact ⟨rfl, (S1 0).out, (G1 0).out⟩
  · by_cases hlt : n < 65535
    · go_enter Try.func8, Try.ntmps8
      go_upto_region 7 with (go_at_call 12; refine (ST.out _).mono ?_; rintro e w1 ⟨rfl, rfl⟩)
      go_wp2
      go_ret
      exact ⟨rfl, (S1 _).out, (G1 _).out⟩
    · go_enter Try.func8, Try.ntmps8
      go_upto_region 7 with (go_at_call 12; refine (ST.out _).mono ?_; rintro e w1 ⟨rfl, rfl⟩)
      go_wp2
      go_ret
      exact ⟨rfl, (S1 _).out, (G1 _).out⟩
end Go.Proofs.Ytambpihkbicbkaa
