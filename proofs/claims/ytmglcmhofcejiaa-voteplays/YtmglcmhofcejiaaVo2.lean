/- Package vote: counting, halves, how far apart; hearing units. -/
import Derived.Test.YtmglcmhofcejiaaVo1
import Derived.Test.YtmglcmhofcejiaaRg1
namespace Go.Proofs.Ytmglcmhofcejiaa
open Go.RowKit Go.Great

theorem and_xor (n : Nat) : ∀ x y : Nat, x < 2 ^ n → y < 2 ^ n → x + y = 2 * (x &&& y) + (x ^^^ y) := by
  induction n with
  | zero => intro x y hx hy; obtain rfl : x = 0 := by simpa using hx
            obtain rfl : y = 0 := by simpa using hy
            rfl
  | succ n ih =>
    intro x y hx hy
    have h := ih (x / 2) (y / 2) (by rw [Nat.pow_succ] at hx; omega) (by rw [Nat.pow_succ] at hy; omega)
    have d1 : (x &&& y) / 2 = x / 2 &&& y / 2 := by simpa using Nat.and_div_two_pow (a := x) (b := y) (n := 1)
    have d2 : (x ^^^ y) / 2 = x / 2 ^^^ y / 2 := by simpa using Nat.xor_div_two_pow (a := x) (b := y) (n := 1)
    have m1 : (x &&& y) % 2 = (x % 2) &&& (y % 2) := by simpa using Nat.and_mod_two_pow (a := x) (b := y) (n := 1)
    have m2 : (x ^^^ y) % 2 = (x % 2) ^^^ (y % 2) := by simpa using Nat.xor_mod_two_pow (a := x) (b := y) (n := 1)
    have b1 : ∀ p q : Nat, p < 2 → q < 2 → p &&& q = p * q ∧ p ^^^ q = (p + q) % 2 := by
      intro p q hp hq
      obtain rfl | rfl : p = 0 ∨ p = 1 := by omega
      all_goals (obtain rfl | rfl : q = 0 ∨ q = 1 := by omega)
      all_goals decide
    obtain ⟨c1, c2⟩ := b1 (x % 2) (y % 2) (by omega) (by omega)
    rw [c1] at m1
    rw [c2] at m2
    generalize x / 2 &&& y / 2 = N' at *
    generalize x / 2 ^^^ y / 2 = X' at *
    generalize x &&& y = N at *
    generalize x ^^^ y = X at *
    rcases Nat.mod_two_eq_zero_or_one x with e1 | e1 <;> rcases Nat.mod_two_eq_zero_or_one y with e2 | e2 <;> rw [e1, e2] at m1 m2 <;> omega
theorem top_bit (x : Nat) (h : x < 18446744073709551616) : x.testBit 63 = decide (9223372036854775808 ≤ x) := by
  rw [Nat.testBit_eq_decide_div_mod_eq]
  congr 1
  apply propext
  show x / 9223372036854775808 % 2 = 1 ↔ _
  omega
theorem half_math (a b : Int) (ha : I64 a) (hb : I64 b) : a + b = 2 * bits .and .i64 a b + bits .xor .i64 a b := by
  unfold I64 at ha hb
  show a + b = 2 * IntKind.i64.wrap ((BitVec.ofInt 64 a &&& BitVec.ofInt 64 b).toNat : Int) + IntKind.i64.wrap ((BitVec.ofInt 64 a ^^^ BitVec.ofInt 64 b).toNat : Int)
  rw [BitVec.toNat_and, BitVec.toNat_xor, BitVec.toNat_ofInt, BitVec.toNat_ofInt, IntKind.wrap_i64, IntKind.wrap_i64]
  have h2 : ((2 ^ 64 : Nat) : Int) = 18446744073709551616 := by decide
  rw [h2]
  generalize hA : (a % 18446744073709551616).toNat = A
  generalize hB : (b % 18446744073709551616).toNat = B
  have lA : A < 18446744073709551616 := by omega
  have lB : B < 18446744073709551616 := by omega
  have s := and_xor 64 A B lA lB
  have n1 : A &&& B < 18446744073709551616 := Nat.and_lt_two_pow (n := 64) A lB
  have n2 : A ^^^ B < 18446744073709551616 := Nat.xor_lt_two_pow (n := 64) lA lB
  have t1 := top_bit _ n1
  have t2 := top_bit _ n2
  rw [Nat.testBit_and, top_bit A lA, top_bit B lB] at t1
  rw [Nat.testBit_xor, top_bit A lA, top_bit B lB] at t2
  generalize A &&& B = N at *
  generalize A ^^^ B = X at *
  by_cases p : 9223372036854775808 ≤ A <;> by_cases q : 9223372036854775808 ≤ B <;> simp [p, q] at t1 t2 <;> omega
theorem count_any (n : Int) (h : 0 ≤ n ∧ n ≤ 65535) (w : World) : Calls Try.prog 22 #[.int .i64 n] w fun e w' => e = .returned (.int .i64 (cnt n)) ∧ w' = w := by
  obtain ⟨h0, h1⟩ := h
  go_enter Try.func22, Try.ntmps22
  go_wp2
  all_goals go_ret
  all_goals exact ⟨ret_int (by unfold cnt; omega), rfl⟩
theorem half_any (a b : Int) (ha : I64 a) (hb : I64 b) (w : World) : Calls Try.prog 27 #[.int .i64 a, .int .i64 b] w fun e w' => e = .returned (.int .i64 (hlf a b)) ∧ w' = w := by
  have H := hide (half_math a b ha hb)
  go_enter Try.func27, Try.ntmps27
  go_wp2
  go_ret
  refine ⟨ret_int ?_, rfl⟩
  have h := H.out
  unfold I64 at ha hb
  unfold hlf wrap64
  omega
theorem apart_any (a b : Int) (ha : I64 a) (hb : I64 b) (hab : a ≤ b) (w : World) : Calls Try.prog 21 #[.int .i64 a, .int .i64 b] w fun e w' => e = .returned (.int .u64 (b - a)) ∧ w' = w := by
  unfold I64 at ha hb
  have HA := hide ha
  have HB := hide hb
  have HAB := hide hab
  clear ha hb hab
  go_enter Try.func21, Try.ntmps21
  go_wp2
  go_ret
  refine ⟨ret_int ?_, rfl⟩
  have h1 := HA.out
  have h2 := HB.out
  have h3 := HAB.out
  rw [IntKind.wrap_u64, IntKind.wrap_u64, IntKind.wrap_u64]
  omega
/-- a voter's cells -/
def vC (t : Vt) : Array Value := #[.int .i64 t.st, .int .i64 t.sp, .int .i64 (t.v 0), .int .i64 (t.v 1), .int .i64 (t.v 2), .int .i64 (t.a 0), .int .i64 (t.a 1), .int .i64 (t.a 2), .int .i64 t.n]
/-- units' value -/
def uV (u : Un) : Value := .agg #[.bool (u.o 0), .int .i64 (u.x 0), .bool (u.o 1), .int .i64 (u.x 1), .bool (u.o 2), .int .i64 (u.x 2)]
theorem ixu_0 (a b c d e f : Value) (w : World) : (Instr.index 38 (.agg #[a, b, c, d, e, f]) (.int .i64 0)).run Try.prog w = .ok (.agg #[a, b]) w := by kernel_rfl
theorem ixu_1 (a b c d e f : Value) (w : World) : (Instr.index 38 (.agg #[a, b, c, d, e, f]) (.int .i64 1)).run Try.prog w = .ok (.agg #[c, d]) w := by kernel_rfl
theorem ixu_2 (a b c d e f : Value) (w : World) : (Instr.index 38 (.agg #[a, b, c, d, e, f]) (.int .i64 2)).run Try.prog w = .ok (.agg #[e, f]) w := by kernel_rfl
theorem Blk.drewN {W : World} {B : Nat} {cs : Array Value} {t : TypeId} (h : Blk W B cs t) (k : Nat) : Blk (W.drewN k) B cs t := by
  induction k with
  | zero => exact h
  | succ k ih => exact ih
set_option maxHeartbeats 1000000 in
theorem hear_any (w : World) (B : Nat) (t : Vt) (u : Un) (hB : Blk w B (vC t) 53) (ht : VOk t) (hu : UOk u) : Calls Try.prog 19 #[.pointer (some ⟨B, 0, none⟩), uV u] w fun e w' => e = .returned (.tuple #[]) ∧ Blk w' B (vC (hr u t 3)) 53 ∧ w.grownBy w' (some B) := by
  have HB := hide hB
  have hlB := hB.lt
  have HK : Hid (∀ j, j ≤ 3 → VOk (hr u t j)) := hide (hr_ok hu ht)
  clear hB
  unfold uV
  go_enter Try.func19, Try.ntmps19
  go_wp2_with fail
  have x0 := ixu_0
  have x1 := ixu_1
  have x2 := ixu_2
  go_loopw [7] (fun v wr => ∃ j : Nat, v = .int .i64 (j : Int) ∧ j ≤ 3 ∧ Blk wr B (vC (hr u t j)) 53 ∧ w.grownBy wr (some B)) (fun v _ => 3 - (intOf v).toNat)
  case atStart => exact ⟨0, rfl, by omega, HB.out.alloc _, grown_alloc _ _ _⟩
  case round =>
    obtain ⟨j, rfl, hj, hBj, hG⟩ := hrel
    have HBj := hide hBj
    have HG := hide hG
    clear hBj hG HB
    by_cases h3 : j = 3
    · subst h3
      go_wp2_with fail
      go_end0
      exact ⟨rfl, HBj.out, HG.out⟩
    · have hok := HK.out j hj
      obtain ⟨s, hs⟩ : ∃ s, Hid (hr u t j = s) := ⟨_, hide rfl⟩
      have HS : Hid (hr u t (j + 1) = hr1 u s j) := hide (by rw [hr, hs.out])
      rw [hs.out] at HBj hok
      have ha := hok.a
      have hbs := HBj.out.lt
      clear hok HK
      obtain rfl | rfl | rfl : j = 0 ∨ j = 1 ∨ j = 2 := by omega
      · obtain ⟨a0, a1⟩ := ha 0 (by omega)
        clear ha
        go_wp2_with fail
        · rename_i ho
          have HO := hide ho
          clear ho
          have B1 := HBj.out.alloc (.cells #[.bool (u.o 0), .int .i64 (u.x 0)] 36)
          have c1 := (Blk.new wr #[.bool (u.o 0), .int .i64 (u.x 0)] 36).cell 1 rfl
          have G1 := hide (grown_then HG.out (grown_alloc wr (.cells #[.bool (u.o 0), .int .i64 (u.x 0)] 36) none) (fun _ e => by cases e))
          have hz : ¬ wr.heap.size = B := by omega
          generalize wr.alloc (.cells #[.bool (u.o 0), .int .i64 (u.x 0)] 36) = W1 at *
          have c2 := B1.cell 2 rfl
          have c5 := B1.cell 5 rfl
          have f2 := B1.frozen 2
          have f5 := B1.frozen 5
          have B1' := hide B1
          clear B1
          go_region
          all_goals go_wp2
          go_roundw
          case rel =>
            refine ⟨0 + 1, by go_num, by omega, ?_, ?_⟩
            · rw [HS.out]
              have := (B1'.out.set 2 (.int .i64 (u.x 0))).set 5 (.int .i64 0)
              simp only [hr1, HO.out, if_true]
              exact this
            · exact grown_then (grown_then (grown_drewN G1.out 1) (grown_set _ _ _ _) (fun q e => .inl (by injection e with e; exact e.symm))) (grown_set _ _ _ _) (fun q e => .inl (by injection e with e; exact e.symm))
          case measure => simp [intOf]
        · rename_i ho
          have HO := hide ho
          clear ho
          have B1 := HBj.out.alloc (.cells #[.bool (u.o 0), .int .i64 (u.x 0)] 36)
          have G1 := hide (grown_then HG.out (grown_alloc wr (.cells #[.bool (u.o 0), .int .i64 (u.x 0)] 36) none) (fun _ e => by cases e))
          generalize wr.alloc (.cells #[.bool (u.o 0), .int .i64 (u.x 0)] 36) = W1 at *
          have c5 := B1.cell 5 rfl
          have f5 := B1.frozen 5
          have B1' := hide B1
          clear B1
          go_region_with ((go_at_call 22; refine (count_any _ ⟨a0, a1⟩ _).mono ?_; rintro e w' ⟨rfl, rfl⟩))
          go_wp2
          go_roundw
          case rel =>
            refine ⟨0 + 1, by go_num, by omega, ?_, ?_⟩
            · rw [HS.out]
              have := (B1'.out.drewN 1).set 5 (.int .i64 (cnt (s.a 0)))
              simp only [hr1, HO.out]
              exact this
            · exact grown_then (grown_drewN G1.out _) (grown_set _ _ _ _) (fun q e => .inl (by injection e with e; exact e.symm))
          case measure => simp [intOf]
      · obtain ⟨a0, a1⟩ := ha 1 (by omega)
        clear ha
        go_wp2_with fail
        · rename_i ho
          have HO := hide ho
          clear ho
          have B1 := HBj.out.alloc (.cells #[.bool (u.o 1), .int .i64 (u.x 1)] 36)
          have c1 := (Blk.new wr #[.bool (u.o 1), .int .i64 (u.x 1)] 36).cell 1 rfl
          have G1 := hide (grown_then HG.out (grown_alloc wr (.cells #[.bool (u.o 1), .int .i64 (u.x 1)] 36) none) (fun _ e => by cases e))
          have hz : ¬ wr.heap.size = B := by omega
          generalize wr.alloc (.cells #[.bool (u.o 1), .int .i64 (u.x 1)] 36) = W1 at *
          have c2 := B1.cell 3 rfl
          have c5 := B1.cell 6 rfl
          have f2 := B1.frozen 3
          have f5 := B1.frozen 6
          have B1' := hide B1
          clear B1
          go_region
          all_goals go_wp2
          go_roundw
          case rel =>
            refine ⟨1 + 1, by go_num, by omega, ?_, ?_⟩
            · rw [HS.out]
              have := (B1'.out.set 3 (.int .i64 (u.x 1))).set 6 (.int .i64 0)
              simp only [hr1, HO.out, if_true]
              exact this
            · exact grown_then (grown_then (grown_drewN G1.out 1) (grown_set _ _ _ _) (fun q e => .inl (by injection e with e; exact e.symm))) (grown_set _ _ _ _) (fun q e => .inl (by injection e with e; exact e.symm))
          case measure => simp [intOf]
        · rename_i ho
          have HO := hide ho
          clear ho
          have B1 := HBj.out.alloc (.cells #[.bool (u.o 1), .int .i64 (u.x 1)] 36)
          have G1 := hide (grown_then HG.out (grown_alloc wr (.cells #[.bool (u.o 1), .int .i64 (u.x 1)] 36) none) (fun _ e => by cases e))
          generalize wr.alloc (.cells #[.bool (u.o 1), .int .i64 (u.x 1)] 36) = W1 at *
          have c5 := B1.cell 6 rfl
          have f5 := B1.frozen 6
          have B1' := hide B1
          clear B1
          go_region_with ((go_at_call 22; refine (count_any _ ⟨a0, a1⟩ _).mono ?_; rintro e w' ⟨rfl, rfl⟩))
          go_wp2
          go_roundw
          case rel =>
            refine ⟨1 + 1, by go_num, by omega, ?_, ?_⟩
            · rw [HS.out]
              have := (B1'.out.drewN 1).set 6 (.int .i64 (cnt (s.a 1)))
              simp only [hr1, HO.out]
              exact this
            · exact grown_then (grown_drewN G1.out _) (grown_set _ _ _ _) (fun q e => .inl (by injection e with e; exact e.symm))
          case measure => simp [intOf]
      · obtain ⟨a0, a1⟩ := ha 2 (by omega)
        clear ha
        go_wp2_with fail
        · rename_i ho
          have HO := hide ho
          clear ho
          have B1 := HBj.out.alloc (.cells #[.bool (u.o 2), .int .i64 (u.x 2)] 36)
          have c1 := (Blk.new wr #[.bool (u.o 2), .int .i64 (u.x 2)] 36).cell 1 rfl
          have G1 := hide (grown_then HG.out (grown_alloc wr (.cells #[.bool (u.o 2), .int .i64 (u.x 2)] 36) none) (fun _ e => by cases e))
          have hz : ¬ wr.heap.size = B := by omega
          generalize wr.alloc (.cells #[.bool (u.o 2), .int .i64 (u.x 2)] 36) = W1 at *
          have c2 := B1.cell 4 rfl
          have c5 := B1.cell 7 rfl
          have f2 := B1.frozen 4
          have f5 := B1.frozen 7
          have B1' := hide B1
          clear B1
          go_region
          all_goals go_wp2
          go_roundw
          case rel =>
            refine ⟨2 + 1, by go_num, by omega, ?_, ?_⟩
            · rw [HS.out]
              have := (B1'.out.set 4 (.int .i64 (u.x 2))).set 7 (.int .i64 0)
              simp only [hr1, HO.out, if_true]
              exact this
            · exact grown_then (grown_then (grown_drewN G1.out 1) (grown_set _ _ _ _) (fun q e => .inl (by injection e with e; exact e.symm))) (grown_set _ _ _ _) (fun q e => .inl (by injection e with e; exact e.symm))
          case measure => simp [intOf]
        · rename_i ho
          have HO := hide ho
          clear ho
          have B1 := HBj.out.alloc (.cells #[.bool (u.o 2), .int .i64 (u.x 2)] 36)
          have G1 := hide (grown_then HG.out (grown_alloc wr (.cells #[.bool (u.o 2), .int .i64 (u.x 2)] 36) none) (fun _ e => by cases e))
          generalize wr.alloc (.cells #[.bool (u.o 2), .int .i64 (u.x 2)] 36) = W1 at *
          have c5 := B1.cell 7 rfl
          have f5 := B1.frozen 7
          have B1' := hide B1
          clear B1
          go_region_with ((go_at_call 22; refine (count_any _ ⟨a0, a1⟩ _).mono ?_; rintro e w' ⟨rfl, rfl⟩))
          go_wp2
          go_roundw
          case rel =>
            refine ⟨2 + 1, by go_num, by omega, ?_, ?_⟩
            · rw [HS.out]
              have := (B1'.out.drewN 1).set 7 (.int .i64 (cnt (s.a 2)))
              simp only [hr1, HO.out]
              exact this
            · exact grown_then (grown_drewN G1.out _) (grown_set _ _ _ _) (fun q e => .inl (by injection e with e; exact e.symm))
          case measure => simp [intOf]
/-! end of hear -/
end Go.Proofs.Ytmglcmhofcejiaa
