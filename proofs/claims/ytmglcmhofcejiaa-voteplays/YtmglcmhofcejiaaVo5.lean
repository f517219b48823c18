/- The statements' small helpers (say, silent, within); the examples that each statement looks at ('awake'); VoteNil. -/
import Derived.Test.YtmglcmhofcejiaaVoE
namespace Go.Proofs.Ytmglcmhofcejiaa
open Go.RowKit Go.Great

theorem say_any (x : Int) (w : World) : Calls Try.prog 17 #[.int .i64 x] w fun e w' => e = .returned (.agg #[.bool true, .int .i64 x]) ∧ Below w.heap.size w w' := by
  go_enter Try.func17, Try.ntmps17
  go_wp2
  exact bodyPost_ret (read_back (p := 2) (by kernel_rfl) _ _ w.heap.size _ _ rfl (Blk.new _ _ _)) rfl ⟨rfl, below_alloc _ _⟩
theorem silent_any (w : World) : Calls Try.prog 18 #[] w fun e w' => e = .returned (.agg #[.bool false, .int .i64 77]) ∧ Below w.heap.size w w' := by
  go_enter Try.func18, Try.ntmps18
  go_wp2
  exact bodyPost_ret (read_back (p := 0) (by kernel_rfl) _ _ w.heap.size _ _ rfl (Blk.new _ _ _)) rfl ⟨rfl, below_alloc _ _⟩
theorem within_fn (n a b : Int) (w : World) : Calls Try.prog 16 #[.int .i64 n, .agg #[.int .i64 a, .int .i64 b]] w fun e w' => e = .returned (.bool (decide (a ≤ n) && decide (n ≤ b))) ∧ Below w.heap.size w w' := by
  by_cases h1 : a ≤ n
  · go_enter Try.func16, Try.ntmps16
    go_wp2
    all_goals go_ret
    all_goals exact ⟨by simp [h1], below_alloc _ _⟩
  · have h1' : decide (a ≤ n) = false := by simpa using h1
    go_enter Try.func16, Try.ntmps16
    go_wp2
    all_goals go_ret
    all_goals exact ⟨by simp, below_alloc _ _⟩
/-- three units -/
def un3 (o0 : Bool) (x0 : Int) (o1 : Bool) (x1 : Int) (o2 : Bool) (x2 : Int) : Un := ⟨fun | 0 => o0 | 1 => o1 | _ => o2, fun | 0 => x0 | 1 => x1 | _ => x2⟩
theorem un3_ok {o0 o1 o2 : Bool} {x0 x1 x2 : Int} (h0 : I64 x0) (h1 : I64 x1) (h2 : I64 x2) : UOk (un3 o0 x0 o1 x1 o2 x2) := by
  refine ⟨fun i hi => ?_⟩
  match i, hi with
  | 0, _ => exact h0
  | 1, _ => exact h1
  | 2, _ => exact h2
theorem step_un (w : World) (B : Nat) (t : Vt) (o0 : Bool) (x0 : Int) (o1 : Bool) (x1 : Int) (o2 : Bool) (x2 : Int) (hB : Blk w B (vC t) 53) (ht : VOk t) (h0 : I64 x0) (h1 : I64 x1) (h2 : I64 x2) (ok : Bool) (x : Int) (ho : sok (un3 o0 x0 o1 x1 o2 x2) t = ok) (hx : sx (un3 o0 x0 o1 x1 o2 x2) t = x) :
    Calls Try.prog 14 #[.pointer (some ⟨B, 0, none⟩), .agg #[.bool o0, .int .i64 x0, .bool o1, .int .i64 x1, .bool o2, .int .i64 x2]] w fun e w' => e = .returned (.agg #[.bool ok, .int .i64 x]) ∧ Blk w' B (vC (stp (un3 o0 x0 o1 x1 o2 x2) t)) 53 ∧ w.grownBy w' (some B) := by
  have := step_any w B t (un3 o0 x0 o1 x1 o2 x2) hB ht (un3_ok h0 h1 h2)
  rw [ho, hx] at this
  exact this
/-- a new voter -/
def vN (s p : Int) : Vt := ⟨s, p, fun _ => 0, fun _ => 65535, 0⟩
theorem vN_ok {s p : Int} (h0 : 0 ≤ s) (h1 : s ≤ 65534) (h2 : 0 ≤ p) (h3 : p ≤ 9223372036854775807) : VOk (vN s p) :=
  ⟨h0, h1, h2, h3, fun _ _ => by show I64 0; unfold I64; omega, fun _ _ => by show (0 : Int) ≤ 65535 ∧ (65535 : Int) ≤ 65535; omega, by show (0 : Int) ≤ 0 ∧ (0 : Int) ≤ 65535; omega⟩
def aw0 : Vt := vN 2 10
def aw1 : Vt := stp (un3 false 77 false 77 false 77) aw0
def aw2 : Vt := stp (un3 true 6 true 9 false 77) aw1
def aw3 : Vt := stp (un3 false 77 true (-8) true 100) aw2
theorem aw0_ok : VOk aw0 := vN_ok (by decide) (by decide) (by decide) (by decide)
theorem i64_lit {x : Int} (h : -9223372036854775808 ≤ x ∧ x ≤ 9223372036854775807) : I64 x := h
theorem aw1_ok : VOk aw1 := stp_ok (un3_ok (i64_lit (by decide)) (i64_lit (by decide)) (i64_lit (by decide))) aw0_ok
theorem aw2_ok : VOk aw2 := stp_ok (un3_ok (i64_lit (by decide)) (i64_lit (by decide)) (i64_lit (by decide))) aw1_ok
theorem e1o : sok (un3 false 77 false 77 false 77) aw0 = false := by decide +kernel
theorem e1x : sx (un3 false 77 false 77 false 77) aw0 = 0 := by decide +kernel
theorem e2o : sok (un3 true 6 true 9 false 77) aw1 = true := by decide +kernel
theorem e2x : sx (un3 true 6 true 9 false 77) aw1 = 7 := by decide +kernel
theorem e3o : sok (un3 false 77 true (-8) true 100) aw2 = true := by decide +kernel
theorem e3x : sx (un3 false 77 true (-8) true 100) aw2 = 6 := by decide +kernel
theorem e3a : aw3.a 0 = 1 ∧ aw3.a 1 = 0 ∧ aw3.a 2 = 0 ∧ aw3.n = 1 := by decide +kernel
theorem grown_over {w w1 w2 : World} {row : Option Nat} (h1 : Below w.heap.size w w1) (h2 : w1.grownBy w2 row) (hr : ∀ k, row = some k → w.heap.size ≤ k) : Below w.heap.size w w2 := h1.grown h2 h1.size hr
set_option maxHeartbeats 2000000 in
set_option maxRecDepth 100000 in
theorem awakeV (w : World) : Calls Try.prog 11 #[] w fun e w' => e = .returned (.bool true) ∧ Below w.heap.size w w' := by
  go_enter Try.func11, Try.ntmps11
  go_wp2_with (go_at_call_of 9 (Value.int IntKind.i64 2); refine (new_any w 2 10 (by decide) (by decide) (by decide)).mono ?_; rintro e w1 ⟨B, rfl, hB, hb1, hBw⟩)
  have HB0 : Hid (Blk w1 B (vC aw0) 53) := hide hB
  have Hb := hide hb1
  clear hB hb1
  go_wp2_with (go_at_call_of 9 (Value.int IntKind.i64 65535); refine (new_no w1 65535 0 (by decide)).mono ?_; rintro e w' ⟨rfl, hw'⟩; obtain rfl := hw'.symm)
  go_wp2_with (first
    | (go_at_call 18; refine (silent_any _).mono ?_; rintro e wn ⟨rfl, hb⟩; replace HB0 := hide (HB0.out.after hb); replace Hb := hide (below_next Hb.out (Nat.le_refl _) hb); clear hb)
    | (go_at_call 17; refine (say_any _ _).mono ?_; rintro e wn ⟨rfl, hb⟩; replace HB0 := hide (HB0.out.after hb); replace Hb := hide (below_next Hb.out (Nat.le_refl _) hb); clear hb)
    | (go_at_call 14; refine (step_un _ B aw0 false 77 false 77 false 77 HB0.out aw0_ok (i64_lit (by decide)) (i64_lit (by decide)) (i64_lit (by decide)) false 0 e1o e1x).mono ?_; rintro e wn ⟨rfl, hB, hG⟩; replace Hb := hide (grown_over Hb.out hG (fun q e => by injection e with e; omega)); have HB1 : Hid (Blk wn B (vC aw1) 53) := hide hB; clear HB0 hB hG))
  have R1 := hide (Blk.new wn #[.bool false, .int .i64 0] 36)
  have l1 := HB1.out.lt
  replace HB1 := hide (HB1.out.alloc (.cells #[.bool false, .int .i64 0] 36))
  replace Hb := hide (Hb.out.alloc Hb.out.size (.cells #[.bool false, .int .i64 0] 36))
  have n1 : ¬ B = wn.heap.size := by omega
  clear l1
  generalize wn.heap.size = b1 at *
  generalize wn.alloc (.cells #[.bool false, .int .i64 0] 36) = W1 at *
  go_wp2_with (first
    | (go_at_call 18; refine (silent_any _).mono ?_; rintro e wn ⟨rfl, hb⟩; replace HB1 := hide (HB1.out.after hb); replace Hb := hide (below_next Hb.out (Nat.le_refl _) hb); replace R1 := hide (R1.out.after hb); clear hb)
    | (go_at_call 17; refine (say_any _ _).mono ?_; rintro e wn ⟨rfl, hb⟩; replace HB1 := hide (HB1.out.after hb); replace Hb := hide (below_next Hb.out (Nat.le_refl _) hb); replace R1 := hide (R1.out.after hb); clear hb)
    | (go_at_call 14; refine (step_un _ B aw1 true 6 true 9 false 77 HB1.out aw1_ok (i64_lit (by decide)) (i64_lit (by decide)) (i64_lit (by decide)) true 7 e2o e2x).mono ?_; rintro e wn ⟨rfl, hB, hG⟩; replace Hb := hide (grown_over Hb.out hG (fun q e => by injection e with e; omega)); replace R1 := hide (R1.out.grown hG (fun e => by injection e with e; exact n1 e)); have HB2 : Hid (Blk wn B (vC aw2) 53) := hide hB; clear HB1 hB hG))
  have R2 := hide (Blk.new wn #[.bool true, .int .i64 7] 36)
  have l2 := HB2.out.lt
  replace HB2 := hide (HB2.out.alloc (.cells #[.bool true, .int .i64 7] 36))
  replace Hb := hide (Hb.out.alloc Hb.out.size (.cells #[.bool true, .int .i64 7] 36))
  replace R1 := hide (R1.out.alloc (.cells #[.bool true, .int .i64 7] 36))
  have n2 : ¬ B = wn.heap.size := by omega
  clear l2
  generalize wn.heap.size = b2 at *
  generalize wn.alloc (.cells #[.bool true, .int .i64 7] 36) = W2 at *
  go_wp2_with (first
    | (go_at_call 18; refine (silent_any _).mono ?_; rintro e wn ⟨rfl, hb⟩; replace HB2 := hide (HB2.out.after hb); replace Hb := hide (below_next Hb.out (Nat.le_refl _) hb); replace R1 := hide (R1.out.after hb); replace R2 := hide (R2.out.after hb); clear hb)
    | (go_at_call 17; refine (say_any _ _).mono ?_; rintro e wn ⟨rfl, hb⟩; replace HB2 := hide (HB2.out.after hb); replace Hb := hide (below_next Hb.out (Nat.le_refl _) hb); replace R1 := hide (R1.out.after hb); replace R2 := hide (R2.out.after hb); clear hb)
    | (go_at_call 14; refine (step_un _ B aw2 false 77 true (-8) true 100 HB2.out aw2_ok (i64_lit (by decide)) (i64_lit (by decide)) (i64_lit (by decide)) true 6 e3o e3x).mono ?_; rintro e wn ⟨rfl, hB, hG⟩; replace Hb := hide (grown_over Hb.out hG (fun q e => by injection e with e; omega)); replace R1 := hide (R1.out.grown hG (fun e => by injection e with e; exact n1 e)); replace R2 := hide (R2.out.grown hG (fun e => by injection e with e; exact n2 e)); have HB3 : Hid (Blk wn B (vC aw3) 53) := hide hB; clear HB2 hB hG))
  have R3 := hide (Blk.new wn #[.bool true, .int .i64 6] 36)
  have l3 := HB3.out.lt
  replace HB3 := hide (HB3.out.alloc (.cells #[.bool true, .int .i64 6] 36))
  replace Hb := hide (Hb.out.alloc Hb.out.size (.cells #[.bool true, .int .i64 6] 36))
  replace R1 := hide (R1.out.alloc (.cells #[.bool true, .int .i64 6] 36))
  replace R2 := hide (R2.out.alloc (.cells #[.bool true, .int .i64 6] 36))
  have n3 : ¬ B = wn.heap.size := by omega
  clear l3
  generalize wn.heap.size = b3 at *
  generalize wn.alloc (.cells #[.bool true, .int .i64 6] 36) = W3 at *
  have p0 : ∀ x : BelowW W3, x.q.cell? ⟨b1, 0, none⟩ = some (.bool false) := R1.out.at 0 rfl
  have p1 : ∀ x : BelowW W3, x.q.cell? ⟨b1, 1, none⟩ = some (.int .i64 0) := R1.out.at 1 rfl
  have p2 : ∀ x : BelowW W3, x.q.cell? ⟨b2, 0, none⟩ = some (.bool true) := R2.out.at 0 rfl
  have p3 : ∀ x : BelowW W3, x.q.cell? ⟨b2, 1, none⟩ = some (.int .i64 7) := R2.out.at 1 rfl
  have p4 : ∀ x : BelowW W3, x.q.cell? ⟨b3, 0, none⟩ = some (.bool true) := R3.out.at 0 rfl
  have p5 : ∀ x : BelowW W3, x.q.cell? ⟨b3, 1, none⟩ = some (.int .i64 6) := R3.out.at 1 rfl
  have A : ∀ x : BelowW W3, Calls Try.prog 12 #[.pointer (some ⟨B, 0, none⟩)] x.q fun e w' => e = .returned (.agg #[.int .i64 1, .int .i64 0, .int .i64 0]) ∧ Below x.q.heap.size x.q w' := by
    intro x
    have h := ages_any x.q B aw3 (HB3.out.after x.h)
    rw [e3a.1, e3a.2.1, e3a.2.2.1] at h
    exact h
  have N : ∀ x : BelowW W3, Calls Try.prog 13 #[.pointer (some ⟨B, 0, none⟩)] x.q fun e w' => e = .returned (.int .i64 1) ∧ w' = x.q := by
    intro x
    have h := splits_any x.q B aw3 (HB3.out.after x.h)
    rw [e3a.2.2.2] at h
    exact h
  have hne : Nonempty (BelowW W3) := ⟨⟨W3, Below.refl _ _⟩⟩
  clear R1 R2 R3 HB3
  have ea := eql_arr
  refine wp_region_calm (by kernel_rfl) (by kernel_rfl) ?_
  repeat (go_big_quiet_step (first
    | (go_at_call 17; exact calm_of (say_any _ _))
    | (go_at_call 12; exact calm_of (A _))
    | (go_at_call 13; exact calm_same (N _))))
  refine wpQuiet_nil ?_
  rintro _ ⟨x, rfl⟩
  go_wp2_with fail
  go_ret
  exact ⟨rfl, below_next Hb.out (Nat.le_refl _) x.h⟩
end Go.Proofs.Ytmglcmhofcejiaa
