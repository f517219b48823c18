/- Whether two segments meet. -/
import Derived.Test.YtohepelnbmojiaaGeA
namespace Go.Proofs.Ytohepelnbmojiaa
open Go.RowKit Go.Great

set_option maxHeartbeats 4000000 in
theorem meet_any (a b c d : Pt) (ha : Fit a) (hb : Fit b) (hc : Fit c) (hd : Fit d) (w : World) : Calls Try.prog 42 #[sV a b, sV c d] w fun e w' => e = .returned (.bool (meetB a b c d)) ∧ Below w.heap.size w w' := by
  have o1 := overlap_any a.1 b.1 c.1 d.1
  have o2 := overlap_any a.2 b.2 c.2 d.2
  have t1 := turn_any a b c ha hb hc
  have t2 := turn_any a b d ha hb hd
  have t3 := turn_any c d a hc hd ha
  have t4 := turn_any c d b hc hd hb
  have s1 := sg2 (cross a b c) (cross a b d)
  have s2 := sg2 (cross c d a) (cross c d b)
  unfold meetB
  generalize ovl a.1 b.1 c.1 d.1 = x1 at o1 ⊢
  generalize ovl a.2 b.2 c.2 d.2 = x2 at o2 ⊢
  generalize sg (cross a b c) = k1 at t1 s1 ⊢
  generalize sg (cross a b d) = k2 at t2 s1 ⊢
  generalize sg (cross c d a) = k3 at t3 s2 ⊢
  generalize sg (cross c d b) = k4 at t4 s2 ⊢
  obtain ⟨ax, ay⟩ := a
  obtain ⟨bx, by'⟩ := b
  obtain ⟨cx, cy⟩ := c
  obtain ⟨dx, dy⟩ := d
  clear ha hb hc hd
  simp only [sV, pV] at *
  go_enter Try.func42, Try.ntmps42
  go_wp2_with fail
  obtain ⟨W0, hW0, hB, B1, B2, hz⟩ := two_boxes w #[.int .i64 ax, .int .i64 ay, .int .i64 bx, .int .i64 by'] #[.int .i64 cx, .int .i64 cy, .int .i64 dx, .int .i64 dy] 60 60
  rw [hW0]
  have a0 := B1.at 0 rfl
  have a1 := B1.at 1 rfl
  have a2 := B1.at 2 rfl
  have a3 := B1.at 3 rfl
  have c0 := B2.at 0 rfl
  have c1 := B2.at 1 rfl
  have c2 := B2.at 2 rfl
  have c3 := B2.at 3 rfl
  clear hW0 B1 B2
  have hne : Nonempty (BelowW W0) := ⟨⟨W0, Below.refl _ _⟩⟩
  refine wp_region_calm (by kernel_rfl) (by kernel_rfl) ?_
  cases x1
  · repeat (go_big_quiet_step (first | (go_at_call_of 54 ax; exact calm_same (o1 _))))
    refine wpQuiet_nil ?_
    rintro _ ⟨x, rfl⟩
    go_wp2_with fail
    go_ret
    exact ⟨by simp, below_next hB (Nat.le_refl _) x.h⟩
  cases x2
  · repeat (go_big_quiet_step (first | (go_at_call_of 54 ax; exact calm_same (o1 _)) | (go_at_call_of 54 ay; exact calm_same (o2 _))))
    refine wpQuiet_nil ?_
    rintro _ ⟨x, rfl⟩
    go_wp2_with fail
    go_ret
    exact ⟨by simp, below_next hB (Nat.le_refl _) x.h⟩
  by_cases h1 : k1 * k2 ≤ 0
  · have d1 : decide (k1 * k2 ≤ 0) = true := decide_eq_true h1
    by_cases h2 : k3 * k4 ≤ 0
    · have d2 : decide (k3 * k4 ≤ 0) = true := decide_eq_true h2
      repeat (go_big_quiet_step (first | (go_at_call_of 54 ax; exact calm_same (o1 _)) | (go_at_call_of 54 ay; exact calm_same (o2 _)) | (go_at_call_of 35 (Value.agg #[Value.int IntKind.i64 cx, Value.int IntKind.i64 cy]); exact calm_of (t1 _)) | (go_at_call_of 35 (Value.agg #[Value.int IntKind.i64 dx, Value.int IntKind.i64 dy]); exact calm_of (t2 _)) | (go_at_call_of 35 (Value.agg #[Value.int IntKind.i64 ax, Value.int IntKind.i64 ay]); exact calm_of (t3 _)) | (go_at_call_of 35 (Value.agg #[Value.int IntKind.i64 bx, Value.int IntKind.i64 by']); exact calm_of (t4 _))))
      refine wpQuiet_nil ?_
      rintro _ ⟨x, rfl⟩
      go_wp2_with fail
      go_ret
      exact ⟨by simp [*], below_next hB (Nat.le_refl _) x.h⟩
    · have d2 : decide (k3 * k4 ≤ 0) = false := decide_eq_false h2
      repeat (go_big_quiet_step (first | (go_at_call_of 54 ax; exact calm_same (o1 _)) | (go_at_call_of 54 ay; exact calm_same (o2 _)) | (go_at_call_of 35 (Value.agg #[Value.int IntKind.i64 cx, Value.int IntKind.i64 cy]); exact calm_of (t1 _)) | (go_at_call_of 35 (Value.agg #[Value.int IntKind.i64 dx, Value.int IntKind.i64 dy]); exact calm_of (t2 _)) | (go_at_call_of 35 (Value.agg #[Value.int IntKind.i64 ax, Value.int IntKind.i64 ay]); exact calm_of (t3 _)) | (go_at_call_of 35 (Value.agg #[Value.int IntKind.i64 bx, Value.int IntKind.i64 by']); exact calm_of (t4 _))))
      refine wpQuiet_nil ?_
      rintro _ ⟨x, rfl⟩
      go_wp2_with fail
      go_ret
      exact ⟨by simp [*], below_next hB (Nat.le_refl _) x.h⟩
  · have d1 : decide (k1 * k2 ≤ 0) = false := decide_eq_false h1
    repeat (go_big_quiet_step (first | (go_at_call_of 54 ax; exact calm_same (o1 _)) | (go_at_call_of 54 ay; exact calm_same (o2 _)) | (go_at_call_of 35 (Value.agg #[Value.int IntKind.i64 cx, Value.int IntKind.i64 cy]); exact calm_of (t1 _)) | (go_at_call_of 35 (Value.agg #[Value.int IntKind.i64 dx, Value.int IntKind.i64 dy]); exact calm_of (t2 _))))
    refine wpQuiet_nil ?_
    rintro _ ⟨x, rfl⟩
    go_wp2_with fail
    go_ret
    exact ⟨by simp [*], below_next hB (Nat.le_refl _) x.h⟩
end Go.Proofs.Ytohepelnbmojiaa
