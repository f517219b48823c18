/- The document's ground: Looks, Step. -/
import Derived.Test.YtambpihkbicbkaaGr2
import Derived.Test.YtambpihkbicbkaaKept
namespace Go.Proofs.Ytambpihkbicbkaa
open Go.RowKit Go.Great

theorem sat_half {q : Int} (h : -4611686018427387904 ≤ q ∧ q ≤ 4611686018427387904) : sat (0 - q) = -q := by
  unfold sat
  split
  · omega
  · split <;> omega
theorem looks_any (f : Bool) (c a : Int) (w : World) (ha : I64 a) : Calls Try.prog 13 #[.bool f, .int .i64 c, .int .i64 a] w fun e w' => e = .returned (.bool (lk f c a)) ∧ Below w.heap.size w w' := by
  have h := tdiv2 a ha
  have SB := hide (fun w => ref_sub_any 0 (a.tdiv 2) w (by unfold I64; omega) (by unfold I64; omega))
  rw [sat_half h] at SB
  unfold lk
  cases f
  · go_enter Try.func13, Try.ntmps13
    go_wp2_with fail
    go_ret
    exact ⟨rfl, Below.refl _ _⟩
  · go_enter Try.func13, Try.ntmps13
    go_wp2_with fail
    refine (SB.out _).mono ?_
    rintro e w1 ⟨rfl, hb1⟩
    go_wp2_with fail
    go_ret
    exact ⟨by simp, hb1⟩
theorem rstepG_any (n : Int) (f : Bool) (c a : Int) (w : World) (hn : 0 ≤ n ∧ n ≤ 65535) (ha : I64 a) : Calls Try.prog 9 #[.int .i64 n, .bool f, .int .i64 c, .int .i64 a] w fun e w' => e = .returned (.int .i64 (gs n f c a)) ∧ Below w.heap.size w w' := by
  have ST := hide (fun W => looks_any f c a W ha)
  have EQ : Hid (gs n f c a = if lk f c a = true then (if n < 65535 then n + 1 else 65535) else 0) := hide rfl
  rw [EQ.out]
  clear EQ ha
  generalize lk f c a = y at *
  cases y
  · go_enter Try.func9, Try.ntmps9
    go_wp2_with (go_at_call 13; refine (ST.out _).mono ?_; rintro e w1 ⟨rfl, hb1⟩)
    go_ret
    exact ⟨rfl, hb1⟩
  · by_cases hlt : n < 65535
    · go_enter Try.func9, Try.ntmps9
      go_wp2_with (go_at_call 13; refine (ST.out _).mono ?_; rintro e w1 ⟨rfl, hb1⟩)
      go_ret
      exact ⟨rfl, hb1⟩
    · go_enter Try.func9, Try.ntmps9
      go_wp2_with (go_at_call 13; refine (ST.out _).mono ?_; rintro e w1 ⟨rfl, hb1⟩)
      go_ret
      exact ⟨rfl, hb1⟩
end Go.Proofs.Ytambpihkbicbkaa
