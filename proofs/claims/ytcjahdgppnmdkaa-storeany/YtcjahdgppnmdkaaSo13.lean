/- Package store: Boot. -/
import Derived.Test.YtcjahdgppnmdkaaSo11
import Derived.Test.YtcjahdgppnmdkaaSo12
set_option maxRecDepth 100000
namespace Go.Proofs.Ytcjahdgppnmdkaa
open Go.RowKit Go.Great

theorem boot_nil (w : World) : Calls Try.prog 27 #[.pointer none] w fun e w' => e = .returned (.tuple #[.pointer none, .int .i64 2]) ∧ w' = w := by
  go_enter Try.func27, Try.ntmps27
  go_wp2_with fail
  refine (read_nil w 0 8192).mono ?_
  rintro e w1 ⟨rfl, rfl⟩
  go_wp2_with fail
  go_ret2
  exact ⟨rfl, rfl⟩
/-- what Boot leaves -/
def BootEnd (x : St × Option Sv) (R : Nat) (w : World) (e : Ending) (w' : World) : Prop :=
  ∃ (ok : Bool) (τ : St) (s' : Sv) (S : Nat), e = .returned (.tuple #[if ok then fp S else .pointer none, .int .i64 (if ok then 0 else 60)]) ∧ x = (τ, if ok then some s' else none) ∧ Fl w' R τ ∧ (ok = true → So w' S (fp R) s'.ac s'.tu s'.en s'.k) ∧ w.heap.size ≤ S ∧ Kept R w w'
theorem so_zero (w : World) (p : Value) : So (w.alloc (.cells #[p, .int .i64 0, .int .i64 0, .int .i64 0, .bool false, .int .i64 0, .int .i64 0, .bool false, .int .i64 0, .int .i64 0, .bool false, .int .i64 0, .int .i64 0] 108)) w.heap.size p 0 0 0 kz := ⟨heap_alloc_new _ _⟩
theorem kep_new {w w1 w2 : World} {R : Nat} (b : Below w.heap.size w w1) (g : Kep2 R w.heap.size w1 w2) : Kept R w w2 :=
  ⟨g.os.trans b.os, g.tape.trans b.tape, g.output.trans b.output, Nat.le_trans b.size g.size, fun k hk h1 => (g.block k (Nat.lt_of_lt_of_le hk b.size) (fun e => h1 (by rw [e])) (Nat.ne_of_lt hk)).trans (b.block k hk)⟩
theorem boot_any (w : World) (R : Nat) (σ : St) (hF : Fl w R σ) (hj : σ.jk.size ≤ 4096) : Calls Try.prog 27 #[fp R] w fun e w' => BootEnd (bootS σ) R w e w' := by
  cases ho : σ.off
  · have hon : On σ := ⟨hF.len, ho, hj⟩
    have RD := read_in w R σ hF ho 0 8192 (by omega)
    rw [List.drop_zero, List.take_of_length_le (by rw [hF.len]; omega)] at RD
    have b1 := below_alloc w (.cells #[fp R, .int .i64 0, .int .i64 0, .int .i64 0, .bool false, .int .i64 0, .int .i64 0, .bool false, .int .i64 0, .int .i64 0, .bool false, .int .i64 0, .int .i64 0] 108)
    have OD := order_any _ w.heap.size R σ hon (hF.below b1) (so_zero w (fp R))
    obtain ⟨x, hx⟩ : ∃ x, bootS σ = x := ⟨_, rfl⟩
    rw [hx] at OD ⊢
    obtain ⟨t, ht⟩ : ∃ t, bs σ.C = t := ⟨_, rfl⟩
    rw [ht] at RD OD
    have HB := hide b1
    have hlr := hF.lt
    clear hx ht b1 hF
    go_enter Try.func27, Try.ntmps27
    go_wp2_with fail
    refine RD.mono ?_
    rintro e w1 ⟨rfl, hw⟩
    obtain rfl := hw.symm
    clear hw RD
    go_wp2_with fail
    refine OD.mono ?_
    intro e w2 h2
    have H2 := hide h2
    clear h2 OD
    obtain ⟨ok, τ, s', rfl, g2, g3, g4, g5⟩ := H2.out
    clear H2
    have G2 := hide g2
    have G4 := hide g4
    have G5 : Hid (Kept R w w2) := hide (kep_new HB.out g5)
    clear g2 g4 g5
    cases ok
    · go_wp2_with fail
      go_ret2
      exact (show BootEnd _ _ _ _ _ from ⟨false, τ, s', w.heap.size, rfl, G2.out, g3, (fun e => by cases e), Nat.le_refl _, G5.out⟩)
    · go_wp2_with fail
      go_ret2
      exact (show BootEnd _ _ _ _ _ from ⟨true, τ, s', w.heap.size, rfl, G2.out, g3, (fun _ => G4.out trivial), Nat.le_refl _, G5.out⟩)
  · have RD := read_off w R σ hF ho 0 8192
    have HX : Hid (bootS σ = (σ, none)) := by show _ = _; unfold bootS; rw [if_pos ho]
    clear ho
    go_enter Try.func27, Try.ntmps27
    go_wp2_with fail
    refine RD.mono ?_
    rintro e w1 ⟨rfl, hw⟩
    obtain rfl := hw.symm
    clear hw RD
    go_wp2_with fail
    go_ret2
    exact (show BootEnd _ _ _ _ _ from ⟨false, σ, ⟨0, 0, 0, kz⟩, w.heap.size, rfl, HX.out, hF, (fun e => by cases e), Nat.le_refl _, Kept.refl _ _⟩)
end Go.Proofs.Ytcjahdgppnmdkaa
