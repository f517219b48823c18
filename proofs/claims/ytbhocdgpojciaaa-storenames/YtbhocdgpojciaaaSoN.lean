/- StoreNames. -/
import Derived.Test.YtbhocdgpojciaaaSoP
namespace Go.Proofs.Ytbhocdgpojciaaa
open Go.RowKit Go.Great

theorem zn10 : getV (getS m6.C u6 0) = .tuple #[.string ⟨#[111, 108, 100]⟩, .bool true] := by rw [zn9]; rfl
theorem boot_off (w : World) (R : Nat) (σ : St) (hF : Fl w R σ) (hj : σ.jk.size = 0) (ho : σ.off = true) : Calls Try.prog 23 #[fp R] w fun e w' => e = .returned (.tuple #[.pointer none, .int .i64 60]) ∧ Fl w' R σ ∧ Kept R w w' := by
  refine (boot_any w R σ hF (by omega)).mono ?_
  rintro e w1 ⟨ok, τ, s', S, h1, h2, h3, h4, h5, h6⟩
  unfold bootS at h2
  rw [if_pos ho] at h2
  cases ok
  · simp at h2
    subst h2
    exact ⟨h1, h3, h6⟩
  · simp at h2
set_option maxHeartbeats 2000000 in
set_option maxRecDepth 100000 in
theorem StoreNames_walk (w : World) : Calls Try.prog 9 #[] w fun e w' => e = .returned (.bool true) ∧ Below w.heap.size w w' := by
  go_enter Try.func9, Try.ntmps9
  go_wp2_with fail
  refine (new_any w).mono ?_
  rintro e w1 ⟨rfl, h1, b1⟩
  obtain ⟨R, hR⟩ : ∃ R, Hid (w.heap.size = R) := ⟨_, hide rfl⟩
  rw [hR.out] at h1
  rw [show fp w.heap.size = fp R by rw [hR.out]]
  have H1 : Hid (Fl w1 R n0) := hide h1
  clear h1
  go_wp2_with fail
  refine (boot_at w1 R n0 n1 v1 H1.out rfl za1).mono ?_
  rintro e w2 ⟨S, rfl, f2, s2, g2, k2⟩
  have F2 := hide f2
  have S2 := hide s2
  clear f2 s2
  go_wp2_with fail
  have P1 := put_at w2 S R n1 m2 v1 (some u2) 0 0 ⟨#[111, 108, 100]⟩ F2.out rfl rfl ask1 S2.out zn1
  refine P1.mono ?_
  rintro e w3 ⟨rfl, f3, s3, _, k3⟩
  have F3 := hide f3
  have S3 := hide (s3 u2 rfl)
  clear f3 s3 P1
  have P1 := cut_any w3 R m2 F3.out 3 ⟨#[]⟩ (by show (0 : Nat) ≤ _; omega)
  rw [zn2] at P1
  go_wp2_with fail
  refine P1.mono ?_
  rintro e w4 ⟨rfl, f4, k4⟩
  have F4 : Hid (Fl w4 R m3) := hide f4
  have hRS := F3.out.ne S3.out
  have S4 := hide (S3.out.kept k4 (Ne.symm hRS))
  clear f4 P1
  go_wp2_with fail
  have P1 := put_at w4 S R m3 m4 u2 none 60 0 ⟨#[110, 101, 119]⟩ F4.out rfl rfl ask_u2 S4.out zn3
  refine P1.mono ?_
  rintro e w5 ⟨rfl, f5, _, s5, k5⟩
  have F5 := hide f5
  have S5 := hide (s5 rfl)
  clear f5 s5 P1
  go_wp2_with fail
  refine (put_stands w5 S 0 0 0 kz S5.out 9 ⟨#[]⟩).mono ?_
  rintro e wx ⟨rfl, hw⟩
  obtain rfl := hw.symm
  clear hw
  go_wp2_with fail
  refine (get_stands w5 S _ 0 0 0 S5.out 0).mono ?_
  rintro e wx ⟨rfl, hw⟩
  obtain rfl := hw.symm
  clear hw
  go_wp2_with fail
  refine (boot_off w5 R m4 F5.out rfl rfl).mono ?_
  rintro e w6 ⟨rfl, f6, k6⟩
  have F6 := hide f6
  clear f6
  go_wp2_with fail
  refine (on_any w6 R m4 F6.out).mono ?_
  rintro e w7 ⟨rfl, f7, k7⟩
  have F7 : Hid (Fl w7 R m5) := hide f7
  clear f7
  go_wp2_with fail
  refine (boot_at w7 R m5 m6 u6 F7.out rfl zn8).mono ?_
  rintro e w8 ⟨T, rfl, f8, s8, g8, k8⟩
  have hon : On m6 := ⟨f8.len, rfl, nble rfl⟩
  have G0 := get_any w8 T R m6 hon u6 ask_u6 f8 s8 0
  rw [zn10] at G0
  clear f8 s8
  go_wp2_with fail
  refine G0.mono ?_
  rintro e w9 ⟨rfl, b9⟩
  clear G0
  go_wp2_with fail
  refine (awake_true w9).mono ?_
  rintro e wa ⟨rfl, ba⟩
  go_wp2_with fail
  go_ret
  refine ⟨by rfl, ?_⟩
  have hR2 := hR.out
  have z1 := b1.size
  have z2 := k2.size
  have z3 := k3.size
  have z4 := k4.size
  have z5 := k5.size
  have z6 := k6.size
  have z7 := k7.size
  have z8 := k8.size
  have hS : w.heap.size ≤ S := by omega
  have hRr : w.heap.size ≤ R := by omega
  have a2 := k2.toBelow b1 (by omega) hRr
  have a3 := k3.toBelow a2 (by omega) hRr hS
  have a4 := k4.toBelow a3 (by omega) hRr
  have a5 := k5.toBelow a4 (by omega) hRr hS
  have a6 := k6.toBelow a5 (by omega) hRr
  have a7 := k7.toBelow a6 (by omega) hRr
  have a8 := k8.toBelow a7 (by omega) hRr
  exact below_next (below_next a8 (Nat.le_refl _) b9) (Nat.le_refl _) ba
end Go.Proofs.Ytbhocdgpojciaaa
