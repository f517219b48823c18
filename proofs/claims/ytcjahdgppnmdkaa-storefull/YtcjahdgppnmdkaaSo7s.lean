/- Package store: sign. -/
import Derived.Test.YtcjahdgppnmdkaaSo7
set_option maxRecDepth 100000
namespace Go.Proofs.Ytcjahdgppnmdkaa
open Go.RowKit Go.Great

theorem conv1 (w : World) (c : UInt8) : (convert 93 9 (.slice (some ⟨w.heap.size, 0, none⟩) 1 1)).run Try.prog (w.alloc (.cells #[.int .u8 (c.toNat : Int)] 5)) = .ok (.string (bs [c])) (w.alloc (.cells #[.int .u8 (c.toNat : Int)] 5)) := by
  refine run_convert_bytes_back _ 93 9 5 ⟨w.heap.size, 0, none⟩ 1 [c] (by kernel_rfl) (by kernel_rfl) (by kernel_rfl) ?_
  intro j hj
  have : j = 0 := by simpa using hj
  subst this
  rw [Addr.add0, World.cell?_alloc_new]
  rfl
theorem codes_at (w : World) (t : Nat) (ht : t < 3) (X : Nat) (hX : w.heap.size = X) : Calls Try.prog 103 #[] w fun e w' => e = .returned (.slice (some ⟨X, 0, none⟩) 3 3) ∧ w'.cell? ⟨X, t, none⟩ = some (.int .u8 ((codeN t).toNat : Int)) ∧ Below w.heap.size w w' := by
  subst hX
  refine (codes_any w).mono ?_
  rintro e w1 ⟨rfl, rfl⟩
  refine ⟨rfl, ?_, below_alloc _ _⟩
  rw [World.cell?_alloc_new]
  obtain rfl | rfl | rfl : t = 0 ∨ t = 1 ∨ t = 2 := by omega
  all_goals rfl
set_option maxHeartbeats 2000000 in
theorem sign_any (w : World) (S R : Nat) (σ : St) (ho : On σ) (ac tu : Nat) (en : Int) (k : Kp) (hF : Fl w R σ) (h : So w S (fp R) ac tu en k) (hac : ac < 2) (htu : tu < 3) :
    Calls Try.prog 101 #[fp S] w fun e w' => e = .returned (.int .i64 (if (progS σ (ac * 4096) [codeN tu]).2 then 0 else 60)) ∧ Fl w' R (progS σ (ac * 4096) [codeN tu]).1 ∧ Kept R w w' := by
  have A : ∀ wx, Fl wx R σ → Calls Try.prog 96 #[fp R, .int .i64 ((ac * 4096 : Nat) : Int), .string (bs [codeN tu])] wx fun e w' => e = .returned (.int .i64 (if (progS σ (ac * 4096) [codeN tu]).2 then 0 else 60)) ∧ Fl w' R (progS σ (ac * 4096) [codeN tu]).1 ∧ Kept R wx w' := fun wx hx => by
    have := prog_in wx R σ hx ho.jk ho.off (ac * 4096) (bs [codeN tu]) (by rw [bs_size]; show ac * 4096 + 1 ≤ _; omega)
    rw [bs_list] at this
    exact this
  obtain ⟨⟨τ, ok⟩, hm⟩ : ∃ x, progS σ (ac * 4096) [codeN tu] = x := ⟨_, rfl⟩
  rw [hm] at A ⊢
  simp only at A ⊢
  obtain ⟨v, hv⟩ : ∃ v : Int, (if ok then 0 else 60) = v := ⟨_, rfl⟩
  rw [hv] at A ⊢
  obtain ⟨q, hq⟩ : ∃ q, ac * 4096 = q := ⟨_, rfl⟩
  have P : Calls Try.prog 77 #[fp S, .int .i64 0] w.drew fun e w' => e = .returned (.int .i64 (q : Int)) ∧ w' = w.drew := by
    have := place_any w.drew S (fp R) ac 0 tu en k h.drew hac (by omega)
    rw [Nat.add_zero, hq] at this
    exact this
  obtain ⟨X, hX⟩ : ∃ X, Hid (w.heap.size = X) := ⟨_, hide rfl⟩
  have D := codes_at w.drew tu htu X hX.out
  obtain ⟨c, hc⟩ : ∃ c, codeN tu = c := ⟨_, rfl⟩
  rw [hc] at A D
  rw [hq] at A
  clear hm hv hq hc
  have c0 := h.drew.c0
  have c2 := h.drew.c2
  have htu' : (tu : Int) < 3 := by omega
  have HS := hide h
  have HF := hide hF
  clear h hF
  go_enter Try.func101, Try.ntmps101
  go_wp2_with fail
  go_region_with (first
      | (go_at_call 77; refine P.mono ?_; rintro e w2 ⟨rfl, hw⟩; obtain rfl := hw.symm; clear hw)
      | (go_at_call 103; refine D.mono ?_; rintro e w3 ⟨rfl, d3, b3⟩; have i0 := (HS.out.drew.below b3).c0; have i2 := (HS.out.drew.below b3).c2; have hcv := conv1 w3 c; have b4 := below_alloc w3 (.cells #[.int .u8 (c.toNat : Int)] 5); have j0 := ((HS.out.drew.below b3).below b4).c0; have f4 := (HF.out.drew.below b3).below b4; have k4 := (((Kept.refl R w).drew).below b3).below b4)
      | (go_at_call 96; refine (A _ f4).mono ?_; rintro e w5 ⟨rfl, f5, k5⟩))
  all_goals
    go_wp2_with fail
    go_ret
    exact ⟨rfl, f5, k4.trans k5⟩
end Go.Proofs.Ytcjahdgppnmdkaa
