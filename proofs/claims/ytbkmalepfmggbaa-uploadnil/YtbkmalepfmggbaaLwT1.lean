/- UploadNil. -/
import Derived.Test.YtbkmalepfmggbaaUlO
namespace Go.Proofs.Ytbkmalepfmggbaa
open Go.RowKit Go.Great

set_option maxHeartbeats 4000000 in
set_option maxRecDepth 100000 in
theorem UploadNil_walk (v : Value) (now : Int) (w : World) (hv : ∃ x, MsOk w x ∧ v = .agg #[.int .u8 x.k, x.u]) : Calls Try.prog 7 #[v, .int .i64 now] w fun e w' => e = .returned (.bool true) ∧ Below w.heap.size w w' := by
  obtain ⟨⟨k, u, ns⟩, ⟨hk, hI, hnil, hlen⟩, rfl⟩ := hv
  simp only at hk hI hnil hlen ⊢
  have CP := hide (fun W (hb : Below w.heap.size w W) => copied_any k ns u W (hI.below hb) hnil hlen)
  obtain ⟨ua, uc, rfl, _⟩ := hI
  clear hnil hlen
  generalize ns.length = n at *
  have Hb0 := hide (below_alloc w (.cells #[.int .u8 k, .slice ua n uc] 38))
  go_enter Try.func7, Try.ntmps7
  go_upto_region 4 with (first
    | (go_at_call 20; refine (readyD_nil _).mono ?_; rintro e x ⟨rfl, hx⟩; obtain rfl := hx.symm)
    | (go_at_call 15; refine (CP.out _ Hb0.out).mono ?_; rintro e w1 ⟨u1, rfl, hI1, hb1⟩; have Hb1 := hide (below_next Hb0.out (Nat.le_refl _) hb1); obtain ⟨a1, c1, rfl⟩ := hI1.shape; clear hI1 hb1)
    | (go_at_call 18; refine (on_nil _ k now _ rfl _).mono ?_; rintro e w2 ⟨rfl, hb2⟩; have Hb2 := hide (below_next Hb1.out (Nat.le_refl _) hb2); clear hb2)
    | (go_at_call 17; refine (tick_nil _ _).mono ?_; rintro e x ⟨rfl, hx⟩; obtain rfl := hx.symm)
    | (go_at_call 26; refine (keep_nil _ _).mono ?_; rintro e x ⟨rfl, hx⟩; obtain rfl := hx.symm)
    | (go_at_call 13; refine (busy_nil _).mono ?_; rintro e x ⟨rfl, hx⟩; obtain rfl := hx.symm))
  clear CP
  go_wp2_with fail
  refine (newD_any 255 65535 (by decide) _).mono ?_
  rintro e w3 ⟨D, rfl, _, _, hb3⟩
  have Hb3 := hide (below_next Hb2.out (Nat.le_refl _) hb3)
  clear hb3
  go_wp2_with fail
  refine (newD_no 256 1 (by decide) _).mono ?_
  rintro e x ⟨rfl, hx⟩
  obtain rfl := hx.symm
  clear hx
  go_wp2_with fail
  refine (newD_no 0 65536 (by decide) _).mono ?_
  rintro e x ⟨rfl, hx⟩
  obtain rfl := hx.symm
  clear hx
  have AW := hide awakeUp
  go_wp2_with (go_at_call 10; refine (AW.out _).mono ?_; rintro e w5 ⟨rfl, hb5⟩; have Hb5 := hide (below_next Hb3.out (Nat.le_refl _) hb5); clear hb5)
  go_ret
  exact ⟨rfl, Hb5.out⟩
end Go.Proofs.Ytbkmalepfmggbaa
