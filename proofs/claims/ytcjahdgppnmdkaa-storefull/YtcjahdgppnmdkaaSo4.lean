/- Package store: find. -/
import Derived.Test.YtcjahdgppnmdkaaSo3
set_option maxRecDepth 100000
namespace Go.Proofs.Ytcjahdgppnmdkaa
open Go.RowKit Go.Great

theorem find_any (w : World) (S : Nat) (p : Value) (ac tu en : Int) (k : Kp) (h : So w S p ac tu en k) (s : ByteArray) (hs : s.size = 4096) : Calls Try.prog 81 #[fp S, .string s] w fun e w' => e = .returned (.bool (rd s.data.toList 4096 1 k).2.2) ∧ So w' S p ac tu ((rd s.data.toList 4096 1 k).2.1 : Int) (rd s.data.toList 4096 1 k).1 ∧ Kept S w w' := by
  have b1 := below_alloc w (.cells #[fp S] 24)
  have hls := h.lt
  have hB : (w.alloc (.cells #[fp S] 24)).drew.heap[w.heap.size]? = some (.cells #[fp S] 24 (0, 0)) := by
    show (w.alloc (.cells #[fp S] 24)).heap[w.heap.size]? = _
    exact heap_alloc_new _ _
  have A := recs_any _ w.heap.size S p ac tu en k (h.below b1).drew hB s hs
  obtain ⟨⟨K, E, c⟩, hr⟩ : ∃ r, Hid (rd s.data.toList 4096 1 k = r) := ⟨_, hide rfl⟩
  rw [hr.out] at A ⊢
  simp only at A ⊢
  have hmf : ∀ (fn : Fn) (first cap : Array Value) (w : World), (Instr.makeFunc fn first cap).run Try.prog w = .ok (.func fn first cap) w := fun _ _ _ _ => rfl
  have cB : (w.alloc (.cells #[fp S] 24)).drew.cell? ⟨w.heap.size, 0, none⟩ = some (fp S) := cell_of_one hB
  go_enter Try.func81, Try.ntmps81
  go_wp2_with fail
  go_region_with (go_at_call 104; refine A.mono ?_; rintro e w2 ⟨rfl, h2, k2⟩; have c3 := h2.c3; have f3 := h2.frozen 3; have cB2 := cell_of_one (k2.other hB (Nat.ne_of_gt hls)))
  all_goals
    go_wp2_with fail
    go_ret
    exact ⟨rfl, h2.s3 E, ((((Kept.refl S w).alloc _).drew).trans k2).set _ _⟩
end Go.Proofs.Ytcjahdgppnmdkaa
