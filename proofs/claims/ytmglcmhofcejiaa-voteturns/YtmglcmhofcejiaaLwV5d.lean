/- VoteTurns. -/
import Derived.Test.YtmglcmhofcejiaaLwV5a
import Derived.Test.YtmglcmhofcejiaaLwV5b
import Derived.Test.YtmglcmhofcejiaaLwV5c
namespace Go.Proofs.Ytmglcmhofcejiaa
open Go.RowKit Go.Great

theorem VoteTurns_walk (v0 : Value) (p q : Int) (w : World) (h0 : ∃ s tv L, v0 = .agg #[.int .i64 s, tv] ∧ I64 s ∧ Tks w tv L) (hp : I64 p) : Calls Try.prog 5 #[v0, .int .i64 p, .int .i64 q] w fun e w' => e = .returned (.bool true) ∧ Below w.heap.size w w' := by
  obtain ⟨s, tv, L, rfl, _, hT⟩ := h0
  by_cases h : s < 0 ∨ 65534 < s ∨ p < 0
  · exact turns_no s p q tv w h
  · obtain e | e | e : q % 3 = 0 ∨ q % 3 = 1 ∨ q % 3 = 2 := by omega
    · exact turns_0 s p q tv L w (by omega) (by omega) (by omega) hp.2 hT e
    · exact turns_1 s p q tv L w (by omega) (by omega) (by omega) hp.2 hT e
    · exact turns_2 s p q tv L w (by omega) (by omega) (by omega) hp.2 hT e
end Go.Proofs.Ytmglcmhofcejiaa
