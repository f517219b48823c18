/- For every layer: a region whose last two operations wait for all others, one behind the other. -/
import Derived.Test.YtcjahdgppnmdkaaGn3
set_option maxRecDepth 100000
namespace Go.Proofs.Ytcjahdgppnmdkaa
open Go.RowKit Go.Great

/-- the others only read; then two operations, one behind the other -/
theorem reg_two {P : Program} {Q : Exit → Act → World → Prop} {id : Nat} {a : Act} {w : World} {l : List Oper} (n : Nat) (o1 o2 : Oper) (_g1 : (l.drop n).take 1 = [o1]) (_g2 : (l.drop (n + 1)).take 1 = [o2]) (hl : l.take n ++ [o1] ++ [o2] = l) (hlen : (l.take n).length = n) (hm : P.follows .mixedOrders = true) (hB : Region.lexB .any (l.take n).toArray = true) (p1 : plainB2 .any (l.take n) o1 = true) (p2 : plainB2 .any (l.take n ++ [o1]) o2 = true)
    (h : wpQuiet P (l.take n).toArray (fun w' => ∃ k, w' = w.drewN k) (fun a' => ∀ k, o1.wp P a' (w.drewN k) (fun a1 w1 => o2.wp P a1 w1 (fun a2 w2 => Q .normal a2 w2) Q) (thenLast2 P o2 Q)) (l.take n) a) : (Code.region id l.toArray true).wp P Q a w := by
  have q1 := plain_of2 p1
  have q2 := plain_of2 p2
  simp only [Region.lexB, Bool.and_eq_true] at hB
  refine wp_region_any hm ?_
  have h1 := wpAnyQ_lex (C := fun w' => ∃ k, w' = w.drewN k) (md := .any) hB.1 (l.take n) 0 (Array.replicate (l.take n).length false) a (by simp) (by simpa using hB.2) h
  have h2 := wpAny_of_quiet (P := P) (md := .any) (ops := (l.take n).toArray) (C := fun w' => ∃ k, w' = w.drewN k) (Q := fun a' => ∀ k, o1.wp P a' (w.drewN k) (fun a1 w1 => o2.wp P a1 w1 (fun a2 w2 => Q .normal a2 w2) Q) (thenLast2 P o2 Q)) (Q' := thenLast2 P o1 (thenLast2 P o2 Q)) (fun a' w' ⟨k, hk⟩ h => by rw [hk]; exact h k) _ _ a w.drew ⟨1, rfl⟩ h1
  have h3 := any_last2 q1 _ _ a w.drew (by simp) (closed_none2 _) h2
  rw [hlen, rep_push] at h3
  have h4 := any_last2 q2 _ _ a w.drew (by simp [hlen]) (closed_none2 _) h3
  rw [rep_push] at h4
  have hsz : l.length = n + 1 + 1 := by
    have := congrArg List.length hl
    simp only [List.length_append, List.length_singleton, hlen] at this
    omega
  rw [hl] at h4
  rw [show l.toArray.size = n + 1 + 1 by simp [hsz]]
  exact h4
end Go.Proofs.Ytcjahdgppnmdkaa
