/- Scripts of calls that came in, with what their slices have room for. -/
import Derived.Test.YtimkfipiebppiaaUlO
namespace Go.Proofs.Ytimkfipiebppiaa
open Go.RowKit Go.Great Go.Deep Go.WideShapes Go.ChangeShapes

/-- a slice has room for what it holds -/
def CapOk (u : Value) : Prop := ∀ a n c, u = .slice a n c → n ≤ c
set_option maxRecDepth 100000 in
theorem cap_of {H : Type} {enc : TypeId × Value → H} {W : World} {u : Value} {y : DataW H × List MemPlace} {n : Nat} (h : DataW.trod enc Try.prog W 0 (fun _ => true) true n 36 [u] = some y) : CapOk u := by
  rcases open_slice Try.underlying36 h with ⟨hcs, _⟩ | ⟨a, len, cap, m, n, D, Pl, hcs, hb, hl, hmax, hm, hx, hel⟩
  · injection hcs with hcs _
    subst hcs
    intro a n c e
    injection e with _ h1 h2
    omega
  · injection hcs with hcs _
    subst hcs
    intro a' n' c' e
    injection e with _ h1 h2
    omega
def CaOk2 (W : World) (x : CaR) : Prop := CaOk W x ∧ CapOk x.m.u
set_option maxRecDepth 100000 in
theorem open_calls2 {H : Type} {enc : TypeId × Value → H} {W : World} {v : Value} {d : DataW H} {p : List MemPlace} {r : Reach} {b0 : Nat} (hok : Value.okWide Try.prog W r b0 22 v) (h : DataW.Trod enc Try.prog W 0 (fun _ => true) true 22 v d p) (hw : ∀ q ∈ d.weights Try.prog 22, q ≤ reachBytes) : ∃ L, (∀ x ∈ L, CaOk2 W x) ∧ Rws W v 5 caC L ∧ L.length * 56 ≤ 140737488351232 := by
  obtain ⟨ad, ln, cp, rfl⟩ := okWide_slice Try.underlying22 hok
  obtain ⟨fuel, hf⟩ := h
  have := open_rwsW (cel := caC) (ok := CaOk2 W) (by omega) (fun _ => rfl) Try.underlying22 cells_call (fun n cs y hy hl hw => by
    match cs, hl with
    | [c0, c1, c2, c3, c4], _ =>
      obtain ⟨a0, rfl, w0⟩ := int_field Try.underlying40 hy 0 0 rfl rfl
      obtain ⟨a3, rfl, w3⟩ := int_field Try.underlying40 hy 2 3 rfl rfl
      obtain ⟨a4, rfl, w4⟩ := int_field Try.underlying40 hy 3 4 rfl rfl
      obtain ⟨_, _, h1, w1⟩ := sub_fieldW Try.underlying40 hy 1 38 1 2 rfl cells_msg
      simp only [List.take_succ_cons, List.take_zero, List.drop_succ_cons, List.drop_zero] at h1
      obtain ⟨x, hx, e0, e1⟩ := one_msg h1 (fun q hq => hw q (w1 q hq))
      obtain ⟨_, _, h2, _⟩ := sub_fieldW Try.underlying38 h1 1 36 1 1 rfl cells_ints
      simp only [List.take_succ_cons, List.take_zero, List.drop_succ_cons, List.drop_zero] at h2
      exact ⟨⟨a0, x, a3, a4⟩, ⟨⟨hx, w0, w3, w4⟩, by show CapOk x.u; rw [← e1]; exact cap_of h2⟩, by rw [e0, e1]; rfl⟩) hf hw
  rw [bytes_call] at this
  exact this
end Go.Proofs.Ytimkfipiebppiaa
