/- Messages, rows of messages and scripts of calls that came in. -/
import Derived.Test.YtimkfipiebppiaaUl4
import Derived.Test.YtimkfipiebppiaaGnW
namespace Go.Proofs.Ytimkfipiebppiaa
open Go.RowKit Go.Great Go.Deep Go.WideShapes Go.ChangeShapes

/-- a message that came in -/
structure MsR where
  k : Int
  u : Value
  ns : List Int
def msC (x : MsR) : List Value := [.int .u8 x.k, x.u]
def MsOk (W : World) (x : MsR) : Prop := (0 ≤ x.k ∧ x.k ≤ 255) ∧ IntsIn W x.u x.ns
/-- a call of a script that came in -/
structure CaR where
  wt : Int
  m : MsR
  now : Int
  res : Int
def caC (x : CaR) : List Value := [.int .i64 x.wt, .int .u8 x.m.k, x.m.u, .int .i64 x.now, .int .i64 x.res]
def CaOk (W : World) (x : CaR) : Prop := MsOk W x.m ∧ I64 x.wt ∧ I64 x.now ∧ I64 x.res
theorem cells_msg : Try.prog.cellsOf 38 = 2 := by kernel_rfl
theorem cells_call : Try.prog.cellsOf 40 = 5 := by kernel_rfl
theorem cells_kind : Try.prog.cellsOf 35 = 1 := by kernel_rfl
theorem cells_ints : Try.prog.cellsOf 36 = 1 := by kernel_rfl
theorem bytes_msg : Try.prog.bytesOf 38 = 32 := by kernel_rfl
theorem bytes_call : Try.prog.bytesOf 40 = 56 := by kernel_rfl
set_option maxRecDepth 100000 in
theorem one_msg {H : Type} {enc : TypeId × Value → H} {W : World} {n : Nat} {c0 c1 : Value} {y : DataW H × List MemPlace} (h : DataW.trod enc Try.prog W 0 (fun _ => true) true n 38 [c0, c1] = some y) (hw : ∀ q ∈ y.1.weights Try.prog 38, q ≤ reachBytes) : ∃ x, MsOk W x ∧ c0 = .int .u8 x.k ∧ c1 = x.u := by
  obtain ⟨_, _, h0, _⟩ := sub_fieldW Try.underlying38 h 0 35 0 1 rfl cells_kind
  obtain ⟨_, _, h1, w1⟩ := sub_fieldW Try.underlying38 h 1 36 1 1 rfl cells_ints
  simp only [List.drop_zero, List.take_succ_cons, List.take_zero, List.drop_succ_cons] at h0 h1
  obtain ⟨k, e0, _, w0⟩ := DataW.trod_int Try.underlying35 h0
  simp at e0
  obtain ⟨ns, hns⟩ := open_ints h1 (fun q hq => hw q (w1 q hq))
  obtain ⟨c, hk⟩ := wf_u8 w0
  have hc := c.toNat_lt
  exact ⟨⟨k, c1, ns⟩, ⟨⟨by show 0 ≤ k; omega, by show k ≤ 255; omega⟩, hns⟩, e0, rfl⟩
set_option maxRecDepth 100000 in
theorem open_msg {H : Type} {enc : TypeId × Value → H} {W : World} {v : Value} {d : DataW H} {p : List MemPlace} {r : Reach} {b0 : Nat} (hok : Value.okWide Try.prog W r b0 38 v) (h : DataW.Trod enc Try.prog W 0 (fun _ => true) true 38 v d p) (hw : ∀ q ∈ d.weights Try.prog 38, q ≤ reachBytes) : ∃ x, MsOk W x ∧ v = .agg #[.int .u8 x.k, x.u] := by
  obtain ⟨cs, rfl, hcs⟩ := okWide_strG Try.underlying38 hok
  obtain ⟨fuel, hf⟩ := h
  rw [cells_msg] at hcs
  obtain ⟨l⟩ := cs
  match l, hcs with
  | [c0, c1], _ =>
    obtain ⟨x, hx, e0, e1⟩ := one_msg hf hw
    exact ⟨x, hx, by rw [e0, e1]⟩
set_option maxRecDepth 100000 in
theorem open_msgs {H : Type} {enc : TypeId × Value → H} {W : World} {v : Value} {d : DataW H} {p : List MemPlace} {r : Reach} {b0 : Nat} (hok : Value.okWide Try.prog W r b0 43 v) (h : DataW.Trod enc Try.prog W 0 (fun _ => true) true 43 v d p) (hw : ∀ q ∈ d.weights Try.prog 43, q ≤ reachBytes) : ∃ L, (∀ x ∈ L, MsOk W x) ∧ Rws W v 2 msC L ∧ L.length * 32 ≤ 140737488351232 := by
  obtain ⟨ad, ln, cp, rfl⟩ := okWide_slice Try.underlying43 hok
  obtain ⟨fuel, hf⟩ := h
  have := open_rwsW (cel := msC) (ok := MsOk W) (by omega) (fun _ => rfl) Try.underlying43 cells_msg (fun n cs y hy hl hw => by
    match cs, hl with
    | [c0, c1], _ =>
      obtain ⟨x, hx, e0, e1⟩ := one_msg hy hw
      exact ⟨x, hx, by rw [e0, e1]; rfl⟩) hf hw
  rw [bytes_msg] at this
  exact this
set_option maxRecDepth 100000 in
theorem open_calls {H : Type} {enc : TypeId × Value → H} {W : World} {v : Value} {d : DataW H} {p : List MemPlace} {r : Reach} {b0 : Nat} (hok : Value.okWide Try.prog W r b0 22 v) (h : DataW.Trod enc Try.prog W 0 (fun _ => true) true 22 v d p) (hw : ∀ q ∈ d.weights Try.prog 22, q ≤ reachBytes) : ∃ L, (∀ x ∈ L, CaOk W x) ∧ Rws W v 5 caC L ∧ L.length * 56 ≤ 140737488351232 := by
  obtain ⟨ad, ln, cp, rfl⟩ := okWide_slice Try.underlying22 hok
  obtain ⟨fuel, hf⟩ := h
  have := open_rwsW (cel := caC) (ok := CaOk W) (by omega) (fun _ => rfl) Try.underlying22 cells_call (fun n cs y hy hl hw => by
    match cs, hl with
    | [c0, c1, c2, c3, c4], _ =>
      obtain ⟨a0, rfl, w0⟩ := int_field Try.underlying40 hy 0 0 rfl rfl
      obtain ⟨a3, rfl, w3⟩ := int_field Try.underlying40 hy 2 3 rfl rfl
      obtain ⟨a4, rfl, w4⟩ := int_field Try.underlying40 hy 3 4 rfl rfl
      obtain ⟨_, _, h1, w1⟩ := sub_fieldW Try.underlying40 hy 1 38 1 2 rfl cells_msg
      simp only [List.take_succ_cons, List.take_zero, List.drop_succ_cons, List.drop_zero] at h1
      obtain ⟨x, hx, e0, e1⟩ := one_msg h1 (fun q hq => hw q (w1 q hq))
      exact ⟨⟨a0, x, a3, a4⟩, ⟨hx, w0, w3, w4⟩, by rw [e0, e1]; rfl⟩) hf hw
  rw [bytes_call] at this
  exact this
end Go.Proofs.Ytimkfipiebppiaa
