/- Chases and beats that came in. -/
import Derived.Test.YthldohfjkjhdcaaCo5
import Derived.Test.YthldohfjkjhdcaaGnO
namespace Go.Proofs.Ythldohfjkjhdcaa
open Go.RowKit Go.Great Go.Deep Go.WideShapes Go.ChangeShapes

/-- an int of a row -/
def cInt (x : Int) : List Value := [.int .i64 x]
/-- one step of a steer -/
structure Bt where
  p : Wn
  q : Wn
  r : Wn
  x0 : Int
  x1 : Int
  x2 : Int
  v0 : Int
  v1 : Int
  v2 : Int
  rest : Bool
def cBt (b : Bt) : List Value := [.bool b.p.h, .int .i64 b.p.a, .int .i64 b.p.s, .bool b.q.h, .int .i64 b.q.a, .int .i64 b.q.s, .bool b.r.h, .int .i64 b.r.a, .int .i64 b.r.s, .int .i64 b.x0, .int .i64 b.x1, .int .i64 b.x2, .int .i64 b.v0, .int .i64 b.v1, .int .i64 b.v2, .bool b.rest]
structure BtOk (b : Bt) : Prop where
  p : WOk b.p
  q : WOk b.q
  r : WOk b.r
  x0 : I64 b.x0
  x1 : I64 b.x1
  x2 : I64 b.x2
  v0 : I64 b.v0
  v1 : I64 b.v1
  v2 : I64 b.v2
theorem list16 {l : List Value} (h : l.length = 16) : ∃ a b c d e f g i j k m n o p q r, l = [a, b, c, d, e, f, g, i, j, k, m, n, o, p, q, r] := by
  match l, h with
  | [a, b, c, d, e, f, g, i, j, k, m, n, o, p, q, r], _ => exact ⟨a, b, c, d, e, f, g, i, j, k, m, n, o, p, q, r, rfl⟩
theorem cells_ints : Try.prog.cellsOf 25 = 1 := by kernel_rfl
theorem cells_want : Try.prog.cellsOf 38 = 3 := by kernel_rfl
theorem cells_wants : Try.prog.cellsOf 39 = 9 := by kernel_rfl
theorem cells_three : Try.prog.cellsOf 36 = 3 := by kernel_rfl
theorem cells_chase : Try.prog.cellsOf 53 = 5 := by kernel_rfl
section
variable {H : Type} {enc : TypeId × Value → H} {W : World} {base : Nat} {spare : Nat → Bool} {held : Bool}
theorem one_int (n : Nat) (cs : List Value) (y : DataW H × List MemPlace) (h : DataW.trod enc Try.prog W base spare held n 3 cs = some y) (_ : cs.length = 1) : ∃ x, I64 x ∧ cs = cInt x := by
  obtain ⟨b, e1, _, w1⟩ := DataW.trod_int Try.underlying3 h
  exact ⟨b, wf_i64 w1, e1⟩
theorem one_want {n : Nat} {c0 c1 c2 : Value} {y : DataW H × List MemPlace} (h : DataW.trod enc Try.prog W base spare held n 38 [c0, c1, c2] = some y) : ∃ p : Wn, WOk p ∧ c0 = .bool p.h ∧ c1 = .int .i64 p.a ∧ c2 = .int .i64 p.s := by
  obtain ⟨a0, rfl⟩ := bool_field Try.underlying38 h 0 0 rfl rfl
  obtain ⟨a1, rfl, w1⟩ := int_field Try.underlying38 h 1 1 rfl rfl
  obtain ⟨a2, rfl, w2⟩ := int_field Try.underlying38 h 2 2 rfl rfl
  exact ⟨⟨a0, a1, a2⟩, ⟨w1, w2⟩, rfl, rfl, rfl⟩
theorem three_wants {n : Nat} {c0 c1 c2 c3 c4 c5 c6 c7 c8 : Value} {y : DataW H × List MemPlace} (h : DataW.trod enc Try.prog W base spare held n 39 [c0, c1, c2, c3, c4, c5, c6, c7, c8] = some y) : ∃ p q r : Wn, (WOk p ∧ WOk q ∧ WOk r) ∧ c0 = .bool p.h ∧ c1 = .int .i64 p.a ∧ c2 = .int .i64 p.s ∧ c3 = .bool q.h ∧ c4 = .int .i64 q.a ∧ c5 = .int .i64 q.s ∧ c6 = .bool r.h ∧ c7 = .int .i64 r.a ∧ c8 = .int .i64 r.s := by
  obtain ⟨xs, m, _, _, _, hl, hel⟩ := DataW.trod_array Try.underlying39 h
  have g : ∀ i (hi : i < 3), ∃ z, xs[i]? = some z := fun i hi => ⟨xs[i]'(by omega), by simp [hl, hi]⟩
  obtain ⟨z0, g0⟩ := g 0 (by omega)
  obtain ⟨z1, g1⟩ := g 1 (by omega)
  obtain ⟨z2, g2⟩ := g 2 (by omega)
  have h0 := hel 0 (by omega)
  have h1 := hel 1 (by omega)
  have h2 := hel 2 (by omega)
  rw [g0] at h0
  rw [g1] at h1
  rw [g2] at h2
  simp only [cells_want, Nat.zero_mul, Nat.one_mul, Nat.reduceMul, List.drop_zero, List.take_succ_cons, List.take_zero, List.drop_succ_cons] at h0 h1 h2
  obtain ⟨p, hp, rfl, rfl, rfl⟩ := one_want h0
  obtain ⟨q, hq, rfl, rfl, rfl⟩ := one_want h1
  obtain ⟨r, hr, rfl, rfl, rfl⟩ := one_want h2
  exact ⟨p, q, r, ⟨hp, hq, hr⟩, rfl, rfl, rfl, rfl, rfl, rfl, rfl, rfl, rfl⟩
theorem three_ints {n : Nat} {c0 c1 c2 : Value} {y : DataW H × List MemPlace} (h : DataW.trod enc Try.prog W base spare held n 36 [c0, c1, c2] = some y) : ∃ a b c : Int, (I64 a ∧ I64 b ∧ I64 c) ∧ c0 = .int .i64 a ∧ c1 = .int .i64 b ∧ c2 = .int .i64 c := by
  obtain ⟨xs, m, _, _, _, hl, hel⟩ := DataW.trod_array Try.underlying36 h
  have g : ∀ i (hi : i < 3), ∃ z, xs[i]? = some z := fun i hi => ⟨xs[i]'(by omega), by simp [hl, hi]⟩
  obtain ⟨z0, g0⟩ := g 0 (by omega)
  obtain ⟨z1, g1⟩ := g 1 (by omega)
  obtain ⟨z2, g2⟩ := g 2 (by omega)
  have h0 := hel 0 (by omega)
  have h1 := hel 1 (by omega)
  have h2 := hel 2 (by omega)
  rw [g0] at h0
  rw [g1] at h1
  rw [g2] at h2
  simp only [cells_int, Nat.zero_mul, Nat.one_mul, Nat.reduceMul, List.drop_zero, List.take_succ_cons, List.take_zero, List.drop_succ_cons] at h0 h1 h2
  obtain ⟨p, e0, _, w0⟩ := DataW.trod_int Try.underlying3 h0
  obtain ⟨q, e1, _, w1⟩ := DataW.trod_int Try.underlying3 h1
  obtain ⟨r, e2, _, w2⟩ := DataW.trod_int Try.underlying3 h2
  simp at e0 e1 e2
  exact ⟨p, q, r, ⟨wf_i64 w0, wf_i64 w1, wf_i64 w2⟩, e0, e1, e2⟩
theorem one_Bt (n : Nat) (cs : List Value) (y : DataW H × List MemPlace) (h : DataW.trod enc Try.prog W base spare held n 41 cs = some y) (hl : cs.length = 16) : ∃ x, BtOk x ∧ cs = cBt x := by
  obtain ⟨c0, c1, c2, c3, c4, c5, c6, c7, c8, c9, c10, c11, c12, c13, c14, c15, rfl⟩ := list16 hl
  obtain ⟨_, _, h0⟩ := sub_field Try.underlying41 h 0 39 0 9 rfl cells_wants
  obtain ⟨_, _, h1⟩ := sub_field Try.underlying41 h 1 36 9 3 rfl cells_three
  obtain ⟨_, _, h2⟩ := sub_field Try.underlying41 h 2 36 12 3 rfl cells_three
  obtain ⟨b, rfl⟩ := bool_field Try.underlying41 h 3 15 rfl rfl
  simp only [List.drop_zero, List.take_succ_cons, List.take_zero, List.drop_succ_cons] at h0 h1 h2
  obtain ⟨p, q, r, ⟨hp, hq, hr⟩, rfl, rfl, rfl, rfl, rfl, rfl, rfl, rfl, rfl⟩ := three_wants h0
  obtain ⟨x0, x1, x2, ⟨a0, a1, a2⟩, rfl, rfl, rfl⟩ := three_ints h1
  obtain ⟨v0, v1, v2, ⟨b0, b1, b2⟩, rfl, rfl, rfl⟩ := three_ints h2
  exact ⟨⟨p, q, r, x0, x1, x2, v0, v1, v2, b⟩, ⟨hp, hq, hr, a0, a1, a2, b0, b1, b2⟩, rfl⟩
end
theorem open_beats {H : Type} {enc : TypeId × Value → H} {W : World} {v : Value} {d : DataW H} {p : List MemPlace} {r : Reach} {b0 : Nat} (hok : Value.okWide Try.prog W r b0 26 v) (h : DataW.Trod enc Try.prog W 0 (fun _ => true) true 26 v d p) (_ : ∀ q ∈ DataW.weights Try.prog 26 d, q ≤ reachBytes) : ∃ L, (∀ x ∈ L, BtOk x) ∧ Rws W v 16 cBt L := by
  obtain ⟨ad, ln, cp, rfl⟩ := okWide_slice Try.underlying26 hok
  obtain ⟨fuel, hf⟩ := h
  obtain ⟨L, h1, h2, _⟩ := open_rws (k := 16) (cel := cBt) (ok := BtOk) (by omega) (fun _ => rfl) Try.underlying26 (by kernel_rfl) (fun n cs y h hl => one_Bt n cs y h hl) hf
  exact ⟨L, h1, h2⟩
theorem list5 {l : List Value} (h : l.length = 5) : ∃ a b c d e, l = [a, b, c, d, e] := by
  match l, h with
  | [a, b, c, d, e], _ => exact ⟨a, b, c, d, e, rfl⟩
/-- a chase that came in -/
structure Chs (W : World) (a b c : Value) (A B C : List Int) (o d : Int) : Prop where
  o : I64 o
  d : I64 d
  A : Rws W a 1 cInt A
  B : Rws W b 1 cInt B
  C : Rws W c 1 cInt C
theorem open_chase {H : Type} {enc : TypeId × Value → H} {W : World} {v : Value} {d : DataW H} {p : List MemPlace} {r : Reach} {b0 : Nat} (hok : Value.okWide Try.prog W r b0 53 v) (h : DataW.Trod enc Try.prog W 0 (fun _ => true) true 53 v d p) (_ : ∀ q ∈ DataW.weights Try.prog 53 d, q ≤ reachBytes) : ∃ a b c A B C o d, v = .agg #[a, b, c, .int .i64 o, .int .i64 d] ∧ Chs W a b c A B C o d := by
  obtain ⟨cs, rfl, hsz⟩ := okWide_strG Try.underlying53 hok
  obtain ⟨fuel, hf⟩ := h
  have hl : cs.toList.length = 5 := by rw [Array.length_toList, hsz]; exact cells_chase
  obtain ⟨c0, c1, c2, c3, c4, hq⟩ := list5 hl
  have hf' : DataW.trod enc Try.prog W 0 (fun _ => true) true fuel 53 cs.toList = _ := hf
  rw [hq] at hf'
  obtain ⟨_, _, h0⟩ := sub_field Try.underlying53 hf' 0 25 0 1 rfl cells_ints
  obtain ⟨_, _, h1⟩ := sub_field Try.underlying53 hf' 1 25 1 1 rfl cells_ints
  obtain ⟨_, _, h2⟩ := sub_field Try.underlying53 hf' 2 25 2 1 rfl cells_ints
  obtain ⟨o, e3, ho⟩ := int_field Try.underlying53 hf' 3 3 rfl rfl
  obtain ⟨d, e4, hd⟩ := int_field Try.underlying53 hf' 4 4 rfl rfl
  subst e3 e4
  simp only [List.drop_zero, List.take_succ_cons, List.take_zero, List.drop_succ_cons] at h0 h1 h2
  obtain ⟨A, _, hA, _⟩ := open_rws (k := 1) (cel := cInt) (ok := I64) (by omega) (fun _ => rfl) Try.underlying25 cells_int (fun n cs y h hl => one_int n cs y h hl) h0
  obtain ⟨B, _, hB, _⟩ := open_rws (k := 1) (cel := cInt) (ok := I64) (by omega) (fun _ => rfl) Try.underlying25 cells_int (fun n cs y h hl => one_int n cs y h hl) h1
  obtain ⟨C, _, hC, _⟩ := open_rws (k := 1) (cel := cInt) (ok := I64) (by omega) (fun _ => rfl) Try.underlying25 cells_int (fun n cs y h hl => one_int n cs y h hl) h2
  refine ⟨c0, c1, c2, A, B, C, o, d, ?_, ⟨ho, hd, hA, hB, hC⟩⟩
  have : cs = #[c0, c1, c2, .int .i64 o, .int .i64 d] := by apply Array.ext'; exact hq
  rw [this]
end Go.Proofs.Ythldohfjkjhdcaa
