/- Worlds, motors and ticks that came in. -/
import Derived.Test.YtpoodmfhcoaleaaWd5
import Derived.Test.YtpoodmfhcoaleaaGnO
namespace Go.Proofs.Ytpoodmfhcoaleaa
open Go.RowKit Go.Great Go.Deep Go.WideShapes Go.ChangeShapes

theorem cells_three : Try.prog.cellsOf 22 = 3 := by kernel_rfl
theorem cells_eight : Try.prog.cellsOf 26 = 8 := by kernel_rfl
theorem cells_world : Try.prog.cellsOf 24 = 9 := by kernel_rfl
theorem cells_tick : Try.prog.cellsOf 28 = 13 := by kernel_rfl
theorem listW8 {l : List Value} (h : l.length = 8) : ∃ c0 c1 c2 c3 c4 c5 c6 c7, l = [c0, c1, c2, c3, c4, c5, c6, c7] := by
  match l, h with
  | [c0, c1, c2, c3, c4, c5, c6, c7], _ => exact ⟨c0, c1, c2, c3, c4, c5, c6, c7, rfl⟩
theorem listW9 {l : List Value} (h : l.length = 9) : ∃ c0 c1 c2 c3 c4 c5 c6 c7 c8, l = [c0, c1, c2, c3, c4, c5, c6, c7, c8] := by
  match l, h with
  | [c0, c1, c2, c3, c4, c5, c6, c7, c8], _ => exact ⟨c0, c1, c2, c3, c4, c5, c6, c7, c8, rfl⟩
theorem listW13 {l : List Value} (h : l.length = 13) : ∃ c0 c1 c2 c3 c4 c5 c6 c7 c8 c9 c10 c11 c12, l = [c0, c1, c2, c3, c4, c5, c6, c7, c8, c9, c10, c11, c12] := by
  match l, h with
  | [c0, c1, c2, c3, c4, c5, c6, c7, c8, c9, c10, c11, c12], _ => exact ⟨c0, c1, c2, c3, c4, c5, c6, c7, c8, c9, c10, c11, c12, rfl⟩
section
variable {H : Type} {enc : TypeId × Value → H} {W : World} {base : Nat} {spare : Nat → Bool} {held : Bool}
theorem three_ints {n : Nat} {c0 c1 c2 : Value} {y : DataW H × List MemPlace} (h : DataW.trod enc Try.prog W base spare held n 22 [c0, c1, c2] = some y) : ∃ a b c : Int, (I64 a ∧ I64 b ∧ I64 c) ∧ c0 = .int .i64 a ∧ c1 = .int .i64 b ∧ c2 = .int .i64 c := by
  obtain ⟨xs, m, _, _, _, hl, hel⟩ := DataW.trod_array Try.underlying22 h
  have g : ∀ i (hi : i < 3), ∃ z, xs[i]? = some z := fun i hi => ⟨xs[i]'(by omega), by simp [hl, hi]⟩
  obtain ⟨z0, g0⟩ := g 0 (by omega)
  obtain ⟨z1, g1⟩ := g 1 (by omega)
  obtain ⟨z2, g2⟩ := g 2 (by omega)
  have h0 := hel 0 (by omega)
  have h1 := hel 1 (by omega)
  have h2 := hel 2 (by omega)
  rw [g0] at h0
  rw [g1] at h1
  rw [g2] at h2
  simp only [cells_int, Nat.zero_mul, Nat.one_mul, Nat.reduceMul, List.drop_zero, List.take_succ_cons, List.take_zero, List.drop_succ_cons] at h0 h1 h2
  obtain ⟨p, e0, _, w0⟩ := DataW.trod_int Try.underlying3 h0
  obtain ⟨q, e1, _, w1⟩ := DataW.trod_int Try.underlying3 h1
  obtain ⟨r, e2, _, w2⟩ := DataW.trod_int Try.underlying3 h2
  simp at e0 e1 e2
  exact ⟨p, q, r, ⟨wf_i64 w0, wf_i64 w1, wf_i64 w2⟩, e0, e1, e2⟩
/-- margins, each an int -/
theorem eight_ints {n : Nat} {c0 c1 c2 c3 c4 c5 c6 c7 : Value} {y : DataW H × List MemPlace} (h : DataW.trod enc Try.prog W base spare held n 26 [c0, c1, c2, c3, c4, c5, c6, c7] = some y) : ∃ n0 n1 n2 n3 n4 n5 n6 n7 : Int, c0 = .int .i64 n0 ∧ c1 = .int .i64 n1 ∧ c2 = .int .i64 n2 ∧ c3 = .int .i64 n3 ∧ c4 = .int .i64 n4 ∧ c5 = .int .i64 n5 ∧ c6 = .int .i64 n6 ∧ c7 = .int .i64 n7 := by
  obtain ⟨xs, m, _, _, _, hl, hel⟩ := DataW.trod_array Try.underlying26 h
  have each : ∀ i, i < 8 → ∃ c : Int, ([c0, c1, c2, c3, c4, c5, c6, c7].drop i).take 1 = [.int .i64 c] := by
    intro i hi
    have h0 := hel i hi
    rw [show xs[i]? = some (xs[i]'(by omega)) by simp [hl, hi]] at h0
    simp only [cells_int, Nat.mul_one] at h0
    obtain ⟨c, e0, _⟩ := DataW.trod_int Try.underlying3 h0
    exact ⟨c, e0⟩
  obtain ⟨n0, e0⟩ := each 0 (by omega)
  obtain ⟨n1, e1⟩ := each 1 (by omega)
  obtain ⟨n2, e2⟩ := each 2 (by omega)
  obtain ⟨n3, e3⟩ := each 3 (by omega)
  obtain ⟨n4, e4⟩ := each 4 (by omega)
  obtain ⟨n5, e5⟩ := each 5 (by omega)
  obtain ⟨n6, e6⟩ := each 6 (by omega)
  obtain ⟨n7, e7⟩ := each 7 (by omega)
  simp only [List.drop_zero, List.take_succ_cons, List.take_zero, List.drop_succ_cons, List.cons.injEq, and_true] at e0 e1 e2 e3 e4 e5 e6 e7
  exact ⟨n0, n1, n2, n3, n4, n5, n6, n7, e0, e1, e2, e3, e4, e5, e6, e7⟩
theorem one_world {n : Nat} {c0 c1 c2 c3 c4 c5 c6 c7 c8 : Value} {y : DataW H × List MemPlace} (h : DataW.trod enc Try.prog W base spare held n 24 [c0, c1, c2, c3, c4, c5, c6, c7, c8] = some y) : ∃ o : Wo, WOk o ∧ c0 = .int .i64 o.p0 ∧ c1 = .int .i64 o.p1 ∧ c2 = .int .i64 o.p2 ∧ c3 = .int .i64 o.v0 ∧ c4 = .int .i64 o.v1 ∧ c5 = .int .i64 o.v2 ∧ c6 = .int .i64 o.h ∧ c7 = .int .i64 o.r ∧ c8 = .int .i64 o.c := by
  obtain ⟨_, _, h0⟩ := sub_field Try.underlying24 h 0 22 0 3 rfl cells_three
  obtain ⟨_, _, h1⟩ := sub_field Try.underlying24 h 1 22 3 3 rfl cells_three
  obtain ⟨a2, rfl, w2⟩ := int_field Try.underlying24 h 2 6 rfl rfl
  obtain ⟨a3, rfl, w3⟩ := int_field Try.underlying24 h 3 7 rfl rfl
  obtain ⟨a4, rfl, w4⟩ := int_field Try.underlying24 h 4 8 rfl rfl
  simp only [List.drop_zero, List.take_succ_cons, List.take_zero, List.drop_succ_cons] at h0 h1
  obtain ⟨x0, x1, x2, ⟨i0, i1, i2⟩, rfl, rfl, rfl⟩ := three_ints h0
  obtain ⟨y0, y1, y2, ⟨j0, j1, j2⟩, rfl, rfl, rfl⟩ := three_ints h1
  exact ⟨⟨x0, x1, x2, y0, y1, y2, a2, a3, a4⟩, ⟨i0, i1, i2, j0, j1, j2, w2, w3, w4⟩, rfl, rfl, rfl, rfl, rfl, rfl, rfl, rfl, rfl⟩
/-- one tick -/
structure Tk where
  m0 : Int
  m1 : Int
  m2 : Int
  m3 : Int
  m4 : Int
  m5 : Int
  m6 : Int
  m7 : Int
  d : Int
  a : Int
  b : Int
  c : Int
  dr : Int
structure TOk (x : Tk) : Prop where
  d : I64 x.d
  a : I64 x.a
  b : I64 x.b
  c : I64 x.c
  dr : I64 x.dr
abbrev tkC (x : Tk) : Array Value := #[.int .i64 x.m0, .int .i64 x.m1, .int .i64 x.m2, .int .i64 x.m3, .int .i64 x.m4, .int .i64 x.m5, .int .i64 x.m6, .int .i64 x.m7, .int .i64 x.d, .int .i64 x.a, .int .i64 x.b, .int .i64 x.c, .int .i64 x.dr]
def tkL (x : Tk) : List Value := [.int .i64 x.m0, .int .i64 x.m1, .int .i64 x.m2, .int .i64 x.m3, .int .i64 x.m4, .int .i64 x.m5, .int .i64 x.m6, .int .i64 x.m7, .int .i64 x.d, .int .i64 x.a, .int .i64 x.b, .int .i64 x.c, .int .i64 x.dr]
theorem one_tick (n : Nat) (cs : List Value) (y : DataW H × List MemPlace) (h : DataW.trod enc Try.prog W base spare held n 28 cs = some y) (hl : cs.length = 13) : ∃ x, TOk x ∧ cs = tkL x := by
  obtain ⟨c0, c1, c2, c3, c4, c5, c6, c7, c8, c9, c10, c11, c12, rfl⟩ := listW13 hl
  obtain ⟨_, _, h0⟩ := sub_field Try.underlying28 h 0 26 0 8 rfl cells_eight
  obtain ⟨d, rfl, wd⟩ := int_field Try.underlying28 h 1 8 rfl rfl
  obtain ⟨_, _, h2⟩ := sub_field Try.underlying28 h 2 22 9 3 rfl cells_three
  obtain ⟨dr, rfl, wr⟩ := int_field Try.underlying28 h 3 12 rfl rfl
  simp only [List.drop_zero, List.take_succ_cons, List.take_zero, List.drop_succ_cons] at h0 h2
  obtain ⟨n0, n1, n2, n3, n4, n5, n6, n7, rfl, rfl, rfl, rfl, rfl, rfl, rfl, rfl⟩ := eight_ints h0
  obtain ⟨a, b, c, ⟨i0, i1, i2⟩, rfl, rfl, rfl⟩ := three_ints h2
  exact ⟨⟨n0, n1, n2, n3, n4, n5, n6, n7, d, a, b, c, dr⟩, ⟨wd, i0, i1, i2, wr⟩, rfl⟩
end
/-- eight motors that came in -/
theorem open_motors {H : Type} {enc : TypeId × Value → H} {W : World} {v : Value} {d : DataW H} {p : List MemPlace} {r : Reach} {b0 : Nat} (hok : Value.okWide Try.prog W r b0 26 v) (h : DataW.Trod enc Try.prog W 0 (fun _ => true) true 26 v d p) (_ : ∀ q ∈ DataW.weights Try.prog 26 d, q ≤ reachBytes) : ∃ n0 n1 n2 n3 n4 n5 n6 n7 : Int, v = eV n0 n1 n2 n3 n4 n5 n6 n7 := by
  simp only [Value.okWide, Try.underlying26] at hok
  obtain ⟨cs, rfl, hsz, _⟩ := hok
  obtain ⟨fuel, hf⟩ := h
  have hl : cs.toList.length = 8 := by rw [Array.length_toList, hsz]; exact cells_eight
  obtain ⟨c0, c1, c2, c3, c4, c5, c6, c7, hq⟩ := listW8 hl
  have hf' : DataW.trod enc Try.prog W 0 (fun _ => true) true fuel 26 cs.toList = _ := hf
  rw [hq] at hf'
  obtain ⟨n0, n1, n2, n3, n4, n5, n6, n7, rfl, rfl, rfl, rfl, rfl, rfl, rfl, rfl⟩ := eight_ints hf'
  exact ⟨n0, n1, n2, n3, n4, n5, n6, n7, congrArg Value.agg (Array.ext' hq)⟩
set_option maxRecDepth 100000 in
/-- a world that came in -/
theorem open_world {H : Type} {enc : TypeId × Value → H} {W : World} {v : Value} {d : DataW H} {p : List MemPlace} {r : Reach} {b0 : Nat} (hok : Value.okWide Try.prog W r b0 24 v) (h : DataW.Trod enc Try.prog W 0 (fun _ => true) true 24 v d p) (_ : ∀ q ∈ DataW.weights Try.prog 24 d, q ≤ reachBytes) : ∃ o : Wo, WOk o ∧ v = woV o := by
  obtain ⟨cs, rfl, hsz⟩ := okWide_strG Try.underlying24 hok
  obtain ⟨fuel, hf⟩ := h
  have hl : cs.toList.length = 9 := by rw [Array.length_toList, hsz]; exact cells_world
  obtain ⟨c0, c1, c2, c3, c4, c5, c6, c7, c8, hq⟩ := listW9 hl
  have hf' : DataW.trod enc Try.prog W 0 (fun _ => true) true fuel 24 cs.toList = _ := hf
  rw [hq] at hf'
  obtain ⟨o, ho, rfl, rfl, rfl, rfl, rfl, rfl, rfl, rfl, rfl⟩ := one_world hf'
  exact ⟨o, ho, congrArg Value.agg (Array.ext' hq)⟩
set_option maxRecDepth 100000 in
/-- a tick that came in -/
theorem open_tick {H : Type} {enc : TypeId × Value → H} {W : World} {v : Value} {d : DataW H} {p : List MemPlace} {r : Reach} {b0 : Nat} (hok : Value.okWide Try.prog W r b0 28 v) (h : DataW.Trod enc Try.prog W 0 (fun _ => true) true 28 v d p) (_ : ∀ q ∈ DataW.weights Try.prog 28 d, q ≤ reachBytes) : ∃ x : Tk, TOk x ∧ v = .agg (tkC x) := by
  obtain ⟨cs, rfl, hsz⟩ := okWide_strG Try.underlying28 hok
  obtain ⟨fuel, hf⟩ := h
  have hl : cs.toList.length = 13 := by rw [Array.length_toList, hsz]; exact cells_tick
  have hf' : DataW.trod enc Try.prog W 0 (fun _ => true) true fuel 28 cs.toList = _ := hf
  obtain ⟨x, hx, hq⟩ := one_tick _ _ _ hf' hl
  exact ⟨x, hx, congrArg Value.agg (Array.ext' hq)⟩
set_option maxRecDepth 100000 in
theorem open_ticks {H : Type} {enc : TypeId × Value → H} {W : World} {v : Value} {d : DataW H} {p : List MemPlace} {r : Reach} {b0 : Nat} (hok : Value.okWide Try.prog W r b0 25 v) (h : DataW.Trod enc Try.prog W 0 (fun _ => true) true 25 v d p) (_ : ∀ q ∈ DataW.weights Try.prog 25 d, q ≤ reachBytes) : ∃ L, (∀ x ∈ L, TOk x) ∧ Rws W v 13 tkL L := by
  obtain ⟨ad, ln, cp, rfl⟩ := okWide_slice Try.underlying25 hok
  obtain ⟨fuel, hf⟩ := h
  obtain ⟨L, h1, h2, _⟩ := open_rws (k := 13) (cel := tkL) (ok := TOk) (by omega) (fun _ => rfl) Try.underlying25 (by kernel_rfl) (fun n cs y h hl => one_tick n cs y h hl) hf
  exact ⟨L, h1, h2⟩
end Go.Proofs.Ytpoodmfhcoaleaa
