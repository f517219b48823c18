/- Cases, brakes, asks and calms that came in. -/
import Derived.Test.YtjinfjibodoflaaGu5
import Derived.Test.YtjinfjibodoflaaGnO
namespace Go.Proofs.Ytjinfjibodoflaa
open Go.RowKit Go.Great Go.Deep Go.WideShapes Go.ChangeShapes

/-- an int of a row -/
def cInt (x : Int) : List Value := [.int .i64 x]
theorem cells_ints : Try.prog.cellsOf 39 = 1 := by kernel_rfl
theorem cells_three : Try.prog.cellsOf 30 = 3 := by kernel_rfl
theorem cells_span : Try.prog.cellsOf 26 = 2 := by kernel_rfl
theorem cells_axis : Try.prog.cellsOf 28 = 4 := by kernel_rfl
theorem cells_axes : Try.prog.cellsOf 29 = 12 := by kernel_rfl
theorem cells_marg : Try.prog.cellsOf 32 = 6 := by kernel_rfl
theorem cells_case : Try.prog.cellsOf 34 = 21 := by kernel_rfl
theorem cells_brakes : Try.prog.cellsOf 41 = 13 := by kernel_rfl
theorem cells_calm : Try.prog.cellsOf 55 = 4 := by kernel_rfl
theorem listG21 {l : List Value} (h : l.length = 21) : ∃ c0 c1 c2 c3 c4 c5 c6 c7 c8 c9 c10 c11 c12 c13 c14 c15 c16 c17 c18 c19 c20, l = [c0, c1, c2, c3, c4, c5, c6, c7, c8, c9, c10, c11, c12, c13, c14, c15, c16, c17, c18, c19, c20] := by
  match l, h with
  | [c0, c1, c2, c3, c4, c5, c6, c7, c8, c9, c10, c11, c12, c13, c14, c15, c16, c17, c18, c19, c20], _ => exact ⟨c0, c1, c2, c3, c4, c5, c6, c7, c8, c9, c10, c11, c12, c13, c14, c15, c16, c17, c18, c19, c20, rfl⟩
theorem listG13 {l : List Value} (h : l.length = 13) : ∃ c0 c1 c2 c3 c4 c5 c6 c7 c8 c9 c10 c11 c12, l = [c0, c1, c2, c3, c4, c5, c6, c7, c8, c9, c10, c11, c12] := by
  match l, h with
  | [c0, c1, c2, c3, c4, c5, c6, c7, c8, c9, c10, c11, c12], _ => exact ⟨c0, c1, c2, c3, c4, c5, c6, c7, c8, c9, c10, c11, c12, rfl⟩
theorem listG5 {l : List Value} (h : l.length = 5) : ∃ c0 c1 c2 c3 c4, l = [c0, c1, c2, c3, c4] := by
  match l, h with
  | [c0, c1, c2, c3, c4], _ => exact ⟨c0, c1, c2, c3, c4, rfl⟩
theorem listG4 {l : List Value} (h : l.length = 4) : ∃ c0 c1 c2 c3, l = [c0, c1, c2, c3] := by
  match l, h with
  | [c0, c1, c2, c3], _ => exact ⟨c0, c1, c2, c3, rfl⟩
section
variable {H : Type} {enc : TypeId × Value → H} {W : World} {base : Nat} {spare : Nat → Bool} {held : Bool}
theorem one_int (n : Nat) (cs : List Value) (y : DataW H × List MemPlace) (h : DataW.trod enc Try.prog W base spare held n 3 cs = some y) (_ : cs.length = 1) : ∃ x, I64 x ∧ cs = cInt x := by
  obtain ⟨b, e1, _, w1⟩ := DataW.trod_int Try.underlying3 h
  exact ⟨b, wf_i64 w1, e1⟩
theorem one_span {n : Nat} {c0 c1 : Value} {y : DataW H × List MemPlace} (h : DataW.trod enc Try.prog W base spare held n 26 [c0, c1] = some y) : ∃ a b : Int, (I64 a ∧ I64 b) ∧ c0 = .int .i64 a ∧ c1 = .int .i64 b := by
  obtain ⟨a0, rfl, w0⟩ := int_field Try.underlying26 h 0 0 rfl rfl
  obtain ⟨a1, rfl, w1⟩ := int_field Try.underlying26 h 1 1 rfl rfl
  exact ⟨a0, a1, ⟨w0, w1⟩, rfl, rfl⟩
theorem one_axis {n : Nat} {c0 c1 c2 c3 : Value} {y : DataW H × List MemPlace} (h : DataW.trod enc Try.prog W base spare held n 28 [c0, c1, c2, c3] = some y) : ∃ a : Ax, AOk a ∧ c0 = .int .i64 a.pl ∧ c1 = .int .i64 a.ph ∧ c2 = .int .i64 a.vl ∧ c3 = .int .i64 a.vh := by
  obtain ⟨_, _, h0⟩ := sub_field Try.underlying28 h 0 26 0 2 rfl cells_span
  obtain ⟨_, _, h1⟩ := sub_field Try.underlying28 h 1 26 2 2 rfl cells_span
  simp only [List.drop_zero, List.take_succ_cons, List.take_zero, List.drop_succ_cons] at h0 h1
  obtain ⟨a, b, ⟨ha, hb⟩, rfl, rfl⟩ := one_span h0
  obtain ⟨c, d, ⟨hc, hd⟩, rfl, rfl⟩ := one_span h1
  exact ⟨⟨a, b, c, d⟩, ⟨ha, hb, hc, hd⟩, rfl, rfl, rfl, rfl⟩
theorem three_axes {n : Nat} {c0 c1 c2 c3 c4 c5 c6 c7 c8 c9 c10 c11 : Value} {y : DataW H × List MemPlace} (h : DataW.trod enc Try.prog W base spare held n 29 [c0, c1, c2, c3, c4, c5, c6, c7, c8, c9, c10, c11] = some y) : ∃ p q r : Ax, (AOk p ∧ AOk q ∧ AOk r) ∧ c0 = .int .i64 p.pl ∧ c1 = .int .i64 p.ph ∧ c2 = .int .i64 p.vl ∧ c3 = .int .i64 p.vh ∧ c4 = .int .i64 q.pl ∧ c5 = .int .i64 q.ph ∧ c6 = .int .i64 q.vl ∧ c7 = .int .i64 q.vh ∧ c8 = .int .i64 r.pl ∧ c9 = .int .i64 r.ph ∧ c10 = .int .i64 r.vl ∧ c11 = .int .i64 r.vh := by
  obtain ⟨xs, m, _, _, _, hl, hel⟩ := DataW.trod_array Try.underlying29 h
  have g : ∀ i (hi : i < 3), ∃ z, xs[i]? = some z := fun i hi => ⟨xs[i]'(by omega), by simp [hl, hi]⟩
  obtain ⟨z0, g0⟩ := g 0 (by omega)
  obtain ⟨z1, g1⟩ := g 1 (by omega)
  obtain ⟨z2, g2⟩ := g 2 (by omega)
  have h0 := hel 0 (by omega)
  have h1 := hel 1 (by omega)
  have h2 := hel 2 (by omega)
  rw [g0] at h0
  rw [g1] at h1
  rw [g2] at h2
  simp only [cells_axis, Nat.zero_mul, Nat.one_mul, Nat.reduceMul, List.drop_zero, List.take_succ_cons, List.take_zero, List.drop_succ_cons] at h0 h1 h2
  obtain ⟨p, hp, rfl, rfl, rfl, rfl⟩ := one_axis h0
  obtain ⟨q, hq, rfl, rfl, rfl, rfl⟩ := one_axis h1
  obtain ⟨r, hr, rfl, rfl, rfl, rfl⟩ := one_axis h2
  exact ⟨p, q, r, ⟨hp, hq, hr⟩, rfl, rfl, rfl, rfl, rfl, rfl, rfl, rfl, rfl, rfl, rfl, rfl⟩
theorem three_ints {n : Nat} {c0 c1 c2 : Value} {y : DataW H × List MemPlace} (h : DataW.trod enc Try.prog W base spare held n 30 [c0, c1, c2] = some y) : ∃ a b c : Int, (I64 a ∧ I64 b ∧ I64 c) ∧ c0 = .int .i64 a ∧ c1 = .int .i64 b ∧ c2 = .int .i64 c := by
  obtain ⟨xs, m, _, _, _, hl, hel⟩ := DataW.trod_array Try.underlying30 h
  have g : ∀ i (hi : i < 3), ∃ z, xs[i]? = some z := fun i hi => ⟨xs[i]'(by omega), by simp [hl, hi]⟩
  obtain ⟨z0, g0⟩ := g 0 (by omega)
  obtain ⟨z1, g1⟩ := g 1 (by omega)
  obtain ⟨z2, g2⟩ := g 2 (by omega)
  have h0 := hel 0 (by omega)
  have h1 := hel 1 (by omega)
  have h2 := hel 2 (by omega)
  rw [g0] at h0
  rw [g1] at h1
  rw [g2] at h2
  simp only [cells_int, Nat.zero_mul, Nat.one_mul, Nat.reduceMul, List.drop_zero, List.take_succ_cons, List.take_zero, List.drop_succ_cons] at h0 h1 h2
  obtain ⟨p, e0, _, w0⟩ := DataW.trod_int Try.underlying3 h0
  obtain ⟨q, e1, _, w1⟩ := DataW.trod_int Try.underlying3 h1
  obtain ⟨r, e2, _, w2⟩ := DataW.trod_int Try.underlying3 h2
  simp at e0 e1 e2
  exact ⟨p, q, r, ⟨wf_i64 w0, wf_i64 w1, wf_i64 w2⟩, e0, e1, e2⟩
/-- margins, each an int -/
structure MgOk (m : Mg) : Prop where
  br : I64 m.br
  dr : I64 m.dr
  jo : I64 m.jo
  fa : I64 m.fa
  la : I64 m.la
  dn : I64 m.dn
theorem one_marg {n : Nat} {c0 c1 c2 c3 c4 c5 : Value} {y : DataW H × List MemPlace} (h : DataW.trod enc Try.prog W base spare held n 32 [c0, c1, c2, c3, c4, c5] = some y) : ∃ m : Mg, MgOk m ∧ c0 = .int .i64 m.br ∧ c1 = .int .i64 m.dr ∧ c2 = .int .i64 m.jo ∧ c3 = .int .i64 m.fa ∧ c4 = .int .i64 m.la ∧ c5 = .int .i64 m.dn := by
  obtain ⟨a0, rfl, w0⟩ := int_field Try.underlying32 h 0 0 rfl rfl
  obtain ⟨a1, rfl, w1⟩ := int_field Try.underlying32 h 1 1 rfl rfl
  obtain ⟨a2, rfl, w2⟩ := int_field Try.underlying32 h 2 2 rfl rfl
  obtain ⟨a3, rfl, w3⟩ := int_field Try.underlying32 h 3 3 rfl rfl
  obtain ⟨a4, rfl, w4⟩ := int_field Try.underlying32 h 4 4 rfl rfl
  obtain ⟨a5, rfl, w5⟩ := int_field Try.underlying32 h 5 5 rfl rfl
  exact ⟨⟨a0, a1, a2, a3, a4, a5⟩, ⟨w0, w1, w2, w3, w4, w5⟩, rfl, rfl, rfl, rfl, rfl, rfl⟩
/-- one call of a backup -/
structure Ask1 where
  k : Bool
  a : Int
  b : Int
  c : Int
  f : Int
structure AskOk (x : Ask1) : Prop where
  a : I64 x.a
  b : I64 x.b
  c : I64 x.c
  f : I64 x.f
def cAsk (x : Ask1) : List Value := [.bool x.k, .int .i64 x.a, .int .i64 x.b, .int .i64 x.c, .int .i64 x.f]
theorem one_Ask (n : Nat) (cs : List Value) (y : DataW H × List MemPlace) (h : DataW.trod enc Try.prog W base spare held n 47 cs = some y) (hl : cs.length = 5) : ∃ x, AskOk x ∧ cs = cAsk x := by
  obtain ⟨c0, c1, c2, c3, c4, rfl⟩ := listG5 hl
  obtain ⟨b, rfl⟩ := bool_field Try.underlying47 h 0 0 rfl rfl
  obtain ⟨_, _, h1⟩ := sub_field Try.underlying47 h 1 30 1 3 rfl cells_three
  obtain ⟨f, rfl, wf⟩ := int_field Try.underlying47 h 2 4 rfl rfl
  simp only [List.drop_zero, List.take_succ_cons, List.take_zero, List.drop_succ_cons] at h1
  obtain ⟨x0, x1, x2, ⟨a0, a1, a2⟩, rfl, rfl, rfl⟩ := three_ints h1
  exact ⟨⟨b, x0, x1, x2, f⟩, ⟨a0, a1, a2, wf⟩, rfl⟩
end
theorem open_asks {H : Type} {enc : TypeId × Value → H} {W : World} {v : Value} {d : DataW H} {p : List MemPlace} {r : Reach} {b0 : Nat} (hok : Value.okWide Try.prog W r b0 43 v) (h : DataW.Trod enc Try.prog W 0 (fun _ => true) true 43 v d p) (_ : ∀ q ∈ DataW.weights Try.prog 43 d, q ≤ reachBytes) : ∃ L, (∀ x ∈ L, AskOk x) ∧ Rws W v 5 cAsk L := by
  obtain ⟨ad, ln, cp, rfl⟩ := okWide_slice Try.underlying43 hok
  obtain ⟨fuel, hf⟩ := h
  obtain ⟨L, h1, h2, _⟩ := open_rws (k := 5) (cel := cAsk) (ok := AskOk) (by omega) (fun _ => rfl) Try.underlying43 (by kernel_rfl) (fun n cs y h hl => one_Ask n cs y h hl) hf
  exact ⟨L, h1, h2⟩
abbrev caC (a b c : Ax) (x y z : Int) (m : Mg) : Array Value := #[.int .i64 a.pl, .int .i64 a.ph, .int .i64 a.vl, .int .i64 a.vh, .int .i64 b.pl, .int .i64 b.ph, .int .i64 b.vl, .int .i64 b.vh, .int .i64 c.pl, .int .i64 c.ph, .int .i64 c.vl, .int .i64 c.vh, .int .i64 x, .int .i64 y, .int .i64 z, .int .i64 m.br, .int .i64 m.dr, .int .i64 m.jo, .int .i64 m.fa, .int .i64 m.la, .int .i64 m.dn]
set_option maxRecDepth 100000 in
theorem open_case {H : Type} {enc : TypeId × Value → H} {W : World} {v : Value} {d : DataW H} {p : List MemPlace} {r : Reach} {b0 : Nat} (hok : Value.okWide Try.prog W r b0 34 v) (h : DataW.Trod enc Try.prog W 0 (fun _ => true) true 34 v d p) (_ : ∀ q ∈ DataW.weights Try.prog 34 d, q ≤ reachBytes) : ∃ a b c x y z m, v = .agg (caC a b c x y z m) ∧ (AOk a ∧ AOk b ∧ AOk c) ∧ (I64 x ∧ I64 y ∧ I64 z) ∧ MgOk m := by
  obtain ⟨cs, rfl, hsz⟩ := okWide_strG Try.underlying34 hok
  obtain ⟨fuel, hf⟩ := h
  have hl : cs.toList.length = 21 := by rw [Array.length_toList, hsz]; exact cells_case
  obtain ⟨c0, c1, c2, c3, c4, c5, c6, c7, c8, c9, c10, c11, c12, c13, c14, c15, c16, c17, c18, c19, c20, hq⟩ := listG21 hl
  have hf' : DataW.trod enc Try.prog W 0 (fun _ => true) true fuel 34 cs.toList = _ := hf
  rw [hq] at hf'
  obtain ⟨_, _, h0⟩ := sub_field Try.underlying34 hf' 0 29 0 12 rfl cells_axes
  obtain ⟨_, _, h1⟩ := sub_field Try.underlying34 hf' 1 30 12 3 rfl cells_three
  obtain ⟨_, _, h2⟩ := sub_field Try.underlying34 hf' 2 32 15 6 rfl cells_marg
  simp only [List.drop_zero, List.take_succ_cons, List.take_zero, List.drop_succ_cons] at h0 h1 h2
  obtain ⟨a, b, c, hA, rfl, rfl, rfl, rfl, rfl, rfl, rfl, rfl, rfl, rfl, rfl, rfl⟩ := three_axes h0
  obtain ⟨x, y, z, hI, rfl, rfl, rfl⟩ := three_ints h1
  obtain ⟨m, hM, rfl, rfl, rfl, rfl, rfl, rfl⟩ := one_marg h2
  exact ⟨a, b, c, x, y, z, m, congrArg Value.agg (Array.ext' hq), hA, hI, hM⟩
/-- brakes, as they came in -/
structure Brk where
  pl : Int
  ph : Int
  vl : Int
  vh : Int
  at_ : Int
  sp : Int
  ac : Int
  wi : Int
  ex : Int
  jo : Int
  gi : Int
  wh : Int
structure BrkOk (x : Brk) : Prop where
  pl : I64 x.pl
  ph : I64 x.ph
  vl : I64 x.vl
  vh : I64 x.vh
  at_ : I64 x.at_
  sp : I64 x.sp
  ac : I64 x.ac
  wi : I64 x.wi
  ex : I64 x.ex
  jo : I64 x.jo
  gi : I64 x.gi
  wh : I64 x.wh
abbrev brC (x : Brk) (u : Value) : Array Value := #[.int .i64 x.pl, .int .i64 x.ph, .int .i64 x.vl, .int .i64 x.vh, .int .i64 x.at_, .int .i64 x.sp, .int .i64 x.ac, .int .i64 x.wi, .int .i64 x.ex, u, .int .i64 x.jo, .int .i64 x.gi, .int .i64 x.wh]
set_option maxRecDepth 100000 in
theorem open_brakes {H : Type} {enc : TypeId × Value → H} {W : World} {v : Value} {d : DataW H} {p : List MemPlace} {r : Reach} {b0 : Nat} (hok : Value.okWide Try.prog W r b0 41 v) (h : DataW.Trod enc Try.prog W 0 (fun _ => true) true 41 v d p) (_ : ∀ q ∈ DataW.weights Try.prog 41 d, q ≤ reachBytes) : ∃ x u L, v = .agg (brC x u) ∧ BrkOk x ∧ (∀ y ∈ L, I64 y) ∧ Rws W u 1 cInt L := by
  obtain ⟨cs, rfl, hsz⟩ := okWide_strG Try.underlying41 hok
  obtain ⟨fuel, hf⟩ := h
  have hl : cs.toList.length = 13 := by rw [Array.length_toList, hsz]; exact cells_brakes
  obtain ⟨c0, c1, c2, c3, c4, c5, c6, c7, c8, c9, c10, c11, c12, hq⟩ := listG13 hl
  have hf' : DataW.trod enc Try.prog W 0 (fun _ => true) true fuel 41 cs.toList = _ := hf
  rw [hq] at hf'
  obtain ⟨_, _, h0⟩ := sub_field Try.underlying41 hf' 0 26 0 2 rfl cells_span
  obtain ⟨_, _, h1⟩ := sub_field Try.underlying41 hf' 1 26 2 2 rfl cells_span
  obtain ⟨_, _, h7⟩ := sub_field Try.underlying41 hf' 7 39 9 1 rfl cells_ints
  obtain ⟨a2, e2, w2⟩ := int_field Try.underlying41 hf' 2 4 rfl rfl
  obtain ⟨a3, e3, w3⟩ := int_field Try.underlying41 hf' 3 5 rfl rfl
  obtain ⟨a4, e4, w4⟩ := int_field Try.underlying41 hf' 4 6 rfl rfl
  obtain ⟨a5, e5, w5⟩ := int_field Try.underlying41 hf' 5 7 rfl rfl
  obtain ⟨a6, e6, w6⟩ := int_field Try.underlying41 hf' 6 8 rfl rfl
  obtain ⟨a8, e8, w8⟩ := int_field Try.underlying41 hf' 8 10 rfl rfl
  obtain ⟨a9, e9, w9⟩ := int_field Try.underlying41 hf' 9 11 rfl rfl
  obtain ⟨a10, e10, w10⟩ := int_field Try.underlying41 hf' 10 12 rfl rfl
  simp only [List.drop_zero, List.take_succ_cons, List.take_zero, List.drop_succ_cons] at h0 h1 h7
  obtain ⟨pl, ph, ⟨w0, w0'⟩, rfl, rfl⟩ := one_span h0
  obtain ⟨vl, vh, ⟨w1, w1'⟩, rfl, rfl⟩ := one_span h1
  subst e2 e3 e4 e5 e6 e8 e9 e10
  obtain ⟨L, hL, hR, _⟩ := open_rws (k := 1) (cel := cInt) (ok := I64) (by omega) (fun _ => rfl) Try.underlying39 cells_int (fun n cs y h hl => one_int n cs y h hl) h7
  exact ⟨⟨pl, ph, vl, vh, a2, a3, a4, a5, a6, a8, a9, a10⟩, c9, L, congrArg Value.agg (Array.ext' hq), ⟨w0, w0', w1, w1', w2, w3, w4, w5, w6, w8, w9, w10⟩, hL, hR⟩
set_option maxRecDepth 100000 in
theorem open_calm {H : Type} {enc : TypeId × Value → H} {W : World} {v : Value} {d : DataW H} {p : List MemPlace} {r : Reach} {b0 : Nat} (hok : Value.okWide Try.prog W r b0 55 v) (h : DataW.Trod enc Try.prog W 0 (fun _ => true) true 55 v d p) (_ : ∀ q ∈ DataW.weights Try.prog 55 d, q ≤ reachBytes) : ∃ x o d u L, v = .agg #[.int .i64 x, .int .i64 o, .int .i64 d, u] ∧ (I64 x ∧ I64 o ∧ I64 d) ∧ (∀ y ∈ L, I64 y) ∧ Rws W u 1 cInt L := by
  obtain ⟨cs, rfl, hsz⟩ := okWide_strG Try.underlying55 hok
  obtain ⟨fuel, hf⟩ := h
  have hl : cs.toList.length = 4 := by rw [Array.length_toList, hsz]; exact cells_calm
  obtain ⟨c0, c1, c2, c3, hq⟩ := listG4 hl
  have hf' : DataW.trod enc Try.prog W 0 (fun _ => true) true fuel 55 cs.toList = _ := hf
  rw [hq] at hf'
  obtain ⟨_, _, h3⟩ := sub_field Try.underlying55 hf' 3 39 3 1 rfl cells_ints
  obtain ⟨a0, e0, w0⟩ := int_field Try.underlying55 hf' 0 0 rfl rfl
  obtain ⟨a1, e1, w1⟩ := int_field Try.underlying55 hf' 1 1 rfl rfl
  obtain ⟨a2, e2, w2⟩ := int_field Try.underlying55 hf' 2 2 rfl rfl
  simp only [List.drop_zero, List.take_succ_cons, List.take_zero, List.drop_succ_cons] at h3
  subst e0 e1 e2
  obtain ⟨L, hL, hR, _⟩ := open_rws (k := 1) (cel := cInt) (ok := I64) (by omega) (fun _ => rfl) Try.underlying39 cells_int (fun n cs y h hl => one_int n cs y h hl) h3
  exact ⟨a0, a1, a2, c3, L, congrArg Value.agg (Array.ext' hq), ⟨w0, w1, w2⟩, hL, hR⟩
end Go.Proofs.Ytjinfjibodoflaa
