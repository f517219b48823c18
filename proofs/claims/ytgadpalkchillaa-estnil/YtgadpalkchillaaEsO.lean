/- Measures, flights, beats, bearings that came in. -/
import Derived.Test.YtgadpalkchillaaEs9
import Derived.Test.YtgadpalkchillaaGnO
import Derived.Test.YtgadpalkchillaaRows
namespace Go.Proofs.Ytgadpalkchillaa
open Go.RowKit Go.Great Go.Deep Go.WideShapes Go.ChangeShapes

theorem cells_mea : Try.prog.cellsOf 38 = 3 := by kernel_rfl
theorem one_mea {H : Type} {enc : TypeId × Value → H} {W : World} {base : Nat} {spare : Nat → Bool} {held : Bool} {n : Nat} {c0 c1 c2 : Value} {y : DataW H × List MemPlace} (h : DataW.trod enc Try.prog W base spare held n 38 [c0, c1, c2] = some y) : ∃ m : Mea, c0 = .bool m.o ∧ c1 = .int .i64 m.x ∧ c2 = .int .i64 m.e ∧ MOk m := by
  obtain ⟨a, rfl⟩ := bool_field Try.underlying38 h 0 0 rfl rfl
  obtain ⟨b, rfl, w1⟩ := int_field Try.underlying38 h 1 1 rfl rfl
  obtain ⟨c, rfl, w2⟩ := int_field Try.underlying38 h 2 2 rfl rfl
  exact ⟨⟨a, b, c⟩, rfl, rfl, rfl, w1, w2⟩
theorem list3 {l : List Value} (h : l.length = 3) : ∃ a b c, l = [a, b, c] := by
  match l, h with
  | [a, b, c], _ => exact ⟨a, b, c, rfl⟩
theorem open_mea {H : Type} {enc : TypeId × Value → H} {W : World} {v : Value} {d : DataW H} {p : List MemPlace} {r : Reach} {b0 : Nat} (hok : Value.okWide Try.prog W r b0 38 v) (h : DataW.Trod enc Try.prog W 0 (fun _ => true) true 38 v d p) (_ : ∀ q ∈ DataW.weights Try.prog 38 d, q ≤ reachBytes) : ∃ m, v = mV m ∧ MOk m := by
  obtain ⟨cs, rfl, hsz⟩ := okWide_strG Try.underlying38 hok
  obtain ⟨fuel, hf⟩ := h
  have hl : cs.toList.length = 3 := by rw [Array.length_toList, hsz]; exact cells_mea
  obtain ⟨a, b, c, hq⟩ := list3 hl
  have hf' : DataW.trod enc Try.prog W 0 (fun _ => true) true fuel 38 cs.toList = _ := hf
  rw [hq] at hf'
  obtain ⟨m, rfl, rfl, rfl, hm⟩ := one_mea hf'
  refine ⟨m, ?_, hm⟩
  have : cs = #[.bool m.o, .int .i64 m.x, .int .i64 m.e] := by apply Array.ext'; exact hq
  rw [this]
/-- a vehicle's own step -/
structure Tru where
  a : Int
  ex : Int
  sd : Bool
  op : Int
  ov : Int
  hp : Bool
  hv : Bool
def cTru (x : Tru) : List Value := [.int .i64 x.a, .int .i64 x.ex, .bool x.sd, .int .i64 x.op, .int .i64 x.ov, .bool x.hp, .bool x.hv]
structure TruOk (x : Tru) : Prop where
  a : I64 x.a
  ex : I64 x.ex
  op : I64 x.op
  ov : I64 x.ov
theorem one_Tru {H : Type} {enc : TypeId × Value → H} {W : World} {base : Nat} {spare : Nat → Bool} {held : Bool} (n : Nat) (cs : List Value) (y : DataW H × List MemPlace) (h : DataW.trod enc Try.prog W base spare held n 55 cs = some y) (hl : cs.length = 7) : ∃ x, TruOk x ∧ cs = cTru x := by
  obtain ⟨c0, e0⟩ := list_of hl 0 (by omega)
  obtain ⟨c1, e1⟩ := list_of hl 1 (by omega)
  obtain ⟨c2, e2⟩ := list_of hl 2 (by omega)
  obtain ⟨c3, e3⟩ := list_of hl 3 (by omega)
  obtain ⟨c4, e4⟩ := list_of hl 4 (by omega)
  obtain ⟨c5, e5⟩ := list_of hl 5 (by omega)
  obtain ⟨c6, e6⟩ := list_of hl 6 (by omega)
  obtain ⟨a0, rfl, w0⟩ := int_field Try.underlying55 h 0 0 rfl e0
  obtain ⟨a1, rfl, w1⟩ := int_field Try.underlying55 h 1 1 rfl e1
  obtain ⟨a2, rfl⟩ := bool_field Try.underlying55 h 2 2 rfl e2
  obtain ⟨a3, rfl, w3⟩ := int_field Try.underlying55 h 3 3 rfl e3
  obtain ⟨a4, rfl, w4⟩ := int_field Try.underlying55 h 4 4 rfl e4
  obtain ⟨a5, rfl⟩ := bool_field Try.underlying55 h 5 5 rfl e5
  obtain ⟨a6, rfl⟩ := bool_field Try.underlying55 h 6 6 rfl e6
  refine ⟨⟨a0, a1, a2, a3, a4, a5, a6⟩, ⟨w0, w1, w3, w4⟩, ?_⟩
  apply List.ext_getElem?
  intro i
  match i with
  | 0 => exact e0
  | 1 => exact e1
  | 2 => exact e2
  | 3 => exact e3
  | 4 => exact e4
  | 5 => exact e5
  | 6 => exact e6
  | i + 7 => rw [List.getElem?_eq_none (by omega), List.getElem?_eq_none (by simp [cTru])]
/-- a bearing -/
structure Brg where
  tu : Int
  ro : Int
  ho : Int
  hr : Bool
  hh : Bool
def cBrg (x : Brg) : List Value := [.int .i64 x.tu, .int .i64 x.ro, .int .i64 x.ho, .bool x.hr, .bool x.hh]
structure BrgOk (x : Brg) : Prop where
  tu : I64 x.tu
  ro : I64 x.ro
  ho : I64 x.ho
theorem one_Brg {H : Type} {enc : TypeId × Value → H} {W : World} {base : Nat} {spare : Nat → Bool} {held : Bool} (n : Nat) (cs : List Value) (y : DataW H × List MemPlace) (h : DataW.trod enc Try.prog W base spare held n 62 cs = some y) (hl : cs.length = 5) : ∃ x, BrgOk x ∧ cs = cBrg x := by
  obtain ⟨c0, e0⟩ := list_of hl 0 (by omega)
  obtain ⟨c1, e1⟩ := list_of hl 1 (by omega)
  obtain ⟨c2, e2⟩ := list_of hl 2 (by omega)
  obtain ⟨c3, e3⟩ := list_of hl 3 (by omega)
  obtain ⟨c4, e4⟩ := list_of hl 4 (by omega)
  obtain ⟨a0, rfl, w0⟩ := int_field Try.underlying62 h 0 0 rfl e0
  obtain ⟨a1, rfl, w1⟩ := int_field Try.underlying62 h 1 1 rfl e1
  obtain ⟨a2, rfl, w2⟩ := int_field Try.underlying62 h 2 2 rfl e2
  obtain ⟨a3, rfl⟩ := bool_field Try.underlying62 h 3 3 rfl e3
  obtain ⟨a4, rfl⟩ := bool_field Try.underlying62 h 4 4 rfl e4
  refine ⟨⟨a0, a1, a2, a3, a4⟩, ⟨w0, w1, w2⟩, ?_⟩
  apply List.ext_getElem?
  intro i
  match i with
  | 0 => exact e0
  | 1 => exact e1
  | 2 => exact e2
  | 3 => exact e3
  | 4 => exact e4
  | i + 5 => rw [List.getElem?_eq_none (by omega), List.getElem?_eq_none (by simp [cBrg])]
/-- a beat of a filter -/
structure Bea where
  a : Int
  d : Int
  sd : Bool
  p : Mea
  v : Mea
def cBea (x : Bea) : List Value := [.int .i64 x.a, .int .i64 x.d, .bool x.sd, .bool x.p.o, .int .i64 x.p.x, .int .i64 x.p.e, .bool x.v.o, .int .i64 x.v.x, .int .i64 x.v.e]
structure BeaOk (x : Bea) : Prop where
  a : I64 x.a
  d : I64 x.d
  p : MOk x.p
  v : MOk x.v
theorem one_Bea {H : Type} {enc : TypeId × Value → H} {W : World} {base : Nat} {spare : Nat → Bool} {held : Bool} (n : Nat) (cs : List Value) (y : DataW H × List MemPlace) (h : DataW.trod enc Try.prog W base spare held n 40 cs = some y) (hl : cs.length = 9) : ∃ x, BeaOk x ∧ cs = cBea x := by
  match cs, hl with
  | [c0, c1, c2, c3, c4, c5, c6, c7, c8], _ =>
    obtain ⟨a0, rfl, w0⟩ := int_field Try.underlying40 h 0 0 rfl rfl
    obtain ⟨a1, rfl, w1⟩ := int_field Try.underlying40 h 1 1 rfl rfl
    obtain ⟨a2, rfl⟩ := bool_field Try.underlying40 h 2 2 rfl rfl
    obtain ⟨n1, y1, h1⟩ := sub_field Try.underlying40 h 3 38 3 3 rfl cells_mea
    obtain ⟨n2, y2, h2⟩ := sub_field Try.underlying40 h 4 38 6 3 rfl cells_mea
    simp only [List.drop_succ_cons, List.drop_zero, List.take_succ_cons, List.take_zero] at h1 h2
    obtain ⟨p, rfl, rfl, rfl, hp⟩ := one_mea h1
    obtain ⟨v, rfl, rfl, rfl, hv⟩ := one_mea h2
    exact ⟨⟨a0, a1, a2, p, v⟩, ⟨w0, w1, hp, hv⟩, rfl⟩
theorem open_bearings {H : Type} {enc : TypeId × Value → H} {W : World} {v : Value} {d : DataW H} {p : List MemPlace} {r : Reach} {b0 : Nat} (hok : Value.okWide Try.prog W r b0 56 v) (h : DataW.Trod enc Try.prog W 0 (fun _ => true) true 56 v d p) (_ : ∀ q ∈ DataW.weights Try.prog 56 d, q ≤ reachBytes) : ∃ L, (∀ x ∈ L, BrgOk x) ∧ Rws W v 5 cBrg L := by
  obtain ⟨ad, ln, cp, rfl⟩ := okWide_slice Try.underlying56 hok
  obtain ⟨fuel, hf⟩ := h
  obtain ⟨L, h1, h2, _⟩ := open_rws (k := 5) (cel := cBrg) (ok := BrgOk) (by omega) (fun _ => rfl) Try.underlying56 (by kernel_rfl) (fun n cs y h hl => one_Brg n cs y h hl) hf
  exact ⟨L, h1, h2⟩
theorem bulk_len {H : Type} : ∀ l : List (DataW H), l.length ≤ Rows.uptoBulkAll l
  | [] => by simp [Rows.uptoBulkAll]
  | d :: r => by
    have := bulk_len r
    have h1 : 1 ≤ Rows.uptoBulk d := by cases d <;> (try (rename_i x; cases x)) <;> simp [Rows.uptoBulk]
    simp only [Rows.uptoBulkAll, List.length_cons]
    omega
theorem open_beats {H : Type} {enc : TypeId × Value → H} {W : World} {v : Value} {d : DataW H} {p : List MemPlace} {r : Reach} {b0 : Nat} (hok : Value.okWide Try.prog W r b0 22 v) (h : DataW.Trod enc Try.prog W 0 (fun _ => true) true 22 v d p) (hb : Rows.uptoBulk d ≤ 1048576) : ∃ L, (∀ x ∈ L, BeaOk x) ∧ Rws W v 9 cBea L ∧ L.length ≤ 1048576 := by
  obtain ⟨ad, ln, cp, rfl⟩ := okWide_slice Try.underlying22 hok
  obtain ⟨fuel, hf⟩ := h
  obtain ⟨L, h1, h2, h3⟩ := open_rws (k := 9) (cel := cBea) (ok := BeaOk) (by omega) (fun _ => rfl) Try.underlying22 (by kernel_rfl) (fun n cs y h hl => one_Bea n cs y h hl) hf
  refine ⟨L, h1, h2, ?_⟩
  rcases h3 with rfl | ⟨l, r, e, hl⟩
  · simp
  · have e : d = .slice l r := e
    rw [e, Rows.uptoBulk] at hb
    have := bulk_len l
    omega
set_option maxRecDepth 100000 in
theorem open_flight {H : Type} {enc : TypeId × Value → H} {W : World} {v : Value} {d : DataW H} {p : List MemPlace} {r : Reach} {b0 : Nat} (hok : Value.okWide Try.prog W r b0 52 v) (h : DataW.Trod enc Try.prog W 0 (fun _ => true) true 52 v d p) (_ : ∀ q ∈ DataW.weights Try.prog 52 d, q ≤ reachBytes) : ∃ a b c e f tv L, v = .agg #[.int .i64 a, .int .i64 b, .int .i64 c, .int .i64 e, .int .i64 f, tv] ∧ I64 a ∧ I64 b ∧ I64 c ∧ I64 e ∧ I64 f ∧ (∀ x ∈ L, TruOk x) ∧ Rws W tv 7 cTru L := by
  obtain ⟨cs, rfl, hsz⟩ := okWide_strG Try.underlying52 hok
  obtain ⟨fuel, hf⟩ := h
  have hf : DataW.trod enc Try.prog W 0 (fun _ => true) true fuel 52 cs.toList = _ := hf
  have hc6 : Try.prog.cellsOf 52 = 6 := by kernel_rfl
  have hl : cs.toList.length = 6 := by rw [Array.length_toList, hsz, hc6]
  obtain ⟨c0, c1, c2, c3, c4, c5, hq⟩ : ∃ c0 c1 c2 c3 c4 c5, cs.toList = [c0, c1, c2, c3, c4, c5] := by
    match cs.toList, hl with
    | [a, b, c, d, e, f], _ => exact ⟨a, b, c, d, e, f, rfl⟩
  rw [hq] at hf
  obtain ⟨a0, rfl, w0⟩ := int_field Try.underlying52 hf 0 0 rfl rfl
  obtain ⟨a1, rfl, w1⟩ := int_field Try.underlying52 hf 1 1 rfl rfl
  obtain ⟨a2, rfl, w2⟩ := int_field Try.underlying52 hf 2 2 rfl rfl
  obtain ⟨a3, rfl, w3⟩ := int_field Try.underlying52 hf 3 3 rfl rfl
  obtain ⟨a4, rfl, w4⟩ := int_field Try.underlying52 hf 4 4 rfl rfl
  obtain ⟨n1, y1, h1⟩ := sub_field Try.underlying52 hf 5 50 5 1 rfl (by kernel_rfl)
  simp only [List.drop_succ_cons, List.drop_zero, List.take_succ_cons, List.take_zero] at h1
  obtain ⟨L, h2, h3, _⟩ := open_rws (k := 7) (cel := cTru) (ok := TruOk) (by omega) (fun _ => rfl) Try.underlying50 (by kernel_rfl) (fun n cs y h hl => one_Tru n cs y h hl) h1
  refine ⟨a0, a1, a2, a3, a4, c5, L, ?_, w0, w1, w2, w3, w4, h2, h3⟩
  have : cs = #[.int .i64 a0, .int .i64 a1, .int .i64 a2, .int .i64 a3, .int .i64 a4, c5] := by apply Array.ext'; exact hq
  rw [this]
end Go.Proofs.Ytgadpalkchillaa
