/- An int as a whole number: the walk of Of. -/
import Derived.Test.YtpoodmfhcoaleaaCmp
import Derived.Test.YtpoodmfhcoaleaaLessD
namespace Go.Proofs.Ytpoodmfhcoaleaa
open Go.RowKit

/-- the memory while the digits of an int are gathered -/
structure OfMem (B : Nat) (w wr : World) (s : Bool) (v : Value) (ds : List Int) : Prop where
  c0 : wr.cell? ⟨B + 1, 0, none⟩ = some (.bool s)
  c1 : wr.cell? ⟨B + 1, 1, none⟩ = some v
  f1 : wr.frozen? ⟨B + 1, 1, none⟩ = false
  r0 : wr.cell? ⟨B, 0, none⟩ = some (.bool false)
  r1 : wr.cell? ⟨B, 1, none⟩ = some (.slice none 0 0)
  g0 : wr.frozen? ⟨B, 0, none⟩ = false
  g1 : wr.frozen? ⟨B, 1, none⟩ = false
  own : wr.ownsRow (B + 2) 3 1 v ds.length (ds.map (Value.int .i64))
  bel : Below B w wr
  size : B + 2 ≤ wr.heap.size

theorem OfMem.same {B : Nat} {w wr w1 : World} {s : Bool} {v : Value} {ds : List Int} {o : Obj} (h : OfMem B w wr s v ds) (hg : (wr.alloc o).grownBy w1 v.ownBlock) (k : Nat) (hk : k < B + 2) : w1.heap[k]? = wr.heap[k]? := by
  have hs := h.size
  have h1 := hg.block k (by simp; omega) (fun e => by have := (h.own.lt k e.symm).1; omega)
  rw [h1]
  exact Below.heap_alloc _ _ _ (by omega)
theorem OfMem.cell {B : Nat} {w wr w1 : World} {s : Bool} {v : Value} {ds : List Int} {o : Obj} (h : OfMem B w wr s v ds) (hg : (wr.alloc o).grownBy w1 v.ownBlock) (p : Addr) (hk : p.block < B + 2) : w1.cell? p = wr.cell? p :=
  World.cell?_of_block (w := wr) (h.same hg p.block hk)
theorem OfMem.frozen {B : Nat} {w wr w1 : World} {s : Bool} {v : Value} {ds : List Int} {o : Obj} (h : OfMem B w wr s v ds) (hg : (wr.alloc o).grownBy w1 v.ownBlock) (p : Addr) (hk : p.block < B + 2) : w1.frozen? p = wr.frozen? p :=
  World.frozen?_of_block (w := wr) (h.same hg p.block hk)
theorem OfMem.step {B : Nat} {w wr w1 : World} {s : Bool} {v v' : Value} {ds : List Int} {d : Int} {o : Obj} (h : OfMem B w wr s v ds)
    (ho : w1.ownsRow (B + 2) 3 1 v' (ds.length + 1) (ds.map (Value.int .i64) ++ [.int .i64 d])) (hg : (wr.alloc o).grownBy w1 v.ownBlock) :
    OfMem B w (w1.setCell ⟨B + 1, 1, none⟩ v') s v' (ds ++ [d]) := by
  have hs := h.size
  have hs1 : wr.heap.size + 1 ≤ w1.heap.size := by have := hg.size; simpa using this
  refine ⟨?_, ?_, ?_, ?_, ?_, ?_, ?_, ?_, ?_, ?_⟩
  · rw [World.cell?_setCell_other _ _ _ _ (by simp), h.cell hg _ (by show B + 1 < B + 2; omega)]; exact h.c0
  · exact World.cell?_setCell_same _ _ _ ((h.cell hg ⟨B + 1, 1, none⟩ (by show B + 1 < B + 2; omega)).trans h.c1)
  · rw [World.frozen?_setCell, h.frozen hg _ (by show B + 1 < B + 2; omega)]; exact h.f1
  · rw [World.cell?_setCell_other _ _ _ _ (by simp), h.cell hg _ (by show B < B + 2; omega)]; exact h.r0
  · rw [World.cell?_setCell_other _ _ _ _ (by simp), h.cell hg _ (by show B < B + 2; omega)]; exact h.r1
  · rw [World.frozen?_setCell, h.frozen hg _ (by show B < B + 2; omega)]; exact h.g0
  · rw [World.frozen?_setCell, h.frozen hg _ (by show B < B + 2; omega)]; exact h.g1
  · have := ownsRow_setCell_below ho (a := ⟨B + 1, 1, none⟩) (by show B + 1 < B + 2; omega) v'
    simpa using this
  · exact ((h.bel.alloc (by omega) o).grown hg (by simp; omega) (fun j hj => by have := (h.own.lt j hj).1; omega)).setCell (by show B ≤ B + 1; omega) _
  · simp [World.setCell]; omega

theorem owns_slice {w : World} {base : Nat} {e : TypeId} {v : Value} {n : Nat} {xs : List Value} (h : w.ownsRow base e 1 v n xs) : ∃ p l c, v = .slice p l c := by
  rcases h.2 with ⟨hv, _⟩ | ⟨g, cap, _, hv, _⟩
  · exact ⟨_, _, _, hv⟩
  · exact ⟨_, _, _, hv⟩

/-- what is known of the digits so far, with x left -/
def OfNum (n : Int) (ds : List Int) (x : Int) : Prop := Dig ds ∧ val ds + 1073741824 ^ ds.length * (x.natAbs : Int) = (n.natAbs : Int) ∧ (x = 0 → Top ds)
theorem ofNum_step {n x x' d : Int} {ds : List Int} (h : OfNum n ds x) (hx : x ≠ 0) (hd : d = (x.natAbs : Int) % 1073741824) (hx' : (x'.natAbs : Int) = (x.natAbs : Int) / 1073741824) : OfNum n (ds ++ [d]) x' := by
  obtain ⟨h1, h2, _⟩ := h
  refine ⟨h1.snoc (by omega) (by omega), ?_, fun e => .inr ?_⟩
  · rw [val_snoc, hx', ← h2, hd]
    simp only [List.length_append, List.length_cons, List.length_nil, Nat.zero_add, Int.pow_succ]
    have e : (1073741824 : Int) ^ ds.length * (x.natAbs : Int) = 1073741824 ^ ds.length * ((x.natAbs : Int) % 1073741824) + 1073741824 ^ ds.length * 1073741824 * ((x.natAbs : Int) / 1073741824) := by
      rw [Int.mul_assoc, ← Int.mul_add]; congr 1; omega
    omega
  · simp
    omega
theorem ofNum_len {n x : Int} {ds : List Int} (h : OfNum n ds x) (hn : I64 n) (hx : x ≠ 0) : ds.length ≤ 2 := by
  obtain ⟨h1, h2, _⟩ := h
  unfold I64 at hn
  have h3 := (val_nonneg h1).1
  by_cases g : ds.length ≤ 2
  · exact g
  · have hp := pow_mono 1073741824 (by omega) (show 3 ≤ ds.length by omega)
    have : (1073741824 : Int) ^ ds.length * 1 ≤ 1073741824 ^ ds.length * (x.natAbs : Int) := Int.mul_le_mul_of_nonneg_left (by omega) (Int.pow_nonneg (by omega))
    omega
theorem whole_of {n : Int} {ds : List Int} {w wr : World} {B : Nat} {v : Value} (h : OfNum n ds 0) (hm : OfMem B w wr (decide (n < 0)) v ds) (hl : ds.length ≤ 3) {w' : World} (hb : Below wr.heap.size wr w' ∨ (∀ k, B + 2 ≤ k → w'.heap[k]? = wr.heap[k]?)) : Whole w' (.agg #[.bool (decide (n < 0)), v]) n 3 := by
  refine ⟨v, ds, rfl, ?_, ⟨h.1, h.2.2 rfl, by have := h.2.1; simpa using this⟩, hl⟩
  rcases hb with hb | hb
  · exact (Row.of_owns hm.own rfl).below hb
  · obtain ⟨h1, h2⟩ := hm.own
    refine Row.of_owns (base := B + 2) (e := 3) (n := ds.length) ⟨h1, ?_⟩ rfl
    rcases h2 with h2 | ⟨g, cap, cur, hv, hg, hh, r⟩
    · exact .inl h2
    · exact .inr ⟨g, cap, cur, hv, hg, by rw [hb g hg]; exact hh, r⟩

set_option maxRecDepth 100000 in
set_option maxHeartbeats 4000000 in
theorem of_any (n : Int) (w : World) (hn : I64 n) : Calls Try.prog 43 #[.int .i64 n] w fun e w' => ∃ v, e = .returned v ∧ Below w.heap.size w w' ∧ Whole w' v n 3 := by
  obtain ⟨i0, hi, hz0, hz1, hz2⟩ := info_parts Try.inf3
  have HN := hide hn
  clear hn
  obtain ⟨s, HS⟩ : ∃ s, Hid (decide (n < 0) = s) := ⟨_, rfl⟩
  go_enter Try.func43, Try.ntmps43
  go_wp2
  rw [HS.out]
  go_loopw [0] (fun x wr => ∃ (y : Int) (ds : List Int) (v : Value), x = .int .i64 y ∧ -9223372036854775808 ≤ y ∧ y ≤ 9223372036854775807 ∧ ds.length ≤ 3 ∧ Hid (OfNum n ds y) ∧ OfMem w.heap.size w wr s v ds) (fun x _ => (intOf x).natAbs)
  case atStart =>
    refine ⟨n, [], .slice none 0 0, rfl, HN.out.1, HN.out.2, by simp, ⟨fun i hi => absurd hi (by simp), by simp [val], fun _ => .inl rfl⟩, ?_⟩
    constructor
    case own => exact World.ownsRow_nil _ _ _ _
    case bel => repeat (first | exact Below.refl _ _ | refine Below.setCell ?_ (by simp) _ | refine Below.alloc ?_ (by simp) _)
    all_goals simp
  case round =>
    obtain ⟨y, ds, v, rfl, hy0, hy1, hl, HO, hm⟩ := hrel
    have c0 := hm.c0
    have c1 := hm.c1
    have f1 := hm.f1
    have r0 := hm.r0
    have r1 := hm.r1
    have g0 := hm.g0
    have g1 := hm.g1
    obtain ⟨pv, lv, cv, rfl⟩ := owns_slice hm.own
    have HM := hide hm
    clear hm
    cases hz : (y == 0)
    · have HNZ := hide (show y ≠ 0 by simpa using hz)
      by_cases hpos : 0 < y
      · have hst : Hid (OfNum n (ds ++ [y % 1073741824]) (y / 1073741824)) := ofNum_step HO.out HNZ.out (by omega) (by omega)
        have hl2 := ofNum_len HO.out HN.out HNZ.out
        go_wp2_with (first
          | (at_builtin; refine wpList_append_own _ rfl _ _ 34 rfl (w.heap.size + 2) 3 i0 (.int .i64 0) 1 8 Try.underlying34 hi hz0 hz1 hz2 rfl (by decide) _ _ _ rfl (HM.out.own.alloc _) ⟨wr.heap.size, 0, none⟩ 1 1 [.int .i64 (y % 1073741824)] rfl rfl (one_cell _) (one_is _) ?c3 ?c4 ?c5 ?_))
        case c3 => unfold maxLen; omega
        case c4 => omega
        case c5 => have := HM.out.size; simp; omega
        · intro v' w1 hown' hgrow _
          have e1 : w1.cell? ⟨w.heap.size + 1, 1, none⟩ = some (.slice pv lv cv) := (HM.out.cell hgrow ⟨w.heap.size + 1, 1, none⟩ (by show w.heap.size + 1 < w.heap.size + 2; omega)).trans HM.out.c1
          have e2 : w1.frozen? ⟨w.heap.size + 1, 1, none⟩ = false := (HM.out.frozen hgrow ⟨w.heap.size + 1, 1, none⟩ (by show w.heap.size + 1 < w.heap.size + 2; omega)).trans HM.out.f1
          have R := hide (HM.out.step hown' hgrow)
          obtain ⟨p', l', c', rfl⟩ := owns_slice hown'
          clear hown' hgrow c0 c1 f1 r0 r1 g0 g1
          go_wp2
          go_roundw
          case rel => exact ⟨y / 1073741824, ds ++ [y % 1073741824], _, rfl, by omega, by omega, by simp; omega, hst, R.out⟩
          case measure => simp [intOf]; omega
      · have hneg : y < 0 := by have := HNZ.out; omega
        have t1 : y.tmod 1073741824 = -((-y) % 1073741824) := by
          have := Int.neg_tmod (a := y) (b := 1073741824)
          rw [Int.tmod_eq_emod_of_nonneg (by omega : 0 ≤ -y)] at this
          omega
        have t2 : y.tdiv 1073741824 = -((-y) / 1073741824) := by
          have := Int.neg_tdiv (a := y) (b := 1073741824)
          rw [Int.tdiv_eq_ediv_of_nonneg (by omega : 0 ≤ -y)] at this
          omega
        have b1 : -1073741824 < y.tmod 1073741824 ∧ y.tmod 1073741824 ≤ 0 := by omega
        have b2 : -9223372036854775808 ≤ y.tdiv 1073741824 ∧ y.tdiv 1073741824 ≤ 0 ∧ y < y.tdiv 1073741824 := by omega
        have T1 := hide t1
        have T2 := hide t2
        clear t1 t2
        by_cases h3 : y.tmod 1073741824 < 0
        · have hst : Hid (OfNum n (ds ++ [-y.tmod 1073741824]) (y.tdiv 1073741824)) := ofNum_step HO.out HNZ.out (by have := T1.out; omega) (by have := T2.out; omega)
          have hl2 := ofNum_len HO.out HN.out HNZ.out
          go_wp2_with (first
            | (at_builtin; refine wpList_append_own _ rfl _ _ 34 rfl (w.heap.size + 2) 3 i0 (.int .i64 0) 1 8 Try.underlying34 hi hz0 hz1 hz2 rfl (by decide) _ _ _ rfl (HM.out.own.alloc _) ⟨wr.heap.size, 0, none⟩ 1 1 [.int .i64 (-y.tmod 1073741824)] rfl rfl (one_cell _) (one_is _) ?c3 ?c4 ?c5 ?_))
          case c3 => unfold maxLen; omega
          case c4 => omega
          case c5 => have := HM.out.size; simp; omega
          · intro v' w1 hown' hgrow _
            have e1 : w1.cell? ⟨w.heap.size + 1, 1, none⟩ = some (.slice pv lv cv) := (HM.out.cell hgrow ⟨w.heap.size + 1, 1, none⟩ (by show w.heap.size + 1 < w.heap.size + 2; omega)).trans HM.out.c1
            have e2 : w1.frozen? ⟨w.heap.size + 1, 1, none⟩ = false := (HM.out.frozen hgrow ⟨w.heap.size + 1, 1, none⟩ (by show w.heap.size + 1 < w.heap.size + 2; omega)).trans HM.out.f1
            have R := hide (HM.out.step hown' hgrow)
            obtain ⟨p', l', c', rfl⟩ := owns_slice hown'
            clear hown' hgrow c0 c1 f1 r0 r1 g0 g1
            go_wp2
            go_roundw
            case rel => exact ⟨y.tdiv 1073741824, ds ++ [-y.tmod 1073741824], _, rfl, by omega, by omega, by simp; omega, hst, R.out⟩
            case measure => show (y.tdiv 1073741824).natAbs < y.natAbs; omega
        · have hst : Hid (OfNum n (ds ++ [y.tmod 1073741824]) (y.tdiv 1073741824)) := ofNum_step HO.out HNZ.out (by have := T1.out; omega) (by have := T2.out; omega)
          have hl2 := ofNum_len HO.out HN.out HNZ.out
          go_wp2_with (first
            | (at_builtin; refine wpList_append_own _ rfl _ _ 34 rfl (w.heap.size + 2) 3 i0 (.int .i64 0) 1 8 Try.underlying34 hi hz0 hz1 hz2 rfl (by decide) _ _ _ rfl (HM.out.own.alloc _) ⟨wr.heap.size, 0, none⟩ 1 1 [.int .i64 (y.tmod 1073741824)] rfl rfl (one_cell _) (one_is _) ?c3 ?c4 ?c5 ?_))
          case c3 => unfold maxLen; omega
          case c4 => omega
          case c5 => have := HM.out.size; simp; omega
          · intro v' w1 hown' hgrow _
            have e1 : w1.cell? ⟨w.heap.size + 1, 1, none⟩ = some (.slice pv lv cv) := (HM.out.cell hgrow ⟨w.heap.size + 1, 1, none⟩ (by show w.heap.size + 1 < w.heap.size + 2; omega)).trans HM.out.c1
            have e2 : w1.frozen? ⟨w.heap.size + 1, 1, none⟩ = false := (HM.out.frozen hgrow ⟨w.heap.size + 1, 1, none⟩ (by show w.heap.size + 1 < w.heap.size + 2; omega)).trans HM.out.f1
            have R := hide (HM.out.step hown' hgrow)
            obtain ⟨p', l', c', rfl⟩ := owns_slice hown'
            clear hown' hgrow c0 c1 f1 r0 r1 g0 g1
            go_wp2
            go_roundw
            case rel => exact ⟨y.tdiv 1073741824, ds ++ [y.tmod 1073741824], _, rfl, by omega, by omega, by simp; omega, hst, R.out⟩
            case measure => show (y.tdiv 1073741824).natAbs < y.natAbs; omega
    · have hy : y = 0 := by simpa using hz
      subst hy
      go_wp2
      have hs := HS.out
      subst hs
      refine bodyPost_ret (v := .agg #[.bool (decide (n < 0)), .slice pv lv cv]) (by simp [results, Try.results43, go_sem, World.cell?_setCell_other, r0, r1]) rfl ⟨_, rfl, (HM.out.bel.setCell (Nat.le_refl _) _).setCell (Nat.le_refl _) _, whole_of HO.out HM.out hl (.inr fun k hk => ?_)⟩
      rw [Below.heap_setCell _ _ _ _ (by show k ≠ w.heap.size; omega), Below.heap_setCell _ _ _ _ (by show k ≠ w.heap.size; omega)]
end Go.Proofs.Ytpoodmfhcoaleaa
