/- The statement's 'sane', walked. -/
import Derived.Test.YtjinfjibodoflaaGuD
namespace Go.Proofs.Ytjinfjibodoflaa
open Go.RowKit Go.Great

/-- what 'sane' answers -/
def SaEnd (w : World) (x : Brk) (e : Ending) (w' : World) : Prop := (∃ b, e = .returned (.bool b) ∧ (b = true → San x)) ∧ Below w.heap.size w w'
theorem SaEnd.no {w w' : World} {x : Brk} (h : Below w.heap.size w w') : SaEnd w x (.returned (.bool false)) w' := ⟨⟨false, rfl, fun h => by cases h⟩, h⟩
theorem SaEnd.yes {w w' : World} {x : Brk} (b : Bool) (hf : b = true → San x) (h : Below w.heap.size w w') : SaEnd w x (.returned (.bool b)) w' := ⟨⟨b, rfl, hf⟩, h⟩
set_option maxHeartbeats 40000000 in
set_option maxRecDepth 100000 in
theorem sane_any (x : Brk) (u : Value) (w : World) (hx : BrkOk x) : Calls Try.prog 15 #[.agg (brC x u)] w (SaEnd w x) := by
  obtain ⟨pl, ph, vl, vh, at_, sp, ac, wi, ex, jo, gi, wh⟩ := x
  have hw := hx.wi
  unfold I64 at hw
  simp only at hw
  clear hx
  obtain ⟨W0, hW0, bw, hA, zw⟩ := one_box w (brC ⟨pl, ph, vl, vh, at_, sp, ac, wi, ex, jo, gi, wh⟩ u) 41
  have Hb := hide bw
  have c0 : W0.cell? ⟨w.heap.size, 0, none⟩ = some (.int .i64 pl) := hA.cell 0 rfl
  have c1 : W0.cell? ⟨w.heap.size, 1, none⟩ = some (.int .i64 ph) := hA.cell 1 rfl
  have c2 : W0.cell? ⟨w.heap.size, 2, none⟩ = some (.int .i64 vl) := hA.cell 2 rfl
  have c3 : W0.cell? ⟨w.heap.size, 3, none⟩ = some (.int .i64 vh) := hA.cell 3 rfl
  have c4 : W0.cell? ⟨w.heap.size, 4, none⟩ = some (.int .i64 at_) := hA.cell 4 rfl
  have c5 : W0.cell? ⟨w.heap.size, 5, none⟩ = some (.int .i64 sp) := hA.cell 5 rfl
  have c6 : W0.cell? ⟨w.heap.size, 6, none⟩ = some (.int .i64 ac) := hA.cell 6 rfl
  have c7 : W0.cell? ⟨w.heap.size, 7, none⟩ = some (.int .i64 wi) := hA.cell 7 rfl
  have c8 : W0.cell? ⟨w.heap.size, 8, none⟩ = some (.int .i64 ex) := hA.cell 8 rfl
  have c10 : W0.cell? ⟨w.heap.size, 10, none⟩ = some (.int .i64 jo) := hA.cell 10 rfl
  have c11 : W0.cell? ⟨w.heap.size, 11, none⟩ = some (.int .i64 gi) := hA.cell 11 rfl
  clear bw hA zw
  have HU : Hid (0 ≤ wi → wi ≤ 16 → wrap64 (86 + wi) = 86 + wi) := hide (fun h1 h2 => by unfold wrap64; omega)
  go_enter Try.func15, Try.ntmps15
  go_upto_region 2 with fail
  generalize wrap64 (86 + wi) = uu at *
  clear hW0 hw
  by_cases hA : (-1099511627776 ≤ pl ∧ ph ≤ 1099511627776 ∧ -1048576 ≤ vl ∧ vh ≤ 1048576) ∧ pl ≤ at_ ∧ at_ ≤ ph ∧ vl ≤ sp ∧ sp ≤ vh
  · obtain ⟨⟨a0, a1, a2, a3⟩, a4, a5, a6, a7⟩ := hA
    have a8 : ¬ vl < -17179869184 := by omega
    go_upto_region 5 with fail
    by_cases g0 : wi < 0
    · go_wp2_with fail
      go_ret
      exact SaEnd.no Hb.out
    by_cases g1 : 16 < wi
    · go_wp2_with fail
      go_ret
      exact SaEnd.no Hb.out
    have hu := HU.out (by omega) (by omega)
    subst hu
    go_wp2_with fail
    all_goals
      go_ret
      first
        | exact SaEnd.no Hb.out
        | (refine SaEnd.yes _ (fun hd => ?_) Hb.out; have hd' := of_decide_eq_true hd; constructor <;> simp only <;> omega)
  · clear HU c6 c7 c8 c10 c11
    rcases (show (pl < -1099511627776) ∨ (-1099511627776 ≤ pl ∧ 1099511627776 < ph) ∨ (-1099511627776 ≤ pl ∧ ph ≤ 1099511627776 ∧ vl < -17179869184) ∨ (-1099511627776 ≤ pl ∧ ph ≤ 1099511627776 ∧ -17179869184 ≤ vl ∧ 1048576 < vh) ∨ (-1099511627776 ≤ pl ∧ ph ≤ 1099511627776 ∧ -17179869184 ≤ vl ∧ vh ≤ 1048576 ∧ vl < -1048576) ∨ (-1099511627776 ≤ pl ∧ ph ≤ 1099511627776 ∧ -17179869184 ≤ vl ∧ vh ≤ 1048576 ∧ -1048576 ≤ vl ∧ at_ < pl) ∨ (-1099511627776 ≤ pl ∧ ph ≤ 1099511627776 ∧ -17179869184 ≤ vl ∧ vh ≤ 1048576 ∧ -1048576 ≤ vl ∧ pl ≤ at_ ∧ ph < at_) ∨ (-1099511627776 ≤ pl ∧ ph ≤ 1099511627776 ∧ -17179869184 ≤ vl ∧ vh ≤ 1048576 ∧ -1048576 ≤ vl ∧ pl ≤ at_ ∧ at_ ≤ ph ∧ sp < vl) ∨ (-1099511627776 ≤ pl ∧ ph ≤ 1099511627776 ∧ -17179869184 ≤ vl ∧ vh ≤ 1048576 ∧ -1048576 ≤ vl ∧ pl ≤ at_ ∧ at_ ≤ ph ∧ vl ≤ sp ∧ vh < sp) by omega) with d0 | ⟨d0, d1⟩ | ⟨d0, d1, d2⟩ | ⟨d0, d1, d2, d3⟩ | ⟨d0, d1, d2, d3, d4⟩ | ⟨d0, d1, d2, d3, d4, d5⟩ | ⟨d0, d1, d2, d3, d4, d5, d6⟩ | ⟨d0, d1, d2, d3, d4, d5, d6, d7⟩ | ⟨d0, d1, d2, d3, d4, d5, d6, d7, d8⟩
    all_goals
      clear hA
      go_wp2_with fail
      go_ret
      exact SaEnd.no Hb.out
end Go.Proofs.Ytjinfjibodoflaa
