/- Lists of items that came in. -/
import Derived.Test.YtnekjfidobglmaaMiM
namespace Go.Proofs.Ytnekjfidobglmaa
open Go.RowKit Go.Great Go.Deep Go.WideShapes Go.ChangeShapes

theorem cells_kind : Try.prog.cellsOf 46 = 1 := by kernel_rfl
theorem one_It {H : Type} {enc : TypeId × Value → H} {W : World} (n : Nat) (cs : List Value) (y : DataW H × List MemPlace) (h : DataW.trod enc Try.prog W 0 (fun _ => true) true n 48 cs = some y) (hl : cs.length = 4) : ∃ x, ItOk x ∧ cs = itC x := by
  obtain ⟨c0, h0⟩ := list_of hl 0 (by omega)
  obtain ⟨c1, h1⟩ := list_of hl 1 (by omega)
  obtain ⟨c2, h2⟩ := list_of hl 2 (by omega)
  obtain ⟨c3, h3⟩ := list_of hl 3 (by omega)
  obtain ⟨n0, y0, q0⟩ := sub_field Try.underlying48 h 0 46 0 1 (by kernel_rfl) cells_kind
  rw [one_of cs 0 c0 h0] at q0
  obtain ⟨k, e0, _, w0⟩ := DataW.trod_int Try.underlying46 q0
  simp at e0
  obtain ⟨a, e1, ha⟩ := int_field Try.underlying48 h 1 1 (by kernel_rfl) h1
  obtain ⟨b, e2, hb⟩ := int_field Try.underlying48 h 2 2 (by kernel_rfl) h2
  obtain ⟨c, e3, hc⟩ := int_field Try.underlying48 h 3 3 (by kernel_rfl) h3
  obtain ⟨kk, ek⟩ := wf_u8 w0
  subst e0 e1 e2 e3 ek
  refine ⟨⟨kk, a, b, c⟩, ⟨ha, hb, hc⟩, ?_⟩
  refine List.ext_getElem? fun i => ?_
  match i with
  | 0 => rw [h0]; rfl
  | 1 => rw [h1]; rfl
  | 2 => rw [h2]; rfl
  | 3 => rw [h3]; rfl
  | i + 4 => rw [List.getElem?_eq_none (by omega)]; rfl
/-- a list of items that came in -/
def ItsIn (w : World) (v : Value) (L : List It) : Prop := Rws w v 4 itC L ∧ L.length * 32 + 4096 ≤ 140737488355328
theorem open_items {H : Type} {enc : TypeId × Value → H} {W : World} {v : Value} {d : DataW H} {p : List MemPlace} {r : Reach} {b0 : Nat} (hok : Value.okWide Try.prog W r b0 22 v) (h : DataW.Trod enc Try.prog W 0 (fun _ => true) true 22 v d p) (hw : ∀ q ∈ DataW.weights Try.prog 22 d, q ≤ reachBytes) : ∃ L, ItsIn W v L := by
  obtain ⟨ad, ln, cp, rfl⟩ := okWide_slice Try.underlying22 hok
  obtain ⟨fuel, hf⟩ := h
  obtain ⟨L, h1, h2, h3⟩ := open_rws (k := 4) (cel := itC) (ok := ItOk) (by omega) (fun _ => rfl) Try.underlying22 (by kernel_rfl) (fun n cs y h hl => one_It n cs y h hl) hf
  refine ⟨L, h2, ?_⟩
  rcases h3 with rfl | ⟨l, r, e, hl⟩
  · simp
  · have e : d = .slice l r := e
    have hb : Try.prog.bytesOf 48 = 32 := by kernel_rfl
    have hwt := hw ((l.length + r.length) * 32) (by rw [e]; simp [DataW.weights, Try.underlying22, hb])
    have hwt' : (l.length + r.length) * 32 ≤ 140737488351232 := hwt
    omega
end Go.Proofs.Ytnekjfidobglmaa
