/- A slice of strings that came in, opened under the bound on what came in. -/
import Derived.Test.YtijdobhdjmmgmaaRows
import Derived.Test.YtijdobhdjmmgmaaFrFe
namespace Go.Proofs.Ytijdobhdjmmgmaa
open Go.RowKit Go.Great Go.Deep Go.WideShapes

theorem bulk_member {H : Type} (d : DataW H) (l : List (DataW H)) (h : d ∈ l) : Rows.uptoBulk d ≤ Rows.uptoBulkAll l := by
  induction l with
  | nil => cases h
  | cons x r ih =>
    rw [Rows.uptoBulkAll]
    rcases List.mem_cons.1 h with rfl | h
    · omega
    · have := ih h; omega
theorem open_strings {H : Type} {enc : TypeId × Value → H} {W : World} {v : Value} {d : DataW H} {p : List MemPlace} {r : Reach} {b0 : Nat} (hok : Value.okWide Try.prog W r b0 29 v) (h : DataW.Trod enc Try.prog W 0 (fun _ => true) true 29 v d p) (hb : Rows.uptoBulk d ≤ 1048576) : ∃ ss, StrsIn W v ss := by
  obtain ⟨ad, ln, cp, rfl⟩ := okWide_slice Try.underlying29 hok
  obtain ⟨fuel, hf⟩ := h
  have e1 : (Value.slice ad ln cp).cells.toList = [.slice ad ln cp] := rfl
  rw [e1] at hf
  rcases open_strs Try.underlying29 Try.underlying9 (by kernel_rfl) hf with ⟨hcs, _⟩ | ⟨a, len, cap, m, Sx, hcs, _, hl, hmax, hm, hx, hel⟩
  · injection hcs with hcs _
    injection hcs with h1 h2 h3
    subst h1 h2 h3
    exact ⟨[], by simp, by simp, none, 0, rfl, fun h => absurd h (by simp)⟩
  · injection hcs with hcs _
    injection hcs with h1 h2 h3
    subst h1 h2 h3
    simp only [if_true] at hm
    injection hx with hx1 _
    rw [hx1, Rows.uptoBulk] at hb
    refine ⟨(List.range ln).map Sx, ?_, ?_, some a, cp, ?_, ?_⟩
    · rw [List.length_map, List.length_range]; omega
    · intro s hs
      rw [List.mem_map] at hs
      obtain ⟨i, hi, rfl⟩ := hs
      have h1 := bulk_member (H := H) (.lit (.string (Sx i).data.toList)) ((List.range ln).map fun i => .lit (.string (Sx i).data.toList)) (List.mem_map.2 ⟨i, hi, rfl⟩)
      rw [Rows.uptoBulk, list_size] at h1
      omega
    · rw [List.length_map, List.length_range]
    · intro h0
      rw [List.length_map, List.length_range] at h0
      have hp := (hel 0 (by omega)).1
      have ha0 : a.add 0 = a := by simp [Addr.add]
      rw [ha0] at hp
      obtain ⟨e, hbl⟩ := plain_of hp
      refine ⟨a.block, a.off, by rw [← e], hbl, fun i hi => ?_⟩
      rw [List.length_map, List.length_range] at hi
      have hq := (hel i (by omega)).1
      rw [e, add_plain'] at hq
      simp only [List.getElem_map, List.getElem_range]
      exact hq
end Go.Proofs.Ytijdobhdjmmgmaa
