/- Lists that are lent, and whether they were kept. -/
import Derived.Test.YtcjahdgppnmdkaaIn0
import Derived.OwnWalk
set_option maxRecDepth 100000
namespace Go.Proofs.Ytcjahdgppnmdkaa
open Go.RowKit Go.Great

def mk4 (l : List Int) (t : Nat) : List Int := l ++ List.replicate t (-7770777)
theorem mk4_succ (l : List Int) (t : Nat) : mk4 l (t + 1) = mk4 l t ++ [-7770777] := by unfold mk4; rw [List.replicate_succ', List.append_assoc]
theorem mk4_len (l : List Int) (t : Nat) : (mk4 l t).length = l.length + t := by unfold mk4; simp
theorem ints_news {w : World} {ao : Option Addr} {l : List Int} {cap : Nat} (h : Ints w (.slice ao l.length cap) l) : ∀ ad, ao = some ad → ∀ j u, (l.map (Value.int .i64))[j]? = some u → w.cell? (ad.add j) = some u := by
  intro ad had j u hu
  obtain ⟨a, c, e, hc⟩ := h
  have hj : j < l.length := by
    have := (List.getElem?_eq_some_iff.1 hu).1
    simpa using this
  obtain ⟨g, o, e2, hg, hcc⟩ := hc (by omega)
  injection e with e3 _ _
  rw [had, e2] at e3
  injection e3 with e4
  subst e4
  rw [add_plain', hcc j hj]
  rw [List.getElem?_map, List.getElem?_eq_getElem hj] at hu
  rw [List.getD, List.getElem?_eq_getElem hj]
  exact hu
theorem map_one (l : List Int) : ∀ u ∈ l.map (Value.int .i64), u.oneCell' = true := by
  intro u hu
  rw [List.mem_map] at hu
  obtain ⟨x, _, rfl⟩ := hu
  rfl
end Go.Proofs.Ytcjahdgppnmdkaa
