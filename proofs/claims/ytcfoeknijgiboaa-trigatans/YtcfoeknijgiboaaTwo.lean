/- Two variables that hold whole numbers, while others are reckoned beside them. -/
import Derived.Test.YtcfoeknijgiboaaTimesAny
namespace Go.Proofs.Ytcfoeknijgiboaa
open Go.RowKit

/-- the blocks p and d of wr hold the whole numbers P and D -/
structure TwoV (w wr : World) (bp bd : Nat) (s1 : Bool) (p1 : Option Addr) (l1 c1 : Nat) (s2 : Bool) (p2 : Option Addr) (l2 c2 : Nat) (P D : Int) (L M : Nat) : Prop where
  a0 : wr.cell? ⟨bp, 0, none⟩ = some (.bool s1)
  a1 : wr.cell? ⟨bp, 1, none⟩ = some (.slice p1 l1 c1)
  d0 : wr.cell? ⟨bd, 0, none⟩ = some (.bool s2)
  d1 : wr.cell? ⟨bd, 1, none⟩ = some (.slice p2 l2 c2)
  f0 : wr.frozen? ⟨bp, 0, none⟩ = false
  f1 : wr.frozen? ⟨bp, 1, none⟩ = false
  g0 : wr.frozen? ⟨bd, 0, none⟩ = false
  g1 : wr.frozen? ⟨bd, 1, none⟩ = false
  wp : Whole wr (.agg #[.bool s1, .slice p1 l1 c1]) P L
  wd : Whole wr (.agg #[.bool s2, .slice p2 l2 c2]) D M
  bel : Below w.heap.size w wr
  hp : w.heap.size ≤ bp
  hd : bp < bd
  hs : bd < wr.heap.size

theorem TwoV.below {w wr w' : World} {bp bd : Nat} {s1 : Bool} {p1 : Option Addr} {l1 c1 : Nat} {s2 : Bool} {p2 : Option Addr} {l2 c2 : Nat} {P D : Int} {L M : Nat}
    (t : TwoV w wr bp bd s1 p1 l1 c1 s2 p2 l2 c2 P D L M) (h : Below wr.heap.size wr w') : TwoV w w' bp bd s1 p1 l1 c1 s2 p2 l2 c2 P D L M := by
  have h1 := t.hs
  have h2 := t.hd
  refine ⟨?_, ?_, ?_, ?_, ?_, ?_, ?_, ?_, t.wp.below h, t.wd.below h, ?_, t.hp, t.hd, ?_⟩
  · exact (h.cell (p := ⟨bp, 0, none⟩) (by show bp < _; omega)).trans t.a0
  · exact (h.cell (p := ⟨bp, 1, none⟩) (by show bp < _; omega)).trans t.a1
  · exact (h.cell (p := ⟨bd, 0, none⟩) h1).trans t.d0
  · exact (h.cell (p := ⟨bd, 1, none⟩) h1).trans t.d1
  · exact (h.frozen (p := ⟨bp, 0, none⟩) (by show bp < _; omega)).trans t.f0
  · exact (h.frozen (p := ⟨bp, 1, none⟩) (by show bp < _; omega)).trans t.f1
  · exact (h.frozen (p := ⟨bd, 0, none⟩) h1).trans t.g0
  · exact (h.frozen (p := ⟨bd, 1, none⟩) h1).trans t.g1
  · exact t.bel.trans (h.mono t.bel.size)
  · have := h.size; omega
theorem TwoV.drew {w wr : World} {bp bd : Nat} {s1 : Bool} {p1 : Option Addr} {l1 c1 : Nat} {s2 : Bool} {p2 : Option Addr} {l2 c2 : Nat} {P D : Int} {L M : Nat}
    (t : TwoV w wr bp bd s1 p1 l1 c1 s2 p2 l2 c2 P D L M) : TwoV w wr.drew bp bd s1 p1 l1 c1 s2 p2 l2 c2 P D L M := t.below (Below.refl _ _).drew
theorem TwoV.setP {w wr : World} {bp bd : Nat} {s1 : Bool} {p1 : Option Addr} {l1 c1 : Nat} {s2 : Bool} {p2 : Option Addr} {l2 c2 : Nat} {P D : Int} {L M : Nat}
    (t : TwoV w wr bp bd s1 p1 l1 c1 s2 p2 l2 c2 P D L M) {s3 : Bool} {p3 : Option Addr} {l3 c3 : Nat} {X : Int} {N : Nat} (hx : Whole wr (.agg #[.bool s3, .slice p3 l3 c3]) X N) :
    TwoV w ((wr.setCell ⟨bp, 0, none⟩ (.bool s3)).setCell ⟨bp, 1, none⟩ (.slice p3 l3 c3)) bp bd s3 p3 l3 c3 s2 p2 l2 c2 X D N M := by
  have h1 := t.hs
  have h2 := t.hd
  have e1 : (wr.setCell ⟨bp, 0, none⟩ (.bool s3)).cell? ⟨bp, 1, none⟩ = some (.slice p1 l1 c1) := (World.cell?_setCell_other _ _ _ _ (by simp)).trans t.a1
  refine ⟨?_, ?_, ?_, ?_, ?_, ?_, ?_, ?_, ?_, ?_, ?_, t.hp, t.hd, ?_⟩
  · rw [World.cell?_setCell_other _ _ _ _ (by simp)]; exact World.cell?_setCell_same _ _ _ t.a0
  · exact World.cell?_setCell_same _ _ _ e1
  · rw [World.cell?_setCell_other _ _ _ _ (by simp <;> omega), World.cell?_setCell_other _ _ _ _ (by simp <;> omega)]; exact t.d0
  · rw [World.cell?_setCell_other _ _ _ _ (by simp <;> omega), World.cell?_setCell_other _ _ _ _ (by simp <;> omega)]; exact t.d1
  · rw [World.frozen?_setCell, World.frozen?_setCell]; exact t.f0
  · rw [World.frozen?_setCell, World.frozen?_setCell]; exact t.f1
  · rw [World.frozen?_setCell, World.frozen?_setCell]; exact t.g0
  · rw [World.frozen?_setCell, World.frozen?_setCell]; exact t.g1
  · exact (hx.set t.a0 (fun x => by simp) _).set e1 (fun x => by simp) _
  · exact (t.wd.set t.a0 (fun x => by simp) _).set e1 (fun x => by simp) _
  · exact (t.bel.setCell t.hp _).setCell t.hp _
  · simpa [World.setCell] using h1
theorem TwoV.setD {w wr : World} {bp bd : Nat} {s1 : Bool} {p1 : Option Addr} {l1 c1 : Nat} {s2 : Bool} {p2 : Option Addr} {l2 c2 : Nat} {P D : Int} {L M : Nat}
    (t : TwoV w wr bp bd s1 p1 l1 c1 s2 p2 l2 c2 P D L M) {s3 : Bool} {p3 : Option Addr} {l3 c3 : Nat} {X : Int} {N : Nat} (hx : Whole wr (.agg #[.bool s3, .slice p3 l3 c3]) X N) :
    TwoV w ((wr.setCell ⟨bd, 0, none⟩ (.bool s3)).setCell ⟨bd, 1, none⟩ (.slice p3 l3 c3)) bp bd s1 p1 l1 c1 s3 p3 l3 c3 P X L N := by
  have h1 := t.hs
  have h2 := t.hd
  have h3 := t.hp
  have e1 : (wr.setCell ⟨bd, 0, none⟩ (.bool s3)).cell? ⟨bd, 1, none⟩ = some (.slice p2 l2 c2) := (World.cell?_setCell_other _ _ _ _ (by simp)).trans t.d1
  refine ⟨?_, ?_, ?_, ?_, ?_, ?_, ?_, ?_, ?_, ?_, ?_, t.hp, t.hd, ?_⟩
  · rw [World.cell?_setCell_other _ _ _ _ (by simp <;> omega), World.cell?_setCell_other _ _ _ _ (by simp <;> omega)]; exact t.a0
  · rw [World.cell?_setCell_other _ _ _ _ (by simp <;> omega), World.cell?_setCell_other _ _ _ _ (by simp <;> omega)]; exact t.a1
  · rw [World.cell?_setCell_other _ _ _ _ (by simp)]; exact World.cell?_setCell_same _ _ _ t.d0
  · exact World.cell?_setCell_same _ _ _ e1
  · rw [World.frozen?_setCell, World.frozen?_setCell]; exact t.f0
  · rw [World.frozen?_setCell, World.frozen?_setCell]; exact t.f1
  · rw [World.frozen?_setCell, World.frozen?_setCell]; exact t.g0
  · rw [World.frozen?_setCell, World.frozen?_setCell]; exact t.g1
  · exact (t.wp.set t.d0 (fun x => by simp) _).set e1 (fun x => by simp) _
  · exact (hx.set t.d0 (fun x => by simp) _).set e1 (fun x => by simp) _
  · exact (t.bel.setCell (show w.heap.size ≤ bd by omega) _).setCell (show w.heap.size ≤ bd by omega) _
  · simpa [World.setCell] using h1
/-- two boxes, one laid behind the other -/
theorem two_mk {w w3 w4 : World} {s1 : Bool} {p1 : Option Addr} {l1 c1 : Nat} {s2 : Bool} {p2 : Option Addr} {l2 c2 : Nat} {P D : Int} {L M : Nat} {t1 t2 : TypeId}
    (h3 : Below w.heap.size w w3) (k3 : Whole w3 (.agg #[.bool s1, .slice p1 l1 c1]) P L)
    (h4 : Below (w3.alloc (.cells #[.bool s1, .slice p1 l1 c1] t1)).heap.size (w3.alloc (.cells #[.bool s1, .slice p1 l1 c1] t1)) w4) (k4 : Whole w4 (.agg #[.bool s2, .slice p2 l2 c2]) D M) :
    TwoV w (w4.alloc (.cells #[.bool s2, .slice p2 l2 c2] t2)) w3.heap.size w4.heap.size s1 p1 l1 c1 s2 p2 l2 c2 P D L M := by
  have hz : w3.heap.size + 1 ≤ w4.heap.size := by have := h4.size; simpa using this
  have hw := h3.size
  have hb := below_alloc w4 (.cells #[.bool s2, .slice p2 l2 c2] t2)
  have hc (o : Nat) : w4.cell? ⟨w3.heap.size, o, none⟩ = (w3.alloc (.cells #[.bool s1, .slice p1 l1 c1] t1)).cell? ⟨w3.heap.size, o, none⟩ := h4.cell (p := ⟨w3.heap.size, o, none⟩) (by simp)
  have hf (o : Nat) : w4.frozen? ⟨w3.heap.size, o, none⟩ = (w3.alloc (.cells #[.bool s1, .slice p1 l1 c1] t1)).frozen? ⟨w3.heap.size, o, none⟩ := h4.frozen (p := ⟨w3.heap.size, o, none⟩) (by simp)
  have dc (o : Nat) : (w4.alloc (.cells #[.bool s2, .slice p2 l2 c2] t2)).cell? ⟨w3.heap.size, o, none⟩ = w4.cell? ⟨w3.heap.size, o, none⟩ := hb.cell (p := ⟨w3.heap.size, o, none⟩) (by show w3.heap.size < _; omega)
  have df (o : Nat) : (w4.alloc (.cells #[.bool s2, .slice p2 l2 c2] t2)).frozen? ⟨w3.heap.size, o, none⟩ = w4.frozen? ⟨w3.heap.size, o, none⟩ := hb.frozen (p := ⟨w3.heap.size, o, none⟩) (by show w3.heap.size < _; omega)
  refine ⟨?_, ?_, ?_, ?_, ?_, ?_, ?_, ?_, ?_, k4.below hb, ?_, hw, by omega, by simp⟩
  · rw [dc, hc]; simp
  · rw [dc, hc]; simp
  · simp
  · simp
  · rw [df, hf]; go_simp
  · rw [df, hf]; go_simp
  · go_simp
  · go_simp
  · exact ((k3.below (below_alloc _ _)).below h4).below hb
  · exact (((h3.trans ((below_alloc _ _).mono hw)).trans (h4.mono (by simp; omega)))).trans (hb.mono (by omega))
end Go.Proofs.Ytcfoeknijgiboaa
