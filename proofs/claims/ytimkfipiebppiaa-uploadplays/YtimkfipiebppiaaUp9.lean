/- A desk beside rows of rows. -/
import Derived.Test.YtimkfipiebppiaaUlO
namespace Go.Proofs.Ytimkfipiebppiaa
open Go.RowKit Go.Great

/-- a chain lies in blocks of its own sort -/
theorem Chn.fit {w : World} {ks : List Nat} (P : Nat → Prop) (h1 : ∀ e cs, Blk w e cs 98 → P e) (h2 : ∀ g cs, Blk w g cs 3 → P g) : ∀ {R : List (List Int)} {p : Value}, Chn w ks p R → ∃ ks', (∀ k ∈ ks', k ∈ ks ∧ P k) ∧ Chn w ks' p R
  | [], p, h => ⟨[], fun k hk => (by cases hk), h⟩
  | r :: R, p, ⟨e, u, q, e1, hb, he, ⟨g, cap, eu, hg, ⟨cs, hgl⟩, hc⟩, hC⟩ => by
    obtain ⟨ks', hk, hC'⟩ := Chn.fit P h1 h2 hC
    refine ⟨e :: g :: ks', ?_, e, u, q, e1, hb, List.mem_cons_self .., ⟨g, cap, eu, List.mem_cons_of_mem _ (List.mem_cons_self ..), ⟨cs, hgl⟩, hc⟩, ?_⟩
    · intro k hk1
      rcases List.mem_cons.1 hk1 with rfl | hk1
      · exact ⟨he, h1 _ _ hb⟩
      · rcases List.mem_cons.1 hk1 with rfl | hk1
        · exact ⟨hg, h2 _ _ hgl⟩
        · exact hk k hk1
    · exact hC'.keep (Nat.le_refl _) (fun _ _ => rfl) (fun k hk => List.mem_cons_of_mem _ (List.mem_cons_of_mem _ hk))
/-- a row of rows grows, and no desk is turned -/
theorem Dsk.rows {w w' : World} {D : Nat} {wh ms : Int} {l : Ls} {ks : List Nat} {b n : Nat} {v : Value} {us : List Value} (h : Dsk w D wh ms l ks) (ho : w.ownsRow b 36 1 v n us) (hg : w.grownBy w' v.ownBlock) : ∃ ks', Dsk w' D wh ms l ks' ∧ ∀ k ∈ ks', k ∈ ks := by
  obtain ⟨p, hB, hC, h3⟩ := h
  obtain ⟨ks', hk, hC'⟩ := hC.fit (fun k => v.ownBlock ≠ some k) (fun e cs he => blk_apart ho he (by decide)) (fun e cs he => blk_apart ho he (by decide))
  refine ⟨ks', ⟨p, hB.grown hg (blk_apart ho hB (by decide)), hC'.keep hg.size (fun k hk1 => hg.block k (h3 k (hk k hk1).1).1 (fun e => (hk k hk1).2 e.symm)) (fun _ h => h), fun k hk1 => ⟨Nat.lt_of_lt_of_le (h3 k (hk k hk1).1).1 hg.size, (h3 k (hk k hk1).1).2⟩⟩, fun k hk1 => (hk k hk1).1⟩
theorem owns_desk {w w' : World} {b n D : Nat} {e : TypeId} {v : Value} {us : List Value} (ho : w.ownsRow b e 1 v n us) (hg : w.grownBy w' (some D)) (hD : D < b) : w'.ownsRow b e 1 v n us := World.ownsRow.kept ho hg (.inr fun e => by have := (World.ownsRow.lt ho D e).1; omega)
theorem Urs.desk {w w' : World} {b D : Nat} {us : List Value} {L : List (List Int)} (h : Urs w b us L) (hg : w.grownBy w' (some D)) (hD : D < b) : Urs w' b us L := ⟨h.len, fun i u hu => owns_desk (h.row i u hu) hg hD, h.two⟩
theorem owns_below {w w' : World} {b n : Nat} {e : TypeId} {v : Value} {us : List Value} (ho : w.ownsRow b e 1 v n us) (hb : Below w.heap.size w w') : w'.ownsRow b e 1 v n us := World.ownsRow.kept ho (grown_below hb none) (by cases v.ownBlock <;> simp)
theorem Ans.any {w : World} {n : Nat} {v : Value} {a : An} (h : Ans w n v a) : ∃ p m c, v = .slice p m c := by
  cases a with
  | none => exact ⟨_, _, _, h.zero⟩
  | some x => obtain ⟨p, c, e⟩ := h.one; exact ⟨p, 1, c, e⟩
/-- a row in a block -/
theorem irow_blk {w : World} {G base : Nat} {l : List Int} (h : Blk w G (rowI l) 3) (hb : base ≤ G) (hl : l.length ≤ maxLen) : IRow w base (.slice (some ⟨G, 0, none⟩) l.length l.length) l := by
  refine ⟨by simp, .inr ⟨G, l.length, rowI l, rfl, hb, h, Nat.le_refl _, hl, by simp [rowI], by simp [rowI, List.take_of_length_le]⟩⟩
end Go.Proofs.Ytimkfipiebppiaa
