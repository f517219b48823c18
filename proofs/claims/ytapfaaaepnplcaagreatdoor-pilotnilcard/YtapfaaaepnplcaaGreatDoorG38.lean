/- Mi2. -/
import Derived.Test.YtapfaaaepnplcaaGreatDoorG07
import Derived.Maps.OwnSet
import Derived.Shelf.SlMaps.Clone
set_option maxRecDepth 100000
set_option maxHeartbeats 2000000
namespace Go.Proofs.YtapfaaaepnplcaaGreatDoor
open Go.RowKit Go.Great Go.Maps
theorem law_int : Keyed Tryz.prog 3 := int_keyed Tryz.underlying3
/-- block m is a map of at most n entries, in which item i was jumped from J i times -/
def MapJ (w : World) (m n : Nat) (J : Nat → Int) : Prop := ∃ D : DataW Unit, w.ownsMap Tryz.prog 3 (plainElem Tryz.prog 3) m n D ∧ ∀ i : Nat, D.atKey (.int .i64 (i : Int)) (.lit (.int .i64 0)) = .lit (.int .i64 (J i))
def upJ (J : Nat → Int) (i : Nat) (v : Int) : Nat → Int := fun j => if j = i then v else J j
theorem MapJ.lt {w : World} {m n : Nat} {J : Nat → Int} (h : MapJ w m n J) : m < w.heap.size := by
  obtain ⟨D, h1, _⟩ := h
  exact h1.lt
theorem MapJ.kept {w w' : World} {m n : Nat} {J : Nat → Int} {row : Option Nat} (h : MapJ w m n J) (hg : w.grownBy w' row) (hne : some m ≠ row) : MapJ w' m n J := by
  obtain ⟨D, h1, h2⟩ := h
  exact ⟨D, h1.kept hg hne, h2⟩
theorem MapJ.below {w w' : World} {m n : Nat} {J : Nat → Int} (h : MapJ w m n J) (hb : Below w.heap.size w w') : MapJ w' m n J := h.kept (grown_below hb none) (by simp)
theorem MapJ.alloc {w : World} {m n : Nat} {J : Nat → Int} (h : MapJ w m n J) (o : Obj) : MapJ (w.alloc o) m n J := h.below (below_alloc w o)
theorem MapJ.drewN {w : World} {m n : Nat} {J : Nat → Int} (h : MapJ w m n J) (k : Nat) : MapJ (w.drewN k) m n J := h.below (below_drewN (Below.refl _ _) k)
theorem MapJ.mono {w : World} {m n n' : Nat} {J : Nat → Int} (h : MapJ w m n J) (hn : n ≤ n') : MapJ w m n' J := by
  obtain ⟨D, h1, h2⟩ := h
  exact ⟨D, h1.mono hn, h2⟩
theorem MapJ.noblk {w : World} {m n : Nat} {J : Nat → Int} {B : Nat} {cs : Array Value} {t : TypeId} (h : MapJ w m n J) (hB : Blk w B cs t) : m ≠ B := by
  intro e
  obtain ⟨D, ⟨es, ck, hh, _⟩, _⟩ := h
  unfold Blk at hB
  rw [← e, hh] at hB
  cases hB
theorem key_wf {i : Nat} (hi : i ≤ 1000) : (Lit.int .i64 (i : Int)).wf = true := by
  simp [Lit.wf, IntKind.min, IntKind.max, IntKind.bits, IntKind.signed]
  omega
theorem int_wf {x : Int} (h : I64 x) : (Lit.int .i64 x).wf = true := by
  unfold I64 at h
  simp [Lit.wf, IntKind.min, IntKind.max, IntKind.bits, IntKind.signed]
  omega
theorem MapJ.look {w : World} {m n : Nat} {J : Nat → Int} (h : MapJ w m n J) (i : Nat) (hi : i ≤ 1000) : (Instr.lookup 162 (.map (some m)) (.int .i64 (i : Int)) false).run Tryz.prog w = .ok (.int .i64 (J i)) w ∧ I64 (J i) := by
  obtain ⟨D, h1, h2⟩ := h
  obtain ⟨c, hr, hc, hw⟩ := h1.lookup_int (t := 162) law_int Tryz.underlying162 Tryz.underlying3 (Tryz.zeroValue3 w) (keyOf_int_mk Tryz.underlying3 (key_wf hi))
  rw [h2 i] at hc
  injection hc with hc
  injection hc with _ hc
  rw [← hc] at hr hw
  exact ⟨hr, wf_i64 hw⟩
theorem nat_key {i j : Nat} (h : j ≠ i) : Lit.int .i64 (j : Int) ≠ Lit.int .i64 (i : Int) := by
  intro e
  injection e with _ e
  omega
theorem MapJ.put {w : World} {m n : Nat} {J : Nat → Int} (h : MapJ w m n J) (hn : n < maxLen) (i : Nat) (hi : i ≤ 1000) (x : Int) (hx : I64 x) : ∃ w', (Instr.mapUpdate 162 (.map (some m)) (.int .i64 (i : Int)) (.int .i64 x)).run Tryz.prog w = .ok () w' ∧ MapJ w' m (n + 1) (upJ J i x) ∧ w.grownBy w' (some m) := by
  obtain ⟨D, h1, h2⟩ := h
  obtain ⟨w', hr, ho, hg⟩ := h1.update (t := 162) law_int Tryz.underlying162 hn (keyOf_int_mk Tryz.underlying3 (key_wf hi)) (plainElem_int Tryz.underlying3 (int_wf hx))
  refine ⟨w', hr, ⟨_, ho, fun j => ?_⟩, hg⟩
  unfold upJ
  by_cases e : j = i
  · rw [if_pos e, e, atKey_put_same h1.isMap (by simp [WideAt.IsKeyLit])]
  · rw [if_neg e, atKey_put_other (nat_key e)]
    exact h2 j
theorem MapJ.del {w : World} {m n : Nat} {J : Nat → Int} (h : MapJ w m n J) (i : Nat) (hi : i ≤ 1000) (ty : TypeId) : ∃ w', (Builtin.delete_ #[162, 3] ty #[.map (some m), .int .i64 (i : Int)]).run Tryz.prog w = .ok (.tuple #[]) w' ∧ MapJ w' m n (upJ J i 0) ∧ w.grownBy w' (some m) := by
  obtain ⟨D, h1, h2⟩ := h
  obtain ⟨w', hr, ho, hg⟩ := h1.drop (t := 162) law_int Tryz.underlying162 (keyOf_int_mk Tryz.underlying3 (key_wf hi)) ty
  refine ⟨w', hr, ⟨_, ho, fun j => ?_⟩, hg.grown⟩
  unfold upJ
  by_cases e : j = i
  · rw [if_pos e, e, atKey_del_same]
  · rw [if_neg e, atKey_del_other (nat_key e)]
    exact h2 j
theorem MapJ.made (w : World) : MapJ (w.alloc (.map #[] 0)) w.heap.size 0 (fun _ => 0) := ⟨.map [], World.ownsMap_made w _ _ _, fun i => by simp [DataW.atKey]⟩
theorem ext44 : Extern.find Tryz.f391 = some Extern.MapsClone.clone := by kernel_rfl
theorem mclone_any (w : World) (m n : Nat) (J : Nat → Int) (h : MapJ w m n J) : Calls Tryz.prog 356 #[.map (some m)] w fun e w' => e = .returned (.map (some w.heap.size)) ∧ MapJ w' w.heap.size n J ∧ Below w.heap.size w w' := by
  obtain ⟨D, ⟨es, ck, hb, F, hs, hD⟩, h2⟩ := h
  have HF := hide (fun (w' : World) (hb' : w'.heap[w.heap.size]? = some (.map es ck)) => (⟨D, ⟨es, ck, hb', F, hs, hD⟩, h2⟩ : MapJ w' w.heap.size n J))
  clear F hs hD h2
  have hq := fun w => run_eql_map_nil_sl (P := Tryz.prog) w 162 _ _ (some m) Tryz.underlying162
  go_enter Tryz.func356, Tryz.ntmps356
  go_wp2
  rw [run_callFunc_extern Tryz.func391 (by kernel_rfl) (by kernel_rfl) (by kernel_rfl) ext44, run_maps_clone_sl w 162 hb]
  simp only [Result.andThen]
  rw [Oper.upon_value]
  go_wp2
  rw [run_typeAssert_map_sl _ 162 _ _ _ _ Tryz.underlying162]
  simp only [Result.andThen]
  rw [Oper.upon_value]
  go_wp2
  go_ret
  exact ⟨rfl, HF.out _ (heap_alloc_new _ _), below_alloc _ _⟩
end Go.Proofs.YtapfaaaepnplcaaGreatDoor
