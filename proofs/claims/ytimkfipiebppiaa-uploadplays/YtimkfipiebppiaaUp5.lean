/- Package upload: what is done with each Kind: the map. -/
import Derived.Test.YtimkfipiebppiaaUp4
import Derived.Maps.OwnSet
namespace Go.Proofs.Ytimkfipiebppiaa
open Go.RowKit Go.Great Go.Maps

/-- an entry of the map: a Kind, and a method bound to a desk -/
abbrev mE (k : Int) (F D born : Nat) : MapEntry := ⟨.int .u8 k, .func (.func F) #[dP D] #[], born⟩
abbrev mp0 : Array MapEntry := #[]
abbrev mp1 (D : Nat) : Array MapEntry := #[mE 7 60 D 0]
abbrev mp2 (D : Nat) : Array MapEntry := #[mE 7 60 D 0, mE 9 61 D 1]
abbrev mp3 (D : Nat) : Array MapEntry := #[mE 7 60 D 0, mE 9 61 D 1, mE 11 62 D 2]
theorem law_u8 : Keyed Try.prog 35 := int_keyed Try.underlying35
def sB (w : World) (b : Nat) (o : Obj) : World := { w with heap := w.heap.setIfInBounds b o }
theorem sB_alloc (w : World) (o o' : Obj) : sB (w.alloc o) w.heap.size o' = w.alloc o' := by
  unfold sB World.alloc
  congr 1
  apply Array.ext
  · simp
  · intro i h1 h2
    simp only [Array.size_setIfInBounds, Array.size_push] at h1
    by_cases hi : i = w.heap.size
    · subst hi; simp
    · have h3 : i < w.heap.size := by omega
      rw [Array.getElem_setIfInBounds_ne (by simp; omega) (by omega)]
      rw [Array.getElem_push_lt h3, Array.getElem_push_lt h3]
abbrev tMap : TypeId := 80
theorem key_u8 (k : Int) (h : 0 ≤ k ∧ k ≤ 255) : keyOf Try.prog 35 (.int .u8 k) = some (.int .u8 k) :=
  keyOf_int_mk Try.underlying35 (by simp [Lit.wf, IntKind.min, IntKind.max, IntKind.bits, IntKind.signed]; omega)
set_option maxRecDepth 100000 in
theorem map_put (w : World) (m : Nat) (es : Array MapEntry) (ck : Nat) (k : Int) (hk : 0 ≤ k ∧ k ≤ 255) (val : Value) (hb : w.heap[m]? = some (.map es ck)) (hes : ∀ e ∈ es.toList, ∃ x, e.key = .int .u8 x ∧ 0 ≤ x ∧ x ≤ 255 ∧ x ≠ k) : (Instr.mapUpdate 80 (.map (some m)) (.int .u8 k) val).run Try.prog w = .ok () (sB w m (.map (es.push ⟨.int .u8 k, val, ck⟩) (ck + 1))) := by
  have hc := law_u8.check w false (key_u8 k hk)
  have hf : (Instr.findKey 35 (.int .u8 k) es.toList).run Try.prog w = .ok none w := by
    rcases law_u8.find w (key_u8 k hk) es.toList (fun e he => by
      obtain ⟨x, h1, h2, h3, _⟩ := hes e he
      exact ⟨_, by rw [h1]; exact key_u8 x ⟨h2, h3⟩⟩) with ⟨h, _⟩ | ⟨j, e, _, h2, h3⟩
    · exact h
    · obtain ⟨x, h4, _, _, h5⟩ := hes e (List.mem_of_getElem? h2)
      rw [h4] at h3
      injection h3 with _ h3
      exact absurd h3 h5
  simp [Instr.mapUpdate, run_underlying Try.underlying80, MapKept.run_getObj_map hb, hc, hf, MapKept.run_setObj_map _ hb, Result.andThen, sB]
theorem put1 (w : World) (D : Nat) : (Instr.mapUpdate 80 (.map (some w.heap.size)) (.int .u8 7) (.func (.func 60) #[dP D] #[])).run Try.prog (w.alloc (.map #[] 0)) = .ok () (w.alloc (.map (mp1 D) 1)) := by
  rw [map_put _ _ #[] 0 7 (by omega) _ (heap_alloc_new w _) (by intro e he; simp at he), sB_alloc]
  rfl
theorem put2 (w : World) (D : Nat) : (Instr.mapUpdate 80 (.map (some w.heap.size)) (.int .u8 9) (.func (.func 61) #[dP D] #[])).run Try.prog (w.alloc (.map (mp1 D) 1)) = .ok () (w.alloc (.map (mp2 D) 2)) := by
  rw [map_put _ _ (mp1 D) 1 9 (by omega) _ (heap_alloc_new w _) (by intro e he; simp at he; subst he; exact ⟨7, rfl, by omega, by omega, by omega⟩), sB_alloc]
  rfl
theorem put3 (w : World) (D : Nat) : (Instr.mapUpdate 80 (.map (some w.heap.size)) (.int .u8 11) (.func (.func 62) #[dP D] #[])).run Try.prog (w.alloc (.map (mp2 D) 2)) = .ok () (w.alloc (.map (mp3 D) 3)) := by
  rw [map_put _ _ (mp2 D) 2 11 (by omega) _ (heap_alloc_new w _) (by intro e he; simp at he; rcases he with rfl | rfl; exact ⟨7, rfl, by omega, by omega, by omega⟩; exact ⟨9, rfl, by omega, by omega, by omega⟩), sB_alloc]
  rfl
theorem deeds_any (w : World) (D : Nat) : Calls Try.prog 43 #[dP D] w fun e w' => e = .returned (.map (some w.heap.size)) ∧ w' = w.alloc (.map (mp3 D) 3) := by
  have hmf : ∀ (fn : Fn) (first cap : Array Value) (w : World), (Instr.makeFunc fn first cap).run Try.prog w = .ok (.func fn first cap) w := fun _ _ _ _ => rfl
  have hmm := @run_makeMap Try.prog
  have P1 := put1 w D
  have P2 := put2 w D
  have P3 := put3 w D
  go_enter Try.func43, Try.ntmps43
  go_wp2_with fail
  go_ret
  exact ⟨rfl, rfl⟩
set_option maxRecDepth 100000 in
theorem map_look (w : World) (m D : Nat) (k : Int) (hk : 0 ≤ k ∧ k ≤ 255) (hb : w.heap[m]? = some (.map (mp3 D) 3)) : ∃ f b, (Instr.lookup 80 (.map (some m)) (.int .u8 k) true).run Try.prog w = .ok (.tuple #[f, .bool b]) w ∧ ((b = false ∧ f = .nilFunc ∧ k ≠ 7 ∧ k ≠ 9 ∧ k ≠ 11) ∨ (b = true ∧ ((k = 7 ∧ f = .func (.func 60) #[dP D] #[]) ∨ (k = 9 ∧ f = .func (.func 61) #[dP D] #[]) ∨ (k = 11 ∧ f = .func (.func 62) #[dP D] #[])))) := by
  have hc := law_u8.check w false (key_u8 k hk)
  have hes : ∀ e ∈ (mp3 D).toList, ∃ l, keyOf Try.prog 35 e.key = some l := by
    intro e he
    simp at he
    rcases he with rfl | rfl | rfl
    · exact ⟨_, key_u8 7 (by omega)⟩
    · exact ⟨_, key_u8 9 (by omega)⟩
    · exact ⟨_, key_u8 11 (by omega)⟩
  rcases law_u8.find w (key_u8 k hk) (mp3 D).toList hes with ⟨h, hno⟩ | ⟨j, e, h1, h2, h3⟩
  · refine ⟨.nilFunc, false, ?_, .inl ⟨rfl, rfl, ?_, ?_, ?_⟩⟩
    · simp [Instr.lookup, run_underlying Try.underlying80, MapKept.run_getObj_map hb, hc, h, Result.andThen]
    · intro e; subst e; exact hno (mE 7 60 D 0) (by simp) rfl
    · intro e; subst e; exact hno (mE 9 61 D 1) (by simp) rfl
    · intro e; subst e; exact hno (mE 11 62 D 2) (by simp) rfl
  · refine ⟨e.val, true, ?_, .inr ⟨rfl, ?_⟩⟩
    · simp [Instr.lookup, run_underlying Try.underlying80, MapKept.run_getObj_map hb, hc, h1, Result.andThen]
    · have he := List.mem_of_getElem? h2
      simp at he
      rcases he with rfl | rfl | rfl
      · injection h3 with _ h3; exact .inl ⟨h3.symm, rfl⟩
      · injection h3 with _ h3; exact .inr (.inl ⟨h3.symm, rfl⟩)
      · injection h3 with _ h3; exact .inr (.inr ⟨h3.symm, rfl⟩)
end Go.Proofs.Ytimkfipiebppiaa
