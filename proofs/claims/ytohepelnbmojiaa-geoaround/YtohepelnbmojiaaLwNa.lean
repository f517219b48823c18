/- GeoNames. -/
import Derived.Test.YtohepelnbmojiaaGeT
namespace Go.Proofs.Ytohepelnbmojiaa
open Go.RowKit Go.Great

def nmL (k : Nat) : List Pt := (List.range k).map fun (i : Nat) => ((i : Int), (i : Int) * (i : Int))
theorem nmL_succ (k : Nat) : nmL (k + 1) = nmL k ++ [((k : Int), (k : Int) * (k : Int))] := by simp [nmL, List.range_succ]
theorem nmL_len (k : Nat) : (nmL k).length = k := by simp [nmL]
def nm64 : List Pt := nmL 63 ++ [(0, 5000)]
def nm65 : List Pt := nm64 ++ [(-1, 4000)]
theorem nm_ok : simE nm64 = 0 := by decide +kernel
theorem nm_many : simE nm65 = 4 := by decide +kernel
theorem ex_far1 (w : World) : Calls Try.prog 16 #[.agg #[.int .i64 536870912, .int .i64 (-536870912)], .agg #[.int .i64 (-536870912), .int .i64 536870912]] w fun e w' => (∃ x, e = .returned (.tuple #[.int .i64 x, .int .i64 0])) ∧ Below w.heap.size w w' := by
  have h := far_any (536870912, -536870912) (-536870912, 536870912) w
  rw [show orE [(536870912, -536870912), (-536870912, 536870912)] = 0 by decide] at h
  exact h.mono fun e w' ⟨h1, h2⟩ => ⟨⟨_, h1⟩, h2⟩
theorem ex_far2 (w : World) : Calls Try.prog 16 #[.agg #[.int .i64 536870913, .int .i64 0], .agg #[.int .i64 0, .int .i64 0]] w fun e w' => (∃ x, e = .returned (.tuple #[.int .i64 x, .int .i64 5])) ∧ Below w.heap.size w w' := by
  have h := far_any (536870913, 0) (0, 0) w
  rw [show orE [(536870913, 0), (0, 0)] = 5 by decide] at h
  exact h.mono fun e w' ⟨h1, h2⟩ => ⟨⟨_, h1⟩, h2⟩
theorem PRow.below {w w' : World} {base : Nat} {v : Value} {l : List Pt} (h : PRow w base v l) (hb : Below w.heap.size w w') : PRow w' base v l := World.ownsRow.kept h (grown_below hb none) (by cases v.ownBlock <;> simp)
theorem PRow.sl {w : World} {base : Nat} {v : Value} {l : List Pt} (h : PRow w base v l) : ∃ ao c, v = .slice ao l.length c := by
  rcases h.2 with ⟨e1, e2⟩ | ⟨g, cp, cur, e1, _⟩
  · exact ⟨none, 0, by rw [e1, e2]⟩
  · exact ⟨some ⟨g, 0, none⟩, cp, e1⟩
/-- one more point behind a row of the call's own -/
theorem app_pt {w : World} {ops : Array Oper} {rest : List Oper} {o : Oper} {a : Act} {Q : Exit → Act → World → Prop} (hgd : o.guard = none) (s x : Operand)
    (ho : o.op = .call { callee := .builtin .append, args := #[s, x], argTypes := #[35, 35] }) (base : Nat) (v : Value) (l : List Pt) (hs : a.eval s = v) (p q : Int) (B : Nat) (hB : B = w.heap.size)
    (hR : PRow w base v l) (hx : a.eval x = .slice (some ⟨B, 0, none⟩) 1 1) (hl : l.length ≤ 1000) (hbase : base ≤ w.heap.size)
    (h : ∀ v' w', PRow w' base v' (l ++ [(p, q)]) → Below base w w' → wpList Try.prog ops Q rest (a.put o.dst v') w') : wpList Try.prog ops Q (o :: rest) a (w.alloc (.cells #[.int .i64 p, .int .i64 q] 23)) := by
  obtain ⟨i0, hi, hz0, hz1, hz2⟩ := info_parts info_pt
  have hR1 : PRow (w.alloc (.cells #[.int .i64 p, .int .i64 q] 23)) base v l := hR.below (below_alloc _ _)
  subst hB
  refine wpList_append_any hgd s x 35 ho base 23 i0 _ 2 16 Try.underlying35 hi hz0 hz1 hz2 rfl (by decide) v l.length (ptC l) hs hR1 (some ⟨w.heap.size, 0, none⟩) 1 1 [.int .i64 p, .int .i64 q] hx rfl (fun e => by cases e) ?_ ?_ ?_ ?_ ?_ ?_
  · intro ad e
    injection e with e
    subst e
    exact new_cell2 w _ rfl _ _ _
  · intro u hu
    simp at hu
    rcases hu with rfl | rfl <;> rfl
  · unfold maxLen; omega
  · omega
  · rw [size_alloc]; omega
  · intro v' w' hown hgrow
    refine h v' w' ?_ ?_
    · show World.ownsRow _ _ _ _ _ _ _
      rw [List.length_append, ptC_app]
      exact hown
    · exact ((Below.refl base w).alloc hbase _).grown hgrow (by rw [size_alloc]; omega) (fun k e => (hR1.lt k e).1)
set_option maxRecDepth 100000 in
set_option maxHeartbeats 4000000 in
theorem GeoNames_walk (w : World) : Calls Try.prog 13 #[] w fun e w' => e = .returned (.bool true) ∧ Below w.heap.size w w' := by
  have AW := awake_any
  have S64 := fun v w (h : Pts w v nm64) => simple_any nm64 v w h (by decide)
  have S65 := fun v w (h : Pts w v nm65) => simple_any nm65 v w h (by decide)
  rw [nm_ok] at S64
  rw [nm_many] at S65
  go_enter Try.func13, Try.ntmps13
  go_wp2_with fail
  go_loopw [1, 2] (fun v i wx => ∃ k : Nat, k ≤ 63 ∧ i = .int .i64 k ∧ Hid (PRow wx w.heap.size v (nmL k)) ∧ Hid (Below w.heap.size w wx)) (fun _ i _ => 63 - (intOf i).toNat)
  case atStart => exact ⟨0, by omega, rfl, hide (World.ownsRow_nil _ _ _ _), hide (Below.refl _ _)⟩
  case round =>
    obtain ⟨k, hk, rfl, hR, hB⟩ := hrel
    by_cases hlt : k < 63
    · obtain ⟨ao, c, rfl⟩ := hR.out.sl
      rw [nmL_len] at hR ⊢
      have hkk := mul_bound (x := k) (y := k) (c := 63) (d := 63) (by omega) (by omega) (by omega) (by omega)
      have hs := hB.out.size
      go_wp2_with (first
        | (go_at_call 32; refine (at_any _ _ _).mono ?_; rintro e w1 ⟨rfl, hw1⟩; have hb1 : Below wr.heap.size wr w1 := hw1 ▸ below_alloc _ _; clear hw1)
        | (at_builtin; refine app_pt rfl (.tmp 13) (.tmp 19) rfl w.heap.size _ (nmL k) rfl _ _ _ rfl (hR.out.below hb1) rfl (by rw [nmL_len]; omega) (by have := hb1.size; omega) ?_))
      intro v' w' hR' hB'
      obtain ⟨ao', c', rfl⟩ := hR'.sl
      have HR' : Hid (PRow w' w.heap.size (.slice ao' (nmL k ++ [((k : Int), (k : Int) * (k : Int))]).length c') (nmL (k + 1))) := by rw [nmL_succ]; exact hR'
      have HB' : Hid (Below w.heap.size w w') := (hB.out.trans (hb1.mono (by omega))).trans hB'
      rw [List.length_append, nmL_len] at HR' ⊢
      clear hR' hB' hb1 hR hB hkk
      go_wp2_with fail
      go_roundw
      case rel => exact ⟨k + 1, by omega, by go_num, HR', HB'⟩
      case measure => simp [intOf]; omega
    · obtain rfl : k = 63 := by omega
      obtain ⟨ao, c, rfl⟩ := hR.out.sl
      rw [nmL_len] at hR ⊢
      have hs := hB.out.size
      go_wp2_with (first
        | (go_at_call 32; refine (at_any _ _ _).mono ?_; rintro e w1 ⟨rfl, hw1⟩; have hb1 : Below wr.heap.size wr w1 := hw1 ▸ below_alloc _ _; clear hw1)
        | (at_builtin; refine app_pt rfl (.tmp 21) (.tmp 23) rfl w.heap.size _ (nmL 63) rfl _ _ _ rfl (hR.out.below hb1) rfl (by rw [nmL_len]; omega) (by have := hb1.size; omega) ?_))
      intro v' w' hR' hB'
      obtain ⟨ao', c', rfl⟩ := hR'.sl
      have HR' : Hid (PRow w' w.heap.size (.slice ao' (nmL 63 ++ [((0 : Int), (5000 : Int))]).length c') nm64) := hR'
      have HB' : Hid (Below w.heap.size w w') := (hB.out.trans (hb1.mono (by omega))).trans hB'
      rw [List.length_append, nmL_len] at HR' ⊢
      clear hR' hB' hb1 hR hB
      go_wp2_with fail
      refine (S64 _ _ HR'.out.pts).mono ?_
      rintro e w2 ⟨rfl, hb2⟩
      have HR2 := hide (HR'.out.below hb2)
      have HB2 := hide (below_next HB'.out (Nat.le_refl _) hb2)
      clear HR' HB' hb2 S64
      have hs2 := HB2.out.size
      go_wp2_with (first
        | (go_at_call 32; refine (at_any _ _ _).mono ?_; rintro e w3 ⟨rfl, hw3⟩; have hb3 : Below w2.heap.size w2 w3 := hw3 ▸ below_alloc _ _; clear hw3)
        | (at_builtin; refine app_pt rfl (.tmp 27) (.tmp 29) rfl w.heap.size _ nm64 rfl _ _ _ rfl (HR2.out.below hb3) rfl (by decide +kernel) (by have := hb3.size; omega) ?_))
      intro v4 w4 hR4 hB4
      have HB4 : Hid (Below w.heap.size w w4) := (HB2.out.trans (hb3.mono (by omega))).trans hB4
      have HR4 : Hid (PRow w4 w.heap.size v4 nm65) := hR4
      clear hR4 hB4 hb3 HR2 HB2
      go_wp2_with fail
      refine (S65 _ _ HR4.out.pts).mono ?_
      rintro e w5 ⟨rfl, hb5⟩
      have HB5 := below_next HB4.out (Nat.le_refl _) hb5
      clear HR4 HB4 hb5 S65
      go_wp2_with (go_at_call 32; refine (at_any _ _ _).mono ?_; rintro e w9 ⟨rfl, hw9⟩; have hb9 : Below _ _ w9 := hw9 ▸ below_alloc _ _; replace HB5 := below_next HB5 (Nat.le_refl _) hb9; clear hb9 hw9)
      refine (ex_far1 _).mono ?_
      rintro e w6 ⟨⟨x1, rfl⟩, hb6⟩
      replace HB5 := below_next HB5 (Nat.le_refl _) hb6
      clear hb6
      go_wp2_with (go_at_call 32; refine (at_any _ _ _).mono ?_; rintro e w9 ⟨rfl, hw9⟩; have hb9 : Below _ _ w9 := hw9 ▸ below_alloc _ _; replace HB5 := below_next HB5 (Nat.le_refl _) hb9; clear hb9 hw9)
      refine (ex_far2 _).mono ?_
      rintro e w7 ⟨⟨x2, rfl⟩, hb7⟩
      replace HB5 := below_next HB5 (Nat.le_refl _) hb7
      clear hb7
      go_wp2_with fail
      refine (AW _).mono ?_
      rintro e w8 ⟨rfl, hb8⟩
      replace HB5 := below_next HB5 (Nat.le_refl _) hb8
      go_wp2_with fail
      go_ret
      exact ⟨rfl, HB5⟩
end Go.Proofs.Ytohepelnbmojiaa
