/- A polygon that begins further on, or goes the other way round. -/
import Derived.Test.YtohepelnbmojiaaLwNa
namespace Go.Proofs.Ytohepelnbmojiaa
open Go.RowKit Go.Great

/-- which corner stands at a place -/
def trnJ (m k : Nat) (back : Bool) (i : Nat) : Nat := if back then m - 1 - (i + k) % m else (i + k) % m
def trnL (l : List Pt) (k : Nat) (back : Bool) (n : Nat) : List Pt := (List.range n).map fun i => pt l (trnJ l.length k back i)
theorem trnL_succ (l : List Pt) (k : Nat) (back : Bool) (n : Nat) : trnL l k back (n + 1) = trnL l k back n ++ [pt l (trnJ l.length k back n)] := by simp [trnL, List.range_succ]
theorem trnL_len (l : List Pt) (k : Nat) (back : Bool) (n : Nat) : (trnL l k back n).length = n := by simp [trnL]
theorem trnJ_lt {m k i : Nat} {back : Bool} (h : 0 < m) : trnJ m k back i < m := by
  unfold trnJ
  have := Nat.mod_lt (i + k) h
  split <;> omega
set_option maxRecDepth 100000 in
set_option maxHeartbeats 4000000 in
theorem turned_any (l : List Pt) (v : Value) (k : Nat) (back : Bool) (w : World) (hv : Pts w v l) (hl : l.length ≤ 1000) (hk : k ≤ 1000) : Calls Try.prog 33 #[v, .int .i64 (k : Int), .bool back] w fun e w' => ∃ v', e = .returned v' ∧ PRow w' w.heap.size v' (trnL l k back l.length) ∧ Below w.heap.size w w' := by
  obtain ⟨a, cap, rfl, hc⟩ := hv
  have HC := hide hc
  clear hc
  obtain ⟨m, hm⟩ : ∃ m, l.length = m := ⟨_, rfl⟩
  have HM := hide hm
  rw [hm] at HC hl ⊢
  clear hm
  go_enter Try.func33, Try.ntmps33
  go_wp2_with fail
  go_loopw [7, 9] (fun v i wx => ∃ n : Nat, n ≤ m ∧ i = .int .i64 n ∧ Hid (PRow wx w.heap.size v (trnL l k back n)) ∧ Hid (Below w.heap.size w wx)) (fun _ i _ => m - (intOf i).toNat)
  case atStart => exact ⟨0, by omega, rfl, hide (World.ownsRow_nil _ _ _ _), hide (Below.refl _ _)⟩
  case round =>
    obtain ⟨n, hn, rfl, hR, hB⟩ := hrel
    obtain ⟨ao, c, rfl⟩ := hR.out.sl
    rw [trnL_len] at hR ⊢
    by_cases hlt : n < m
    · obtain ⟨g, o, rfl, hg, hcc⟩ := HC.out (by omega)
      have hJ := trnJ_lt (m := m) (k := k) (i := n) (back := back) (by omega)
      have c0 : wr.cell? ⟨g, o + trnJ m k back n * 2, none⟩ = some (.int .i64 (ptx l (trnJ m k back n))) := (hB.out.cell (p := ⟨g, o + trnJ m k back n * 2, none⟩) hg).trans (hcc _ hJ).1
      have c1 : wr.cell? ⟨g, o + trnJ m k back n * 2 + 1, none⟩ = some (.int .i64 (pty l (trnJ m k back n))) := (hB.out.cell (p := ⟨g, o + trnJ m k back n * 2 + 1, none⟩) hg).trans (hcc _ hJ).2
      have hsn := hide (trnL_succ l k back n)
      rw [HM.out] at hsn
      have hrem : ((n : Int) + (k : Int)) % (m : Int) = (((n + k) % m : Nat) : Int) := rfl
      have hml := Nat.mod_lt (n + k) (show 0 < m by omega)
      have HJe : Hid (trnJ m k back n = if back then m - 1 - (n + k) % m else (n + k) % m) := rfl
      simp only [pt] at hsn
      generalize ptx l (trnJ m k back n) = x at *
      generalize pty l (trnJ m k back n) = y at *
      generalize trnJ m k back n = J at *
      generalize (n + k) % m = R at *
      have hm0 : (m : Int) ≠ 0 := by omega
      have hs := hB.out.size
      have hgw : g < wr.heap.size := by omega
      clear hcc HC
      have fin : ∀ v' w', PRow w' w.heap.size v' (trnL l k back n ++ [(x, y)]) → Below w.heap.size wr w' → Hid (PRow w' w.heap.size v' (trnL l k back (n + 1))) ∧ Hid (Below w.heap.size w w') := fun v' w' h1 h2 => ⟨by rw [hsn.out]; exact h1, hB.out.trans h2⟩
      have FIN := hide fin
      clear fin
      cases back
      · have e : J = R := HJe.out
        subst e
        go_wp2_with (at_builtin; refine app_pt rfl (.tmp 28) (.tmp 33) rfl w.heap.size _ (trnL l k false n) rfl _ _ _ rfl hR.out rfl (by rw [trnL_len]; omega) hs ?_)
        intro v' w' h1 h2
        obtain ⟨HR', HB'⟩ := FIN.out v' w' h1 h2
        obtain ⟨ao', c', rfl⟩ := h1.sl
        clear h1 h2 hR
        go_wp2_with fail
        go_roundw
        case rel => exact ⟨n + 1, by omega, by go_num, HR', HB'⟩
        case measure => simp [intOf]; omega
      · have e : J = m - 1 - R := HJe.out
        have he : (m : Int) - 1 - (R : Int) = (J : Int) := by omega
        have HE := hide e
        clear e
        go_wp2_with (at_builtin; refine app_pt rfl (.tmp 28) (.tmp 33) rfl w.heap.size _ (trnL l k true n) rfl _ _ _ rfl hR.out rfl (by rw [trnL_len]; omega) hs ?_)
        intro v' w' h1 h2
        obtain ⟨HR', HB'⟩ := FIN.out v' w' h1 h2
        obtain ⟨ao', c', rfl⟩ := h1.sl
        clear h1 h2 hR
        go_wp2_with fail
        go_roundw
        case rel => exact ⟨n + 1, by omega, by go_num, HR', HB'⟩
        case measure => simp [intOf]; omega
    · obtain rfl : n = m := by omega
      go_wp2_with fail
      go_ret
      exact ⟨_, rfl, hR.out, hB.out⟩
end Go.Proofs.Ytohepelnbmojiaa
