/- Package vote: the valid values; the middle; a tick; New, Ages, Splits. -/
import Derived.Test.YtmglcmhofcejiaaVo2
namespace Go.Proofs.Ytmglcmhofcejiaa
open Go.RowKit Go.Great

theorem vc0 {w : World} {B : Nat} {t : Vt} {y : TypeId} (h : Blk w B (vC t) y) : w.cell? ⟨B, 0, none⟩ = some (.int .i64 t.st) := h.cell 0 rfl
theorem vc1 {w : World} {B : Nat} {t : Vt} {y : TypeId} (h : Blk w B (vC t) y) : w.cell? ⟨B, 1, none⟩ = some (.int .i64 t.sp) := h.cell 1 rfl
theorem vc2 {w : World} {B : Nat} {t : Vt} {y : TypeId} (h : Blk w B (vC t) y) : w.cell? ⟨B, 2, none⟩ = some (.int .i64 (t.v 0)) := h.cell 2 rfl
theorem vc3 {w : World} {B : Nat} {t : Vt} {y : TypeId} (h : Blk w B (vC t) y) : w.cell? ⟨B, 3, none⟩ = some (.int .i64 (t.v 1)) := h.cell 3 rfl
theorem vc4 {w : World} {B : Nat} {t : Vt} {y : TypeId} (h : Blk w B (vC t) y) : w.cell? ⟨B, 4, none⟩ = some (.int .i64 (t.v 2)) := h.cell 4 rfl
theorem vc5 {w : World} {B : Nat} {t : Vt} {y : TypeId} (h : Blk w B (vC t) y) : w.cell? ⟨B, 5, none⟩ = some (.int .i64 (t.a 0)) := h.cell 5 rfl
theorem vc6 {w : World} {B : Nat} {t : Vt} {y : TypeId} (h : Blk w B (vC t) y) : w.cell? ⟨B, 6, none⟩ = some (.int .i64 (t.a 1)) := h.cell 6 rfl
theorem vc7 {w : World} {B : Nat} {t : Vt} {y : TypeId} (h : Blk w B (vC t) y) : w.cell? ⟨B, 7, none⟩ = some (.int .i64 (t.a 2)) := h.cell 7 rfl
theorem vc8 {w : World} {B : Nat} {t : Vt} {y : TypeId} (h : Blk w B (vC t) y) : w.cell? ⟨B, 8, none⟩ = some (.int .i64 t.n) := h.cell 8 rfl
/-- a slice of these numbers, sorted -/
def Srow (w : World) (base : Nat) (v : Value) (l : List Int) : Prop := (l = [] ∧ ∃ a cap, v = .slice a 0 cap) ∨ (l ≠ [] ∧ ∃ g cap, v = .slice (some ⟨g, 0, none⟩) l.length cap ∧ base ≤ g ∧ NRow w g cap l.length (srt l))
theorem nrow_of {w : World} {base : Nat} {v : Value} {l : List Int} (h : IRow w base v l) (h0 : l ≠ []) : ∃ g cap, v = .slice (some ⟨g, 0, none⟩) l.length cap ∧ base ≤ g ∧ NRow w g cap l.length (fun k => l.getD k 0) := by
  rcases h.2 with ⟨_, h2⟩ | ⟨g, cap, cur, h1, hb, hh, hn, _, hs, ht⟩
  · exact absurd (List.eq_nil_of_length_eq_zero h2) h0
  · refine ⟨g, cap, h1, hb, ⟨cur, hh, by omega, fun t ht' => ?_⟩, hn⟩
    have e : (cur.toList.take (l.length * 1))[t]? = some (.int .i64 (l.getD t 0)) := by
      rw [ht, List.getElem?_map, List.getElem?_eq_getElem ht', List.getD, List.getElem?_eq_getElem ht']; rfl
    rw [List.getElem?_take_of_lt (by omega)] at e
    simpa using e
theorem ixv_0 (a b c : Value) (w : World) : (Instr.index 27 (.agg #[a, b, c]) (.int .i64 0)).run Try.prog w = .ok a w := by kernel_rfl
theorem ixv_1 (a b c : Value) (w : World) : (Instr.index 27 (.agg #[a, b, c]) (.int .i64 1)).run Try.prog w = .ok b w := by kernel_rfl
theorem ixv_2 (a b c : Value) (w : World) : (Instr.index 27 (.agg #[a, b, c]) (.int .i64 2)).run Try.prog w = .ok c w := by kernel_rfl
theorem IRow.drewN {w : World} {base : Nat} {v : Value} {l : List Int} (h : IRow w base v l) (k : Nat) : IRow (w.drewN k) base v l := h.below (below_drewN (Below.refl _ _) k)
set_option maxHeartbeats 1000000 in
set_option maxRecDepth 100000 in
theorem valid_any (w : World) (B : Nat) (t : Vt) (hB : Blk w B (vC t) 53) : Calls Try.prog 20 #[.pointer (some ⟨B, 0, none⟩)] w fun e w' => ∃ v, e = .returned v ∧ Srow w' w.heap.size v (vl t 3) ∧ Below w.heap.size w w' := by
  obtain ⟨i0, hi, hz0, hz1, hz2⟩ := info_parts info_int
  have k2 := vc2 hB
  have k3 := vc3 hB
  have k4 := vc4 hB
  have HB := hide hB
  have hlB := hB.lt
  clear hB
  go_enter Try.func20, Try.ntmps20
  go_wp2_with fail
  clear k2 k3 k4
  have x0 := ixv_0
  have x1 := ixv_1
  have x2 := ixv_2
  go_loopw [10, 3] (fun vi vz wr => ∃ (j : Nat) (vs : Value), vi = .int .i64 (j : Int) ∧ vs = vz ∧ j ≤ 3 ∧ IRow wr w.heap.size vz (vl t j) ∧ Below w.heap.size w wr) (fun v _ _ => 3 - (intOf v).toNat)
  case atStart => exact ⟨0, _, rfl, rfl, by omega, IRow.nil _ _, Below.refl _ _⟩
  case round =>
    obtain ⟨j, vs, rfl, hvs, hj, hR, hG⟩ := hrel
    subst hvs
    have HR := hide hR
    have HG := hide hG
    have hll := vl_len t j
    clear hR hG
    by_cases h3 : j = 3
    · subst h3
      by_cases he : vl t 3 = []
      · obtain ⟨a, cap, hv⟩ := HR.out.shape
        rw [he] at hv
        subst hv
        go_wp2_with (go_at_call 26; refine (sort_none _ a cap).mono ?_; rintro e w' ⟨rfl, rfl⟩)
        go_ret
        exact ⟨_, rfl, .inl ⟨he, a, cap, rfl⟩, HG.out⟩
      · obtain ⟨g, cap, hv, hg, hN⟩ := nrow_of HR.out he
        subst hv
        have HN := hide hN
        clear hN
        obtain ⟨n, hn⟩ : ∃ n, Hid ((vl t 3).length = n) := ⟨_, hide rfl⟩
        rw [hn.out] at HN hll ⊢
        go_wp2_with (go_at_call 26; refine (sort_any _ g cap n _ HN.out (by omega)).mono ?_; rintro e w' ⟨rfl, h1, h2⟩)
        go_ret
        refine ⟨_, rfl, .inr ⟨he, g, cap, by rw [hn.out]; rfl, hg, ?_⟩, ?_⟩
        · rw [hn.out, srt, hn.out]; exact h1
        · exact HG.out.grown h2 HG.out.size (fun k e => by injection e with e; omega)
    · have hlB2 := HB.out.below HG.out hlB
      have k0 := vc0 hlB2
      have k5 := vc5 hlB2
      have k6 := vc6 hlB2
      have k7 := vc7 hlB2
      clear hlB2
      have HV : Hid (∀ i, vl t (i + 1) = vl t i ++ if t.a i ≤ t.st then [t.v i] else []) := hide fun _ => rfl
      have hs := HG.out.size
      obtain rfl | rfl | rfl : j = 0 ∨ j = 1 ∨ j = 2 := by omega
      · have hs1 := HV.out 0
        obtain ⟨L, hL⟩ : ∃ L, Hid (vl t 0 = L) := ⟨_, hide rfl⟩
        rw [hL.out] at HR hll hs1
        by_cases hle : t.a 0 ≤ t.st
        · rw [if_pos hle] at hs1
          have HS := hide hs1
          clear hs1
          have hd : decide (t.a 0 ≤ t.st) = true := by simpa using hle
          clear hle
          go_wp2_with fail
          go_quiet (fail)
          have HO : Hid (∀ o, ((wr.drewN nq).alloc o).ownsRow w.heap.size 3 1 vs L.length (L.map (Value.int .i64))) := hide fun o => (HR.out.drewN nq).alloc o
          have HB2 := hide (below_drewN HG.out nq)
          have hs2 : Hid (w.heap.size ≤ (wr.drewN nq).heap.size) := hide HB2.out.size
          clear HR
          generalize wr.drewN nq = w2 at *
          go_wp2_with (at_builtin; refine wpList_append_own _ rfl (.tmp 25) (.tmp 27) 55 rfl w.heap.size 3 i0 _ 1 8 Try.underlying55 hi hz0 hz1 hz2 rfl (by decide) _ _ _ rfl (HO.out _) ⟨w2.heap.size, 0, none⟩ 1 1 [.int .i64 (t.v 0)] rfl rfl ?c1 ?c2 ?c3 ?c4 ?c5 ?_)
          case c1 => exact new_cell1 _ _ rfl _ _
          case c2 => intro u hu; simp at hu; subst hu; rfl
          case c3 => unfold maxLen; omega
          case c4 => omega
          case c5 => have := hs2.out; simp; omega
          intro v4 w4 hown4 hgrow4 _
          have HO4 : Hid (IRow w4 w.heap.size v4 (L ++ [t.v 0])) := hide (by
            show World.ownsRow _ _ _ _ _ _ _
            simpa using hown4)
          have HB4 := hide ((HB2.out.alloc hs2.out _).grown hgrow4 (Nat.le_trans hs2.out (below_alloc _ _).size) (fun j e => ((HO.out (.cells #[] 0)).lt j e).1))
          clear hown4 hgrow4 HO
          go_wp2_with fail
          go_roundw
          case rel => exact ⟨0 + 1, _, by go_num, rfl, by omega, by rw [HS.out]; exact HO4.out, HB4.out⟩
          case measure => simp [intOf]
        · rw [if_neg hle, List.append_nil] at hs1
          have HS := hide hs1
          clear hs1
          have hd : decide (t.a 0 ≤ t.st) = false := by simpa using hle
          clear hle
          go_wp2_with fail
          go_quiet (fail)
          go_wp2_with fail
          go_roundw
          case rel => exact ⟨0 + 1, _, by go_num, rfl, by omega, by rw [HS.out]; exact HR.out.drewN _, below_drewN HG.out _⟩
          case measure => simp [intOf]
      · have hs1 := HV.out 1
        obtain ⟨L, hL⟩ : ∃ L, Hid (vl t 1 = L) := ⟨_, hide rfl⟩
        rw [hL.out] at HR hll hs1
        by_cases hle : t.a 1 ≤ t.st
        · rw [if_pos hle] at hs1
          have HS := hide hs1
          clear hs1
          have hd : decide (t.a 1 ≤ t.st) = true := by simpa using hle
          clear hle
          go_wp2_with fail
          go_quiet (fail)
          have HO : Hid (∀ o, ((wr.drewN nq).alloc o).ownsRow w.heap.size 3 1 vs L.length (L.map (Value.int .i64))) := hide fun o => (HR.out.drewN nq).alloc o
          have HB2 := hide (below_drewN HG.out nq)
          have hs2 : Hid (w.heap.size ≤ (wr.drewN nq).heap.size) := hide HB2.out.size
          clear HR
          generalize wr.drewN nq = w2 at *
          go_wp2_with (at_builtin; refine wpList_append_own _ rfl (.tmp 25) (.tmp 27) 55 rfl w.heap.size 3 i0 _ 1 8 Try.underlying55 hi hz0 hz1 hz2 rfl (by decide) _ _ _ rfl (HO.out _) ⟨w2.heap.size, 0, none⟩ 1 1 [.int .i64 (t.v 1)] rfl rfl ?c1 ?c2 ?c3 ?c4 ?c5 ?_)
          case c1 => exact new_cell1 _ _ rfl _ _
          case c2 => intro u hu; simp at hu; subst hu; rfl
          case c3 => unfold maxLen; omega
          case c4 => omega
          case c5 => have := hs2.out; simp; omega
          intro v4 w4 hown4 hgrow4 _
          have HO4 : Hid (IRow w4 w.heap.size v4 (L ++ [t.v 1])) := hide (by
            show World.ownsRow _ _ _ _ _ _ _
            simpa using hown4)
          have HB4 := hide ((HB2.out.alloc hs2.out _).grown hgrow4 (Nat.le_trans hs2.out (below_alloc _ _).size) (fun j e => ((HO.out (.cells #[] 0)).lt j e).1))
          clear hown4 hgrow4 HO
          go_wp2_with fail
          go_roundw
          case rel => exact ⟨1 + 1, _, by go_num, rfl, by omega, by rw [HS.out]; exact HO4.out, HB4.out⟩
          case measure => simp [intOf]
        · rw [if_neg hle, List.append_nil] at hs1
          have HS := hide hs1
          clear hs1
          have hd : decide (t.a 1 ≤ t.st) = false := by simpa using hle
          clear hle
          go_wp2_with fail
          go_quiet (fail)
          go_wp2_with fail
          go_roundw
          case rel => exact ⟨1 + 1, _, by go_num, rfl, by omega, by rw [HS.out]; exact HR.out.drewN _, below_drewN HG.out _⟩
          case measure => simp [intOf]
      · have hs1 := HV.out 2
        obtain ⟨L, hL⟩ : ∃ L, Hid (vl t 2 = L) := ⟨_, hide rfl⟩
        rw [hL.out] at HR hll hs1
        by_cases hle : t.a 2 ≤ t.st
        · rw [if_pos hle] at hs1
          have HS := hide hs1
          clear hs1
          have hd : decide (t.a 2 ≤ t.st) = true := by simpa using hle
          clear hle
          go_wp2_with fail
          go_quiet (fail)
          have HO : Hid (∀ o, ((wr.drewN nq).alloc o).ownsRow w.heap.size 3 1 vs L.length (L.map (Value.int .i64))) := hide fun o => (HR.out.drewN nq).alloc o
          have HB2 := hide (below_drewN HG.out nq)
          have hs2 : Hid (w.heap.size ≤ (wr.drewN nq).heap.size) := hide HB2.out.size
          clear HR
          generalize wr.drewN nq = w2 at *
          go_wp2_with (at_builtin; refine wpList_append_own _ rfl (.tmp 25) (.tmp 27) 55 rfl w.heap.size 3 i0 _ 1 8 Try.underlying55 hi hz0 hz1 hz2 rfl (by decide) _ _ _ rfl (HO.out _) ⟨w2.heap.size, 0, none⟩ 1 1 [.int .i64 (t.v 2)] rfl rfl ?c1 ?c2 ?c3 ?c4 ?c5 ?_)
          case c1 => exact new_cell1 _ _ rfl _ _
          case c2 => intro u hu; simp at hu; subst hu; rfl
          case c3 => unfold maxLen; omega
          case c4 => omega
          case c5 => have := hs2.out; simp; omega
          intro v4 w4 hown4 hgrow4 _
          have HO4 : Hid (IRow w4 w.heap.size v4 (L ++ [t.v 2])) := hide (by
            show World.ownsRow _ _ _ _ _ _ _
            simpa using hown4)
          have HB4 := hide ((HB2.out.alloc hs2.out _).grown hgrow4 (Nat.le_trans hs2.out (below_alloc _ _).size) (fun j e => ((HO.out (.cells #[] 0)).lt j e).1))
          clear hown4 hgrow4 HO
          go_wp2_with fail
          go_roundw
          case rel => exact ⟨2 + 1, _, by go_num, rfl, by omega, by rw [HS.out]; exact HO4.out, HB4.out⟩
          case measure => simp [intOf]
        · rw [if_neg hle, List.append_nil] at hs1
          have HS := hide hs1
          clear hs1
          have hd : decide (t.a 2 ≤ t.st) = false := by simpa using hle
          clear hle
          go_wp2_with fail
          go_quiet (fail)
          go_wp2_with fail
          go_roundw
          case rel => exact ⟨2 + 1, _, by go_num, rfl, by omega, by rw [HS.out]; exact HR.out.drewN _, below_drewN HG.out _⟩
          case measure => simp [intOf]
theorem results_one {fn : Func} {p : Tmp} {ty : TypeId} (h : fn.results = #[.cell p ty]) (tmps : Array Value) (P : Program) (w : World) :
    (results fn tmps).run P w = ((asAddr (tmps.getD p undef)).run P w).andThen fun a w₁ => (loadVar ty a).run P w₁ := by
  simp only [results, h]
  simp [Sem.run_bind, Result.andThen]
theorem ages_back {fn : Func} {p : Tmp} (h : fn.results = #[.cell p 27]) (tmps : Array Value) (w : World) (g : Nat) (x y z : Value) (hp : tmps.getD p undef = .pointer (some ⟨g, 0, none⟩)) (hg : Blk w g #[x, y, z] 27) : (results fn tmps).run Try.prog w = .ok (.agg #[x, y, z]) w := by
  rw [results_one h]
  have := run_loadVar_row (P := Try.prog) w g 27 27 #[x, y, z] (0, 0) _ hg Try.underlying27 rfl (by kernel_rfl)
  rw [hp]
  simp [asAddr, this, Result.andThen]
theorem read_back {fn : Func} {p : Tmp} (h : fn.results = #[.cell p 36]) (tmps : Array Value) (w : World) (g : Nat) (x y : Value) (hp : tmps.getD p undef = .pointer (some ⟨g, 0, none⟩)) (hg : Blk w g #[x, y] 36) : (results fn tmps).run Try.prog w = .ok (.agg #[x, y]) w := by
  rw [results_one h]
  have := run_loadVar_row (P := Try.prog) w g 36 36 #[x, y] (0, 0) _ hg Try.underlying36 rfl (by kernel_rfl)
  rw [hp]
  simp [asAddr, this, Result.andThen]
theorem mid_fn (w : World) (g cap n : Nat) (f : Nat → Int) (hR : NRow w g cap n f) (h0 : 1 ≤ n) (h3 : n ≤ 3) (hf : ∀ k, k < n → I64 (f k)) : Calls Try.prog 23 #[.slice (some ⟨g, 0, none⟩) n cap] w fun e w' => e = .returned (.int .i64 (hlf (f ((n - 1) / 2)) (f (n / 2)))) ∧ ∃ k, w' = w.drewN k := by
  obtain rfl | rfl | rfl : n = 1 ∨ n = 2 ∨ n = 3 := by omega
  · have c0 := hR.cell 0 (by omega)
    have H := hide (hf 0 (by omega))
    clear hR hf
    go_enter Try.func23, Try.ntmps23
    go_wp2_with fail
    go_quiet ((go_at_call 27; exact Calls.quiet_of_same (half_any _ _ H.out H.out _)))
    go_wp2_with fail
    go_ret
    exact ⟨rfl, nq, rfl⟩
  · have c0 := hR.cell 0 (by omega)
    have c1 := hR.cell 1 (by omega)
    have H0 := hide (hf 0 (by omega))
    have H1 := hide (hf 1 (by omega))
    clear hR hf
    go_enter Try.func23, Try.ntmps23
    go_wp2_with fail
    go_quiet ((go_at_call 27; exact Calls.quiet_of_same (half_any _ _ H0.out H1.out _)))
    go_wp2_with fail
    go_ret
    exact ⟨rfl, nq, rfl⟩
  · have c0 := hR.cell 1 (by omega)
    have H := hide (hf 1 (by omega))
    clear hR hf
    go_enter Try.func23, Try.ntmps23
    go_wp2_with fail
    go_quiet ((go_at_call 27; exact Calls.quiet_of_same (half_any _ _ H.out H.out _)))
    go_wp2_with fail
    go_ret
    exact ⟨rfl, nq, rfl⟩
theorem new_any (w : World) (s p : Int) (hs : 0 ≤ s) (hs1 : s ≤ 65534) (hp : 0 ≤ p) : Calls Try.prog 9 #[.int .i64 s, .int .i64 p] w fun e w' => ∃ B, e = .returned (.tuple #[.pointer (some ⟨B, 0, none⟩), .int .i64 0]) ∧ Blk w' B (vC ⟨s, p, fun _ => 0, fun _ => 65535, 0⟩) 53 ∧ Below w.heap.size w w' ∧ w.heap.size ≤ B := by
  have g1 : ¬ s < 0 := by omega
  have g2 : ¬ 65535 ≤ s := by omega
  have g3 : ¬ p < 0 := by omega
  go_enter Try.func9, Try.ntmps9
  go_wp2
  go_ret2
  refine ⟨_, rfl, ?_, ?_, ?_⟩
  · have := Blk.new (w.alloc (.cells #[.int .i64 65535, .int .i64 65535, .int .i64 65535] 27)) (vC ⟨s, p, fun _ => 0, fun _ => 65535, 0⟩) 53
    rw [size_alloc] at this
    exact this
  · exact b2 _ _ _
  · omega
theorem new_no (w : World) (s p : Int) (h : s < 0 ∨ 65534 < s ∨ p < 0) : Calls Try.prog 9 #[.int .i64 s, .int .i64 p] w fun e w' => e = .returned (.tuple #[.pointer none, .int .i64 1]) ∧ w' = w := by
  by_cases g1 : s < 0
  · go_enter Try.func9, Try.ntmps9
    go_wp2
    go_ret2
    exact ⟨rfl, rfl⟩
  · by_cases g2 : 65535 ≤ s
    · go_enter Try.func9, Try.ntmps9
      go_wp2
      go_ret2
      exact ⟨rfl, rfl⟩
    · have g3 : p < 0 := by omega
      go_enter Try.func9, Try.ntmps9
      go_wp2
      go_ret2
      exact ⟨rfl, rfl⟩
theorem splits_any (w : World) (B : Nat) (t : Vt) (hB : Blk w B (vC t) 53) : Calls Try.prog 13 #[.pointer (some ⟨B, 0, none⟩)] w fun e w' => e = .returned (.int .i64 t.n) ∧ w' = w := by
  have c := vc8 hB
  go_enter Try.func13, Try.ntmps13
  go_wp2
  go_ret
  exact ⟨rfl, rfl⟩
theorem splits_nil (w : World) : Calls Try.prog 13 #[.pointer none] w fun e w' => e = .returned (.int .i64 0) ∧ w' = w := by
  go_enter Try.func13, Try.ntmps13
  go_wp2
  go_ret
  exact ⟨rfl, rfl⟩
theorem ages_any (w : World) (B : Nat) (t : Vt) (hB : Blk w B (vC t) 53) : Calls Try.prog 12 #[.pointer (some ⟨B, 0, none⟩)] w fun e w' => e = .returned (.agg #[.int .i64 (t.a 0), .int .i64 (t.a 1), .int .i64 (t.a 2)]) ∧ Below w.heap.size w w' := by
  have c5 := vc5 hB
  have c6 := vc6 hB
  have c7 := vc7 hB
  have hl := hB.lt
  go_enter Try.func12, Try.ntmps12
  go_wp2
  exact bodyPost_ret (ages_back (p := 2) (by kernel_rfl) _ _ w.heap.size _ _ _ rfl (Blk.new _ _ _)) rfl ⟨rfl, below_alloc _ _⟩
theorem ages_nil (w : World) : Calls Try.prog 12 #[.pointer none] w fun e w' => e = .returned (.agg #[.int .i64 0, .int .i64 0, .int .i64 0]) ∧ Below w.heap.size w w' := by
  go_enter Try.func12, Try.ntmps12
  go_wp2
  exact bodyPost_ret (ages_back (p := 2) (by kernel_rfl) _ _ w.heap.size _ _ _ rfl (Blk.new _ _ _)) rfl ⟨rfl, below_alloc _ _⟩
theorem farL_nonneg (l : List Int) : 0 ≤ farL l := by
  unfold farL
  split <;> omega
theorem stp_far (u : Un) (t : Vt) (h : t.sp < farL (vl (hr u t 3) 3)) : stp u t = { hr u t 3 with n := cnt (hr u t 3).n } := by
  unfold stp; exact if_pos h
theorem stp_near (u : Un) (t : Vt) (h : ¬ t.sp < farL (vl (hr u t 3) 3)) : stp u t = hr u t 3 := by
  unfold stp; exact if_neg h
theorem step_nil (w : World) (u : Un) : Calls Try.prog 14 #[.pointer none, uV u] w fun e w' => e = .returned (.agg #[.bool false, .int .i64 0]) ∧ Below w.heap.size w w' := by
  obtain ⟨W0, hW0, b0, _, B2, hz0⟩ := two_boxes w #[.bool (u.o 0), .int .i64 (u.x 0), .bool (u.o 1), .int .i64 (u.x 1), .bool (u.o 2), .int .i64 (u.x 2)] #[.bool false, .int .i64 0] 38 36
  have r0 : W0.cell? ⟨w.heap.size + 1, 0, none⟩ = some (.bool false) := B2.cell 0 rfl
  have r1 : W0.cell? ⟨w.heap.size + 1, 1, none⟩ = some (.int .i64 0) := B2.cell 1 rfl
  have f0 := B2.frozen 0
  have f1 := B2.frozen 1
  have HB2 := hide B2
  have HB0 := hide b0
  clear B2 b0
  unfold uV
  go_enter Try.func14, Try.ntmps14
  go_wp2
  exact bodyPost_ret (read_back (p := 4) (by kernel_rfl) _ _ (w.heap.size + 1) _ _ rfl (HB2.out.set2 _ _)) rfl ⟨rfl, below_set (below_set HB0.out _ _ _ (by omega) HB0.out.size) _ _ _ (by omega) (by rw [setCell_size]; exact HB0.out.size)⟩
end Go.Proofs.Ytmglcmhofcejiaa
