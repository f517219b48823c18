/- ModesLand. -/
import Derived.Test.YtggjofkoggbklaaMoL
import Derived.Test.YtggjofkoggbklaaOp0
namespace Go.Proofs.Ytggjofkoggbklaa
open Go.RowKit Go.Great

theorem land_round (m : Nat) (f : Nat → Bool) (ev : Int) (hm : m < 15) (hJ : f 2 = true → m = 12 ∨ m = 13 ∨ m = 14) : ∃ (k : Nat) (K la d : Int) (g : Nat → Bool), stM m ev = K ∧ K = k ∧ k < 15 ∧ stL m (lat f) ev = la ∧ la = lat g ∧ stE m ev = d ∧ (g 2 = true → k = 12 ∨ k = 13 ∨ k = 14) ∧ (flyB m = true → flyB K = false → K = 14 ∧ d = 3) ∧ (m = 12 ∨ m = 13 → K = 12 ∨ K = 13 ∨ K = 14) ∧ (f 2 = true → g 2 = false → K = 1 ∨ K = 0) ∧ (g 2 = true → K = 12 ∨ K = 13 ∨ K = 14) := by
  obtain ⟨k, hk, hk2⟩ := st_nat m ev hm
  have hg : ∀ q : Nat → Bool, stF m f ev = q → (q 2 = true → k = 12 ∨ k = 13 ∨ k = 14) ∧ (f 2 = true → q 2 = false → k = 1 ∨ k = 0) := by
    rintro q rfl
    unfold stF
    rw [hk]
    by_cases h01 : (k : Int) = 0 ∨ (k : Int) = 1
    · rw [if_pos h01]
      exact ⟨fun h => (by cases h), fun _ _ => (by omega)⟩
    · rw [if_neg h01]
      have dry : f 2 = true → k = 12 ∨ k = 13 ∨ k = 14 := fun h => by
        rcases hJ h with e | e | e
        · have := st_backup m ev (.inl e); omega
        · have := st_backup m ev (.inr e); omega
        · subst e
          have := st_down ev
          rw [show ((14 : Nat) : Int) = 14 from rfl] at hk
          omega
      by_cases hf : flyB m = true
      · rw [if_pos hf]
        refine ⟨fun h => ?_, fun h1 h2 => ?_⟩
        · simp only [Bool.or_eq_true] at h
          rcases h with h | h
          · exact dry h
          · have hf2 : 3 ≤ (m : Int) ∧ (m : Int) ≤ 13 := by simpa [flyB] using hf
            by_cases h11 : m ≤ 11
            · have := st_dry m ev (by omega) h11 h; omega
            · have := st_backup m ev (by omega); omega
        · simp [h1] at h2
      · rw [if_neg hf]
        exact ⟨dry, fun h1 h2 => by rw [h1] at h2; cases h2⟩
  obtain ⟨h1, h2⟩ := hg _ rfl
  refine ⟨k, k, _, _, stF m f ev, hk, rfl, hk2, rfl, stL_lat m f ev, rfl, h1, ?_, ?_, ?_, ?_⟩
  · intro a b
    rw [← hk] at b ⊢
    exact st_land m ev hm a b
  · intro a
    rw [← hk]; exact st_backup m ev a
  · intro a b
    have := h2 a b; omega
  · intro a
    have := h1 a; omega
theorem and4_ne (f : Nat → Bool) : (bits BinOp.and IntKind.i64 (lat f) 4 != 0) = f 2 := by
  rw [and4_lat]; cases f 2 <;> rfl
theorem and4_eq (f : Nat → Bool) : (bits BinOp.and IntKind.i64 (lat f) 4 == 0) = !f 2 := by
  rw [and4_lat]; cases f 2 <;> rfl
/-- brake or sink? -/
def bkB (K : Int) : Bool := K == 12 || K == 13
theorem bk_iff (m : Nat) : bkB m = true ↔ m = 12 ∨ m = 13 := by
  unfold bkB
  simp only [Bool.or_eq_true, beq_iff_eq]
  omega
set_option maxHeartbeats 4000000 in
set_option maxRecDepth 100000 in
theorem land_any (l : List Int) (v : Value) (w : World) (hv : Ints w v l) (hlen : l.length * 8 + 32 ≤ 140737488355328) : Calls Try.prog 5 #[v] w fun e w' => e = .returned (.bool true) ∧ Below w.heap.size w w' := by
  have AW := hide awakeO
  have FL := hide flying_any
  have HV := hide hv
  obtain ⟨ad, cap, rfl, hv2⟩ := hv
  clear hv2
  obtain ⟨n, hn⟩ : ∃ n, Hid (l.length = n) := ⟨_, hide rfl⟩
  rw [hn.out] at hlen ⊢
  go_enter Try.func5, Try.ntmps5
  go_wp2_with (go_at_call 15; refine (newM_any _).mono ?_; rintro e w1 ⟨M, rfl, hM, hb, hMw⟩; have HM := hide hM; have Hb := hide hb; have HMw := hide hMw; clear hM hb hMw)
  go_loopw [4, 5] (fun vb vi wr => ∃ (i m : Nat) (f : Nat → Bool), vb = .bool (bkB m) ∧ vi = .int .i64 (i : Int) ∧ i ≤ n ∧ Hid (m < 15) ∧ Hid (f 2 = true → m = 12 ∨ m = 13 ∨ m = 14) ∧ Hid (Mac wr M m (lat f)) ∧ Hid (Below w.heap.size w wr)) (fun _ vi _ => n - (intOf vi).toNat)
  case atStart => exact ⟨0, 0, fun _ => false, rfl, rfl, by omega, hide (by omega), hide (fun h => by cases h), HM, Hb⟩
  case round =>
    clear HM Hb
    obtain ⟨i, m, f, rfl, rfl, hi, Hm, HJ, HM, Hb⟩ := hrel
    by_cases hlt : i < n
    · obtain ⟨a2, cap2, e1, hc⟩ := HV.out
      injection e1 with e1 e2 e3
      subst e1 e3
      obtain ⟨g0, o, rfl, hg, hc⟩ := hc (by rw [hn.out]; omega)
      have hci := hc i (by rw [hn.out]; omega)
      obtain ⟨ev, hev⟩ : ∃ ev, Hid (l.getD i 0 = ev) := ⟨_, hide rfl⟩
      rw [hev.out] at hci
      have k0 : wr.cell? ⟨g0, o + i, none⟩ = some (.int .i64 ev) := (Hb.out.cell (p := ⟨g0, o + i, none⟩) hg).trans hci
      clear hci hc e2 HV hev
      obtain ⟨k, K, la', d, g, q1, q2, q3, q4, q5, q6, q7, q8, q9, qa, qb⟩ := land_round m f ev Hm.out HJ.out
      have ST : Hid (Calls Try.prog 16 #[mP M, .int .i64 ev] wr (SEnd wr M K la' d)) := hide (step_is K la' d HM.out q1 q4 q6)
      have MD := hide (mode_any wr M m (lat f) HM.out)
      have LA := hide (latch_any wr M m (lat f) HM.out)
      have hA := and4_ne f
      have hA2 : (bits BinOp.and IntKind.i64 la' 4 != 0) = g 2 := by rw [q5]; exact and4_ne g
      have hA3 : (bits BinOp.and IntKind.i64 la' 4 == 0) = !g 2 := by rw [q5]; exact and4_eq g
      have Q2 := hide q2
      have Q3 := hide q3
      have QF : Hid (∃ g' : Nat → Bool, (g' 2 = true → k = 12 ∨ k = 13 ∨ k = 14) ∧ la' = lat g') := hide ⟨g, q7, q5⟩
      have Q8 := hide q8
      have Q9 : Hid (bkB m = true → K = 12 ∨ K = 13 ∨ K = 14) := hide (fun h => q9 ((bk_iff m).1 h))
      have QA := hide qa
      have QB := hide qb
      have QK : Hid (bkB K = bkB k) := hide (by rw [q2])
      clear q1 q2 q3 q4 q5 q6 q7 q8 q9 qa qb HM HJ Hm
      have FLm := hide (FL.out m)
      have FLK := hide (FL.out K)
      generalize flyB m = fy at *
      generalize flyB K = fn at *
      generalize bkB m = b at *
      generalize f 2 = dr at *
      generalize g 2 = dn at *
      generalize lat f = la at *
      go_upto_region 10 with (first | (go_at_call 18; refine MD.out.mono ?_; rintro e w6 ⟨rfl, hw6⟩; obtain rfl := hw6.symm) | (go_at_call 19; refine LA.out.mono ?_; rintro e w6 ⟨rfl, hw6⟩; obtain rfl := hw6.symm))
      clear MD LA hA
      go_upto_region 11 with (go_at_call 16; refine ST.out.mono ?_; rintro e w2 ⟨rfl, hM2, hg2⟩; have HM2 := hide hM2; have Hb2 := hide (below_grown Hb.out hg2 (fun q e => by injection e with e; have := HMw.out; omega)); clear hM2 hg2)
      clear ST k0 Hb
      have MD := hide (mode_any w2 M K la' HM2.out)
      have LA := hide (latch_any w2 M K la' HM2.out)
      go_upto_region 12 with (go_at_call 18; refine MD.out.mono ?_; rintro e w6 ⟨rfl, hw6⟩; obtain rfl := hw6.symm)
      clear MD
      go_cut [47] (fun v wx => v = .bool false ∧ wx = w2)
      case first =>
        cases fy
        · go_wp2_with (go_at_call 12; refine (FLm.out _).mono ?_; rintro e w6 ⟨rfl, hw6⟩; obtain rfl := hw6.symm)
          go_meet
          exact ⟨rfl, rfl⟩
        · cases fn
          · obtain ⟨e1, e2⟩ := Q8.out rfl rfl
            subst e1 e2
            go_wp2_with (first | (go_at_call_of 12 (Value.int IntKind.u8 (m : Int)); refine (FLm.out _).mono ?_; rintro e w6 ⟨rfl, hw6⟩; obtain rfl := hw6.symm) | (go_at_call_of 12 (Value.int IntKind.u8 14); refine (FLK.out _).mono ?_; rintro e w6 ⟨rfl, hw6⟩; obtain rfl := hw6.symm))
            go_meet
            exact ⟨rfl, rfl⟩
          · go_wp2_with (first | (go_at_call_of 12 (Value.int IntKind.u8 (m : Int)); refine (FLm.out _).mono ?_; rintro e w6 ⟨rfl, hw6⟩; obtain rfl := hw6.symm) | (go_at_call_of 12 (Value.int IntKind.u8 K); refine (FLK.out _).mono ?_; rintro e w6 ⟨rfl, hw6⟩; obtain rfl := hw6.symm))
            go_meet
            exact ⟨rfl, rfl⟩
      case rest =>
        obtain ⟨rfl, hw⟩ := hcut
        subst hw
        clear FLm FLK Q8
        go_upto_region 14 with fail
        go_cut [60] (fun v wx => v = .bool false ∧ wx = wc)
        case first =>
          cases b
          · go_wp2_with fail
            go_meet
            exact ⟨rfl, rfl⟩
          · rcases Q9.out rfl with e | e | e
            · subst e
              go_wp2_with fail
              go_meet
              exact ⟨rfl, rfl⟩
            · subst e
              go_wp2_with fail
              go_meet
              exact ⟨rfl, rfl⟩
            · subst e
              go_wp2_with fail
              go_meet
              exact ⟨rfl, rfl⟩
        case rest =>
          obtain ⟨rfl, hw⟩ := hcut
          subst hw
          clear Q9
          go_upto_region 16 with fail
          go_cut [75] (fun v wx => v = .bool false ∧ wx = wc)
          case first =>
            cases dr
            · go_wp2_with fail
              go_meet
              exact ⟨rfl, rfl⟩
            · cases dn
              · rcases QA.out rfl rfl with e | e
                · subst e
                  go_wp2_with (go_at_call 19; refine LA.out.mono ?_; rintro e w6 ⟨rfl, hw6⟩; obtain rfl := hw6.symm)
                  go_meet
                  exact ⟨rfl, rfl⟩
                · subst e
                  go_wp2_with (go_at_call 19; refine LA.out.mono ?_; rintro e w6 ⟨rfl, hw6⟩; obtain rfl := hw6.symm)
                  go_meet
                  exact ⟨rfl, rfl⟩
              · go_wp2_with (go_at_call 19; refine LA.out.mono ?_; rintro e w6 ⟨rfl, hw6⟩; obtain rfl := hw6.symm)
                go_meet
                exact ⟨rfl, rfl⟩
          case rest =>
            obtain ⟨rfl, hw⟩ := hcut
            subst hw
            clear QA
            go_upto_region 18 with fail
            go_cut [4] (fun v wx => v = .bool (bkB K) ∧ wx = wc)
            case first =>
              by_cases h12 : K = 12
              · subst h12
                go_wp2_with fail
                go_meet
                exact ⟨rfl, rfl⟩
              · have d12 : (K == 12) = false := by simpa using h12
                go_wp2_with fail
                go_meet
                exact ⟨by unfold bkB; rw [d12]; rfl, rfl⟩
            case rest =>
              obtain ⟨rfl, hw⟩ := hcut
              subst hw
              go_upto_region 19 with fail
              go_cut [93] (fun v wx => v = .bool false ∧ wx = wc)
              case first =>
                cases dn
                · go_wp2_with (go_at_call 19; refine LA.out.mono ?_; rintro e w6 ⟨rfl, hw6⟩; obtain rfl := hw6.symm)
                  go_meet
                  exact ⟨rfl, rfl⟩
                · rcases QB.out rfl with e | e | e
                  · subst e
                    have hk : bkB 12 = true := rfl
                    go_wp2_with (go_at_call 19; refine LA.out.mono ?_; rintro e w6 ⟨rfl, hw6⟩; obtain rfl := hw6.symm)
                    go_meet
                    exact ⟨rfl, rfl⟩
                  · subst e
                    have hk : bkB 13 = true := rfl
                    go_wp2_with (go_at_call 19; refine LA.out.mono ?_; rintro e w6 ⟨rfl, hw6⟩; obtain rfl := hw6.symm)
                    go_meet
                    exact ⟨rfl, rfl⟩
                  · subst e
                    have hk : bkB 14 = false := rfl
                    go_wp2_with (go_at_call 19; refine LA.out.mono ?_; rintro e w6 ⟨rfl, hw6⟩; obtain rfl := hw6.symm)
                    go_meet
                    exact ⟨rfl, rfl⟩
              case rest =>
                obtain ⟨rfl, hw⟩ := hcut
                subst hw
                clear LA QB hA2 hA3
                go_wp2_with fail
                go_roundw
                case rel =>
                  obtain ⟨g', h7, h5⟩ := QF.out
                  exact ⟨i + 1, k, g', by rw [QK.out], by go_num, by omega, Q3, hide h7, hide (by rw [← Q2.out, ← h5]; exact HM2.out), Hb2⟩
                case measure => simp [intOf]; omega
    · obtain rfl : i = n := by omega
      go_wp2_with (go_at_call 14; refine (AW.out _).mono ?_; rintro e w5 ⟨rfl, hb5⟩)
      go_ret
      exact ⟨rfl, below_next Hb.out (Nat.le_refl _) hb5⟩
theorem ModesLand_walk (v : Value) (w : World) (hv : ∃ l, IntsIn w v l) : Calls Try.prog 5 #[v] w fun e w' => e = .returned (.bool true) ∧ Below w.heap.size w w' := by
  obtain ⟨l, h1, _, h2⟩ := hv
  exact land_any l v w h1 h2
end Go.Proofs.Ytggjofkoggbklaa
