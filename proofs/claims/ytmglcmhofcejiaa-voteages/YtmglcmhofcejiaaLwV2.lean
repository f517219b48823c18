/- VoteAges. -/
import Derived.Test.YtmglcmhofcejiaaVoO
namespace Go.Proofs.Ytmglcmhofcejiaa
open Go.RowKit Go.Great

/-- a voter to whom unit 0 spoke k ticks ago, and no other unit ever -/
def agT (s x : Int) (k : Nat) : Vt := ⟨s, 0, fun | 0 => x | _ => 0, fun | 0 => min (k : Int) 65535 | _ => 65535, 0⟩
theorem vt_ext {a b : Vt} (h1 : a.st = b.st) (h2 : a.sp = b.sp) (h3 : ∀ i, a.v i = b.v i) (h4 : ∀ i, a.a i = b.a i) (h5 : a.n = b.n) : a = b := by
  cases a; cases b
  simp only [Vt.mk.injEq]
  exact ⟨h1, h2, funext h3, funext h4, h5⟩
theorem cnt_top : cnt 65535 = 65535 := by unfold cnt; omega
theorem hr_ag (s x : Int) (k : Nat) : hr (un3 false 77 false 77 false 77) (agT s x k) 3 = agT s x (k + 1) := by
  have e : ∀ i, (un3 false 77 false 77 false 77).o i = false := fun i => by match i with | 0 => rfl | 1 => rfl | _ + 2 => rfl
  simp only [hr, hr1, e, Bool.false_eq_true, if_false]
  refine vt_ext rfl rfl (fun i => rfl) (fun i => ?_) rfl
  match i with
  | 0 => simp [upI, agT, cnt]; omega
  | 1 => simp [upI, agT, cnt_top]
  | 2 => simp [upI, agT, cnt_top]
  | _ + 3 => simp [upI, agT]
theorem hr_ag0 (s x : Int) : hr (un3 true x false 77 false 77) (vN s 0) 3 = agT s x 0 := by
  have e0 : (un3 true x false 77 false 77).o 0 = true := rfl
  have e1 : (un3 true x false 77 false 77).o 1 = false := rfl
  have e2 : (un3 true x false 77 false 77).o 2 = false := rfl
  simp only [hr, hr1, e0, e1, e2, Bool.false_eq_true, if_false, if_true]
  refine vt_ext rfl rfl (fun i => ?_) (fun i => ?_) rfl
  · match i with
    | 0 => rfl
    | _ + 1 => rfl
  · match i with
    | 0 => show (0 : Int) = min ((0 : Nat) : Int) 65535; omega
    | 1 => exact cnt_top
    | 2 => exact cnt_top
    | _ + 3 => simp [upI, agT, vN]
def okA (s : Int) (k : Nat) : Bool := decide (min (k : Int) 65535 ≤ s)
def xA (s x : Int) (k : Nat) : Int := if min (k : Int) 65535 ≤ s then x else 0
theorem vl_ag (s x : Int) (k : Nat) (h : s ≤ 65534) : vl (agT s x k) 3 = if min (k : Int) 65535 ≤ s then [x] else [] := by
  have n1 : ¬ (agT s x k).a 1 ≤ (agT s x k).st := by show ¬ (65535 : Int) ≤ s; omega
  have n2 : ¬ (agT s x k).a 2 ≤ (agT s x k).st := by show ¬ (65535 : Int) ≤ s; omega
  rw [vl, vl, vl, if_neg n1, if_neg n2, vl, List.append_nil, List.append_nil, List.nil_append]
  rfl
theorem far_ag (s x : Int) (k : Nat) (h : s ≤ 65534) : ¬ farL (vl (agT s x k) 3) > 0 := by
  rw [vl_ag s x k h]; split <;> (show ¬ (0 : Int) > 0; omega)
theorem stp_ag (s x : Int) (k : Nat) (h : s ≤ 65534) : stp (un3 false 77 false 77 false 77) (agT s x k) = agT s x (k + 1) ∧ sok (un3 false 77 false 77 false 77) (agT s x k) = okA s (k + 1) ∧ sx (un3 false 77 false 77 false 77) (agT s x k) = xA s x (k + 1) := by
  unfold stp sok sx okA xA
  rw [hr_ag, vl_ag s x _ h]
  refine ⟨?_, ?_, ?_⟩
  · exact if_neg (far_ag s x (k + 1) h)
  · split <;> simp_all
  · split <;> rfl
theorem stp_ag0 (s x : Int) (h : s ≤ 65534) : stp (un3 true x false 77 false 77) (vN s 0) = agT s x 0 ∧ sok (un3 true x false 77 false 77) (vN s 0) = okA s 0 ∧ sx (un3 true x false 77 false 77) (vN s 0) = xA s x 0 := by
  unfold stp sok sx okA xA
  rw [hr_ag0, vl_ag s x _ h]
  refine ⟨?_, ?_, ?_⟩
  · exact if_neg (far_ag s x 0 h)
  · split <;> simp_all
  · split <;> rfl
theorem ag_ok {s x : Int} (h0 : 0 ≤ s) (h1 : s ≤ 65534) (hx : I64 x) (k : Nat) : VOk (agT s x k) := by
  refine ⟨h0, h1, Int.le_refl _, by show (0 : Int) ≤ _; omega, fun i _ => ?_, fun i _ => ?_, by show (0 : Int) ≤ 0 ∧ (0 : Int) ≤ 65535; omega⟩
  · match i with
    | 0 => exact hx
    | _ + 1 => show I64 0; unfold I64; omega
  · match i with
    | 0 => show 0 ≤ min (k : Int) 65535 ∧ min (k : Int) 65535 ≤ 65535; omega
    | _ + 1 => show (0 : Int) ≤ 65535 ∧ (65535 : Int) ≤ 65535; omega
theorem rd_set {W : World} {B : Nat} {x y : Value} (h : Blk W B #[x, y] 36) (u v : Value) : Blk ((W.setCell ⟨B, 0, none⟩ u).setCell ⟨B, 1, none⟩ v) B #[u, v] 36 := h.set2 u v
set_option maxHeartbeats 2000000 in
set_option maxRecDepth 100000 in
theorem VoteAges_walk (s q x : Int) (hx : I64 x) (w : World) : Calls Try.prog 7 #[.int .i64 s, .int .i64 q, .int .i64 x] w fun e w' => e = .returned (.bool true) ∧ Below w.heap.size w w' := by
  have HX := hide hx
  by_cases h1 : s < 0 ∨ 65534 < s
  · go_enter Try.func7, Try.ntmps7
    go_wp2_with (first
      | (go_at_call 9; refine (new_no w s 0 (by omega)).mono ?_; rintro e w' ⟨rfl, hw'⟩; obtain rfl := hw'.symm)
      | (go_at_call 11; refine (awakeV _).mono ?_; rintro e w1 ⟨rfl, hb⟩))
    go_ret
    exact ⟨rfl, hb⟩
  · have hs0 : 0 ≤ s := by omega
    have hs1 : s ≤ 65534 := by omega
    clear h1
    by_cases h2 : q < 0 ∨ 131072 < q
    · go_enter Try.func7, Try.ntmps7
      have h2' : (decide (q < 0) || decide (131072 < q)) = true := by simpa using h2
      clear h2
      go_wp2_with (first
        | (go_at_call_of 9 (Value.int IntKind.i64 s); refine (new_any w s 0 hs0 hs1 (by decide)).mono ?_; rintro e w1 ⟨B, rfl, hB, hb1, hBw⟩)
        | (go_at_call 11; refine (awakeV _).mono ?_; rintro e w2 ⟨rfl, hb2⟩))
      all_goals go_ret
      all_goals exact ⟨rfl, below_next hb1 (Nat.le_refl _) hb2⟩
    · obtain ⟨n, rfl⟩ : ∃ n : Nat, q = n := ⟨q.toNat, by omega⟩
      have hn : n ≤ 131072 := by omega
      have d1 : decide ((n : Int) < 0) = false := by simp
      have d2 : decide (131072 < (n : Int)) = false := by simp; omega
      clear h2 hx
      obtain ⟨hst0, hok0, hx0⟩ := stp_ag0 s x hs1
      have HST0 := hide hst0
      have HOK0 := hide hok0
      have HX0 := hide hx0
      clear hst0 hok0 hx0
      go_enter Try.func7, Try.ntmps7
      go_wp2_with (go_at_call_of 9 (Value.int IntKind.i64 s); refine (new_any w s 0 hs0 hs1 (by decide)).mono ?_; rintro e w1 ⟨B, rfl, hB, hb1, hBw⟩)
      have HB0 : Hid (Blk w1 B (vC (vN s 0)) 53) := hide hB
      have Hb := hide hb1
      clear hB hb1
      obtain ⟨ok, hok⟩ : ∃ ok, Hid (okA s 0 = ok) := ⟨_, hide rfl⟩
      obtain ⟨y, hy⟩ : ∃ y, Hid (xA s x 0 = y) := ⟨_, hide rfl⟩
      rw [hok.out] at HOK0
      rw [hy.out] at HX0
      go_wp2_with (first
        | (go_at_call 18; refine (silent_any _).mono ?_; rintro e wn ⟨rfl, hb⟩; replace HB0 := hide (HB0.out.after hb); replace Hb := hide (below_next Hb.out (Nat.le_refl _) hb); clear hb)
        | (go_at_call 17; refine (say_any _ _).mono ?_; rintro e wn ⟨rfl, hb⟩; replace HB0 := hide (HB0.out.after hb); replace Hb := hide (below_next Hb.out (Nat.le_refl _) hb); clear hb)
        | (go_at_call 14; refine (step_un _ B (vN s 0) true x false 77 false 77 HB0.out (vN_ok hs0 hs1 (by decide) (by decide)) HX.out (i64_lit (by decide)) (i64_lit (by decide)) ok y HOK0.out HX0.out).mono ?_; rintro e wn ⟨rfl, hB, hG⟩; replace Hb := hide (grown_over Hb.out hG (fun q e => by injection e with e; omega)); have HB1 : Hid (Blk wn B (vC (agT s x 0)) 53) := hide (by rw [HST0.out] at hB; exact hB); clear HB0 hB hG))
      have l1 := HB1.out.lt
      have R1 := hide (Blk.new wn #[.bool ok, .int .i64 y] 36)
      replace HB1 := hide (HB1.out.alloc (.cells #[.bool ok, .int .i64 y] 36))
      have hwn := Hb.out.size
      replace Hb := hide (Hb.out.alloc Hb.out.size (.cells #[.bool ok, .int .i64 y] 36))
      have n1 : ¬ B = wn.heap.size := by omega
      clear l1
      generalize wn.heap.size = b1 at *
      generalize wn.alloc (.cells #[.bool ok, .int .i64 y] 36) = W1 at *
      rw [← hok.out, ← hy.out] at R1
      go_loopw [10] (fun vi wr => ∃ k : Nat, vi = .int .i64 (k : Int) ∧ k ≤ n ∧ Blk wr B (vC (agT s x k)) 53 ∧ Blk wr b1 #[.bool (okA s k), .int .i64 (xA s x k)] 36 ∧ Below w.heap.size w wr) (fun v _ => n - (intOf v).toNat)
      case atStart => exact ⟨0, rfl, by omega, HB1.out, R1.out, Hb.out⟩
      case round =>
        clear HB1 R1 Hb
        obtain ⟨k, rfl, hk, hBk, hRk, hbk⟩ := hrel
        by_cases hlt : k < n
        · have HB1 := hide hBk
          have R1 := hide hRk
          have Hb := hide hbk
          clear hBk hRk hbk
          obtain ⟨hst, hok, hxx⟩ := stp_ag s x k hs1
          have HST := hide hst
          have HOK := hide hok
          have HXX := hide hxx
          clear hst hok hxx
          obtain ⟨ok1, hok1⟩ : ∃ ok, Hid (okA s (k + 1) = ok) := ⟨_, hide rfl⟩
          obtain ⟨y1, hy1⟩ : ∃ y, Hid (xA s x (k + 1) = y) := ⟨_, hide rfl⟩
          rw [hok1.out] at HOK
          rw [hy1.out] at HXX
          go_wp2_with (first
            | (go_at_call 18; refine (silent_any _).mono ?_; rintro e wn ⟨rfl, hb⟩; replace HB1 := hide (HB1.out.after hb); replace Hb := hide (below_next Hb.out (Nat.le_refl _) hb); replace R1 := hide (R1.out.after hb); clear hb)
            | (go_at_call 14; refine (step_un _ B (agT s x k) false 77 false 77 false 77 HB1.out (ag_ok hs0 hs1 HX.out k) (i64_lit (by decide)) (i64_lit (by decide)) (i64_lit (by decide)) ok1 y1 HOK.out HXX.out).mono ?_; rintro e wn ⟨rfl, hB, hG⟩; replace Hb := hide (grown_over Hb.out hG (fun q e => by injection e with e; omega)); replace R1 := hide (R1.out.grown hG (fun e => by injection e with e; exact n1 e)); have HB2 : Hid (Blk wn B (vC (agT s x (k + 1))) 53) := hide (by rw [HST.out] at hB; exact hB); have f0 := R1.out.frozen 0; have f1 := R1.out.frozen 1; have r0 := R1.out.cell 0 rfl; have r1 := R1.out.cell 1 rfl; clear HB1 hB hG))
          go_roundw
          case rel =>
            refine ⟨k + 1, by go_num, by omega, (HB2.out.setOther n1 _ _).setOther n1 _ _, ?_, ?_⟩
            · rw [hok1.out, hy1.out]; exact R1.out.set2 _ _
            · exact below_set (below_set Hb.out _ _ _ hwn Hb.out.size) _ _ _ hwn (by rw [setCell_size]; exact Hb.out.size)
          case measure => simp [intOf]; omega
        · obtain rfl : k = n := by omega
          by_cases hk65 : (k : Int) ≤ 65535
          · by_cases hks : (k : Int) ≤ s
            · have he : Hid (min (k : Int) 65535 = k) := hide (by omega)
              have le : decide ((k : Int) ≤ s) = true := by simpa using hks
              have ho : Hid (okA s k = true) := hide (by unfold okA; rw [he.out]; exact le)
              have hxk : Hid (xA s x k = x) := hide (by unfold xA; rw [he.out]; exact if_pos (by simpa using le))
              have AG : Hid (∀ w', Blk w' B (vC (agT s x k)) 53 → Calls Try.prog 12 #[.pointer (some ⟨B, 0, none⟩)] w' fun e w'' => e = .returned (.agg #[.int .i64 k, .int .i64 65535, .int .i64 65535]) ∧ Below w'.heap.size w' w'') := hide (fun w' h => by
                have := ages_any w' B _ h
                rw [show (agT s x k).a 0 = min (k : Int) 65535 from rfl, he.out] at this
                exact this)
              rw [ho.out, hxk.out] at hRk
              have HB1 := hide hBk
              have R1 := hide hRk
              have Hb := hide hbk
              have na := neq_arr
              clear hBk hRk hbk he
              go_wp2_with (first
                | (go_at_call 12; refine (AG.out _ HB1.out).mono ?_; rintro e wn ⟨rfl, hb⟩; replace HB1 := hide (HB1.out.after hb); replace R1 := hide (R1.out.after hb); replace Hb := hide (below_next Hb.out (Nat.le_refl _) hb); clear hb)
                | (go_at_call 13; refine (splits_any _ B _ HB1.out).mono ?_; rintro e wz ⟨rfl, hwz⟩; obtain rfl := hwz.symm))
              have p0 : ∀ z : BelowW wn, z.q.cell? ⟨b1, 0, none⟩ = some (.bool true) := R1.out.at 0 rfl
              have p1 : ∀ z : BelowW wn, z.q.cell? ⟨b1, 1, none⟩ = some (.int .i64 x) := R1.out.at 1 rfl
              have hne : Nonempty (BelowW wn) := ⟨⟨wn, Below.refl _ _⟩⟩
              refine wp_region_calm (by kernel_rfl) (by kernel_rfl) ?_
              repeat (go_big_quiet_step (first
                | (go_at_call 17; exact calm_of (say_any _ _))
                | (go_at_call 11; exact calm_of (awakeV _))))
              refine wpQuiet_nil ?_
              rintro _ ⟨z, rfl⟩
              go_wp2_with fail
              go_ret
              exact ⟨rfl, below_next Hb.out (Nat.le_refl _) z.h⟩
            · have he : Hid (min (k : Int) 65535 = k) := hide (by omega)
              have le : decide ((k : Int) ≤ s) = false := by simpa using hks
              have ho : Hid (okA s k = false) := hide (by unfold okA; rw [he.out]; exact le)
              have hxk : Hid (xA s x k = 0) := hide (by unfold xA; rw [he.out]; exact if_neg (by simpa using le))
              have AG : Hid (∀ w', Blk w' B (vC (agT s x k)) 53 → Calls Try.prog 12 #[.pointer (some ⟨B, 0, none⟩)] w' fun e w'' => e = .returned (.agg #[.int .i64 k, .int .i64 65535, .int .i64 65535]) ∧ Below w'.heap.size w' w'') := hide (fun w' h => by
                have := ages_any w' B _ h
                rw [show (agT s x k).a 0 = min (k : Int) 65535 from rfl, he.out] at this
                exact this)
              rw [ho.out, hxk.out] at hRk
              have HB1 := hide hBk
              have R1 := hide hRk
              have Hb := hide hbk
              have na := neq_arr
              clear hBk hRk hbk he
              go_wp2_with (first
                | (go_at_call 12; refine (AG.out _ HB1.out).mono ?_; rintro e wn ⟨rfl, hb⟩; replace HB1 := hide (HB1.out.after hb); replace R1 := hide (R1.out.after hb); replace Hb := hide (below_next Hb.out (Nat.le_refl _) hb); clear hb)
                | (go_at_call 13; refine (splits_any _ B _ HB1.out).mono ?_; rintro e wz ⟨rfl, hwz⟩; obtain rfl := hwz.symm))
              go_wp2_with (go_at_call 11; refine (awakeV _).mono ?_; rintro e wm ⟨rfl, hb⟩; replace R1 := hide (R1.out.after hb); replace Hb := hide (below_next Hb.out (Nat.le_refl _) hb); have r0 : wm.cell? ⟨b1, 0, none⟩ = some (.bool false) := R1.out.cell 0 rfl; have r1 : wm.cell? ⟨b1, 1, none⟩ = some (.int .i64 0) := R1.out.cell 1 rfl; clear hb)
              go_ret
              exact ⟨rfl, Hb.out⟩
          · have he : Hid (min (k : Int) 65535 = 65535) := hide (by omega)
            have le : decide ((65535 : Int) ≤ s) = false := by simp; omega
            have hk65 : ¬ (k : Int) ≤ 65535 := by omega
            have ho : Hid (okA s k = false) := hide (by unfold okA; rw [he.out]; exact le)
            have hxk : Hid (xA s x k = 0) := hide (by unfold xA; rw [he.out]; exact if_neg (by simpa using le))
            have AG : Hid (∀ w', Blk w' B (vC (agT s x k)) 53 → Calls Try.prog 12 #[.pointer (some ⟨B, 0, none⟩)] w' fun e w'' => e = .returned (.agg #[.int .i64 65535, .int .i64 65535, .int .i64 65535]) ∧ Below w'.heap.size w' w'') := hide (fun w' h => by
              have := ages_any w' B _ h
              rw [show (agT s x k).a 0 = min (k : Int) 65535 from rfl, he.out] at this
              exact this)
            rw [ho.out, hxk.out] at hRk
            have HB1 := hide hBk
            have R1 := hide hRk
            have Hb := hide hbk
            have na := neq_arr
            clear hBk hRk hbk he
            go_wp2_with (first
              | (go_at_call 12; refine (AG.out _ HB1.out).mono ?_; rintro e wn ⟨rfl, hb⟩; replace HB1 := hide (HB1.out.after hb); replace R1 := hide (R1.out.after hb); replace Hb := hide (below_next Hb.out (Nat.le_refl _) hb); clear hb)
              | (go_at_call 13; refine (splits_any _ B _ HB1.out).mono ?_; rintro e wz ⟨rfl, hwz⟩; obtain rfl := hwz.symm))
            go_wp2_with (go_at_call 11; refine (awakeV _).mono ?_; rintro e wm ⟨rfl, hb⟩; replace R1 := hide (R1.out.after hb); replace Hb := hide (below_next Hb.out (Nat.le_refl _) hb); have r0 : wm.cell? ⟨b1, 0, none⟩ = some (.bool false) := R1.out.cell 0 rfl; have r1 : wm.cell? ⟨b1, 1, none⟩ = some (.int .i64 0) := R1.out.cell 1 rfl; clear hb)
            go_ret
            exact ⟨rfl, Hb.out⟩
end Go.Proofs.Ytmglcmhofcejiaa
