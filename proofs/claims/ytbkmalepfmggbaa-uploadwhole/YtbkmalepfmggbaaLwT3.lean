/- UploadWhole. -/
import Derived.Test.YtbkmalepfmggbaaUl5
import Derived.Test.YtbkmalepfmggbaaUp9
namespace Go.Proofs.Ytbkmalepfmggbaa
open Go.RowKit Go.Great

/-- the list behind i items of L -/
def whL (L : List (List Int)) (he : Int) (i : Nat) : Ls := ⟨(L.length : Int), he, 0, (L.take i).map rwL⟩
theorem whL_hd (L : List (List Int)) (he : Int) (i : Nat) (h : i ≤ L.length) : (whL L he i).hd = i := by unfold whL Ls.hd; simp; omega
theorem rwL_len (l : List Int) : (rwL l).length = 5 := rfl
theorem whL_ok {L : List (List Int)} {he : Int} {i : Nat} (h : i ≤ L.length) (hL : L.length ≤ 200) (hw : I64 he) : LOk 200 (whL L he i) :=
  ⟨⟨by show 0 ≤ (L.length : Int); omega, by show (L.length : Int) ≤ 200; omega⟩, by rw [whL_hd L he i h]; show (i : Int) ≤ (L.length : Int); omega, by show (0 : Int) ≤ 0 ∧ (0 : Int) ≤ 5; omega, hw, fun x hx => by obtain ⟨y, _, rfl⟩ := List.mem_map.1 hx; rfl⟩
theorem whL_tk {L : List (List Int)} {he : Int} {i : Nat} (h : i < L.length) : tkB (whL L he i) = true := by
  unfold tkB; rw [whL_hd L he i (by omega)]; show decide ((i : Int) < (L.length : Int)) = true; simp; omega
theorem whL_rd {L : List (List Int)} {he : Int} {i : Nat} (h : i < L.length) : rdB (whL L he i) = false := by
  unfold rdB; rw [whL_hd L he i (by omega)]; show (decide (0 < (L.length : Int)) && ((i : Int) == (L.length : Int))) = false; simp; omega
theorem whL_end {L : List (List Int)} {he : Int} (h : 0 < L.length) : rdB (whL L he L.length) = true := by
  unfold rdB; rw [whL_hd L he _ (by omega)]; show (decide (0 < (L.length : Int)) && ((L.length : Int) == (L.length : Int))) = true; simp; omega
theorem wh_begin {L : List (List Int)} (hL : 1 ≤ L.length ∧ L.length ≤ 200) : onS 2 200 ls0 7 [2, (L.length : Int)] 0 = (whL L 0 0, some (8, 2, 0)) := by
  have h2 : (encM 0 7 [2, (L.length : Int)]).2 = 0 := by have := okM_count (L.length : Int) (by omega); unfold okM at this; simpa using this
  rw [on_good (wh := 2) (ms := 200) (l := ls0) (now := 0) rfl h2 rfl, if_pos rfl]
  show beginS 2 200 (L.length : Int) 0 = _
  unfold beginS
  rw [if_neg (by omega)]
  unfold askS whL
  simp
  rfl
theorem wh_with {L : List (List Int)} {he now : Int} {i : Nat} (h : i < L.length) : (whL L he i).with (rwL (L.getD i [])) now = whL L now (i + 1) := by
  unfold whL Ls.with
  simp only [Ls.mk.injEq, true_and]
  rw [List.take_add_one, List.map_append, List.getD, List.getElem?_eq_getElem h]
  rfl
theorem wh_item {L : List (List Int)} {he : Int} {i : Nat} (h : i < L.length) (hL : L.length ≤ 200) (now : Int) : onS 2 200 (whL L he i) 9 (2 :: (i : Int) :: rwL (L.getD i [])) now = (whL L now (i + 1), if i + 1 < L.length then some (8, 2, (i : Int) + 1) else none) := by
  have h2 : (encM 0 9 (2 :: (i : Int) :: rwL (L.getD i []))).2 = 0 := by have := okM_item i (L.getD i []) (by omega); unfold okM at this; simpa using this
  rw [on_good (wh := 2) (ms := 200) (now := now) (whL_rd h) h2 rfl, if_neg (by omega), if_pos rfl]
  unfold takeS
  rw [if_neg (by rw [whL_tk h]; simp)]
  have hd : (2 :: (i : Int) :: rwL (L.getD i [])).getD 1 0 = (whL L he i).hd := by rw [whL_hd L he i (by omega)]; rfl
  rw [if_pos hd]
  simp only [List.drop_succ_cons, List.drop_zero]
  rw [wh_with h]
  by_cases hl : i + 1 < L.length
  · rw [if_pos hl, if_neg (by rw [whL_rd hl]; simp)]
    unfold askS
    rw [whL_hd L now (i + 1) (by omega)]
    rfl
  · have e : i + 1 = L.length := by omega
    rw [if_neg hl, if_pos (by rw [e]; exact whL_end (by omega))]
/-- noise: neither Count nor Cancel, nor the Item that is wanted -/
def noiB (k : Int) (ns : List Int) (i : Nat) : Bool := k == 7 || k == 11 || (k == 9 && decide (1 < ns.length) && (ns.getD 1 0 == (i : Int)))
theorem wh_noise {L : List (List Int)} {he : Int} {i : Nat} {k : Int} {ns : List Int} {now : Int} (h : i < L.length) (hq : noiB k ns i = false) : ∃ a, onS 2 200 (whL L he i) k ns now = (whL L he i, a) := by
  unfold noiB at hq
  simp only [Bool.or_eq_false_iff, beq_eq_false_iff_ne] at hq
  obtain ⟨⟨h7, h11⟩, h9⟩ := hq
  by_cases hc : rdB (whL L he i) = true ∨ okM k ns = false ∨ ¬ ns.getD 0 0 = 2
  · exact ⟨none, by unfold onS; rw [if_pos hc]⟩
  · unfold onS
    rw [if_neg hc, if_neg h7]
    by_cases e9 : k = 9
    · subst e9
      rw [if_pos rfl]
      have hok : okM 9 ns = true := by
        cases hk : okM 9 ns
        · exact absurd (.inr (.inl hk)) hc
        · rfl
      have hl := okM_9 hok
      have h1 : ¬ ns.getD 1 0 = (i : Int) := by
        have h10 : (decide (1 < ns.length)) = true := by simp; omega
        rw [h10] at h9
        simpa using h9
      unfold takeS
      rw [if_neg (by rw [whL_tk h]; simp), whL_hd L he i (by omega), if_neg h1]
      split
      · exact ⟨_, rfl⟩
      · exact ⟨_, rfl⟩
    · rw [if_neg e9, if_neg h11]
      exact ⟨_, rfl⟩
theorem wh_keep {L : List (List Int)} {he : Int} (h : 0 < L.length) : keepS 2 (whL L he L.length) 191 = (ls0, some (10, 2, 191)) := by
  unfold keepS
  rw [if_pos (whL_end h)]
  rfl
theorem wh_rows {L : List (List Int)} {he : Int} (h : 0 < L.length) : rdL (whL L he L.length) = L.map rwL := by
  unfold rdL
  rw [if_pos (whL_end h)]
  show (L.take L.length).map rwL = _
  rw [List.take_length]
set_option maxHeartbeats 8000000 in
set_option maxRecDepth 100000 in
theorem whole_walk (L : List (List Int)) (NL : List MsR) (v1 v2 : Value) (w : World) (hv1 : LstsIn w v1 L) (hN : ∀ x ∈ NL, MsOk w x) (hv2 : Rws w v2 2 msC NL) (hNl : NL.length * 32 ≤ 140737488351232) : Calls Try.prog 5 #[v1, v2] w fun e w' => e = .returned (.bool true) ∧ Below w.heap.size w w' := by
  have AW := hide awakeUp
  obtain ⟨i0, hi0, hz0, hz1, hz2⟩ := info_parts info_sl
  have HI0 := hide hi0
  have HZ0 := hide hz0
  have HZ1 := hide hz1
  have HZ2 := hide hz2
  clear hi0 hz0 hz1 hz2
  obtain ⟨_, a1, cap1, rfl, hc1⟩ := hv1
  have HC1 := hide hc1
  have HV2 := hide hv2
  obtain ⟨_, a2, cap2, rfl, _⟩ := hv2
  have HN := hide hN
  obtain ⟨n, hn⟩ : ∃ n, Hid (L.length = n) := ⟨_, hide rfl⟩
  obtain ⟨m, hm⟩ : ∃ m, Hid (NL.length = m) := ⟨_, hide rfl⟩
  rw [hn.out, hm.out]
  rw [hm.out] at hNl
  clear hc1 hN
  obtain ⟨q, hq⟩ : ∃ q, Hid ((decide (n < 1) || decide (200 < n)) = q) := ⟨_, hide rfl⟩
  go_enter Try.func5, Try.ntmps5
  go_upto_region 1 with fail
  go_cut [22] (fun v wx => v = .bool q ∧ wx = w)
  case first =>
    by_cases h1 : n < 1
    · have e : q = true := by rw [← hq.out]; simp [h1]
      subst e
      clear hq
      go_wp2_with fail
      go_meet
      exact ⟨rfl, rfl⟩
    · by_cases h2 : 200 < n
      · have e : q = true := by rw [← hq.out]; simp [h2]
        have d2 : decide ((200 : Int) < (n : Int)) = true := by simp; omega
        have d1 : decide ((n : Int) < 1) = false := by simp; omega
        subst e
        clear hq
        go_wp2_with fail
        go_meet
        exact ⟨rfl, rfl⟩
      · have e : q = false := by rw [← hq.out]; simp; omega
        have d2 : decide ((200 : Int) < (n : Int)) = false := by simp; omega
        have d1 : decide ((n : Int) < 1) = false := by simp; omega
        subst e
        clear hq
        go_wp2_with fail
        go_meet
        exact ⟨rfl, rfl⟩
  case rest =>
    obtain ⟨rfl, hw⟩ := hcut
    have hw := hw.symm
    subst hw
    cases q
    · have hb : 1 ≤ n ∧ n ≤ 200 := by
        have := hq.out
        simp at this
        omega
      clear hq
      have HBEG : Hid (onS 2 200 ls0 7 [2, (n : Int)] 0 = (whL L 0 0, some (8, 2, 0))) := hide (by rw [← hn.out]; exact wh_begin (by rw [hn.out]; exact hb))
      go_wp2_with fail
      refine (newD_any 2 200 (by decide) _).mono ?_
      rintro e w1 ⟨D, rfl, hD, hDw, hb1⟩
      have HD := hide hD
      have HDw := hide hDw
      have Hb := hide hb1
      have hlt := hD.lt
      clear hD hDw hb1
      have HB1 := hide (Blk.new w1 #[.int .i64 2, .int .i64 (n : Int)] 3)
      have Hbb1 := hide (below_alloc w1 (.cells #[.int .i64 2, .int .i64 (n : Int)] 3))
      go_wp2_with (go_at_call 23; refine (sayL_any _ _ _ _ _).mono ?_; rintro e x1 ⟨rfl, hb⟩; have HX1 := hide (HB1.out.after hb); have Hxx1 := hide (below_next Hbb1.out (Nat.le_refl _) hb); clear hb)
      refine (on_is x1 D 2 200 ls0 _ (HD.out.after Hxx1.out) (LOk.zero (by omega)) (by omega) 7 (by omega) [2, (n : Int)] _ (ints_row (l := [2, (n : Int)]) HX1.out 2 2 rfl) (slice_cap (Nat.le_refl _)) (by simp) 0 HBEG.out).mono ?_
      rintro e w2 ⟨v2, ks2, rfl, hD, hA, hg⟩
      have HD2 := hide hD
      have HA2 := hide hA
      have HB2 := hide (below_desk (below_next Hb.out (Nat.le_refl _) Hxx1.out) hg HDw.out)
      have hs2 : w1.heap.size ≤ w2.heap.size := Nat.le_trans Hxx1.out.size hg.size
      obtain ⟨p2, c2, rfl⟩ := hA.one
      clear hD hA hg HB1 HX1 Hbb1 Hxx1 HD Hb HBEG
      have HB3 := hide (Blk.new w2 #[.int .i64 2, .int .i64 0] 3)
      have Hbb3 := hide (below_alloc w2 (.cells #[.int .i64 2, .int .i64 0] 3))
      go_wp2_with (go_at_call 23; refine (sayL_any _ _ _ _ _).mono ?_; rintro e x3 ⟨rfl, hb⟩; have HX3 := hide (HB3.out.after hb); have Hxx3 := hide (below_next Hbb3.out (Nat.le_refl _) hb); clear hb)
      refine (told_true 8 2 0 _ _ x3 _ (HA2.out.below Hxx3.out) (ints_row (l := [2, 0]) HX3.out 2 2 rfl)).mono ?_
      rintro e w4 ⟨rfl, hb4⟩
      have hb4 := below_next Hxx3.out (Nat.le_refl _) hb4
      have HD4 : Hid (∃ ks, Dsk w4 D 2 200 (whL L 0 0) ks) := hide ⟨_, HD2.out.after hb4⟩
      have Hb4 := hide (below_next HB2.out (Nat.le_refl _) hb4)
      have hs4 : w1.heap.size ≤ w4.heap.size := Nat.le_trans hs2 hb4.size
      clear hb4 HB3 HX3 Hbb3 Hxx3 HA2 HD2 HB2 hs2
      obtain ⟨b, hbw⟩ : ∃ b, Hid (w1.heap.size = b) := ⟨_, hide rfl⟩
      rw [hbw.out] at hlt hs4
      have HDb := hide hlt
      clear hlt hbw
      go_wp2_with fail
      go_loopw [7, 8] (fun vw vi wx => ∃ (i : Nat) (he : Int) (us : List Value), vi = .int .i64 (i : Int) ∧ i ≤ n ∧ b ≤ wx.heap.size ∧ Hid (I64 he) ∧ Hid (us.length = i) ∧ Hid (∃ ks, Dsk wx D 2 200 (whL L he i) ks) ∧ Hid (wx.ownsRow b 36 1 vw i us) ∧ Hid (Urs wx b us ((L.take i).map rwL)) ∧ Hid (Below w.heap.size w wx)) (fun _ vi _ => n - (intOf vi).toNat)
      case atStart => exact ⟨0, 0, [], rfl, by omega, hs4, hide (by unfold I64; omega), hide rfl, HD4, hide (World.ownsRow_nil _ _ _ _), hide (Urs.nil _ _), Hb4⟩
      case round =>
        clear HD4 Hb4 hs4
        obtain ⟨i, he, us, rfl, hi, hsz, HHE, HUL, HD, HO, HU, Hb⟩ := hrel
        obtain ⟨va, vc, rfl⟩ := rows_shape HO.out
        by_cases hl : i < n
        · have hiL : i < L.length := by rw [hn.out]; exact hl
          have HNO : Hid (∀ k ns now, noiB k ns i = false → ∃ a, onS 2 200 (whL L he i) k ns now = (whL L he i, a)) := hide (fun k ns now h => wh_noise hiL h)
          have HOKi : Hid (LOk 200 (whL L he i)) := hide (whL_ok (by omega) (by rw [hn.out]; omega) HHE.out)
          have HIT : Hid (∀ now, onS 2 200 (whL L he i) 9 (2 :: (i : Int) :: rwL (L.getD i [])) now = (whL L now (i + 1), if i + 1 < n then some (8, 2, (i : Int) + 1) else none)) := hide (fun now => by rw [← hn.out]; exact wh_item hiL (by rw [hn.out]; omega) now)
          have HT1 : Hid ((L.take (i + 1)).map rwL = (L.take i).map rwL ++ [rwL (L.getD i [])]) := hide (by rw [List.take_add_one, List.map_append, List.getD, List.getElem?_eq_getElem hiL]; rfl)
          go_wp2_with fail
          go_loopw [9] (fun vk wx => ∃ k : Nat, vk = .int .i64 (k : Int) ∧ k ≤ m ∧ b ≤ wx.heap.size ∧ Hid (∃ ks, Dsk wx D 2 200 (whL L he i) ks) ∧ Hid (wx.ownsRow b 36 1 (.slice va i vc) i us) ∧ Hid (Urs wx b us ((L.take i).map rwL)) ∧ Hid (Below w.heap.size w wx)) (fun vk _ => m - (intOf vk).toNat)
          case atStart => exact ⟨0, rfl, by omega, hsz, HD, HO, HU, Hb⟩
          case round =>
            clear HD HO HU Hb hsz
            obtain ⟨k, rfl, hk, hsz, HD, HO, HU, Hb⟩ := hrel
            by_cases hkl : k < m
            · obtain ⟨ks, hD⟩ := HD.out
              have HD1 := hide hD
              clear hD HD
              obtain ⟨g2, o2, cp2, x, e2, hg2, hx, hcx⟩ := HV2.out.get k (by rw [hm.out]; exact hkl)
              rw [hm.out] at e2
              injection e2 with e2 _ e3
              subst e2 e3
              have hMs := HN.out x (List.mem_of_getElem? hx)
              obtain ⟨kk, u, ns⟩ := x
              obtain ⟨hkk, hI, hnil, hlen⟩ := hMs
              simp only at hkk hI hnil hlen
              have d0 : wr.cell? ⟨g2, o2 + k * 2, none⟩ = some (.int .u8 kk) := hcx wr Hb.out 0 _ rfl
              have d1 : wr.cell? ⟨g2, o2 + k * 2 + 1, none⟩ = some u := hcx wr Hb.out 1 _ rfl
              have HII := hide hI
              obtain ⟨ua, uc, rfl, hu2⟩ := hI
              obtain ⟨ln, hln⟩ : ∃ ln, Hid (ns.length = ln) := ⟨_, hide rfl⟩
              rw [hln.out] at d1 hlen HII hnil hu2
              have hlen63 : ln ≤ 9223372036854775807 := by omega
              have hlnz : ((ln : Nat) : Int) ≤ 9223372036854775807 := by omega
              have CP := hide (fun W (hb : Below w.heap.size w W) => copied_any kk ns (.slice ua ln uc) W (HII.out.below hb) hnil (by rw [hln.out]; exact hlen))
              have BX := hide (Blk.new wr #[.int .u8 kk, .slice ua ln uc] 38)
              have Hbx := hide (below_alloc wr (.cells #[.int .u8 kk, .slice ua ln uc] 38))
              obtain ⟨q, hq⟩ : ∃ q, Hid (noiB kk ns i = q) := ⟨_, hide rfl⟩
              have HQ : Hid ((kk == 7 || kk == 11 || (kk == 9 && decide (1 < ln) && (ns.getD 1 0 == (i : Int)))) = q) := hide (by rw [← hln.out]; exact hq.out)
              have HN1 := hide (fun h => HNO.out kk ns i (by rw [hq.out]; exact h))
              clear hcx hx hq hnil
              go_upto_region 16 with fail
              have b0 := BX.out.cell 0 rfl
              have b1 := BX.out.cell 1 rfl
              have b2 : ∀ (h : 1 < ln), ∃ g o, ua = some ⟨g, o, none⟩ ∧ (wr.alloc (.cells #[.int .u8 kk, .slice ua ln uc] 38)).cell? ⟨g, o + 1, none⟩ = some (.int .i64 (ns.getD 1 0)) := fun h => by
                obtain ⟨g, o, e, hg, hc⟩ := hu2 (by omega)
                exact ⟨g, o, e, ((below_next Hb.out (Nat.le_refl _) Hbx.out).cell (p := ⟨g, o + 1, none⟩) hg).trans (hc 1 (by omega))⟩
              have HB2 := hide b2
              clear b2 hu2 d0 d1
              generalize wr.alloc (.cells #[.int .u8 kk, .slice ua ln uc] 38) = W1 at *
              go_cut [86] (fun v wx => v = .bool q ∧ wx = W1)
              case first =>
                by_cases h7 : kk = 7
                · have e : q = true := by rw [← HQ.out, h7]; rfl
                  subst e h7
                  clear HQ HN1
                  go_wp2_with fail
                  go_meet
                  exact ⟨rfl, rfl⟩
                · have d7 : (kk == 7) = false := by simp [h7]
                  by_cases h11 : kk = 11
                  · have e : q = true := by rw [← HQ.out, h11]; rfl
                    subst e h11
                    clear HQ HN1
                    go_wp2_with fail
                    go_meet
                    exact ⟨rfl, rfl⟩
                  · have d11 : (kk == 11) = false := by simp [h11]
                    by_cases h9 : kk = 9
                    · by_cases h1 : 1 < ln
                      · obtain ⟨g, o, rfl, hgo⟩ := HB2.out h1
                        have dl : decide ((1 : Int) < (ln : Int)) = true := by simp; omega
                        have HQ2 : Hid ((ns.getD 1 0 == (i : Int)) = q) := hide (by rw [← HQ.out, d7, d11, h9]; simp [h1])
                        generalize ns.getD 1 0 = y at *
                        subst h9
                        clear HQ HN1
                        cases q
                        · have hy : (y == (i : Int)) = false := HQ2.out
                          go_wp2_with fail
                          go_meet
                          exact ⟨rfl, rfl⟩
                        · have hy : y = (i : Int) := by have := HQ2.out; simpa using this
                          subst hy
                          go_wp2_with fail
                          go_meet
                          exact ⟨rfl, rfl⟩
                      · have dl : decide ((1 : Int) < (ln : Int)) = false := by simp; omega
                        have e : q = false := by rw [← HQ.out, d7, d11, h9]; simp [h1]
                        subst e h9
                        clear HQ HN1
                        go_wp2_with fail
                        go_meet
                        exact ⟨rfl, rfl⟩
                    · have d9 : (kk == 9) = false := by simp [h9]
                      have e : q = false := by rw [← HQ.out, d7, d11, d9]; rfl
                      subst e
                      clear HQ HN1
                      go_wp2_with fail
                      go_meet
                      exact ⟨rfl, rfl⟩
              case rest =>
                obtain ⟨rfl, hw⟩ := hcut
                have hw := hw.symm
                subst hw
                have hsx := Hbx.out.size
                clear HQ HB2
                cases q
                · obtain ⟨ans, hans⟩ := HN1.out (by trivial)
                  have HB3 := hide (below_next Hb.out (Nat.le_refl _) Hbx.out)
                  have HD3 := hide (HD1.out.after Hbx.out)
                  have HO3 := hide (owns_below HO.out Hbx.out)
                  have HU3 := hide (HU.out.below Hbx.out)
                  have HAN := hide hans
                  clear hans HN1 HD1 HO HU Hb Hbx
                  go_wp2_with fail
                  refine (CP.out _ HB3.out).mono ?_
                  rintro e w3 ⟨u3, rfl, hI3, hb3⟩
                  have HI3 := hide hI3
                  have HD4 := hide (HD3.out.after hb3)
                  have HO4 := hide (owns_below HO3.out hb3)
                  have HU4 := hide (HU3.out.below hb3)
                  have HB4 := hide (below_next HB3.out (Nat.le_refl _) hb3)
                  have hs3 := hb3.size
                  obtain ⟨a3, c3, rfl⟩ := hI3.shape
                  rw [hln.out] at HI3 ⊢
                  clear hI3 hb3 HD3 HO3 HU3 HB3 CP b0 b1
                  go_wp2_with fail
                  refine (on_is w3 D 2 200 _ ks HD4.out HOKi.out (by omega) kk hkk ns _ HI3.out.ints HI3.out.cap (by rw [hln.out]; exact hlen63) (i : Int) HAN.out).mono ?_
                  rintro e w5 ⟨v5, ks5, rfl, hD, hA, hg⟩
                  have HD5 : Hid (∃ ks, Dsk w5 D 2 200 (whL L he i) ks) := hide ⟨_, hD⟩
                  have HO5 := hide (owns_desk HO4.out hg HDb.out)
                  have HU5 := hide (HU4.out.desk hg HDb.out)
                  have HB5 := hide (below_desk HB4.out hg HDw.out)
                  have hs5 := hg.size
                  obtain ⟨p5, m5, c5, rfl⟩ := hA.any
                  clear hD hA hg HO4 HU4 HB4 HD4 HI3 HAN
                  go_wp2_with fail
                  go_roundw
                  case rel => exact ⟨k + 1, by go_num, by omega, by omega, HD5, HO5, HU5, HB5⟩
                  case measure => simp [intOf]; omega
                · clear HN1 CP b0 b1
                  go_wp2_with fail
                  go_roundw
                  case rel => exact ⟨k + 1, by go_num, by omega, by omega, hide ⟨_, HD1.out.after Hbx.out⟩, hide (owns_below HO.out Hbx.out), hide (HU.out.below Hbx.out), hide (below_next Hb.out (Nat.le_refl _) Hbx.out)⟩
                  case measure => simp [intOf]; omega
            · obtain ⟨ks, hD⟩ := HD.out
              have HD1 := hide hD
              clear hD HD HNO
              have h00 : 0 < L.length := by omega
              obtain ⟨g1, o1, rfl, hg1, hcc⟩ := HC1.out h00
              obtain ⟨u, hu, hI, hnil, hlen⟩ := hcc i hiL
              have d0 : wr.cell? ⟨g1, o1 + i, none⟩ = some u := (Hb.out.cell (p := ⟨g1, o1 + i, none⟩) hg1).trans hu
              have RW := hide (row_any (L.getD i []) u wr (hI.below Hb.out) (by omega))
              obtain ⟨ua, uc, rfl, _⟩ := hI
              clear hcc hu hnil hlen
              generalize (L.getD i []).length = rl at *
              go_wp2_with fail
              refine RW.out.mono ?_
              rintro e w2 ⟨G, rfl, hG, hGw, hb2⟩
              have HG := hide hG
              have HGw := hide hGw
              have HI2 : Hid (IRow w2 wr.heap.size (.slice (some ⟨G, 0, none⟩) 5 5) (rwL (L.getD i []))) := hide (irow_blk (l := rwL (L.getD i [])) hG hGw (by show 5 ≤ maxLen; unfold maxLen; omega))
              have HO2 := hide (owns_below HO.out hb2)
              have HU2 : Hid (Urs w2 b (us ++ [.slice (some ⟨G, 0, none⟩) 5 5]) ((L.take i).map rwL ++ [rwL (L.getD i [])])) := hide ((HU.out.below hb2).more HI2.out hsz (fun j x hx k hk => (World.ownsRow.lt (HU.out.row j x hx) k hk).2) (by show 0 < 5; omega))
              have HD2 := hide (HD1.out.after hb2)
              have HB2 := hide (below_next Hb.out (Nat.le_refl _) hb2)
              have hs2 := hb2.size
              clear hG hGw hb2 RW HO HU HD1 Hb d0
              have HOA : Hid ((w2.alloc (.cells #[.slice (some ⟨G, 0, none⟩) 5 5] 36)).ownsRow b 36 1 (.slice va i vc) i us) := hide (HO2.out.alloc _)
              have hi0 := HI0.out
              have hz0 := HZ0.out
              have hz1 := HZ1.out
              have hz2 := HZ2.out
              go_wp2_with (at_builtin; refine wpList_append_own _ rfl (.tmp 97) (.tmp 99) 27 rfl b 36 i0 _ 1 24 Try.underlying27 hi0 hz0 hz1 hz2 rfl (by decide) _ _ _ rfl HOA.out ⟨w2.heap.size, 0, none⟩ 1 1 [.slice (some ⟨G, 0, none⟩) 5 5] rfl rfl ?c1 ?c2 ?c3 ?c4 ?c5 ?_)
              case c1 => exact new_cell1 _ _ rfl _ _
              case c2 => intro u hu; simp at hu; subst hu; rfl
              case c3 => unfold maxLen; omega
              case c4 => omega
              case c5 => rw [size_alloc]; omega
              intro v' w5 hown5 hgrow5 _
              have HO5 := hide hown5
              have HU5 := hide ((HU2.out.below (below_alloc w2 (.cells #[.slice (some ⟨G, 0, none⟩) 5 5] 36))).grown HOA.out hgrow5)
              have hbb : ∀ j, (Value.slice va i vc).ownBlock = some j → b ≤ j := fun j e => (World.ownsRow.lt HOA.out j e).1
              have Hb5 : Hid (Below w.heap.size w w5) := hide ((HB2.out.alloc (by have := HB2.out.size; omega) _).grown hgrow5 (by rw [size_alloc]; have := HB2.out.size; omega) (fun j e => by have := hbb j e; have := HDw.out; have := HDb.out; omega))
              obtain ⟨ks5, hD5, _⟩ := Dsk.rows (HD2.out.after (below_alloc w2 (.cells #[.slice (some ⟨G, 0, none⟩) 5 5] 36))) HOA.out hgrow5
              have HD5 := hide hD5
              have HG5 : Hid (Blk w5 G (rowI (rwL (L.getD i []))) 3) := hide ((HG.out.alloc (.cells #[.slice (some ⟨G, 0, none⟩) 5 5] 36)).grown hgrow5 (blk_apart HOA.out (HG.out.alloc (.cells #[.slice (some ⟨G, 0, none⟩) 5 5] 36)) (by decide)))
              have hs5 : b ≤ w5.heap.size := by have := hgrow5.size; rw [size_alloc] at this; omega
              obtain ⟨va5, vc5, rfl⟩ := rows_shape hown5
              rw [← HT1.out] at HU5
              have HUL5 : Hid ((us ++ [Value.slice (some ⟨G, 0, none⟩) 5 5]).length = i + 1) := hide (by rw [List.length_append, HUL.out]; rfl)
              clear hown5 hgrow5 HOA HO2 HU2 hi0 hz0 hz1 hz2 hD5 HD2 HB2 HG hbb HI2
              go_wp2_with fail
              refine (itemL_any i (rw0 (L.getD i [])) (rwA (L.getD i []) 5 1) (rwA (L.getD i []) 5 2) (rwA (L.getD i []) 5 3) (rwA (L.getD i []) 5 4) G 5 w5 _ HG5.out).mono ?_
              rintro e w6 ⟨B, rfl, hB, _, hb6⟩
              have HB6 := hide hB
              have HD6 := hide (HD5.out.after hb6)
              have HO6 := hide (owns_below HO5.out hb6)
              have HU6 := hide (HU5.out.below hb6)
              have Hb6 := hide (below_next Hb5.out (Nat.le_refl _) hb6)
              have hs6 : b ≤ w6.heap.size := by have := hb6.size; omega
              clear hB hb6 HD5 HO5 HU5 Hb5 HG5
              have HIi := hide (HIT.out (i : Int))
              by_cases hlast : i + 1 < n
              · rw [if_pos hlast] at HIi
                go_wp2_with fail
                refine (on_is w6 D 2 200 _ ks5 HD6.out HOKi.out (by omega) 9 (by omega) (2 :: (i : Int) :: rwL (L.getD i [])) _ (ints_row (l := 2 :: (i : Int) :: rwL (L.getD i [])) HB6.out 7 7 rfl) (slice_cap (Nat.le_refl _)) (by show 7 ≤ 9223372036854775807; omega) (i : Int) HIi.out).mono ?_
                rintro e w7 ⟨v7, ks7, rfl, hD, hA, hg⟩
                have HD7 := hide hD
                have HO7 := hide (owns_desk HO6.out hg HDb.out)
                have HU7 := hide (HU6.out.desk hg HDb.out)
                have HA7 := hide hA
                have Hb7 := hide (below_desk Hb6.out hg HDw.out)
                have hs7 : b ≤ w7.heap.size := by have := hg.size; omega
                obtain ⟨p7, c7, rfl⟩ := hA.one
                clear hD hA hg HB6 HD6 HO6 HU6 Hb6
                have HB8 := hide (Blk.new w7 #[.int .i64 2, .int .i64 ((i : Int) + 1)] 3)
                have Hbb8 := hide (below_alloc w7 (.cells #[.int .i64 2, .int .i64 ((i : Int) + 1)] 3))
                have dl : decide ((i : Int) + 1 < (n : Int)) = true := by simp; omega
                have de : ((i : Int) + 1 == (n : Int)) = false := by simp; omega
                go_wp2_with (go_at_call 23; refine (sayL_any _ _ _ _ _).mono ?_; rintro e x8 ⟨rfl, hb⟩; have HX8 := hide (HB8.out.after hb); have Hxx8 := hide (below_next Hbb8.out (Nat.le_refl _) hb); clear hb)
                refine (told_true 8 2 ((i : Int) + 1) _ _ x8 _ (HA7.out.below Hxx8.out) (ints_row (l := [2, (i : Int) + 1]) HX8.out 2 2 rfl)).mono ?_
                rintro e w9 ⟨rfl, hb9⟩
                have hb9 := below_next Hxx8.out (Nat.le_refl _) hb9
                have HD9 := hide (HD7.out.after hb9)
                have HO9 := hide (owns_below HO7.out hb9)
                have HU9 := hide (HU7.out.below hb9)
                have Hb9 := hide (below_next Hb7.out (Nat.le_refl _) hb9)
                have hs9 : b ≤ w9.heap.size := by have := hb9.size; omega
                have BU : Hid (Calls Try.prog 13 #[dP D] w9 fun e w' => e = .returned (.bool true) ∧ w' = w9) := hide (by
                  have := busy_any w9 D 2 200 _ ks7 HD9.out
                  rw [show decide (0 < (whL L (i : Int) (i + 1)).cn) = true by show decide (0 < (L.length : Int)) = true; simp; omega] at this
                  exact this)
                clear hb9 HB8 HX8 Hbb8 Hxx8 HA7 HD7 HO7 HU7 Hb7
                go_wp2_with (go_at_call 13; refine BU.out.mono ?_; rintro e x ⟨rfl, hx⟩; obtain rfl := hx.symm)
                go_roundw
                case rel => exact ⟨i + 1, (i : Int), us ++ [Value.slice (some ⟨G, 0, none⟩) 5 5], by go_num, by omega, hs9, hide (by unfold I64; omega), HUL5, hide ⟨_, HD9.out⟩, HO9, HU9, Hb9⟩
                case measure => simp [intOf]; omega
              · rw [if_neg hlast] at HIi
                go_wp2_with fail
                refine (on_is w6 D 2 200 _ ks5 HD6.out HOKi.out (by omega) 9 (by omega) (2 :: (i : Int) :: rwL (L.getD i [])) _ (ints_row (l := 2 :: (i : Int) :: rwL (L.getD i [])) HB6.out 7 7 rfl) (slice_cap (Nat.le_refl _)) (by show 7 ≤ 9223372036854775807; omega) (i : Int) HIi.out).mono ?_
                rintro e w7 ⟨v7, ks7, rfl, hD, hA, hg⟩
                have HD7 := hide hD
                have HO7 := hide (owns_desk HO6.out hg HDb.out)
                have HU7 := hide (HU6.out.desk hg HDb.out)
                have Hb7 := hide (below_desk Hb6.out hg HDw.out)
                have hs7 : b ≤ w7.heap.size := by have := hg.size; omega
                obtain rfl := hA.zero
                clear hD hA hg HB6 HD6 HO6 HU6 Hb6
                have dl : decide ((i : Int) + 1 < (n : Int)) = false := by simp; omega
                have de : ((i : Int) + 1 == (n : Int)) = true := by simp; omega
                have BU : Hid (Calls Try.prog 13 #[dP D] w7 fun e w' => e = .returned (.bool true) ∧ w' = w7) := hide (by
                  have := busy_any w7 D 2 200 _ ks7 HD7.out
                  rw [show decide (0 < (whL L (i : Int) (i + 1)).cn) = true by show decide (0 < (L.length : Int)) = true; simp; omega] at this
                  exact this)
                go_wp2_with (go_at_call 13; refine BU.out.mono ?_; rintro e x ⟨rfl, hx⟩; obtain rfl := hx.symm)
                go_roundw
                case rel => exact ⟨i + 1, (i : Int), us ++ [Value.slice (some ⟨G, 0, none⟩) 5 5], by go_num, by omega, hs7, hide (by unfold I64; omega), HUL5, hide ⟨_, HD7.out⟩, HO7, HU7, Hb7⟩
                case measure => simp [intOf]; omega
        · have ein : i = n := by omega
          have h0L : 0 < L.length := by rw [hn.out]; omega
          obtain ⟨ks, hD⟩ := HD.out
          have HDn : Hid (Dsk wr D 2 200 (whL L he L.length) ks) := hide (by rw [hn.out, ← ein]; exact hD)
          have HUn : Hid (Urs wr b us (L.map rwL)) := hide (by have := HU.out; rw [List.take_of_length_le (by rw [hn.out]; omega)] at this; exact this)
          have HOKn : Hid (LOk 200 (whL L he L.length)) := hide (whL_ok (Nat.le_refl _) (by rw [hn.out]; omega) HHE.out)
          clear hD HD HU ein
          go_wp2_with fail
          refine (ready_is wr D 2 200 _ _ HDn.out HOKn.out (by omega) (b := true) (L := L.map rwL) (whL_end h0L) (wh_rows h0L)).mono ?_
          rintro e w6 ⟨v6, rfl, hO6, hb6⟩
          have HL6 := hide hO6.lsts
          have HD6 := hide (HDn.out.after hb6)
          have HO6 := hide (owns_below HO.out hb6)
          have HU6 := hide (HUn.out.below hb6)
          have Hb6 := hide (below_next Hb.out (Nat.le_refl _) hb6)
          obtain ⟨va6, vc6, rfl⟩ := hO6.shape
          have HLN : Hid ((L.map rwL).length = n) := hide (by rw [List.length_map, hn.out])
          rw [HLN.out] at HL6 ⊢
          clear hO6 hb6 HDn HO HUn Hb
          go_wp2_with fail
          refine (AW.out _).mono ?_
          rintro e w7 ⟨rfl, hb7⟩
          have HD7 := hide (HD6.out.after hb7)
          have Hb7 := hide (below_next Hb6.out (Nat.le_refl _) hb7)
          have HL7 := hide (HL6.out.below hb7)
          have HW7 : Hid (Lsts w7 (.slice va i vc) (L.map rwL)) := hide (OwnL.lsts (base := b) ⟨us, by rw [HUL.out]; exact owns_below HO6.out hb7, HU6.out.below hb7⟩)
          clear hb7 HD6 HO6 HU6 Hb6 HL6
          have hrl : ∀ j, j < (L.map rwL).length → ((L.map rwL).getD j []).length ≤ 4611686018427387904 := fun j hj => by
            rw [List.length_map] at hj
            rw [List.getD, List.getElem?_map, List.getElem?_eq_getElem hj]
            show 5 ≤ 4611686018427387904
            omega
          have SL := hide (sameLists_true (L.map rwL) _ _ w7 HL7.out HW7.out (by rw [List.length_map, hn.out]; omega) hrl)
          clear hrl HL7 HW7
          go_wp2_with fail
          refine SL.out.mono ?_
          rintro e w8 ⟨rfl, hb8⟩
          have HD8 := hide (HD7.out.after hb8)
          have Hb8 := hide (below_next Hb7.out (Nat.le_refl _) hb8)
          clear hb8 HD7 Hb7 SL
          go_wp2_with fail
          refine (keep_is w8 D 2 200 _ _ HD8.out 191 (wh_keep h0L)).mono ?_
          rintro e w9 ⟨v9, ks9, rfl, hD, hA, hg⟩
          have HD9 := hide hD
          have HA9 := hide hA
          have Hb9 := hide (below_desk Hb8.out hg HDw.out)
          obtain ⟨p9, c9, rfl⟩ := hA.one
          clear hD hA hg HD8 Hb8
          have HBx := hide (Blk.new w9 #[.int .i64 2, .int .i64 191] 3)
          have Hbbx := hide (below_alloc w9 (.cells #[.int .i64 2, .int .i64 191] 3))
          go_wp2_with (go_at_call 23; refine (sayL_any _ _ _ _ _).mono ?_; rintro e xx ⟨rfl, hb⟩; have HXx := hide (HBx.out.after hb); have Hxxx := hide (below_next Hbbx.out (Nat.le_refl _) hb); clear hb)
          refine (told_true 10 2 191 _ _ xx _ (HA9.out.below Hxxx.out) (ints_row (l := [2, 191]) HXx.out 2 2 rfl)).mono ?_
          rintro e wa ⟨rfl, hba⟩
          have hba := below_next Hxxx.out (Nat.le_refl _) hba
          have HDa := hide (HD9.out.after hba)
          have Hba := hide (below_next Hb9.out (Nat.le_refl _) hba)
          have BU := hide (busy_any wa D 2 200 ls0 _ HDa.out)
          clear hba HBx HXx Hbbx Hxxx HA9 HD9 Hb9
          go_wp2_with (go_at_call 13; refine BU.out.mono ?_; rintro e x ⟨rfl, hx⟩; obtain rfl := hx.symm)
          go_ret
          exact ⟨rfl, Hba.out⟩
    · clear hq
      go_wp2_with (go_at_call 10; refine (AW.out _).mono ?_; rintro e w5 ⟨rfl, hb5⟩; have Hb5 := hide hb5; clear hb5)
      go_ret
      exact ⟨rfl, Hb5.out⟩
theorem UploadWhole_walk (v1 v2 : Value) (w : World) (h1 : ∃ L, LstsIn w v1 L) (h2 : ∃ L, (∀ x ∈ L, MsOk w x) ∧ Rws w v2 2 msC L ∧ L.length * 32 ≤ 140737488351232) : Calls Try.prog 5 #[v1, v2] w fun e w' => e = .returned (.bool true) ∧ Below w.heap.size w w' := by
  obtain ⟨L, h1⟩ := h1
  obtain ⟨NL, h2, h3, h4⟩ := h2
  exact whole_walk L NL v1 v2 w h1 h2 h3 h4
end Go.Proofs.Ytbkmalepfmggbaa
