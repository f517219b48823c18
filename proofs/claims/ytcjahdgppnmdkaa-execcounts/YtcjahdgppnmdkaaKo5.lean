/- Lists that share no memory: Apart. -/
import Derived.Test.YtcjahdgppnmdkaaKo4
import Derived.Deep.DeepCutAuto
set_option maxRecDepth 100000
namespace Go.Proofs.Ytcjahdgppnmdkaa
open Go.RowKit Go.Great

theorem info_ints : (Try.prog.info? 72).map (fun i => (i.zero, i.size, i.bytes)) = some (some (.slice none 0 0), 1, 24) := by kernel_rfl
theorem made_two {w : World} {base g : Nat} (h : w.ownsRow base 72 1 (.slice (some ⟨g, 0, none⟩) 1 1) 1 (madeCells #[.slice none 0 0] 1).toList) : Two2 w g (.slice none 0 0) := by
  rcases h.2 with ⟨e, _⟩ | ⟨g2, cap, cur, e, _, hh, _, _, hs, ht⟩
  · cases e
  · injection e with e1 _ e3
    injection e1 with e4
    injection e4 with e5
    subst e5 e3
    rw [toList_madeCells_one] at ht
    have hl : cur.toList.length = 1 := by simpa using hs
    rw [List.take_of_length_le (by omega)] at ht
    have : cur = #[.slice none 0 0] := by
      apply Array.ext'
      rw [ht]; rfl
    rw [this] at hh
    exact hh
theorem upd_next (j n : Nat) : updN (fun q => if q < j then n else 0) j n = (fun q => if q < j + 1 then n else 0) := by
  funext q
  unfold updN
  by_cases e : q = j
  · rw [if_pos e, if_pos (by omega)]
  · rw [if_neg e]
    show (if q < j then n else 0) = _
    by_cases e2 : q < j
    · rw [if_pos e2, if_pos (by omega)]
    · rw [if_neg e2, if_neg (by omega)]
theorem upd_zero (j n : Nat) : updN (fun q => if q < j then n else 0) j 0 = (fun q => if q < j then n else 0) := by
  funext q
  unfold updN
  split
  · rename_i e; rw [e]; simp
  · rfl
theorem upd_upd (f : Nat → Nat) (j a b : Nat) : updN (updN f j a) j b = updN f j b := by
  funext q; unfold updN; split <;> rfl
theorem owns_form {w : World} {base n size : Nat} {e : TypeId} {v : Value} {xs : List Value} (h : w.ownsRow base e size v n xs) : ∃ a cap, v = .slice a n cap := by
  rcases h.2 with ⟨h1, h2⟩ | ⟨g, cap, cur, h1, _⟩
  · exact ⟨none, 0, by rw [h1, h2]⟩
  · exact ⟨_, cap, h1⟩
def oneF (x : Value) : Nat → Value := fun _ => x
set_option maxHeartbeats 2000000 in
set_option maxRecDepth 100000 in
theorem apart_one (n : Nat) (hn : n ≤ 64) (v0 : Value) (l0 : List Int) (e0 : l0.length = n) (w : World) (base : Nat) (r0 : IRow w base v0 l0) (L : Nat) (hL : Two2 w L v0) (hb : base ≤ L) : Calls Try.prog 35 #[.slice (some ⟨L, 0, none⟩) 1 1] w fun e w' => e = .returned (.bool true) ∧ Below base w w' ∧ w.grownBy w' v0.ownBlock := by
  obtain ⟨i0, hi, hz0, hz1, hz2⟩ := info_parts info_int
  have hLs := hL.lt
  obtain ⟨j0, gi, gz0, gz1, gz2⟩ := info_parts info_ints
  have HS1 : Hid (∀ w1, w1.ownsRow w.heap.size 72 1 (.slice (some ⟨w.heap.size, 0, none⟩) 1 1) 1 (madeCells #[.slice none 0 0] 1).toList → w.grownBy w1 none → Ap1 w base n L w.heap.size (oneF v0) (oneF (.slice none 0 0)) (fun _ => 0) w1) := by
    intro w1 ho hg
    refine ⟨fun j hj => ?_, trivial, hL.grown hg (by simp), made_two ho, (Below.refl _ _).grown hg (by omega) (fun k e => by cases e), ⟨hb, by omega, by omega⟩, ⟨hg.os, hg.tape, hg.output, hg.size, fun k hk _ => hg.block k hk (by simp)⟩, Nat.le_refl _⟩
    obtain rfl : j = 0 := by omega
    exact ⟨l0, r0.grown hg (.inl rfl), e0, fun t ht => by omega⟩
  have HBL : Hid (base ≤ L ∧ L < w.heap.size) := ⟨hb, hLs⟩
  obtain ⟨ob, hob⟩ : ∃ ob, Hid (v0.ownBlock = ob) := ⟨_, hide rfl⟩
  have HOB : Hid ((oneF v0 0).ownBlock = ob) := hob
  rw [hob.out]
  generalize oneF v0 = vv at HS1 HOB
  generalize oneF (.slice none 0 0) = uu0 at HS1
  clear hL hb r0 e0
  go_enter Try.func35, Try.ntmps35
  go_wp2_with (at_make; refine wpList_make_full _ rfl (.tmp 12) (.tmp 12) 77 rfl w.heap.size 72 j0 _ 1 Try.underlying77 gi gz0 gz1 .i64 .i64 _ _ 1 rfl rfl rfl rfl ?b1 ?b2 ?b3 ?_)
  case b1 => rw [gz2]; omega
  case b2 => unfold maxLen; omega
  case b3 => exact Nat.le_refl _
  intro w1 hown1 hgrow1
  have HA1 := hide (HS1.out w1 hown1 hgrow1)
  clear hown1 hgrow1 HS1 gi gz0 gz1 gz2
  go_wp2_with fail
  go_loopw [4] (fun i wx => ∃ (j : Nat) (uu : Nat → Value), j ≤ 1 ∧ i = .int .i64 j ∧ (∀ q, q < j → uu q = vv q) ∧ Ap1 w base n L w.heap.size vv uu (fun q => if q < j then n else 0) wx) (fun i _ => 1 - (intOf i).toNat)
  case atStart => exact ⟨0, uu0, by omega, rfl, fun q hq => by omega, HA1.out⟩
  case round =>
    obtain ⟨j, uu, hj, rfl, hu, hA⟩ := hrel
    have HA := hide hA
    have HU := hide hu
    clear hA hu
    by_cases hlt : j < 1
    · have hj2 : (j : Int) < 1 := by omega
      go_wp2_with fail
      clear HA1
      go_loopw [5] (fun i wx => ∃ t : Nat, t ≤ n ∧ i = .int .i64 t ∧ Ap1 w base n L w.heap.size vv uu (updN (fun q => if q < j then n else 0) j t) wx) (fun i _ => n - (intOf i).toNat)
      case atStart =>
        refine ⟨0, by omega, rfl, ?_⟩
        rw [upd_zero]; exact HA.out
      case round =>
        obtain ⟨t, ht, rfl, hA2⟩ := hrel
        have HA2 := hide hA2
        have d0 := hA2.lb.at j hlt
        obtain ⟨l, hRl, hll, _⟩ := hA2.rows j hlt
        obtain ⟨va, vc, hva⟩ := hRl.shape
        rw [hll] at hva
        rw [hva] at d0
        have HVA := hide hva
        clear hA2 hRl hll hva
        by_cases hlt2 : t < n
        · have hKj : updN (fun q => if q < j then n else 0) j t j = t := by simp [updN]
          obtain ⟨g, c, hv, ⟨x, hc⟩, hf, hnx⟩ := HA2.out.mark j hlt (by rw [hKj]; exact hlt2)
          rw [hKj] at hc hf hnx
          rw [HVA.out] at hv
          injection hv with hv1 _ hv2
          subst hv1 hv2
          rw [upd_upd] at hnx
          have HNX := hide hnx
          clear hnx hKj HVA HA2
          go_wp2_with fail
          go_roundw
          case rel => exact ⟨t + 1, by omega, by go_num, HNX.out⟩
          case measure => simp [intOf]; omega
        · obtain rfl : t = n := by omega
          have b0 := HA2.out.gb.at j hlt
          have bz := HA2.out.gb.fz j
          have hnx := HA2.out.keep j hlt
          rw [HVA.out] at hnx
          have hK := upd_next j t
          rw [hK] at hnx
          have HNX := hide hnx
          have HU2 : Hid (∀ q, q < j + 1 → updF uu j (.slice va t vc) q = vv q) := by
            intro q hq
            unfold updF
            by_cases e : q = j
            · rw [if_pos e, e, HVA.out]
            · rw [if_neg e]; exact HU.out q (by omega)
          generalize uu j = ub at b0
          clear hnx hK HA2 HA HU
          go_wp2_with fail
          go_roundw
          case rel => exact ⟨j + 1, _, by omega, by go_num, HU2.out, HNX.out⟩
          case measure => simp [intOf]; omega
    · have HD := hide (HA.out.done (fun q hq => by rw [if_pos (by omega)]; exact Nat.le_refl _) (fun q hq => HU.out q (by omega)))
      have hd2 : decide ((j : Int) < 1) = false := by simp only [decide_eq_false_iff_not]; omega
      obtain ⟨jj, rfl⟩ : ∃ jj, jj = j := ⟨_, rfl⟩
      clear HA HU HA1 hj hlt
      go_wp2_with fail
      go_loopw [6] (fun i wx => ∃ (j : Nat) (uu : Nat → Value), j ≤ 1 ∧ i = .int .i64 j ∧ Ap2 w base n L w.heap.size vv uu (fun q => if q < j then 16 else 0) wx) (fun i _ => 1 - (intOf i).toNat)
      case atStart => exact ⟨0, uu, by omega, rfl, HD.out⟩
      case round =>
        obtain ⟨j, uu, hj, rfl, hA⟩ := hrel
        have HA := hide hA
        clear hA HD
        by_cases hlt : j < 1
        · have hj2 : (j : Int) < 1 := by omega
          go_wp2_with fail
          go_loopw [7] (fun i wx => ∃ (t : Nat) (uu : Nat → Value), t ≤ 16 ∧ i = .int .i64 t ∧ Ap2 w base n L w.heap.size vv uu (updN (fun q => if q < j then 16 else 0) j t) wx) (fun i _ => 16 - (intOf i).toNat)
          case atStart =>
            refine ⟨0, uu, by omega, rfl, ?_⟩
            rw [upd_zero]; exact HA.out
          case round =>
            obtain ⟨t, uu, ht, rfl, hA2⟩ := hrel
            have HA2 := hide hA2
            clear hA2
            by_cases hlt2 : t < 16
            · have hKj : updN (fun q => if q < j then 16 else 0) j t j = t := by simp [updN]
              have hR := HA2.out.rows j hlt
              rw [hKj] at hR
              have d0 := HA2.out.gb.at j hlt
              obtain ⟨ua, uc, hua⟩ := hR.shape
              have hLn : (mkM j n ++ mkN j t).length = n + t := by rw [List.length_append, mkM_len, mkN_len]
              have HST := fun o v' w' a b c => hide (HA2.out.step (w' := w') j hlt o v' a b c)
              have HGB : Hid (∀ (o : Obj) (w' : World), (wr.alloc o).grownBy w' (uu j).ownBlock → Two2 w' w.heap.size (uu 0)) := fun o w' hg => (HA2.out.gb.grown (grown_below (below_alloc wr o) none) (by simp)).grown hg ((HA2.out.rows j hlt).ne2 HA2.out.gb)
              rw [hKj] at HST
              have hbs : base ≤ wr.heap.size := by have := HA2.out.lb.lt; have := HBL.out.1; omega
              rw [hua] at d0 HST hR HGB
              rw [hLn] at d0 HST hR HGB
              have HO : ∀ o, Hid ((wr.alloc o).ownsRow base 3 1 (.slice ua (n + t) uc) (n + t) ((mkM j n ++ mkN j t).map (Value.int .i64))) := by
                intro o
                have := hR.alloc o
                unfold IRow at this
                rw [hLn] at this
                exact this
              rw [upd_upd] at HST
              obtain ⟨xs, HXS⟩ : ∃ xs, Hid ((mkM j n ++ mkN j t).map (Value.int .i64) = xs) := ⟨_, rfl⟩
              simp only [HXS.out] at HST HO
              clear hR hua hLn hKj HA HA2
              go_wp2_with (at_builtin; refine wpList_append_two rfl (.tmp 61) (.tmp 68) 72 rfl base 3 i0 _ 1 8 Try.underlying72 hi hz0 hz1 hz2 rfl (by decide) _ _ _ rfl (HO _).out ⟨wr.heap.size, 0, none⟩ 1 1 [.int .i64 (-(j : Int) * 1000003 - (t : Int) - 1)] rfl rfl ?c1 ?c2 ?c3 ?c4 ?c5 ?_)
              case c1 => exact new_cell1 _ _ rfl _ _
              case c2 => intro u hu; simp at hu; subst hu; rfl
              case c3 => unfold maxLen; omega
              case c4 => omega
              case c5 => rw [size_alloc]; omega
              intro v' w5 hown5 hgrow5 hor5
              have HNX := HST _ v' w5 hown5 hgrow5 hor5
              have hG5 := HGB.out _ w5 hgrow5
              have b0 := hG5.at j hlt
              have bz := hG5.fz j
              obtain ⟨va, vc, rfl⟩ := owns_form hown5
              generalize uu j = ub at b0
              clear hown5 hgrow5 hor5 hG5 HGB HST HO d0
              go_wp2_with fail
              go_roundw
              case rel => exact ⟨t + 1, _, by omega, by go_num, HNX.out⟩
              case measure => simp [intOf]; omega
            · have HNX := HA2
              have ht16 : t = 16 := by omega
              rw [ht16, upd_next] at HNX
              clear HA HA2 ht16
              go_wp2_with fail
              go_roundw
              case rel => exact ⟨j + 1, _, by omega, by go_num, HNX.out⟩
              case measure => simp [intOf]; omega
        · have hd3 : decide ((j : Int) < 1) = false := by simp only [decide_eq_false_iff_not]; omega
          have HV : Hid (∀ q, q < 1 → ∃ va vc, vv q = .slice va n vc ∧ wr.cell? ⟨L, q, none⟩ = some (.slice va n vc) ∧ (0 < n → ∃ g o, va = some ⟨g, o, none⟩ ∧ ∀ k, k < n → wr.cell? ⟨g, o + k, none⟩ = some (.int .i64 ((q : Int) * 1000003 + (k : Int))))) := by
            intro q hq
            obtain ⟨va, vc, e, hc⟩ := HA.out.ints q hq
            rw [mkM_len] at e hc
            refine ⟨va, vc, e, by rw [HA.out.lb.at q hq, e], fun h0 => ?_⟩
            obtain ⟨g, o, e2, _, hcc⟩ := hc h0
            exact ⟨g, o, e2, fun k hk => by rw [hcc k hk, mkM_at q n k hk]⟩
          have HU : Hid (∀ q, q < 1 → ∃ g uc, wr.cell? ⟨w.heap.size, q, none⟩ = some (.slice (some ⟨g, 0, none⟩) (n + 16) uc) ∧ (∀ k, k < n → wr.cell? ⟨g, k, none⟩ = some (.int .i64 ((q : Int) * 1000003 + (k : Int)))) ∧ ∀ k, k < 16 → wr.cell? ⟨g, n + k, none⟩ = some (.int .i64 (-(q : Int) * 1000003 - (k : Int) - 1))) := by
            intro q hq
            have hR := HA.out.rows q hq
            have hg := HA.out.gb.at q hq
            simp only [show q < j by omega, if_true] at hR
            have hLn : (mkM q n ++ mkN q 16).length = n + 16 := by rw [List.length_append, mkM_len, mkN_len]
            rcases hR.2 with ⟨_, h0⟩ | ⟨g, uc, cur, e, _⟩
            · omega
            · rw [hLn] at e
              rw [e] at hR hg
              refine ⟨g, uc, hg, fun k hk => ?_, fun k hk => ?_⟩
              · rw [hR.cell k (by omega), (mkMN_at q n 16 k).1 hk]
              · rw [hR.cell (n + k) (by omega), (mkMN_at q n 16 k).2 hk]
          have HB := hide HA.out.bel
          have HGR := hide HA.out.gr
          rw [HOB.out] at HGR
          obtain ⟨w3, rfl⟩ : ∃ w3, w3 = wr := ⟨_, rfl⟩
          obtain ⟨jk, rfl⟩ : ∃ jk, jk = j := ⟨_, rfl⟩
          clear HA hi hz0 hz1 hz2 hj hlt
          go_wp2_with fail
          go_loopw [8] (fun i wx => ∃ j q : Nat, j ≤ 1 ∧ i = .int .i64 j ∧ wx = w3.drewN q) (fun i _ => 1 - (intOf i).toNat)
          case atStart => exact ⟨0, 0, by omega, rfl, rfl⟩
          case round =>
            obtain ⟨j, q, hj, rfl, hwr⟩ := hrel
            have HWR := hide hwr
            clear hwr
            by_cases hlt : j < 1
            · have hj2 : (j : Int) < 1 := by omega
              obtain ⟨va, vc, _, hvc, hva⟩ := HV.out j hlt
              obtain ⟨g2, uc, huc, hua, hub⟩ := HU.out j hlt
              obtain ⟨w4, rfl⟩ : ∃ w4, w4 = wr := ⟨_, rfl⟩
              have d0 : w4.cell? ⟨L, j, none⟩ = some (.slice va n vc) := by rw [HWR.out, drewN_cell]; exact hvc
              have d1 : w4.cell? ⟨w.heap.size, j, none⟩ = some (.slice (some ⟨g2, 0, none⟩) (n + 16) uc) := by rw [HWR.out, drewN_cell]; exact huc
              have HVA : Hid (0 < n → ∃ g o, va = some ⟨g, o, none⟩ ∧ ∀ k, k < n → w4.cell? ⟨g, o + k, none⟩ = some (.int .i64 ((j : Int) * 1000003 + (k : Int)))) := by
                intro h0
                obtain ⟨g, o, e, hc⟩ := hva h0
                exact ⟨g, o, e, fun k hk => by rw [HWR.out, drewN_cell]; exact hc k hk⟩
              have HUA : Hid (∀ k, k < n → w4.cell? ⟨g2, k, none⟩ = some (.int .i64 ((j : Int) * 1000003 + (k : Int)))) := fun k hk => by rw [HWR.out, drewN_cell]; exact hua k hk
              have HUB : Hid (∀ k, k < 16 → w4.cell? ⟨g2, n + k, none⟩ = some (.int .i64 (-(j : Int) * 1000003 - (k : Int) - 1))) := fun k hk => by rw [HWR.out, drewN_cell]; exact hub k hk
              clear hvc hva huc hua hub
              go_wp2_with fail
              go_loopw [9] (fun i wx => ∃ k : Nat, k ≤ n ∧ i = .int .i64 k ∧ wx = w4) (fun i _ => n - (intOf i).toNat)
              case atStart => exact ⟨0, by omega, rfl, rfl⟩
              case round =>
                obtain ⟨k, hk, rfl, hwx⟩ := hrel
                obtain rfl : w4 = wr := hwx.symm
                by_cases hlt2 : k < n
                · obtain ⟨g, o, rfl, hc⟩ := HVA.out (by omega)
                  have c1 := hc k hlt2
                  have c2 := HUA.out k hlt2
                  clear hc HVA
                  go_wp2_with fail
                  go_roundw
                  case rel => exact ⟨k + 1, by omega, by go_num, trivial⟩
                  case measure => simp [intOf]; omega
                · obtain rfl : k = n := by omega
                  go_wp2_with fail
                  go_loopw [10] (fun i wx => ∃ t q2 : Nat, t ≤ 16 ∧ i = .int .i64 t ∧ wx = w4.drewN q2) (fun i _ => 16 - (intOf i).toNat)
                  case atStart => exact ⟨0, 0, by omega, rfl, rfl⟩
                  case round =>
                    obtain ⟨t, q2, ht, rfl, hwr⟩ := hrel
                    have HWR2 := hide hwr
                    have f0 : wr.cell? ⟨L, j, none⟩ = some (.slice va k vc) := by rw [hwr, drewN_cell]; exact d0
                    have f1 : wr.cell? ⟨w.heap.size, j, none⟩ = some (.slice (some ⟨g2, 0, none⟩) (k + 16) uc) := by rw [hwr, drewN_cell]; exact d1
                    by_cases hlt3 : t < 16
                    · have c3 : wr.cell? ⟨g2, k + t, none⟩ = some (.int .i64 (-(j : Int) * 1000003 - (t : Int) - 1)) := by rw [hwr, drewN_cell]; exact HUB.out t hlt3
                      have hx1 : (0 : Int) ≤ (k : Int) + (t : Int) := by omega
                      have hx2 : (k : Int) + (t : Int) < ((k + 16 : Nat) : Int) := by omega
                      clear hwr d0 d1
                      go_wp2_with fail
                      go_quiet (fail)
                      go_wp2_with fail
                      go_roundw
                      case rel => exact ⟨t + 1, q2 + nq, by omega, by go_num, by rw [HWR2.out, drewN_drewN]⟩
                      case measure => simp [intOf]; omega
                    · clear hwr d0 d1
                      go_wp2_with fail
                      go_roundw
                      case rel => exact ⟨j + 1, q + q2, by omega, by go_num, by rw [HWR2.out, HWR.out, drewN_drewN]⟩
                      case measure => simp [intOf]; omega
            · go_wp2_with fail
              go_ret
              exact ⟨rfl, by rw [HWR.out]; exact below_drewN HB.out q, by rw [HWR.out]; exact grown_drewNN HGR.out q⟩
end Go.Proofs.Ytcjahdgppnmdkaa
