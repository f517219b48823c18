/- Qsb, Qsc, Qsd. -/
import Derived.Test.YtapfaaaepnplcaaGreatDoorG40
import Derived.Test.YtapfaaaepnplcaaGreatDoorG41
import Derived.Test.YtapfaaaepnplcaaGreatDoorG43
set_option maxRecDepth 100000
set_option maxHeartbeats 8000000
namespace Go.Proofs.YtapfaaaepnplcaaGreatDoor
open Go.RowKit Go.Great
/-- n voters and m filters have been made -/
def Tun (w : World) (B : Nat) (c : Nat → Value) (n m : Nat) (wx : World) : Prop := ∃ c' : Nat → Value, BF wx B 174 c' 90 ∧ (∀ q, (q < 85 ∨ 85 + n ≤ q) → (q < 115 ∨ 115 + m ≤ q) → c' q = c q) ∧ (∀ i, i < n → ∃ V p, c' (85 + i) = pt V ∧ VotE wx V 8 p) ∧ (∀ i, i < m → ∃ F, c' (115 + i) = pt F ∧ FilE wx F 8) ∧ w.grownBy wx (some B)
theorem Tun.at {w : World} {B : Nat} {c : Nat → Value} {n m : Nat} {wx : World} (h : Tun w B c n m wx) (k : Nat) (hk : k < 174) : ∃ v, wx.cell? ⟨B, k, none⟩ = some v := by
  obtain ⟨c', h1, _⟩ := h
  exact ⟨_, h1.cell k hk rfl⟩
theorem Tun.fz {w : World} {B : Nat} {c : Nat → Value} {n m : Nat} {wx : World} (h : Tun w B c n m wx) (k : Nat) : wx.frozen? ⟨B, k, none⟩ = false := by
  obtain ⟨c', h1, _⟩ := h
  exact h1.fz k
theorem Tun.after {w : World} {B : Nat} {c : Nat → Value} {n m : Nat} {wx w1 : World} (h : Tun w B c n m wx) (hb : Below wx.heap.size wx w1) : Tun w B c n m w1 := by
  obtain ⟨c', h1, h2, h3, h4, h5⟩ := h
  refine ⟨c', h1.after hb, h2, fun i hi => ?_, fun i hi => ?_, grown_after h5 hb⟩
  · obtain ⟨V, p, a, b⟩ := h3 i hi
    exact ⟨V, p, a, Blk.after b hb⟩
  · obtain ⟨F, a, b⟩ := h4 i hi
    exact ⟨F, a, Blk.after b hb⟩
theorem Tun.voter {w : World} {B : Nat} {c : Nat → Value} {n : Nat} {wx : World} (h : Tun w B c n 0 wx) (hn : n < 10) {V : Nat} {p : Int} (hV : VotE wx V 8 p) : Tun w B c (n + 1) 0 (wx.setCell ⟨B, 85 + n, none⟩ (pt V)) := by
  obtain ⟨c', h1, h2, h3, h4, h5⟩ := h
  refine ⟨_, h1.set (85 + n) (pt V), fun q hq hr => ?_, fun i hi => ?_, fun i hi => absurd hi (by omega), grown_more h5 (grown_set _ _ _ _)⟩
  · rw [updV_ne _ _ (by omega)]; exact h2 q (by omega) hr
  · by_cases e : i = n
    · subst e
      exact ⟨V, p, updV_at _ _ _, Blk.setOther hV (blk_ne hV h1 (by decide)) _ _⟩
    · obtain ⟨U, q, a, b⟩ := h3 i (by omega)
      exact ⟨U, q, by rw [updV_ne _ _ (by omega)]; exact a, Blk.setOther b (blk_ne b h1 (by decide)) _ _⟩
theorem Tun.filter {w : World} {B : Nat} {c : Nat → Value} {m : Nat} {wx : World} (h : Tun w B c 10 m wx) (hn : m < 3) {V : Nat} (hV : FilE wx V 8) : Tun w B c 10 (m + 1) (wx.setCell ⟨B, 115 + m, none⟩ (pt V)) := by
  obtain ⟨c', h1, h2, h3, h4, h5⟩ := h
  refine ⟨_, h1.set (115 + m) (pt V), fun q hq hr => ?_, fun i hi => ?_, fun i hi => ?_, grown_more h5 (grown_set _ _ _ _)⟩
  · rw [updV_ne _ _ (by omega)]; exact h2 q hq (by omega)
  · obtain ⟨U, p, a, b⟩ := h3 i hi
    exact ⟨U, p, by rw [updV_ne _ _ (by omega)]; exact a, Blk.setOther b (blk_ne b h1 (by decide)) _ _⟩
  · by_cases e : i = m
    · subst e
      exact ⟨V, updV_at _ _ _, Blk.setOther hV (blk_ne hV h1 (by decide)) _ _⟩
    · obtain ⟨U, a, b⟩ := h4 i (by omega)
      exact ⟨U, by rw [updV_ne _ _ (by omega)]; exact a, Blk.setOther b (blk_ne b h1 (by decide)) _ _⟩
/-- all is made anew that is made of parameters -/
def TunEnd (w : World) (B : Nat) (c : Nat → Value) (w' : World) : Prop := ∃ c' : Nat → Value, BF w' B 174 c' 90 ∧ (∀ q, (q < 85 ∨ 95 ≤ q) → (q < 115 ∨ 120 ≤ q) → c' q = c q) ∧ (∀ i, i < 10 → ∃ V p, c' (85 + i) = pt V ∧ VotE w' V 8 p) ∧ (∀ i, i < 3 → ∃ F, c' (115 + i) = pt F ∧ FilE w' F 8) ∧ (∃ C, c' 118 = pt C ∧ ComE w' C 8) ∧ (∃ P, c' 119 = pt P ∧ Blk w' P (bC (bN dfl)) 172) ∧ w.grownBy w' (some B)
theorem Tun.done {w : World} {B : Nat} {c : Nat → Value} {wx w1 : World} (h : Tun w B c 10 3 wx) {C P : Nat} (hC : ComE wx C 8) (hb : Below (wx.setCell ⟨B, 118, none⟩ (pt C)).heap.size (wx.setCell ⟨B, 118, none⟩ (pt C)) w1) (hP : Blk w1 P (bC (bN dfl)) 172) : TunEnd w B c (w1.setCell ⟨B, 119, none⟩ (pt P)) := by
  obtain ⟨c', h1, h2, h3, h4, h5⟩ := h
  have k1 := (h1.set 118 (pt C)).after hb
  have k2 := k1.set 119 (pt P)
  have kp : ∀ {g : Nat} {cs : Array Value} {t : TypeId}, Blk wx g cs t → t ≠ 90 → Blk (w1.setCell ⟨B, 119, none⟩ (pt P)) g cs t := fun {g cs t} hg ht =>
    (((hg.setOther (blk_ne hg h1 ht) 118 (pt C)).after hb).setOther (blk_ne ((hg.setOther (blk_ne hg h1 ht) 118 (pt C)).after hb) k1 ht) 119 (pt P))
  refine ⟨_, k2, fun q hq hr => ?_, fun i hi => ?_, fun i hi => ?_, ⟨C, ?_, kp hC (by decide)⟩, ⟨P, updV_at _ _ _, hP.setOther (blk_ne hP k1 (by decide)) _ _⟩, grown_more h5 (grown_more (grown_after (grown_set _ _ _ _) hb) (grown_set _ _ _ _))⟩
  · rw [updV_ne _ _ (by omega), updV_ne _ _ (by omega)]; exact h2 q (by omega) (by omega)
  · obtain ⟨U, p, a, b⟩ := h3 i hi
    exact ⟨U, p, by rw [updV_ne _ _ (by omega), updV_ne _ _ (by omega)]; exact a, kp b (by decide)⟩
  · obtain ⟨U, a, b⟩ := h4 i hi
    exact ⟨U, by rw [updV_ne _ _ (by omega), updV_ne _ _ (by omega)]; exact a, kp b (by decide)⟩
  · rw [updV_ne _ _ (by omega), updV_at]
theorem tune_dfl (w : World) (B g vc : Nat) (c : Nat → Value) (h : BF w B 174 c 90) (hv : Vals w g dfl) : Calls Tryz.prog 50 #[.pointer (some ⟨B, 15, none⟩), .slice (some ⟨g, 0, none⟩) 24 vc] w fun e w' => e = .returned (.tuple #[]) ∧ TunEnd w B c w' := by
  have HT : Hid (Tun w B c 0 0 w) := hide ⟨c, h, fun _ _ _ => rfl, fun i hi => absurd hi (Nat.not_lt_zero i), fun i hi => absurd hi (Nat.not_lt_zero i), ⟨rfl, rfl, rfl, Nat.le_refl _, fun _ _ _ => rfl⟩⟩
  have hne : g ≠ B := hv.ne h (by decide)
  have HN := hide hne
  have HV := hide hv
  have v16 := hv.cell 16 (by decide) (x := 8) rfl
  clear h hv hne
  go_enter Tryz.func50, Tryz.ntmps50
  go_wp2_with fail
  clear v16
  go_loopw [11] (fun i wx => ∃ n : Nat, n ≤ 10 ∧ i = .int .i64 n ∧ Hid (Tun w B c n 0 wx)) (fun i _ => 10 - (intOf i).toNat)
  case atStart => exact ⟨0, by omega, rfl, HT⟩
  case round =>
    obtain ⟨n, hn, rfl, HL⟩ := hrel
    clear HT
    by_cases hlt : n < 10
    · have v21 : wr.cell? ⟨g, 21, none⟩ = some (.int .i64 500) := (HV.out.grown HN.out (by obtain ⟨_, _, _, _, _, q⟩ := HL.out; exact q)).cell 21 (by decide) rfl
      obtain ⟨c0, cst⟩ := HL.out.at (85 + n) (by omega)
      have fz := HL.out.fz (85 + n)
      have cdr : wr.drew.cell? ⟨B, 85 + n, none⟩ = some c0 := cst
      have HLT := hide hlt
      by_cases h4 : n = 4
      · subst h4
        go_wp2_with fail
        go_region_with (go_at_call 97; refine (newVE _ 8 500 (by omega) (by omega) (by omega)).mono ?_; rintro e w1 ⟨V, rfl, hV, hb, hg⟩; have hN := hide ((HL.out.after (below_next (Below.refl _ _).drew (Nat.le_refl _) hb)).voter (by omega) hV); have cst := (HL.out.after (below_next (Below.refl _ _).drew (Nat.le_refl _) hb)).at (85 + 4) (by omega); have fz := (HL.out.after (below_next (Below.refl _ _).drew (Nat.le_refl _) hb)).fz (85 + 4); obtain ⟨c1, cst⟩ := cst)
        go_wp2_with fail
        go_roundw
        case rel => exact ⟨4 + 1, by omega, by go_num, hN⟩
        case measure => simp [intOf]
      · by_cases h6 : n = 6
        · subst h6
          go_wp2_with fail
          go_region_with (go_at_call 97; refine (newVE _ 8 500 (by omega) (by omega) (by omega)).mono ?_; rintro e w1 ⟨V, rfl, hV, hb, hg⟩; have hN := hide ((HL.out.after (below_next (Below.refl _ _).drew (Nat.le_refl _) hb)).voter (by omega) hV); have cst := (HL.out.after (below_next (Below.refl _ _).drew (Nat.le_refl _) hb)).at (85 + 6) (by omega); have fz := (HL.out.after (below_next (Below.refl _ _).drew (Nat.le_refl _) hb)).fz (85 + 6); obtain ⟨c1, cst⟩ := cst)
          go_wp2_with fail
          go_roundw
          case rel => exact ⟨6 + 1, by omega, by go_num, hN⟩
          case measure => simp [intOf]
        · by_cases h7 : n = 7
          · subst h7
            go_wp2_with fail
            go_region_with (go_at_call 97; refine (newVE _ 8 500 (by omega) (by omega) (by omega)).mono ?_; rintro e w1 ⟨V, rfl, hV, hb, hg⟩; have hN := hide ((HL.out.after (below_next (Below.refl _ _).drew (Nat.le_refl _) hb)).voter (by omega) hV); have cst := (HL.out.after (below_next (Below.refl _ _).drew (Nat.le_refl _) hb)).at (85 + 7) (by omega); have fz := (HL.out.after (below_next (Below.refl _ _).drew (Nat.le_refl _) hb)).fz (85 + 7); obtain ⟨c1, cst⟩ := cst)
            go_wp2_with fail
            go_roundw
            case rel => exact ⟨7 + 1, by omega, by go_num, hN⟩
            case measure => simp [intOf]
          · have d4 : ((n : Int) == 4) = false := by rw [beq_eq_false_iff_ne]; omega
            have d6 : ((n : Int) == 6) = false := by rw [beq_eq_false_iff_ne]; omega
            have d7 : ((n : Int) == 7) = false := by rw [beq_eq_false_iff_ne]; omega
            go_wp2_with fail
            go_region_with (go_at_call 97; refine (newVE _ 8 9223372036854775807 (by omega) (by omega) (by omega)).mono ?_; rintro e w1 ⟨V, rfl, hV, hb, hg⟩; have hN := hide ((HL.out.after (below_next (Below.refl _ _).drew (Nat.le_refl _) hb)).voter (by omega) hV); have cst := (HL.out.after (below_next (Below.refl _ _).drew (Nat.le_refl _) hb)).at (85 + n) (by omega); have fz := (HL.out.after (below_next (Below.refl _ _).drew (Nat.le_refl _) hb)).fz (85 + n); obtain ⟨c1, cst⟩ := cst)
            go_wp2_with fail
            go_roundw
            case rel => exact ⟨n + 1, by omega, by go_num, hN⟩
            case measure => simp [intOf]; omega
    · have HL : Hid (Tun w B c 10 0 wr) := hide (by have := HL.out; rwa [show n = 10 by omega] at this)
      have dl : decide ((n : Int) < 10) = false := by simp; omega
      clear hlt hn
      go_wp2_with fail
      go_loopw [39] (fun i wx => ∃ n : Nat, n ≤ 3 ∧ i = .int .i64 n ∧ Hid (Tun w B c 10 n wx)) (fun i _ => 3 - (intOf i).toNat)
      case atStart => exact ⟨0, by omega, rfl, HL⟩
      case round =>
        obtain ⟨n, hn, rfl, HL2⟩ := hrel
        clear HL
        by_cases hlt : n < 3
        · obtain ⟨c0, cst⟩ := HL2.out.at (115 + n) (by omega)
          have fz := HL2.out.fz (115 + n)
          go_wp2_with fail
          go_region_with (go_at_call 98; refine (newFE _ 8 (by omega)).mono ?_; rintro e w1 ⟨V, rfl, hV, hb, hg⟩; have hN := hide ((HL2.out.after (below_next (Below.refl _ _).drew (Nat.le_refl _) hb)).filter (by omega) hV); have cst := (HL2.out.after (below_next (Below.refl _ _).drew (Nat.le_refl _) hb)).at (115 + n) (by omega); have fz := (HL2.out.after (below_next (Below.refl _ _).drew (Nat.le_refl _) hb)).fz (115 + n); obtain ⟨c1, cst⟩ := cst)
          go_wp2_with fail
          go_roundw
          case rel => exact ⟨n + 1, by omega, by go_num, hN⟩
          case measure => simp [intOf]; omega
        · have HL2 : Hid (Tun w B c 10 3 wr) := hide (by have := HL2.out; rwa [show n = 3 by omega] at this)
          have dl : decide ((n : Int) < 3) = false := by simp; omega
          clear hlt hn
          go_wp2_with fail
          refine (newCE _ 8 (by omega)).mono ?_
          rintro e w1 ⟨C, rfl, hC, hb, hg⟩
          have HL3 := hide (HL2.out.after hb)
          have HC := hide hC
          obtain ⟨c1, cst⟩ := HL3.out.at 118 (by omega)
          have fz := HL3.out.fz 118
          have HV3 : Hid (Vals (w1.setCell ⟨B, 118, none⟩ (pt C)) g dfl) := hide ((HV.out.grown HN.out (by obtain ⟨_, _, _, _, _, q⟩ := HL3.out; exact q)).grown HN.out (grown_set _ _ _ _))
          clear hC hb hg HL2
          go_wp2_with fail
          refine (newB_any _ dfl _ (HV3.out.ints vc) (sound_of (by decide))).mono ?_
          rintro e w2 ⟨P, rfl, hP, hb, hg⟩
          have HE := hide (HL3.out.done HC.out hb hP)
          have c119 : ∃ v, w2.cell? ⟨B, 119, none⟩ = some v := by
            obtain ⟨c', k, _⟩ := HL3.out
            exact ⟨_, ((k.set 118 (pt C)).after hb).cell 119 (by omega) rfl⟩
          have f119 : w2.frozen? ⟨B, 119, none⟩ = false := by
            obtain ⟨c', k, _⟩ := HL3.out
            exact ((k.set 118 (pt C)).after hb).fz 119
          obtain ⟨c2, c119⟩ := c119
          clear hP hb hg HL3 HC HV3 cst fz
          go_wp2_with fail
          go_end0
          exact ⟨rfl, HE.out⟩
end Go.Proofs.YtapfaaaepnplcaaGreatDoor
set_option maxRecDepth 100000
set_option maxHeartbeats 8000000
namespace Go.Proofs.YtapfaaaepnplcaaGreatDoor
open Go.RowKit Go.Great
/-- what equip leaves -/
def EqEnd (w : World) (B : Nat) (c : Nat → Value) (w' : World) : Prop := ∃ c' : Nat → Value, BF w' B 174 c' 90 ∧ (∀ q, (q < 85 ∨ 95 ≤ q) → (q < 115 ∨ 120 ≤ q) → q ≠ 127 → q ≠ 128 → c' q = c q) ∧ (∀ i, i < 10 → ∃ V p, c' (85 + i) = pt V ∧ VotE w' V 8 p) ∧ (∀ i, i < 3 → ∃ F, c' (115 + i) = pt F ∧ FilE w' F 8) ∧ (∃ C, c' 118 = pt C ∧ ComE w' C 8) ∧ (∃ P, c' 119 = pt P ∧ Blk w' P (bC (bN dfl)) 172) ∧ (∃ R x m, c' 127 = pt R ∧ Blk w' R #[x, .int .i64 0, .int .i64 16000, .int .i64 0, .map (some m)] 164) ∧ (∃ S, c' 128 = pt S ∧ Blk w' S #[.int .i64 12, .int .i64 0, .int .i64 0, .int .i64 0] 307) ∧ w.grownBy w' (some B)
/-- a store into the pilot's block behind a call that only lays memory -/
theorem keep_set {w W : World} {B k : Nat} {n : Nat} {c : Nat → Value} {v : Value} (hB : BF w B n c 90) (hb : Below w.heap.size w W) {g : Nat} {cs : Array Value} {t : TypeId} (hg : Blk w g cs t) (ht : t ≠ 90) : Blk (W.setCell ⟨B, k, none⟩ v) g cs t :=
  (hg.after hb).setOther (blk_ne (hg.after hb) (hB.after hb) ht) k v
theorem equip_dfl (w : World) (B g vc : Nat) (c : Nat → Value) (h : BF w B 174 c 90) (hv : Vals w g dfl) (h1 : c 1 = .slice (some ⟨g, 0, none⟩) 24 vc) (h9 : c 9 = .slice none 0 0) : Calls Tryz.prog 19 #[pt B] w fun e w' => e = .returned (.tuple #[]) ∧ EqEnd w B c w' := by
  have HH := hide h
  have HN := hide (hv.ne h (by decide))
  have HV := hide hv
  have H1 := hide h1
  have H9 := hide h9
  have c1 := h.cell 1 (by omega) h1
  clear h hv h1 h9
  go_enter Tryz.func19, Tryz.ntmps19
  go_upto_region 0 with fail
  go_region_with (go_at_call 50; refine (tune_dfl _ B g vc c (HH.out.after (Below.refl _ _).drew) (HV.out.after (Below.refl _ _).drew)).mono ?_; rintro e w1 ⟨rfl, hT⟩)
  obtain ⟨c', t1, t2, t3, t4, t5, t6, t7⟩ := hT
  have T1 := hide t1
  have T2 := hide t2
  have T3 := hide t3
  have T4 := hide t4
  have T5 := hide t5
  have T6 := hide t6
  have T7 : Hid (w.grownBy w1 (some B)) := hide (grown_then (grown_below (Below.refl w.heap.size w).drew (some B)) t7 (fun k e => .inl (by injection e with e; exact e.symm)))
  have HV1 := hide (HV.out.grown HN.out T7.out)
  have c1 : w1.cell? ⟨B, 1, none⟩ = some (.slice (some ⟨g, 0, none⟩) 24 vc) := t1.cell 1 (by omega) ((t2 1 (by omega) (by omega)).trans H1.out)
  clear t1 t2 t3 t4 t5 t6 t7 HH HV
  go_upto_region 1 with fail
  go_region_with (go_at_call 51; refine (steerBy_any _ B g vc c' (T1.out.after (Below.refl _ _).drew) (HV1.out.after (Below.refl _ _).drew)).mono ?_; rintro e w2 ⟨rfl, S, W, hS, hb, hsz, hw0⟩; have HW := hide hw0; clear hw0)
  have hw := HW.out
  have hb' : Below w1.heap.size w1 W := below_next (Below.refl _ _).drew (Nat.le_refl _) hb
  have HB := hide hb'
  have S1 : Hid (BF w2 B 174 (updV c' 128 (pt S)) 90) := hide (by rw [hw]; exact (T1.out.after hb').set 128 (pt S))
  have S2 : Hid (Blk w2 S #[.int .i64 12, .int .i64 0, .int .i64 0, .int .i64 0] 307) := hide (by rw [hw]; exact hS.setOther (blk_ne hS (T1.out.after hb') (by decide)) 128 (pt S))
  have S3 : Hid (∀ (q : Nat) (cs : Array Value) (t : TypeId), Blk w1 q cs t → t ≠ 90 → Blk w2 q cs t) := hide (fun q cs t a b => by rw [hw]; exact keep_set T1.out hb' a b)
  have S4 : Hid (w.grownBy w2 (some B)) := hide (by rw [hw]; exact grown_more (grown_after T7.out hb') (grown_set _ _ _ _))
  have HV2 := hide (HV1.out.grown HN.out (by rw [hw]; exact grown_more (grown_below hb' _) (grown_set _ _ _ _) : w1.grownBy w2 (some B)))
  have c1 : w2.cell? ⟨B, 1, none⟩ = some (.slice (some ⟨g, 0, none⟩) 24 vc) := S1.out.cell 1 (by omega) (by rw [updV_ne _ _ (by omega)]; exact ((T2.out 1 (by omega) (by omega)).trans H1.out))
  have c9 : w2.cell? ⟨B, 9, none⟩ = some (.slice none 0 0) := S1.out.cell 9 (by omega) (by rw [updV_ne _ _ (by omega)]; exact ((T2.out 9 (by omega) (by omega)).trans H9.out))
  have v7 : w2.cell? ⟨g, 7, none⟩ = some (.int .i64 16000) := HV2.out.cell 7 (by decide) rfl
  clear hb hb' hS hsz HV1
  clear hw
  go_upto_region 2 with fail
  go_region_with (go_at_call 52; refine (restart_any _ B (updV c' 128 (pt S)) (S1.out.after (Below.refl _ _).drew)).mono ?_; rintro e w3 ⟨rfl, R, W3, hR, hb, hsz, hw0⟩; have HW3 := hide hw0; clear hw0)
  all_goals (
    go_wp2_with fail
    go_end0
    obtain ⟨x, m, hR⟩ := hR
    have hw := HW3.out
    have hb' : Below w2.heap.size w2 W3 := below_next (Below.refl _ _).drew (Nat.le_refl _) hb
    have kp : ∀ {q : Nat} {cs : Array Value} {t : TypeId}, Blk w2 q cs t → t ≠ 90 → Blk w3 q cs t := fun {q cs t} a b => by rw [hw]; exact keep_set S1.out hb' a b
    refine ⟨rfl, updV (updV c' 128 (pt S)) 127 (pt R), by rw [hw]; exact (S1.out.after hb').set 127 (pt R), fun q h1 h2 h3 h4 => ?_, fun i hi => ?_, fun i hi => ?_, ?_, ?_, ⟨R, x, m, updV_at _ _ _, by rw [hw]; exact hR.setOther (blk_ne hR (S1.out.after hb') (by decide)) _ _⟩, ⟨S, by rw [updV_ne _ _ (by omega), updV_at], kp S2.out (by decide)⟩, by rw [hw]; exact grown_more (grown_after S4.out hb') (grown_set _ _ _ _)⟩
    · rw [updV_ne _ _ h3, updV_ne _ _ h4]; exact T2.out q h1 h2
    · obtain ⟨V, p, a, b⟩ := T3.out i hi
      exact ⟨V, p, by rw [updV_ne _ _ (by omega), updV_ne _ _ (by omega)]; exact a, kp (S3.out _ _ _ b (by decide)) (by decide)⟩
    · obtain ⟨V, a, b⟩ := T4.out i hi
      exact ⟨V, by rw [updV_ne _ _ (by omega), updV_ne _ _ (by omega)]; exact a, kp (S3.out _ _ _ b (by decide)) (by decide)⟩
    · obtain ⟨V, a, b⟩ := T5.out
      exact ⟨V, by rw [updV_ne _ _ (by omega), updV_ne _ _ (by omega)]; exact a, kp (S3.out _ _ _ b (by decide)) (by decide)⟩
    · obtain ⟨V, a, b⟩ := T6.out
      exact ⟨V, by rw [updV_ne _ _ (by omega), updV_ne _ _ (by omega)]; exact a, kp (S3.out _ _ _ b (by decide)) (by decide)⟩)
end Go.Proofs.YtapfaaaepnplcaaGreatDoor
set_option maxRecDepth 100000
set_option maxHeartbeats 8000000
namespace Go.Proofs.YtapfaaaepnplcaaGreatDoor
open Go.RowKit Go.Great
/-- when a pilot's jobs are due -/
def L7 : List Jb := [⟨1, 0, 0⟩, ⟨1, 0, 1⟩, ⟨1, 0, 2⟩, ⟨4, 0, 3⟩, ⟨1, 0, 4⟩, ⟨40, 0, 5⟩, ⟨80, 20, 6⟩]
theorem jbs_at (B n : Nat) (hn : n < 7) : ∃ (x : Jb) (F : FuncId), L7[n]? = some x ∧ (jbsV B)[n * 4]? = some (.int .i64 x.pe) ∧ (jbsV B)[n * 4 + 1]? = some (.int .i64 x.ph) ∧ (jbsV B)[n * 4 + 2]? = some (.int .i64 x.rk) ∧ (jbsV B)[n * 4 + 3]? = some (.func (.func F) #[pt B] #[]) := by
  have : n = 0 ∨ n = 1 ∨ n = 2 ∨ n = 3 ∨ n = 4 ∨ n = 5 ∨ n = 6 := by omega
  rcases this with rfl | rfl | rfl | rfl | rfl | rfl | rfl <;> exact ⟨_, _, rfl, rfl, rfl, rfl, rfl⟩
theorem l7_ok : ∀ j ∈ L7, JbOk j := by
  intro j hj
  unfold L7 at hj
  simp only [List.mem_cons, List.not_mem_nil, or_false] at hj
  rcases hj with rfl | rfl | rfl | rfl | rfl | rfl | rfl <;> exact ⟨by decide, by decide, by decide⟩
theorem planOf_any (w : World) (B g : Nat) (hJ : Blk w g (jbsV B) 94) : Calls Tryz.prog 22 #[.slice (some ⟨g, 0, none⟩) 7 7] w fun e w' => ∃ P, e = .returned (pt P) ∧ Below w.heap.size w w' ∧ w.heap.size ≤ P ∧ ∃ b, PlanW w' b P L7 0 := by
  obtain ⟨i0, hi, hz0, hz1, hz2⟩ := info_parts info_jb
  have HJ := hide hJ
  clear hJ
  go_enter Tryz.func22, Tryz.ntmps22
  go_wp2_with fail
  go_loopw [3, 10] (fun v i wx => ∃ n : Nat, n ≤ 7 ∧ i = .int .i64 n ∧ Hid (JRow wx w.heap.size v (L7.take n)) ∧ Hid (Below w.heap.size w wx)) (fun _ i _ => 7 - (intOf i).toNat)
  case atStart => exact ⟨0, by omega, rfl, hide (JRow.nil _ _), hide (Below.refl _ _)⟩
  case round =>
    obtain ⟨n, hn, rfl, HR, HB⟩ := hrel
    by_cases hlt : n < 7
    · obtain ⟨x, F, hx, k0, k1, k2, k3⟩ := jbs_at B n hlt
      have hJ := HJ.out.after HB.out
      have q0 := hJ.cell _ k0
      have q1 := hJ.cell _ k1
      have q2 := hJ.cell _ k2
      have q3 := hJ.cell _ k3
      obtain ⟨pe, ph, rk⟩ := x
      simp only at q0 q1 q2
      have HX := hide hx
      have hst := fun w' => run_store Tryz.prog w' ⟨wr.heap.size, 3, none⟩ (.func (.func F) #[pt B] #[]) .plain rfl
      clear hx k0 k1 k2 k3 hJ
      go_upto_region 5 with fail
      clear hst q0 q1 q2 q3
      have HZ := hide (Blk.new wr #[.int .i64 pe, .int .i64 ph, .int .i64 rk, .func (.func F) #[pt B] #[]] 94)
      have HB2 := hide (below_two HB.out (below_alloc wr (.cells #[.int .i64 pe, .int .i64 ph, .int .i64 rk, .func (.func F) #[pt B] #[]] 94)))
      have HR2 := hide (HR.out.alloc (.cells #[.int .i64 pe, .int .i64 ph, .int .i64 rk, .func (.func F) #[pt B] #[]] 94))
      generalize wr.alloc (.cells #[.int .i64 pe, .int .i64 ph, .int .i64 rk, .func (.func F) #[pt B] #[]] 94) = w1 at *
      generalize wr.heap.size = z at *
      have z0 := HZ.out.cell 0 (v := .int .i64 pe) rfl
      have z1 := HZ.out.cell 1 (v := .int .i64 ph) rfl
      have z2 := HZ.out.cell 2 (v := .int .i64 rk) rfl
      have hl : Hid ((L7.take n).length = n) := hide (by rw [List.length_take]; show min n 7 = n; omega)
      have HO : Hid ((w1.alloc (.cells #[.int .i64 pe, .int .i64 ph, .int .i64 rk] 92)).ownsRow w.heap.size 92 3 u3 n (jbsC (L7.take n))) := hide (by have := HR2.out.alloc (.cells #[.int .i64 pe, .int .i64 ph, .int .i64 rk] 92); unfold JRow at this; rwa [hl.out] at this)
      go_wp2_with (at_builtin; refine wpList_append_own _ rfl (.tmp 14) (.tmp 17) 155 rfl w.heap.size 92 i0 _ 3 24 Tryz.underlying155 hi hz0 hz1 hz2 rfl (by decide) _ _ _ rfl HO.out ⟨w1.heap.size, 0, none⟩ 1 1 [.int .i64 pe, .int .i64 ph, .int .i64 rk] rfl rfl ?c1 ?c2 ?c3 ?c4 ?c5 ?_)
      case c1 =>
        intro j u hu
        have hb := Blk.new w1 #[.int .i64 pe, .int .i64 ph, .int .i64 rk] 92
        rw [show (Addr.add ⟨w1.heap.size, 0, none⟩ j) = ⟨w1.heap.size, j, none⟩ by rw [add_plain', Nat.zero_add]]
        exact hb.cell j (by simpa using hu)
      case c2 => intro u hu; simp only [List.mem_cons, List.not_mem_nil, or_false] at hu; rcases hu with rfl | rfl | rfl <;> rfl
      case c3 => unfold maxLen; omega
      case c4 => omega
      case c5 => rw [size_alloc]; have := HB2.out.size; omega
      intro v' w5 hown5 hgrow5 _
      have HR5 : Hid (JRow w5 w.heap.size v' (L7.take (n + 1))) := by
        have e1 : L7.take (n + 1) = L7.take n ++ [⟨pe, ph, rk⟩] := by rw [List.take_add_one, HX.out]; rfl
        unfold JRow
        rw [e1, List.length_append, hl.out, show jbsC (L7.take n ++ [(⟨pe, ph, rk⟩ : Jb)]) = jbsC (L7.take n) ++ [.int .i64 pe, .int .i64 ph, .int .i64 rk] by unfold jbsC; rw [List.flatMap_append]; rfl]
        exact hown5
      have HB5 : Hid (Below w.heap.size w w5) := hide ((below_two HB2.out (below_alloc _ _)).grown hgrow5 (by rw [size_alloc]; have := HB2.out.size; omega) (fun k e => (HR.out.lt k e).1))
      clear hown5 hgrow5 HO HR2 HB2 HZ z0 z1 z2 HR HB hi hz0 hz1 hz2
      go_wp2_with fail
      go_roundw
      case rel => exact ⟨n + 1, by omega, by go_num, HR5, HB5⟩
      case measure => simp [intOf]; omega
    · have HR2 : Hid (JRow wr w.heap.size u3 L7) := hide (by have := HR.out; rwa [show n = 7 by omega, show L7.take 7 = L7 from rfl] at this)
      have dl : decide ((n : Int) < 7) = false := by simp; omega
      clear hlt hn HR
      go_wp2_with fail
      have hrw : Rws wr u3 3 jbC L7 := HR2.out.rws
      refine (new_any_Exa L7 _ _ hrw l7_ok).mono ?_
      rintro e w2 ⟨hb, hx | ⟨_, P, rfl, hs, hP⟩⟩
      · exact absurd (show chkJ L7 = 0 by decide) hx.1
      have HB2 := hide (below_next HB.out (Nat.le_refl _) hb)
      have HP := hide hP
      have HS : Hid (w.heap.size ≤ P) := hide (Nat.le_trans HB.out.size hs)
      clear hb hs hP hrw HR2 HB
      go_wp2_with fail
      go_ret
      exact ⟨P, rfl, HB2.out, HS.out, _, HP.out⟩
end Go.Proofs.YtapfaaaepnplcaaGreatDoor
