/- The document's reading of all bytes: Read. -/
import Derived.Test.YtijdobhdjmmgmaaFrEn
import Derived.Test.YtijdobhdjmmgmaaFrP
import Derived.Test.YtijdobhdjmmgmaaFrSa
import Derived.Deep.AppendLies
import Derived.Deep.RegionHeld3
import Derived.Deep.DeepCutAuto
namespace Go.Proofs.Ytijdobhdjmmgmaa
open Go.RowKit Go.Great

theorem drop_getD (l : List UInt8) (a i : Nat) : (l.drop a).getD i 0 = l.getD (a + i) 0 := by
  simp [List.getD, List.getElem?_drop]
theorem sought_mark {l : List UInt8} (h : l.getD 0 0 = 253) : Sought l := by
  cases l with
  | nil => rfl
  | cons x t =>
    have : x = 253 := h
    subst this
    unfold Sought; simp
/-- what the document looks at, and what a good frame is -/
theorem ref_facts {l : List UInt8} (p : ByteArray) (h6 : 6 + lenB l ≤ l.length) (hp : p.data.toList = (l.drop 4).take (lenB l)) :
    frB l = (((l.getD 2 0).toNat : Int), ((l.getD 3 0).toNat : Int), p) ∧
    (goodB l = true ↔ ((l.getD (4 + lenB l) 0).toNat = (chk (l.getD 1 0 :: l.getD 2 0 :: l.getD 3 0 :: p.data.toList) (l.getD 3 0)).toNat % 256 ∧ (l.getD (5 + lenB l) 0).toNat = (chk (l.getD 1 0 :: l.getD 2 0 :: l.getD 3 0 :: p.data.toList) (l.getD 3 0)).toNat / 256)) := by
  obtain ⟨a, b, c, d, t, rfl⟩ := four (l := l) (by omega)
  have e1 : lenB (a :: b :: c :: d :: t) = b.toNat := rfl
  refine ⟨?_, ?_⟩
  · unfold frB
    rw [← hp]
  · unfold goodB
    have e2 : ((a :: b :: c :: d :: t).drop 1).take (3 + lenB (a :: b :: c :: d :: t)) = b :: c :: d :: p.data.toList := by
      rw [hp, e1, show 3 + b.toNat = b.toNat + 1 + 1 + 1 by omega]; rfl
    rw [e2]
    show (chk (b :: c :: d :: p.data.toList) d == word _ _) = true ↔ _
    generalize List.getD (a :: b :: c :: d :: t) (4 + lenB (a :: b :: c :: d :: t)) 0 = lo
    generalize List.getD (a :: b :: c :: d :: t) (5 + lenB (a :: b :: c :: d :: t)) 0 = hi
    show _ ↔ lo.toNat = (chk (b :: c :: d :: p.data.toList) d).toNat % 256 ∧ hi.toNat = (chk (b :: c :: d :: p.data.toList) d).toNat / 256
    generalize chk (b :: c :: d :: p.data.toList) d = q
    have h1 := lo.toNat_lt
    have h2 := hi.toNat_lt
    have hw := word_nat lo hi
    constructor
    · intro h
      have := eq_of_beq h
      rw [this, hw]; omega
    · rintro ⟨h3, h4⟩
      have : q = word lo hi := by
        apply BitVec.eq_of_toNat_eq
        rw [hw]; omega
      rw [this]; simp
theorem grown_undrew {w w' : World} {row : Option Nat} (h : w.drew.grownBy w' row) : w.grownBy w' row := ⟨h.os, h.tape, h.output, h.size, h.block⟩
/-- how far the document has read -/
def ReadRel (w : World) (L : List UInt8) (v bad at' : Value) (wx : World) : Prop :=
  ∃ (a : Nat) (fs : List Fr) (b : Nat), a ≤ L.length ∧ at' = .int .i64 a ∧ bad = .int .i64 b ∧ wx.ownsRow w.heap.size 23 3 v fs.length (cellsF fs) ∧ Below w.heap.size w wx ∧ fs ++ (rd (L.drop a)).1 = (rd L).1 ∧ b + (rd (L.drop a)).2.1 = (rd L).2.1 ∧ (rd (L.drop a)).2.2 = (rd L).2.2
theorem rel_skip {w wx : World} {L : List UInt8} {v : Value} {a : Nat} {fs : List Fr} {b c : Nat} {f : Option Fr} {m : List UInt8} {n : Nat} (hs : step (L.drop a) = some (f, c, m)) (hm : m = L.drop (a + n)) (ha : a + n ≤ L.length) (hO : wx.ownsRow w.heap.size 23 3 v (fs ++ f.toList).length (cellsF (fs ++ f.toList))) (hB : Below w.heap.size w wx)
    (e1 : fs ++ (rd (L.drop a)).1 = (rd L).1) (e2 : b + (rd (L.drop a)).2.1 = (rd L).2.1) (e3 : (rd (L.drop a)).2.2 = (rd L).2.2) : ReadRel w L v (.int .i64 ((b + c : Nat) : Int)) (.int .i64 ((a + n : Nat) : Int)) wx := by
  rw [rd_step hs] at e1 e2 e3
  rw [hm] at e1 e2 e3
  exact ⟨a + n, fs ++ f.toList, b + c, ha, rfl, rfl, hO, hB, by simpa using e1, by simp only [] at e2; omega, e3⟩
set_option maxHeartbeats 4000000 in
set_option maxRecDepth 100000 in
theorem read_any (d : ByteArray) (hd : d.size ≤ 4194304) (w : World) : Calls Try.prog 16 #[.string d] w fun e w' => ∃ v, e = .returned (.tuple #[v, .int .i64 ((rd d.data.toList).2.1 : Int), .int .i64 ((rd d.data.toList).2.2.length : Int)]) ∧ w'.ownsRow w.heap.size 23 3 v (rd d.data.toList).1.length (cellsF (rd d.data.toList).1) ∧ Below w.heap.size w w' := by
  have hdl := list_size d
  have hct := rd_count d.data.toList
  obtain ⟨i0, hi, hz0, hz1, hz2⟩ := info_parts info_frame
  have hat : ∀ i (h : i < d.size), d.data.toList.getD i 0 = d[i] := fun i h => getD_at d i h
  obtain ⟨L, hL⟩ : ∃ L, L = d.data.toList := ⟨_, rfl⟩
  rw [← hL] at hdl hct hat ⊢
  have HAT := hide hat
  have HCT := hide hct
  have HD := hide hd
  have HLL := hide hL
  have hdi : (d.size : Int) ≤ 4194304 := by omega
  clear hat hct hd hL
  go_enter Try.func16, Try.ntmps16
  go_wp2_with fail
  go_loopw [5, 6, 7] (fun v bad at' wx => ReadRel w L v bad at' wx) (fun _ _ at' _ => d.size - (intOf at').toNat)
  case atStart => exact ⟨0, [], 0, by omega, rfl, rfl, World.ownsRow_nil _ _ _ _, Below.refl _ _, rfl, by simp, rfl⟩
  case round =>
    obtain ⟨a, fs, b, hal, rfl, rfl, hO, hB, e1, e2, e3⟩ := hrel
    have HO := hide hO
    have HB := hide hB
    have HE := hide (And.intro e1 (And.intro e2 e3))
    have hbb : (b : Int) ≤ 4194304 := by have := HCT.out; have := HD.out; omega
    clear hO hB
    by_cases hlt : a < d.size
    · have hal1 : a < L.length := by omega
      have hx0 : (L.drop a).getD 0 0 = d[a] := by rw [drop_getD]; exact HAT.out a hlt
      have hls : (L.drop a).length = d.size - a := by rw [List.length_drop]; omega
      clear e1 e2 e3
      by_cases hm : d[a] = 253
      · have hmk : (d[a].toNat : Int) = 253 := by rw [hm]; rfl
        have hso : Sought (L.drop a) := sought_mark (hx0.trans hm)
        clear hm hx0
        by_cases hend : a + 1 = d.size
        · have hun : ripeB (L.drop a) = false := by unfold ripeB; simp only [decide_eq_false_iff_not]; omega
          have hrs := rd_stop (step_unripe hso hun)
          have HE2 := HE.out
          rw [hrs] at HE2
          have HO2 : Hid (wr.ownsRow w.heap.size 23 3 u5 (rd L).1.length (cellsF (rd L).1)) := by
            show World.ownsRow _ _ _ _ _ _ _
            rw [← HE2.1]; simpa using HO.out
          have HV : Hid (((rd L).2.1 : Int) = b ∧ ((rd L).2.2.length : Int) = (d.size : Int) - (a : Int)) := ⟨by rw [← HE2.2.1]; simp, by rw [← HE2.2.2]; simp only []; omega⟩
          have hj1 : (a : Int) + 1 = (d.size : Int) := by omega
          clear HE2 hun hrs hso hi hz0 hz1 hz2 HAT hend
          go_wp2_with fail
          go_ret3
          refine ⟨u5, ?_, HO2.out, HB.out⟩
          rw [HV.out.1, HV.out.2]
          rfl
        · obtain ⟨j1, hj⟩ : ∃ j1, j1 = a + 1 := ⟨_, rfl⟩
          have hj1s : j1 < d.size := by omega
          have hj1 : (a : Int) + 1 = (j1 : Int) := by omega
          have hjd : d[a + 1]'(by omega) = d[j1] := by subst hj; rfl
          have hlen : lenB (L.drop a) = d[j1].toNat := by
            unfold lenB; rw [drop_getD, HAT.out (a + 1) (by omega), hjd]
          have hjne : ((j1 : Int) == (d.size : Int)) = false := by simp; omega
          have hn8 := d[j1].toNat_lt
          have HJ := hide hj
          clear hj hjd hend
          by_cases h64 : 64 < d[j1].toNat
          · have hst := step_bad hso (by unfold ripeB; simp only [decide_eq_true_eq]; omega) (.inl (by omega))
            have HN := hide (rel_skip (w := w) (v := u5) (b := b) hst (n := 1) (by rw [List.drop_drop]) (by omega) (by simpa using HO.out) HB.out HE.out.1 HE.out.2.1 HE.out.2.2)
            have HI : Hid (((b + 1 : Nat) : Int) = (b : Int) + 1 ∧ ((a + 1 : Nat) : Int) = (j1 : Int)) := ⟨by omega, by omega⟩
            clear hst hso hlen HAT hi hz0 hz1 hz2
            go_wp2_with fail
            go_roundw
            case rel =>
              have := HN.out
              rw [HI.out.1, HI.out.2] at this
              exact this
            case measure => have := HJ.out; simp [intOf]; omega
          · by_cases h6 : d.size < a + 6 + d[j1].toNat
            · have hun : ripeB (L.drop a) = false := by unfold ripeB; simp only [decide_eq_false_iff_not]; omega
              have hrs := rd_stop (step_unripe hso hun)
              have HE2 := HE.out
              rw [hrs] at HE2
              have HO2 : Hid (wr.ownsRow w.heap.size 23 3 u5 (rd L).1.length (cellsF (rd L).1)) := by
                show World.ownsRow _ _ _ _ _ _ _
                rw [← HE2.1]; simpa using HO.out
              have HV : Hid (((rd L).2.1 : Int) = b ∧ ((rd L).2.2.length : Int) = (d.size : Int) - (a : Int)) := ⟨by rw [← HE2.2.1]; simp, by rw [← HE2.2.2]; simp only []; omega⟩
              have h6i : (d.size : Int) < (a : Int) + 6 + (d[j1].toNat : Int) := by omega
              clear HE2 hun hrs hso hi hz0 hz1 hz2 HAT hlen h6
              go_wp2_with fail
              go_ret3
              refine ⟨u5, ?_, HO2.out, HB.out⟩
              rw [HV.out.1, HV.out.2]
              rfl
            · have h6l : 6 + lenB (L.drop a) ≤ (L.drop a).length := by omega
              have h64' : lenB (L.drop a) ≤ 64 := by omega
              have hrip : ripeB (L.drop a) = true := by unfold ripeB; simp only [decide_eq_true_eq]; omega
              obtain ⟨n, hn⟩ : ∃ n, n = d[j1].toNat := ⟨_, rfl⟩
              rw [← hn] at hlen h64 h6
              obtain ⟨j2, q2⟩ : ∃ j2, j2 = a + 2 := ⟨_, rfl⟩
              obtain ⟨j3, q3⟩ : ∃ j3, j3 = a + 3 := ⟨_, rfl⟩
              obtain ⟨j4, q4⟩ : ∃ j4, j4 = a + 4 := ⟨_, rfl⟩
              obtain ⟨j5, q5⟩ : ∃ j5, j5 = j4 + n := ⟨_, rfl⟩
              obtain ⟨k5, r5⟩ : ∃ k5, k5 = a + 5 := ⟨_, rfl⟩
              obtain ⟨j6, q6⟩ : ∃ j6, j6 = k5 + n := ⟨_, rfl⟩
              obtain ⟨k6, r6⟩ : ∃ k6, k6 = a + 6 := ⟨_, rfl⟩
              obtain ⟨j7, q7⟩ : ∃ j7, j7 = k6 + n := ⟨_, rfl⟩
              have s2 : j2 < d.size := by omega
              have s3 : j3 < d.size := by omega
              have s5 : j5 < d.size := by omega
              have s6 : j6 < d.size := by omega
              have g1 : (L.drop a).getD 1 0 = d[j1] := by rw [drop_getD, ← HJ.out]; exact HAT.out j1 hj1s
              have g2 : (L.drop a).getD 2 0 = d[j2] := by rw [drop_getD, ← q2]; exact HAT.out j2 s2
              have g3 : (L.drop a).getD 3 0 = d[j3] := by rw [drop_getD, ← q3]; exact HAT.out j3 s3
              have g5 : (L.drop a).getD (4 + lenB (L.drop a)) 0 = d[j5] := by rw [drop_getD, hlen, show a + (4 + n) = j5 by omega]; exact HAT.out j5 s5
              have g6 : (L.drop a).getD (5 + lenB (L.drop a)) 0 = d[j6] := by rw [drop_getD, hlen, show a + (5 + n) = j6 by omega]; exact HAT.out j6 s6
              have hpl : (d.extract j4 j5).data.toList = ((L.drop a).drop 4).take (lenB (L.drop a)) := by
                rw [extract_list, ← HLL.out, List.drop_drop, ← q4, hlen, show j5 - j4 = n by omega]
              obtain ⟨fr1, fr2⟩ := ref_facts (d.extract j4 j5) h6l hpl
              rw [g1, g2, g3, g5, g6] at fr2
              rw [g2, g3] at fr1
              have hpz : (d.extract j4 j5).size ≤ 140737488351232 := by rw [ByteArray.size_extract]; omega
              have hck := fun wx => ref_check d[j1] d[j2] d[j3] (d.extract j4 j5) hpz wx
              have hsl : ∀ wx, (Instr.slice 9 (.string d) (some (.int .i64 j4)) (some (.int .i64 j5)) none).run Try.prog wx = .ok (.string (d.extract j4 j5)) wx := fun wx => cut_run d j4 j5 (by omega) (by omega) wx
              have hdd : (L.drop a).drop (6 + lenB (L.drop a)) = L.drop (a + (6 + n)) := by rw [List.drop_drop, hlen]
              have hst := fun hg => step_ok hso hrip h64' hg
              have hsb := fun hg => step_bad hso hrip (.inr hg)
              rw [hdd] at hst
              rw [fr1] at hst
              generalize d.extract j4 j5 = p at hck hsl hst fr2 fr1
              generalize chk (d[j1] :: d[j2] :: d[j3] :: p.data.toList) d[j3] = c at hck fr2
              have hcl := c.isLt
              have t1 : (a : Int) + 2 = (j2 : Int) := by omega
              have t2 : (a : Int) + 3 = (j3 : Int) := by omega
              have t3 : (a : Int) + 4 = (j4 : Int) := by omega
              have t4 : (j4 : Int) + (n : Int) = (j5 : Int) := by omega
              have t5 : (a : Int) + 5 = (k5 : Int) := by omega
              have t6 : (k5 : Int) + (n : Int) = (j6 : Int) := by omega
              have t7 : (a : Int) + 6 = (k6 : Int) := by omega
              have t8 : (k6 : Int) + (n : Int) = (j7 : Int) := by omega
              have t9 : (j7 : Int) ≤ (d.size : Int) := by omega
              have hn64 : (n : Int) ≤ 64 := by omega
              have hnn : d[j1].toNat = n := hn.symm
              have l2 := d[j2].toNat_lt
              have l3 := d[j3].toNat_lt
              have l5 := d[j5].toNat_lt
              have l6 := d[j6].toNat_lt
              have HQ7 : Hid (j7 = a + (6 + n)) := by show _ = _; omega
              have HFR := hide fr2
              have HST := hide hst
              have HSB := hide hsb
              clear hso hrip h6l h64' hlen g1 g2 g3 g5 g6 hpl fr1 fr2 hdd hst hsb q2 q3 q4 q5 q6 q7 r5 r6 hn hpz h6 h64 HAT hls
              simp only [hnn] at hck
              have b1 : (j1 : Int) < (d.size : Int) := by omega
              have b2 : (j2 : Int) < (d.size : Int) := by omega
              have b3 : (j3 : Int) < (d.size : Int) := by omega
              have w1 : IntKind.i64.wrap (j1 : Int) = (j1 : Int) := by rw [IntKind.wrap_i64]; omega
              have w2 : IntKind.i64.wrap (j2 : Int) = (j2 : Int) := by rw [IntKind.wrap_i64]; omega
              have w3 : IntKind.i64.wrap (j3 : Int) = (j3 : Int) := by rw [IntKind.wrap_i64]; omega
              go_wp2_with fail
              go_cut [10] (fun v wx => v = .int .u16 (c.toNat : Int) ∧ Below wr.heap.size wr wx)
              case first =>
                go_region_held3 (fun _ => True) (trivial) (first | (go_at_call 24; refine (hck _).mono ?_; rintro e w4 ⟨rfl, hB4⟩; have HB4 := hide (below_undrew hB4); clear hB4))
                all_goals go_wp2_with fail
                all_goals go_meet
                all_goals exact ⟨rfl, HB4.out⟩
              case rest =>
                obtain ⟨rfl, hB4⟩ := hcut
                have HBc := hide (below_next HB.out (Nat.le_refl _) hB4)
                have HOc := hide (own_below HO.out hB4)
                clear hB4 HO HB hck hsl
                by_cases hgood : goodB (L.drop a) = true
                · obtain ⟨e5, e6⟩ := HFR.out.1 hgood
                  have hst := HST.out hgood
                  have f5 : ((d[j5].toNat : Int) != (c.toNat : Int) % 256) = false := by simp; omega
                  have f6 : ((d[j6].toNat : Int) != (c.toNat : Int) / 256) = false := by simp; omega
                  have v2 : IntKind.i64.wrap (d[j2].toNat : Int) = (d[j2].toNat : Int) := by rw [IntKind.wrap_i64]; omega
                  have v3 : IntKind.i64.wrap (d[j3].toNat : Int) = (d[j3].toNat : Int) := by rw [IntKind.wrap_i64]; omega
                  have HOa : Hid ((wc.alloc (.cells #[.int .i64 (d[j2].toNat : Int), .int .i64 (d[j3].toNat : Int), .string p] 23)).ownsRow w.heap.size 23 3 u5 fs.length (cellsF fs)) := own_below HOc.out (below_alloc _ _)
                  have HQ : Hid (6 * (fs.length + 1) ≤ 4194304) := by
                    show _ ≤ _
                    have h1 := HE.out.1
                    rw [rd_step hst] at h1
                    have h2 := congrArg List.length h1
                    have h3 := HCT.out
                    have h4 := HD.out
                    simp at h2
                    omega
                  have hfin : ∀ (v : Value) (w6 : World), w6.ownsRow w.heap.size 23 3 v (fs.length + 1) (cellsF fs ++ [.int .i64 (d[j2].toNat : Int), .int .i64 (d[j3].toNat : Int), .string p]) → (wc.alloc (.cells #[.int .i64 (d[j2].toNat : Int), .int .i64 (d[j3].toNat : Int), .string p] 23)).grownBy w6 u5.ownBlock → ReadRel w L v (.int .i64 (b : Int)) (.int .i64 (j7 : Int)) w6 := by
                    intro v w6 h1 h2
                    have h3 := rel_skip (w := w) (wx := w6) (v := v) (b := b) hst (n := 6 + n) rfl (by have := HQ7.out; omega) (by
                      rw [cellsF_app, List.length_append]
                      show w6.ownsRow _ _ _ v (fs.length + 1) (cellsF fs ++ cellsF [((d[j2].toNat : Int), (d[j3].toNat : Int), p)])
                      rw [cellsF_one]; exact h1) ((HBc.out.alloc HBc.out.size _).grown h2 (by rw [size_alloc]; exact Nat.le_succ_of_le HBc.out.size) (fun k e => (HOa.out.lt k e).1)) HE.out.1 HE.out.2.1 HE.out.2.2
                    have h4 : ((a + (6 + n) : Nat) : Int) = (j7 : Int) := by rw [HQ7.out]
                    rw [h4] at h3
                    exact h3
                  have HFIN := hide hfin
                  have hbs : w.heap.size ≤ wc.heap.size + 1 := Nat.le_succ_of_le HBc.out.size
                  clear hfin hst e5 e6 hgood HFR HST HSB hal hal1
                  go_wp2_with fail
                  go_region_held3 (fun _ => True) (trivial) (first | (refine step_append_lies _ rfl (.tmp 114) (.tmp 127) 33 rfl w.heap.size 23 i0 _ 3 32 Try.underlying33 hi hz0 hz1 hz2 rfl (by decide) u5 fs.length (cellsF fs) (by rfl) HOa.out ⟨wc.heap.size, 0, none⟩ 1 1 [.int .i64 (d[j2].toNat : Int), .int .i64 (d[j3].toNat : Int), .string p] (by rfl) rfl (new_cells wc wc.heap.size rfl _ _ _ _) (one_cells _ _ _) (by decide) (by have := HQ.out; unfold maxLen; omega) (by have := HQ.out; omega) (by simpa using hbs) (wc.heap.size + 1) (by simp) ?_; intro g cap w6 hown6 hgrow6 hat6 hlt6; have HN := hide (HFIN.out _ w6 hown6 (grown_undrew hgrow6)); clear hown6 hgrow6 hat6 hlt6))
                  all_goals go_wp2_with fail
                  all_goals go_roundw
                  all_goals first | exact HN.out | (have := HQ7.out; simp [intOf]; omega)
                · have hgf : goodB (L.drop a) = false := by simpa using hgood
                  have hst := HSB.out hgf
                  have HN := hide (rel_skip (w := w) (v := u5) (b := b) hst (n := 1) (by rw [List.drop_drop]) (by omega) (by simpa using HOc.out) HBc.out HE.out.1 HE.out.2.1 HE.out.2.2)
                  have HI : Hid (((b + 1 : Nat) : Int) = (b : Int) + 1 ∧ ((a + 1 : Nat) : Int) = (j1 : Int)) := ⟨by omega, by omega⟩
                  have hor : (((d[j5].toNat : Int) != (c.toNat : Int) % 256) = true) ∨ (((d[j5].toNat : Int) != (c.toNat : Int) % 256) = false ∧ ((d[j6].toNat : Int) != (c.toNat : Int) / 256) = true) := by
                    have h0 : ¬ (d[j5].toNat = c.toNat % 256 ∧ d[j6].toNat = c.toNat / 256) := fun h => hgood (HFR.out.2 h)
                    by_cases h1 : d[j5].toNat = c.toNat % 256
                    · refine .inr ⟨by simp; omega, ?_⟩
                      have : d[j6].toNat ≠ c.toNat / 256 := fun h => h0 ⟨h1, h⟩
                      simp; omega
                    · exact .inl (by simp; omega)
                  rw [HI.out.1, HI.out.2] at HN
                  clear hst hgood hgf HFR HST HSB hi hz0 hz1 hz2 w1 w2 w3
                  rcases hor with f5 | ⟨f5, f6⟩
                  · go_wp2_with fail
                    all_goals go_roundw
                    all_goals first | exact HN.out | (have := HJ.out; simp [intOf]; omega)
                  · go_wp2_with fail
                    all_goals go_roundw
                    all_goals first | exact HN.out | (have := HJ.out; simp [intOf]; omega)
      · have hmn : ((d[a].toNat : Int) == 253) = false := by
          have : d[a].toNat ≠ 253 := fun e => hm (UInt8.toNat_inj.1 e)
          simp; omega
        have hs : step (L.drop a) = some (none, 0, L.drop (a + 1)) := by
          rw [List.drop_eq_getElem_cons hal1, step_cons, if_neg]
          intro e
          apply hm
          rw [← hx0, List.drop_eq_getElem_cons hal1]; exact e
        have HN := hide (rel_skip (w := w) (v := u5) (b := b) hs rfl (by omega) (by simpa using HO.out) HB.out HE.out.1 HE.out.2.1 HE.out.2.2)
        clear hs hx0 hls hm HAT hi hz0 hz1 hz2
        go_wp2_with fail
        go_roundw
        case rel => exact HN.out
        case measure => simp [intOf]; omega
    · have hn : L.drop a = [] := List.drop_of_length_le (by omega)
      rw [hn, rd_stop rfl] at e1 e2 e3
      have HO2 : Hid (wr.ownsRow w.heap.size 23 3 u5 (rd L).1.length (cellsF (rd L).1)) := by
        show World.ownsRow _ _ _ _ _ _ _
        rw [← e1]; simpa using HO.out
      have HV : Hid (((rd L).2.1 : Int) = b ∧ ((rd L).2.2.length : Int) = 0) := ⟨by rw [← e2]; simp, by rw [← e3]; rfl⟩
      clear e1 e2 e3 hn hi hz0 hz1 hz2
      go_wp2_with fail
      go_ret3
      refine ⟨u5, ?_, HO2.out, HB.out⟩
      rw [HV.out.1, HV.out.2]
      rfl
end Go.Proofs.Ytijdobhdjmmgmaa
