/- What MissionBack answers: true, at every list of items and every text. -/
import Derived.Test.YtnekjfidobglmaaMiA
import Derived.Test.YtnekjfidobglmaaMiO
namespace Go.Proofs.Ytnekjfidobglmaa
open Go.RowKit Go.Great Go.Maps

theorem dec_encA {L : List It} (h : chk L = 0) : decE (encA L) = 0 ∧ decA (encA L) = L := by
  have hi := its_enc h
  have e : encA L = encL L := by unfold encA; rw [if_pos h]
  rw [e]
  unfold decE decA
  rw [hi.1, hi.2]
  exact ⟨h, by simp [h]⟩
theorem enc_decA {l : List UInt8} (h : decE l = 0) : chk (decA l) = 0 ∧ encA (decA l) = l := by
  unfold decE at h
  split at h
  · next hs =>
    have e : decA l = its l := by unfold decA; rw [if_pos ⟨hs, h⟩]
    rw [e]
    refine ⟨h, ?_⟩
    unfold encA
    rw [if_pos h, enc_its hs]
  · cases h
theorem decA_no {l : List UInt8} (h : decE l ≠ 0) : decA l = [] := by
  unfold decA
  rw [if_neg]
  intro h2
  refine h ?_
  unfold decE
  rw [if_pos h2.1, h2.2]
theorem encA_len (L : List It) : (encA L).length ≤ 1000 := by
  unfold encA
  split
  · next h =>
    have := (chk_ok h).1
    unfold encL
    rw [List.length_cons, encR_len]
    omega
  · simp
set_option maxHeartbeats 4000000 in
set_option maxRecDepth 100000 in
theorem back_any (v : Value) (s : ByteArray) (w : World) (L : List It) (hL : ItsIn w v L) (hs : s.size ≤ 140737488351232) : Calls Try.prog 5 #[v, .string s] w fun e w' => e = .returned (.bool true) ∧ Below w.heap.size w w' := by
  have AW := hide awakeM
  have HR := hide hL.1
  have EN := hide (encode_any L v w hL.1)
  have CK := hide (fun W (hb : Below w.heap.size w W) => check_any L v W (hL.1.below hb))
  have DE := hide (fun W => decode_any (bs (encA L)) (by rw [bs_size]; have := encA_len L; omega) W)
  rw [bs_list] at DE
  have DS := hide (fun W => decode_any s (by omega) W)
  obtain ⟨_, na, np, rfl, _⟩ := hL.1
  have hZ := hL.2
  generalize hn : L.length = n at *
  have HDN := hide (fun h => decA_no (l := s.data.toList) h)
  have HDY := hide (fun h => enc_decA (l := s.data.toList) h)
  generalize hE : decE s.data.toList = E at *
  generalize hA : decA s.data.toList = A at *
  clear hn hE hA hL
  by_cases hc : chk L = 0
  · have D2 := dec_encA hc
    rw [D2.1, D2.2] at DE
    rw [hc] at EN
    clear CK D2
    generalize bs (encA L) = B at *
    go_enter Try.func5, Try.ntmps5
    go_wp2_with fail
    refine EN.out.mono ?_
    rintro e w1 ⟨rfl, hb1⟩
    have Hb := hide hb1
    clear hb1 EN
    go_wp2_with fail
    refine (DE.out w1).mono ?_
    rintro e w2 ⟨u, rfl, hu, hb2⟩
    have HU := hide hu
    replace Hb := hide (below_next Hb.out (Nat.le_refl _) hb2)
    obtain ⟨ua, uc, rfl⟩ := hu.shape
    clear hu hb2 DE
    generalize L.length = ln at *
    go_wp2_with fail
    refine (same_true L _ _ w2 HU.out.rws (HR.out.below Hb.out)).mono ?_
    rintro e w3 ⟨rfl, hb3⟩
    replace Hb := hide (below_next Hb.out (Nat.le_refl _) hb3)
    clear hb3 HU HR
    go_wp2_with fail
    refine (DS.out w3).mono ?_
    rintro e w4 ⟨u, rfl, hu, hb4⟩
    have HU := hide hu
    replace Hb := hide (below_next Hb.out (Nat.le_refl _) hb4)
    obtain ⟨va, vc, rfl⟩ := hu.shape
    clear hu hb4 DS
    by_cases hE : E = 0
    · subst hE
      obtain ⟨q1, q2⟩ := HDY.out rfl
      have E2 := hide (encode_any A _ w4 HU.out.rws)
      rw [q1, q2, bs_of] at E2
      clear q1 q2 HDY HDN
      generalize A.length = al at *
      go_wp2_with fail
      refine E2.out.mono ?_
      rintro e w5 ⟨rfl, hb5⟩
      replace Hb := hide (below_next Hb.out (Nat.le_refl _) hb5)
      clear hb5 E2 HU
      go_wp2_with fail
      refine (AW.out w5).mono ?_
      rintro e w6 ⟨rfl, hb6⟩
      go_wp2_with fail
      go_ret
      exact ⟨rfl, below_next Hb.out (Nat.le_refl _) hb6⟩
    · have hA := HDN.out hE
      rw [hA]
      have hne : (E != 0) = true := by simp [hE]
      have hl0 : ([] : List It).length = 0 := rfl
      rw [hl0]
      clear HDY HDN hE HU hA hl0
      go_wp2_with fail
      refine (AW.out w4).mono ?_
      rintro e w6 ⟨rfl, hb6⟩
      go_wp2_with fail
      go_ret
      exact ⟨rfl, below_next Hb.out (Nat.le_refl _) hb6⟩
  · have e0 : encA L = [] := by unfold encA; rw [if_neg hc]
    have hb0 : bs [] = ⟨#[]⟩ := rfl
    rw [e0, hb0] at EN
    have hne : (chk L != 0) = true := by simp [hc]
    have hne2 : (chk L == 0) = false := by simp [hc]
    generalize chk L = c at *
    clear DE e0 hb0 HR
    go_enter Try.func5, Try.ntmps5
    go_wp2_with fail
    refine EN.out.mono ?_
    rintro e w1 ⟨rfl, hb1⟩
    have Hb := hide hb1
    clear hb1 EN
    go_wp2_with fail
    refine (CK.out w1 Hb.out).mono ?_
    rintro e w2 ⟨rfl, hb2⟩
    replace Hb := hide (below_next Hb.out (Nat.le_refl _) hb2)
    clear hb2 CK
    go_wp2_with fail
    refine (DS.out w2).mono ?_
    rintro e w4 ⟨u, rfl, hu, hb4⟩
    have HU := hide hu
    replace Hb := hide (below_next Hb.out (Nat.le_refl _) hb4)
    obtain ⟨va, vc, rfl⟩ := hu.shape
    clear hu hb4 DS
    by_cases hE : E = 0
    · subst hE
      obtain ⟨q1, q2⟩ := HDY.out rfl
      have E2 := hide (encode_any A _ w4 HU.out.rws)
      rw [q1, q2, bs_of] at E2
      clear q1 q2 HDY HDN
      generalize A.length = al at *
      go_wp2_with fail
      refine E2.out.mono ?_
      rintro e w5 ⟨rfl, hb5⟩
      replace Hb := hide (below_next Hb.out (Nat.le_refl _) hb5)
      clear hb5 E2 HU
      go_wp2_with fail
      refine (AW.out w5).mono ?_
      rintro e w6 ⟨rfl, hb6⟩
      go_wp2_with fail
      go_ret
      exact ⟨rfl, below_next Hb.out (Nat.le_refl _) hb6⟩
    · have hA := HDN.out hE
      rw [hA]
      have hneE : (E != 0) = true := by simp [hE]
      have hl0 : ([] : List It).length = 0 := rfl
      rw [hl0]
      clear HDY HDN hE HU hA hl0
      go_wp2_with fail
      refine (AW.out w4).mono ?_
      rintro e w6 ⟨rfl, hb6⟩
      go_wp2_with fail
      go_ret
      exact ⟨rfl, below_next Hb.out (Nat.le_refl _) hb6⟩
theorem MissionBack_walk (v : Value) (s : ByteArray) (w : World) (hv : ∃ L, ItsIn w v L) (hs : s.size ≤ 140737488351232) : Calls Try.prog 5 #[v, .string s] w fun e w' => e = .returned (.bool true) ∧ Below w.heap.size w w' := by
  obtain ⟨L, hL⟩ := hv
  exact back_any v s w L hL hs
end Go.Proofs.Ytnekjfidobglmaa
