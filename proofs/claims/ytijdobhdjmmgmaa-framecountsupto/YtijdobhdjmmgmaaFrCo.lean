/- FrameCounts. -/
import Derived.Test.YtijdobhdjmmgmaaFr7
namespace Go.Proofs.Ytijdobhdjmmgmaa
open Go.RowKit Go.Great

set_option maxHeartbeats 2000000 in
theorem FrameCounts_walk (d : ByteArray) (times : Int) (hd : d.size ≤ 1048576) (w : World) : Calls Try.prog 9 #[.string d, .int .i64 times] w fun e w' => e = .returned (.bool true) ∧ Below w.heap.size w w' := by
  go_enter Try.func9, Try.ntmps9
  go_wp2_with fail
  refine (new_any _).mono ?_
  rintro e w1 ⟨rfl, hw1⟩
  have HR1 : Hid (Rdr w1 w.heap.size (bs []) 0) := by show Rdr _ _ _ _; rw [hw1]; exact heap_alloc_new _ _
  have HB1 : Hid (Below w.heap.size w w1) := by show Below _ _ _; rw [hw1]; exact below_alloc _ _
  clear hw1
  go_wp2_with fail
  go_loopw [6, 7] (fun last i wx => ∃ (k : Nat) (h : List UInt8) (m : Int), k ≤ 40 ∧ i = .int .i64 k ∧ last = .int .i64 m ∧ 0 ≤ m ∧ m ≤ 65535 ∧ h.length ≤ 69 ∧ Rdr wx w.heap.size (bs h) m ∧ Below w.heap.size w wx) (fun _ i _ => 40 - (intOf i).toNat)
  case atStart => exact ⟨0, [], 0, by omega, rfl, rfl, by omega, by omega, by simp, HR1.out, HB1.out⟩
  case round =>
    obtain ⟨k, h, m, hk, rfl, rfl, hm0, hm1, hh, hR, hB⟩ := hrel
    by_cases hlt : (k : Int) < times ∧ k < 40
    · obtain ⟨hl1, hl2⟩ := hlt
      have hc := rd_count ((bs h).data.toList ++ d.data.toList)
      rw [List.length_append, list_size, list_size, bs_size] at hc
      have hfd := feed_any wr w.heap.size (bs h) d m hR hm0 hm1 (by rw [bs_size]; omega) (by omega)
      have hhe := rd_held ((bs h).data.toList ++ d.data.toList)
      generalize rd ((bs h).data.toList ++ d.data.toList) = r at hfd hhe hc
      have HB := hide hB
      clear hR hB hc HR1 HB1
      obtain ⟨m2, hm2⟩ : ∃ m2, m2 = min (m + (r.2.1 : Int)) 65535 := ⟨_, rfl⟩
      rw [← hm2] at hfd
      have h20 : m ≤ m2 := by omega
      have h21 : m2 ≤ 65535 := by omega
      clear hm2
      go_wp2_with fail
      refine hfd.mono ?_
      rintro e w2 ⟨v, rfl, _, hR2, hK2⟩
      have HB2 : Hid (Below w.heap.size w w2) := hK2.toBelow HB.out HB.out.size (Nat.le_refl _)
      clear hK2 hfd
      go_wp2_with fail
      refine (bad_any _ _ _ _ hR2).mono ?_
      rintro e w3 ⟨rfl, hw3⟩
      obtain rfl : w2 = w3 := hw3.symm
      go_wp2_with fail
      refine (bad_any _ _ _ _ hR2).mono ?_
      rintro e w3 ⟨rfl, hw3⟩
      obtain rfl : w2 = w3 := hw3.symm
      go_wp2_with fail
      refine (bad_any _ _ _ _ hR2).mono ?_
      rintro e w3 ⟨rfl, hw3⟩
      obtain rfl : w2 = w3 := hw3.symm
      go_wp2_with fail
      go_roundw
      case rel => exact ⟨k + 1, r.2.2, m2, by omega, by go_num, rfl, by omega, h21, hhe, hR2, HB2.out⟩
      case measure => simp [intOf]; omega
    · have HB := hide hB
      have hor : times ≤ (k : Int) ∨ k = 40 := by omega
      clear hR hB HR1 HB1 hlt
      rcases hor with hor | rfl
      · go_wp2_with fail
        refine (awake_any _).mono ?_
        rintro e w2 ⟨rfl, h2⟩
        go_wp2_with fail
        go_ret
        exact ⟨rfl, below_next HB.out (Nat.le_refl _) h2⟩
      · by_cases ht : 40 < times
        · go_wp2_with fail
          refine (awake_any _).mono ?_
          rintro e w2 ⟨rfl, h2⟩
          go_wp2_with fail
          go_ret
          exact ⟨rfl, below_next HB.out (Nat.le_refl _) h2⟩
        · go_wp2_with fail
          refine (awake_any _).mono ?_
          rintro e w2 ⟨rfl, h2⟩
          go_wp2_with fail
          go_ret
          exact ⟨rfl, below_next HB.out (Nat.le_refl _) h2⟩
end Go.Proofs.Ytijdobhdjmmgmaa
