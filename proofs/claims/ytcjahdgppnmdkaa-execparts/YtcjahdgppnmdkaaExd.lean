/- The statements' example. -/
import Derived.Test.YtcjahdgppnmdkaaExc
import Derived.Test.YtcjahdgppnmdkaaKq2
set_option maxRecDepth 100000
namespace Go.Proofs.Ytcjahdgppnmdkaa
open Go.RowKit Go.Great

theorem rws_blk {w : World} {g n : Nat} {L : List Jb} (h : Blk w g (jbsC L).toArray 80) (hn : L.length = n) (h64 : n ≤ 100) : Rws w (.slice (some ⟨g, 0, none⟩) n n) 3 jbC L := by
  refine ⟨by rw [hn]; unfold maxLen; omega, some ⟨g, 0, none⟩, n, by rw [hn], fun _ => ⟨g, 0, rfl, h.lt, fun i x hx j u hu => ?_⟩⟩
  rw [Nat.zero_add]
  exact h.cell (i * 3 + j) (by rw [List.getElem?_toArray]; exact jbsC_get hu hx)
def A1 : List Jb := [⟨2, 0, 5⟩, ⟨3, 1, 0⟩, ⟨2, 0, 5⟩]
def A2 : List Jb := [⟨0, 0, 0⟩]
theorem A1_ok : JsOk A1 := ⟨by decide, by decide, fun j hj => by
  simp [A1] at hj
  rcases hj with rfl | rfl | rfl <;> exact ⟨by decide, by decide, by decide⟩⟩
theorem A1_chk : chkJ A1 = 0 := by decide
theorem A2_chk : chkJ A2 = 1 := by decide
theorem A1_0 : (dueS A1 0).map Int.ofNat = [0, 2] := by decide +kernel
theorem A1_1 : (dueS A1 1).map Int.ofNat = [1] := by decide +kernel
theorem A1_3 : (dueS A1 3).map Int.ofNat = [] := by decide +kernel
theorem A1_4 : (dueS A1 4).map Int.ofNat = [1, 0, 2] := by decide +kernel
/-- Due of the example -/
theorem due_row {w w' : World} {b P base : Nat} {L : List Jb} {t : Int} {v : Value} {l : List Int} (h : PlanW w b P L t) (hR : IRow w base v l) (hG : w.grownBy w' (some P)) : IRow w' base v l := by
  obtain ⟨a, n, cap, hB⟩ := h.blk
  exact World.ownsRow.kept hR hG (.inr (blk_apart hR hB (by decide)))
theorem ints_blk {w : World} {g n : Nat} {l : List Int} (h : Blk w g (rowI l) 3) (hn : n = l.length) : Ints w (.slice (some ⟨g, 0, none⟩) n n) l := ints_row h n n hn
set_option maxHeartbeats 4000000 in
theorem awake22_any (w : World) : Calls Try.prog 30 #[] w fun e w' => e = .returned (.bool true) ∧ Below w.heap.size w w' := by
  have N1 : Hid (Calls Try.prog 36 #[.slice (some ⟨w.heap.size, 0, none⟩) 3 3] (w.alloc (.cells #[.int .i64 2, .int .i64 0, .int .i64 5, .int .i64 3, .int .i64 1, .int .i64 0, .int .i64 2, .int .i64 0, .int .i64 5] 80)) fun e w' => ∃ P, e = .returned (.tuple #[pP P, .int .i64 0]) ∧ w.heap.size + 1 ≤ P ∧ PlanW w' (w.heap.size + 1) P A1 0 ∧ Below w.heap.size w w') := hide (by
    refine (new_any A1 _ _ (rws_blk (g := w.heap.size) (L := A1) (n := 3) (by exact Blk.new _ _ _) rfl (by omega)) A1_ok.ok).mono ?_
    rintro e w' ⟨hb, ⟨h1, _⟩ | ⟨_, P, rfl, h2, h3⟩⟩
    · exact absurd A1_chk h1
    · rw [size_alloc] at h2 h3
      exact ⟨P, rfl, h2, h3, below_next (below_alloc _ _) (Nat.le_refl _) hb⟩)
  have N2 : Hid (∀ q : World, Calls Try.prog 36 #[.slice (some ⟨q.heap.size, 0, none⟩) 1 1] (q.alloc (.cells #[.int .i64 0, .int .i64 0, .int .i64 0] 80)) fun e w' => e = .returned (.tuple #[.pointer none, .int .i64 1]) ∧ Below q.heap.size q w') := hide (fun q => by
    refine (new_any A2 _ _ (rws_blk (g := q.heap.size) (L := A2) (n := 1) (by exact Blk.new _ _ _) rfl (by omega)) (fun j hj => by simp [A2] at hj; subst hj; exact ⟨by decide, by decide, by decide⟩)).mono ?_
    rintro e w' ⟨hb, ⟨h1, rfl⟩ | ⟨h0, _⟩⟩
    · exact ⟨by rw [A2_chk], below_next (below_alloc _ _) (Nat.le_refl _) hb⟩
    · rw [A2_chk] at h0; cases h0)
  go_enter Try.func30, Try.ntmps30
  go_upto_region 2 with (go_at_call 36; refine N1.out.mono ?_; rintro e w1 ⟨P, rfl, hP1, hP2, hb1⟩; have HP0 := hide hP1; have HPl := hide hP2; have Hb := hide hb1; clear hP1 hP2 hb1)
  go_upto_region 3 with (go_at_call 36; refine (N2.out w1).mono ?_; rintro e w2 ⟨rfl, hb2⟩; have HPl2 := hide (HPl.out.after hb2); have Hb2 := hide (below_next Hb.out (Nat.le_refl _) hb2); clear hb2)
  have EP := eql_ptr P
  clear N1 N2 HPl Hb
  have hsz := hide HP0.out
  have DU0 := hide (due_any w2 (w.heap.size + 1) P A1 0 HPl2.out A1_ok (by decide) (by decide))
  go_upto_region 6 with (go_at_call 32; refine DU0.out.mono ?_; rintro e w3 ⟨v, rfl, hr, hp, hg⟩; rw [A1_0] at hr; obtain ⟨va, hsha⟩ : ∃ q : Option Addr × Nat, v = .slice q.1 2 q.2 := (by obtain ⟨a, c, e⟩ := hr.shape; exact ⟨(a, c), e⟩); obtain ⟨aa, ca⟩ := va; subst hsha; have HPl3 := hide hp; have Hb3 := hide (below_grown Hb2.out hg (fun k e => by injection e with e; have := hsz.out; omega)); have HRa3 := hide hr; clear hr hp hg)
  clear DU0 HPl2 Hb2 
  have DU1 := hide (due_any w3 (w.heap.size + 1) P A1 1 HPl3.out A1_ok (by decide) (by decide))
  go_upto_region 7 with (go_at_call 32; refine DU1.out.mono ?_; rintro e w4 ⟨v, rfl, hr, hp, hg⟩; rw [A1_1] at hr; obtain ⟨vb, hshb⟩ : ∃ q : Option Addr × Nat, v = .slice q.1 1 q.2 := (by obtain ⟨a, c, e⟩ := hr.shape; exact ⟨(a, c), e⟩); obtain ⟨ab, cb⟩ := vb; subst hshb; have HPl4 := hide hp; have Hb4 := hide (below_grown Hb3.out hg (fun k e => by injection e with e; have := hsz.out; omega)); have HRa4 := hide (due_row HPl3.out HRa3.out hg); have HRb4 := hide hr; clear hr hp hg)
  clear DU1 HPl3 Hb3 HRa3
  have DU2 := hide (due_any w4 (w.heap.size + 1) P A1 2 HPl4.out A1_ok (by decide) (by decide))
  go_upto_region 8 with (go_at_call 32; refine DU2.out.mono ?_; rintro e w5 ⟨v, rfl, hr, hp, hg⟩; obtain ⟨vx1, vx2, vx3, hshx⟩ : ∃ a n c, v = .slice a n c := (by obtain ⟨a, c, e⟩ := hr.shape; exact ⟨a, _, c, e⟩); subst hshx; have HPl5 := hide hp; have Hb5 := hide (below_grown Hb4.out hg (fun k e => by injection e with e; have := hsz.out; omega)); have HRa5 := hide (due_row HPl4.out HRa4.out hg); have HRb5 := hide (due_row HPl4.out HRb4.out hg); skip; clear hr hp hg)
  clear DU2 HPl4 Hb4 HRa4 HRb4
  have DU3 := hide (due_any w5 (w.heap.size + 1) P A1 3 HPl5.out A1_ok (by decide) (by decide))
  go_upto_region 9 with (go_at_call 32; refine DU3.out.mono ?_; rintro e w6 ⟨v, rfl, hr, hp, hg⟩; rw [A1_3] at hr; obtain ⟨vc, hshc⟩ : ∃ q : Option Addr × Nat, v = .slice q.1 0 q.2 := (by obtain ⟨a, c, e⟩ := hr.shape; exact ⟨(a, c), e⟩); obtain ⟨ac, cc⟩ := vc; subst hshc; have HPl6 := hide hp; have Hb6 := hide (below_grown Hb5.out hg (fun k e => by injection e with e; have := hsz.out; omega)); have HRa6 := hide (due_row HPl5.out HRa5.out hg); have HRb6 := hide (due_row HPl5.out HRb5.out hg); have HRc6 := hide hr; clear hr hp hg)
  clear DU3 HPl5 Hb5 HRa5 HRb5
  have DU4 := hide (due_any w6 (w.heap.size + 1) P A1 4 HPl6.out A1_ok (by decide) (by decide))
  go_upto_region 10 with (go_at_call 32; refine DU4.out.mono ?_; rintro e w7 ⟨v, rfl, hr, hp, hg⟩; rw [A1_4] at hr; obtain ⟨vd, hshd⟩ : ∃ q : Option Addr × Nat, v = .slice q.1 3 q.2 := (by obtain ⟨a, c, e⟩ := hr.shape; exact ⟨(a, c), e⟩); obtain ⟨ad, cd⟩ := vd; subst hshd; have HPl7 := hide hp; have Hb7 := hide (below_grown Hb6.out hg (fun k e => by injection e with e; have := hsz.out; omega)); have HRa7 := hide (due_row HPl6.out HRa6.out hg); have HRb7 := hide (due_row HPl6.out HRb6.out hg); have HRc7 := hide (due_row HPl6.out HRc6.out hg); have HRd7 := hide hr; clear hr hp hg)
  clear DU4 HPl6 Hb6 HRa6 HRb6 HRc6
  have S1 : Hid (∀ q g, Below w7.heap.size w7 q → Blk q g #[.int .i64 0, .int .i64 2] 3 → Calls Try.prog 33 #[.slice aa 2 ca, .slice (some ⟨g, 0, none⟩) 2 2] q fun e w' => e = .returned (.bool true) ∧ ∃ n, w' = q.drewN n) := hide (fun q g hb hB => sameInts_true [0, 2] _ _ q (HRa7.out.below hb).ints (ints_blk (l := [0, 2]) hB rfl) (by decide))
  have S2 : Hid (∀ q g, Below w7.heap.size w7 q → Blk q g #[.int .i64 1] 3 → Calls Try.prog 33 #[.slice ab 1 cb, .slice (some ⟨g, 0, none⟩) 1 1] q fun e w' => e = .returned (.bool true) ∧ ∃ n, w' = q.drewN n) := hide (fun q g hb hB => sameInts_true [1] _ _ q (HRb7.out.below hb).ints (ints_blk (l := [1]) hB rfl) (by decide))
  have S3 : Hid (∀ q g, Below w7.heap.size w7 q → Blk q g #[.int .i64 1, .int .i64 0, .int .i64 2] 3 → Calls Try.prog 33 #[.slice ad 3 cd, .slice (some ⟨g, 0, none⟩) 3 3] q fun e w' => e = .returned (.bool true) ∧ ∃ n, w' = q.drewN n) := hide (fun q g hb hB => sameInts_true [1, 0, 2] _ _ q (HRd7.out.below hb).ints (ints_blk (l := [1, 0, 2]) hB rfl) (by decide))
  have NO : Hid (∀ q, Below w7.heap.size w7 q → Calls Try.prog 31 #[pP P] q fun e w' => e = .returned (.int .i64 5) ∧ w' = q) := hide (fun q hb => now_any q _ P A1 5 (HPl7.out.after hb))
  go_wp2_with fail
  refine (S1.out _ _ (below_alloc _ _) (Blk.new _ _ _)).mono ?_
  rintro e w8 ⟨rfl, n8, hw8⟩
  have B8 : Hid (Below w7.heap.size w7 w8) := hide (by rw [hw8]; exact below_drewN (below_alloc _ _) n8)
  clear hw8 S1
  go_wp2_with fail
  refine (S2.out _ _ (below_next B8.out (Nat.le_refl _) (below_alloc _ _)) (Blk.new _ _ _)).mono ?_
  rintro e w9 ⟨rfl, n9, hw9⟩
  have B9 : Hid (Below w7.heap.size w7 w9) := hide (by rw [hw9]; exact below_next B8.out (Nat.le_refl _) (below_drewN (below_alloc _ _) n9))
  clear hw9 S2 B8
  go_wp2_with fail
  refine (S3.out _ _ (below_next B9.out (Nat.le_refl _) (below_alloc _ _)) (Blk.new _ _ _)).mono ?_
  rintro e w10 ⟨rfl, n10, hw10⟩
  have B10 : Hid (Below w7.heap.size w7 w10) := hide (by rw [hw10]; exact below_next B9.out (Nat.le_refl _) (below_drewN (below_alloc _ _) n10))
  clear hw10 S3 B9
  go_wp2_with fail
  refine (NO.out _ B10.out).mono ?_
  rintro e w11 ⟨rfl, hw11⟩
  obtain rfl := hw11.symm
  have B11 : Hid (Below w.heap.size w w10) := hide (below_next Hb7.out (Nat.le_refl _) B10.out)
  go_wp2_with fail
  go_ret
  exact ⟨rfl, B11.out⟩
end Go.Proofs.Ytcjahdgppnmdkaa
