/- Package exec: a plan: New, Due, Now. -/
import Derived.Test.YtcjahdgppnmdkaaEx9
set_option maxRecDepth 100000
namespace Go.Proofs.Ytcjahdgppnmdkaa
open Go.RowKit Go.Great

/-- a plan of jobs at a tick, in block P; its turns from b on -/
def PlanW (w : World) (b P : Nat) (L : List Jb) (t : Int) : Prop := HQ w b P 1 [.int .i64 t] 120 (tuS L t)
abbrev pP (P : Nat) : Value := .pointer (some ⟨P, 0, none⟩)
theorem PlanW.blk {w : World} {b P : Nat} {L : List Jb} {t : Int} (h : PlanW w b P L t) : ∃ a n cap, Blk w P #[.int .i64 t, .slice a n cap] 120 := by
  obtain ⟨a, cap, hB⟩ := HQ.blk h
  exact ⟨a, _, cap, hB⟩
theorem PlanW.lt {w : World} {b P : Nat} {L : List Jb} {t : Int} (h : PlanW w b P L t) : P < w.heap.size := by
  obtain ⟨_, _, _, h⟩ := h.blk
  exact h.lt
theorem PlanW.after {w w' : World} {b P : Nat} {L : List Jb} {t : Int} (h : PlanW w b P L t) (hb : Below w.heap.size w w') : PlanW w' b P L t := HQ.after h hb
/-- what New leaves -/
def NEnd (w : World) (L : List Jb) (e : Ending) (w' : World) : Prop := Below w.heap.size w w' ∧ ((chkJ L ≠ 0 ∧ e = .returned (.tuple #[.pointer none, .int .i64 (chkJ L)])) ∨ (chkJ L = 0 ∧ ∃ P, e = .returned (.tuple #[pP P, .int .i64 0]) ∧ w.heap.size ≤ P ∧ PlanW w' w.heap.size P L 0))
set_option maxHeartbeats 2000000 in
theorem new_any (L : List Jb) (v : Value) (w : World) (hR : Rws w v 3 jbC L) (hok : ∀ j ∈ L, JbOk j) : Calls Try.prog 36 #[v] w (NEnd w L) := by
  have CO := hide (contains_any L v w hR)
  have WA := hide (fun W (hb : Below w.heap.size w W) (hL : JsOk L) => waiting_any L v W (hR.below hb) hL)
  have HRl := hR.1
  obtain ⟨_, na, np, rfl, _⟩ := hR
  obtain ⟨n, hn⟩ : ∃ n, Hid (L.length = n) := ⟨_, hide rfl⟩
  rw [hn.out] at CO WA HRl ⊢
  unfold maxLen at HRl
  by_cases h64 : 64 < n
  · have HC : Hid (chkJ L = 4) := hide (by unfold chkJ; rw [if_pos (by rw [hn.out]; exact h64)])
    have h64' : decide ((64 : Int) < (n : Int)) = true := by simp; omega
    clear CO WA
    go_enter Try.func36, Try.ntmps36
    go_wp2_with fail
    go_ret2
    exact ⟨Below.refl _ _, .inl ⟨by rw [HC.out]; decide, by rw [HC.out]; rfl⟩⟩
  · have h64' : decide ((64 : Int) < (n : Int)) = false := by simp; omega
    have CO2 := hide (CO.out (by omega))
    have HC : Hid (chkJ L = if L.any bad then 1 else 0) := hide (by unfold chkJ; rw [if_neg (by rw [hn.out]; exact h64)])
    have HL : Hid (L.any bad = false → JsOk L) := hide (fun e => by
      have h0 : chkJ L = 0 := by rw [HC.out, e]; rfl
      obtain ⟨h1, h2⟩ := chkJ_ok h0
      exact ⟨h1, h2, hok⟩)
    clear CO hok
    obtain ⟨bb, hbb⟩ : ∃ bb, Hid (L.any bad = bb) := ⟨_, hide rfl⟩
    rw [hbb.out] at CO2 HC HL
    cases bb with
    | true =>
      clear WA HL
      go_enter Try.func36, Try.ntmps36
      go_wp2_with fail
      refine CO2.out.mono ?_
      rintro e w2 ⟨rfl, hb2⟩
      have Hb := hide hb2
      clear hb2 CO2
      go_wp2_with fail
      go_ret2
      exact ⟨Hb.out, .inl ⟨by rw [HC.out]; decide, by rw [HC.out]; rfl⟩⟩
    | false =>
      have HJ := hide (HL.out rfl)
      clear HL
      go_enter Try.func36, Try.ntmps36
      go_wp2_with fail
      refine CO2.out.mono ?_
      rintro e w2 ⟨rfl, hb2⟩
      have Hb := hide hb2
      clear hb2 CO2
      go_wp2_with fail
      refine (WA.out _ Hb.out HJ.out).mono ?_
      rintro e w3 ⟨a, cap, l, rfl, hO, hoks, hp, hh, hb3⟩
      have HO := hide hO
      have Hoks := hide hoks
      have HPp := hide hp
      have HHp := hide hh
      have Hb3 := hide (below_next Hb.out (Nat.le_refl _) hb3)
      have hs2 := hide Hb.out.size
      obtain ⟨ln, hln⟩ : ∃ ln, Hid (l.length = ln) := ⟨_, hide rfl⟩
      rw [hln.out] at HO
      rw [hln.out]
      clear hO hoks hp hh hb3 WA
      go_wp2_with fail
      go_ret2
      have hown : (w3.alloc (.cells #[.int .i64 0, slQ a ln cap] 120)).ownsRow w.heap.size 148 4 (slQ a ln cap) ln (tusC l) := by
        have h1 := World.ownsRow.kept HO.out (grown_below (below_alloc w3 (.cells #[.int .i64 0, slQ a ln cap] 120)) none) (by cases a <;> simp [Value.ownBlock])
        refine ⟨h1.1, ?_⟩
        rcases h1.2 with q | ⟨g, c, cur, q1, q2, q3⟩
        · exact .inl q
        · exact .inr ⟨g, c, cur, q1, Nat.le_trans hs2.out q2, q3⟩
      refine ⟨below_next Hb3.out (Nat.le_refl _) (below_alloc _ _), .inr ⟨by rw [HC.out]; rfl, w3.heap.size, rfl, Hb3.out.size, a, cap, l, ⟨rfl, ?_, ?_, ?_, Hoks.out, by decide⟩, HPp.out, HHp.out⟩⟩
      · rw [size_alloc]; have := Hb3.out.size; omega
      · rw [hln.out]; exact Blk.new _ _ _
      · rw [hln.out]; exact hown
theorem cell0 (P : Nat) (w : World) (t : Int) (a : Option Addr) (n cap : Nat) (h : Blk w P #[.int .i64 t, .slice a n cap] 120) : w.cell? ⟨P, 0, none⟩ = some (.int .i64 t) := h.cell 0 rfl
theorem now_any (w : World) (b P : Nat) (L : List Jb) (t : Int) (h : PlanW w b P L t) : Calls Try.prog 31 #[pP P] w fun e w' => e = .returned (.int .i64 t) ∧ w' = w := by
  obtain ⟨a, n, cap, hB⟩ := h.blk
  have c0 := cell0 _ _ _ _ _ _ hB
  clear h hB
  go_enter Try.func31, Try.ntmps31
  go_wp2_with fail
  go_ret
  exact ⟨rfl, rfl⟩
theorem now_nil (w : World) : Calls Try.prog 31 #[.pointer none] w fun e w' => e = .returned (.int .i64 0) ∧ w' = w := by
  go_enter Try.func31, Try.ntmps31
  go_wp2_with fail
  go_ret
  exact ⟨rfl, rfl⟩
theorem due_nil (w : World) : Calls Try.prog 32 #[.pointer none] w fun e w' => e = .returned (.slice none 0 0) ∧ w' = w := by
  go_enter Try.func32, Try.ntmps32
  go_wp2_with fail
  go_ret
  exact ⟨rfl, rfl⟩
theorem HQ.tick {w : World} {b P : Nat} {t u : Int} {s : List Tu} (h : HQ w b P 1 [.int .i64 t] 120 s) : HQ (w.setCell ⟨P, 0, none⟩ (.int .i64 u)) b P 1 [.int .i64 u] 120 s := by
  obtain ⟨a, cap, l, h1, h2, h3⟩ := h
  exact ⟨a, cap, l, ⟨rfl, by rw [setCell_size]; exact h1.bs, h1.box.set 0 _, ownsRow_set_other h1.own h1.box (by decide) 0 _, h1.ok, h1.ht⟩, h2, h3⟩
/-- what Due leaves: the numbers in order, the plan at the next tick; else only new memory -/
def DuE (w : World) (b P : Nat) (L : List Jb) (t : Int) (e : Ending) (w' : World) : Prop := ∃ v, e = .returned v ∧ IRow w' w.heap.size v ((dueS L t).map Int.ofNat) ∧ PlanW w' b P L (t + 1) ∧ w.grownBy w' (some P)
set_option maxHeartbeats 2000000 in
theorem due_any (w : World) (b P : Nat) (L : List Jb) (t : Int) (h : PlanW w b P L t) (hL : JsOk L) (h0 : 0 ≤ t) (ht : t < 9223372036854775807) : Calls Try.prog 32 #[pP P] w (DuE w b P L t) := by
  obtain ⟨a, n, cap, hB⟩ := h.blk
  have c0 := cell0 _ _ _ _ _ _ hB
  have HT : Hid (∀ k, Calls Try.prog 59 #[qP P 1, .int .i64 t] (w.drewN k) (TEnd (w.drewN k) b P 1 [.int .i64 t] 120 (nowS L t) (latS L t))) := hide (fun k => take_all _ b P 1 _ _ _ _ t ((HQ.after h (below_drewN (Below.refl _ _) k)).perm (now_lat L t (by omega)).symm) (by decide) (hL.dr h0 (by omega)))
  have HN := hide (now_next L t (fun j hj => (hL.good j hj).1))
  have hlt := hide h.lt
  clear h hB
  go_enter Try.func32, Try.ntmps32
  go_upto_region 3 with fail
  refine reg_two 7 _ _ rfl rfl rfl rfl (by kernel_rfl) (by kernel_rfl) (by kernel_rfl) (by kernel_rfl) ?_
  simp only [List.take_succ_cons, List.take_zero]
  repeat (quiet_step (fail))
  refine wpQuiet_nil ?_
  intro k
  go_simp
  refine (HT.out k).mono ?_
  rintro e w2 ⟨v, rfl, hr2, hq2, hg2⟩
  have HR2 : Hid (IRow w2 w.heap.size v ((nowS L t).map Tu.nu)) := hide hr2
  have HQ2 := hide (hq2.perm HN.out)
  have HG2 : Hid (w.grownBy w2 (some P)) := hide ⟨hg2.os, hg2.tape, hg2.output, hg2.size, hg2.block⟩
  obtain ⟨a2, cap2, hB2⟩ := HQ2.out.blk
  have d0 : w2.cell? ⟨P, 0, none⟩ = some (.int .i64 t) := hB2.cell 0 rfl
  have f0 := hB2.frozen 0
  have HB2 := hide hB2
  obtain ⟨va, vn, vc, hv⟩ : ∃ va vn vc, v = .slice va vn vc := by
    obtain ⟨va, vc, e⟩ := hr2.shape
    exact ⟨va, _, vc, e⟩
  subst hv
  clear hr2 hq2 hg2 hB2 HT c0
  go_wp2_with fail
  go_ret
  have h5 := HR2.out
  rw [now_nu] at h5
  exact ⟨_, rfl, World.ownsRow.kept h5 (grown_set w2 P 0 _) (.inr (blk_apart h5 HB2.out (by decide))), HQ2.out.tick, grown_more HG2.out (grown_set w2 P 0 _)⟩
end Go.Proofs.Ytcjahdgppnmdkaa
