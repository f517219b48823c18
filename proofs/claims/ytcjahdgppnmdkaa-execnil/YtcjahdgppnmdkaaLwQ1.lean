/- ExecNil: no plan has nothing due; 64 jobs and one more. -/
import Derived.Test.YtcjahdgppnmdkaaExd
set_option maxRecDepth 100000
namespace Go.Proofs.Ytcjahdgppnmdkaa
open Go.RowKit Go.Great

def jn (i : Nat) : Jb := ⟨1, 0, -(i : Int)⟩
def Ln (n : Nat) : List Jb := (List.range n).map jn
theorem Ln_len (n : Nat) : (Ln n).length = n := by simp [Ln]
theorem Ln_succ (n : Nat) : Ln (n + 1) = Ln n ++ [jn n] := by simp [Ln, List.range_succ]
theorem Ln_ok : ∀ n, n ≤ 64 → ∀ j ∈ Ln n, JbOk j := by
  intro n hn j hj
  obtain ⟨i, hi, rfl⟩ := List.mem_map.1 hj
  have := List.mem_range.1 hi
  exact ⟨⟨by show _ ≤ (1 : Int); omega, by show (1 : Int) ≤ _; omega⟩, ⟨by show _ ≤ (0 : Int); omega, by show (0 : Int) ≤ _; omega⟩, ⟨by show _ ≤ -(i : Int); omega, by show -(i : Int) ≤ _; omega⟩⟩
theorem Ln_js : JsOk (Ln 64) := ⟨by rw [Ln_len]; omega, by decide +kernel, Ln_ok 64 (by omega)⟩
theorem Ln_chk5 : chkJ (Ln 64 ++ [⟨0, 0, 0⟩]) = 4 := by decide +kernel
theorem Ln_chk : chkJ (Ln 64) = 0 := by decide +kernel
theorem Ln_due : (dueS (Ln 64) 0).map Int.ofNat = (List.range 64).map (fun i : Nat => (63 : Int) - (i : Int)) := by decide +kernel
theorem jrow_rws {w : World} {base n cap : Nat} {a : Option Addr} {L : List Jb} (h : w.ownsRow base 80 3 (.slice a n cap) n (jbsC L)) (hn : L.length = n) : Rws w (.slice a n cap) 3 jbC L := by
  have h2 : JRow w base (.slice a n cap) L := by
    unfold JRow
    rw [hn]
    exact h
  exact h2.rws
set_option maxRecDepth 100000 in
set_option maxHeartbeats 4000000 in
theorem ExecNil_walk (w : World) : Calls Try.prog 13 #[] w fun e w' => e = .returned (.bool true) ∧ Below w.heap.size w w' := by
  obtain ⟨i0, hi, hz0, hz1, hz2⟩ := info_parts info_jb
  obtain ⟨n, hn⟩ : ∃ n, Hid (n = 64) := ⟨_, hide rfl⟩
  go_enter Try.func13, Try.ntmps13
  go_wp2_with fail
  go_loopw [2, 3] (fun v2 v3 wr => ∃ (i : Nat) (a : Option Addr) (c : Nat), v2 = .slice a i c ∧ v3 = .int .i64 (i : Int) ∧ i ≤ n ∧ Hid (wr.ownsRow w.heap.size 80 3 (.slice a i c) i (jbsC (Ln i))) ∧ Hid (Below w.heap.size w wr)) (fun _ v3 _ => n - (intOf v3).toNat)
  case atStart => exact ⟨0, none, 0, rfl, rfl, by omega, hide (World.ownsRow_nil _ _ _ _), hide (Below.refl _ _)⟩
  case round =>
    obtain ⟨i, a, c, rfl, rfl, hin, HR, Hb⟩ := hrel
    by_cases hlt : i < n
    · have hi64 : i < 64 := by rw [← hn.out]; exact hlt
      have hdec : decide ((i : Int) < 64) = true := by simp; omega
      have HO : Hid ((wr.alloc (.cells #[.int .i64 1, .int .i64 0, .int .i64 (-(i : Int))] 80)).ownsRow w.heap.size 80 3 (.slice a i c) i (jbsC (Ln i))) := hide (World.ownsRow.kept HR.out (grown_below (below_alloc wr _) none) (by cases a <;> simp [Value.ownBlock]))
      have HN : Hid (∀ j u, [Value.int .i64 1, .int .i64 0, .int .i64 (-(i : Int))][j]? = some u → (wr.alloc (.cells #[.int .i64 1, .int .i64 0, .int .i64 (-(i : Int))] 80)).cell? ((⟨wr.heap.size, 0, none⟩ : Addr).add j) = some u) := hide (new_cell3 wr _ rfl _ _ _ _)
      have hws := Hb.out.size
      go_wp2_with (at_builtin; refine wpList_append_own _ rfl (.tmp 13) (.tmp 17) 68 rfl w.heap.size 80 i0 _ 3 24 Try.underlying68 hi hz0 hz1 hz2 rfl (by decide) _ _ _ rfl HO.out ⟨wr.heap.size, 0, none⟩ 1 1 [.int .i64 1, .int .i64 0, .int .i64 (-(i : Int))] rfl rfl ?c1 ?c2 ?c3 ?c4 ?c5 ?_)
      case c1 => exact HN.out
      case c2 => intro u hu; simp at hu; rcases hu with rfl | rfl | rfl <;> rfl
      case c3 => unfold maxLen; omega
      case c4 => omega
      case c5 => rw [size_alloc]; omega
      intro v' w5 hown5 hgrow5 _
      have HR5 : Hid (w5.ownsRow w.heap.size 80 3 v' (i + 1) (jbsC (Ln (i + 1)))) := hide (by rw [Ln_succ, jbsC_app]; exact hown5)
      have HB5 : Hid (Below w.heap.size w w5) := hide ((Hb.out.alloc hws _).grown hgrow5 (by rw [size_alloc]; omega) (fun j e => (HO.out.lt j e).1))
      obtain ⟨a5, c5, hv5⟩ : ∃ a5 c5, v' = .slice a5 (i + 1) c5 := by
        rcases hown5.2 with ⟨_, q⟩ | ⟨g, cap, _, q, _⟩
        · cases q
        · exact ⟨_, cap, q⟩
      subst hv5
      clear hown5 hgrow5 HO HN HR Hb hdec
      go_wp2_with fail
      go_roundw
      case rel => exact ⟨i + 1, a5, c5, rfl, by simp, by omega, HR5, HB5⟩
      case measure => simp [intOf]; omega
    · obtain rfl : i = n := by omega
      have hdec : decide ((i : Int) < 64) = false := by simp; rw [hn.out]; omega
      have HR64 : Hid (wr.ownsRow w.heap.size 80 3 (.slice a i c) i (jbsC (Ln 64))) := hide (by have := HR.out; rw [show Ln 64 = Ln i by rw [hn.out]]; exact this)
      have N1 : Hid (Calls Try.prog 36 #[.slice a i c] wr fun e w' => ∃ P, e = .returned (.tuple #[pP P, .int .i64 0]) ∧ wr.heap.size ≤ P ∧ PlanW w' wr.heap.size P (Ln 64) 0 ∧ Below wr.heap.size wr w') := hide (by
        refine (new_any (Ln 64) _ wr (jrow_rws HR64.out (by rw [Ln_len, hn.out])) (Ln_ok 64 (by omega))).mono ?_
        rintro e w' ⟨hb, ⟨h1, _⟩ | ⟨_, P, rfl, h2, h3⟩⟩
        · exact absurd Ln_chk h1
        · exact ⟨P, rfl, h2, h3, hb⟩)
      have hi64 : i ≤ 64 := by rw [hn.out]; omega
      have hws := Hb.out.size
      go_upto_region 8 with (go_at_call 36; refine N1.out.mono ?_; rintro e w1 ⟨P, rfl, hP1, hP2, hb1⟩; have HP0 := hide hP1; have HPl := hide hP2; have Hb1 := hide (below_next Hb.out (Nat.le_refl _) hb1); have HR1 := hide (World.ownsRow.kept HR64.out (grown_below hb1 none) (by cases a <;> simp [Value.ownBlock])); clear hP1 hP2 hb1)
      have hw1s := Hb1.out.size
      have HO : Hid ((w1.alloc (.cells #[.int .i64 0, .int .i64 0, .int .i64 0] 80)).ownsRow w.heap.size 80 3 (.slice a i c) i (jbsC (Ln 64))) := hide (World.ownsRow.kept HR1.out (grown_below (below_alloc w1 _) none) (by cases a <;> simp [Value.ownBlock]))
      have HN : Hid (∀ j u, [Value.int .i64 0, .int .i64 0, .int .i64 0][j]? = some u → (w1.alloc (.cells #[.int .i64 0, .int .i64 0, .int .i64 0] 80)).cell? ((⟨w1.heap.size, 0, none⟩ : Addr).add j) = some u) := hide (new_cell3 w1 _ rfl _ _ _ _)
      have HPa := hide (HPl.out.after (below_alloc w1 (.cells #[.int .i64 0, .int .i64 0, .int .i64 0] 80)))
      clear N1 HR HR64 HR1 HPl
      go_upto_region 9 with (first | (at_builtin; refine wpList_append_own _ rfl (.tmp 25) (.tmp 27) 68 rfl w.heap.size 80 i0 _ 3 24 Try.underlying68 hi hz0 hz1 hz2 rfl (by decide) _ _ _ rfl HO.out ⟨w1.heap.size, 0, none⟩ 1 1 [.int .i64 0, .int .i64 0, .int .i64 0] rfl rfl ?c1 ?c2 ?c3 ?c4 ?c5 ?_) | fail)
      case c1 => exact HN.out
      case c2 => intro u hu; simp at hu; subst hu; rfl
      case c3 => unfold maxLen; omega
      case c4 => omega
      case c5 => rw [size_alloc]; omega
      intro v' w5 hown5 hgrow5 _
      have HR5 : Hid (w5.ownsRow w.heap.size 80 3 v' (i + 1) (jbsC (Ln 64 ++ [⟨0, 0, 0⟩]))) := hide (by rw [jbsC_app]; exact hown5)
      have HB5 : Hid (Below w.heap.size w w5) := hide ((Hb1.out.alloc hw1s _).grown hgrow5 (by rw [size_alloc]; omega) (fun j e => (HO.out.lt j e).1))
      have HP5 := hide (HQ.grownT HPa.out HO.out (by decide) (by decide) hgrow5)
      obtain ⟨a5, c5, hv5⟩ : ∃ a5 c5, v' = .slice a5 (i + 1) c5 := by
        rcases hown5.2 with ⟨_, q⟩ | ⟨g, cap, _, q, _⟩
        · cases q
        · exact ⟨_, cap, q⟩
      subst hv5
      have N2 : Hid (Calls Try.prog 36 #[.slice a5 (i + 1) c5] w5 fun e w' => e = .returned (.tuple #[.pointer none, .int .i64 4]) ∧ Below w5.heap.size w5 w') := hide (by
        refine (new_any (Ln 64 ++ [⟨0, 0, 0⟩]) _ w5 (jrow_rws HR5.out (by rw [List.length_append, Ln_len, hn.out]; rfl)) (fun j hj => by
          rcases List.mem_append.1 hj with hj | hj
          · exact Ln_ok 64 (by omega) j hj
          · rw [List.mem_singleton.1 hj]; exact ⟨by decide, by decide, by decide⟩)).mono ?_
        rintro e w' ⟨hb, ⟨h1, rfl⟩ | ⟨h0, _⟩⟩
        · exact ⟨by rw [Ln_chk5], hb⟩
        · rw [Ln_chk5] at h0; cases h0)
      clear hown5 hgrow5 HO HN HPa HR5 Hb Hb1
      go_upto_region 9 with (go_at_call 36; refine N2.out.mono ?_; rintro e w6 ⟨rfl, hb6⟩; have HP6 := hide (PlanW.after HP5.out hb6); have Hb6 := hide (below_next HB5.out (Nat.le_refl _) hb6); clear hb6)
      have EP := eql_ptr P
      have hsz := hide HP0.out
      have hws2 := hide hws
      have DU := hide (due_any w6 wr.heap.size P (Ln 64) 0 HP6.out Ln_js (by decide) (by decide))
      clear N2 HB5 HP5 HP6 HP0 hi hz0 hz1 hz2 hws hw1s
      go_upto_region 12 with (go_at_call 32; refine DU.out.mono ?_; rintro e w7 ⟨v, rfl, hr, _, hg⟩; rw [Ln_due] at hr; have HR7 := hide hr; have Hb7 := hide (below_grown Hb6.out hg (fun k e => by injection e with e; have := hsz.out; have := hws2.out; omega)); clear hr hg)
      obtain ⟨l64, hl64⟩ : ∃ l64, Hid ((List.range 64).map (fun i : Nat => (63 : Int) - (i : Int)) = l64) := ⟨_, hide rfl⟩
      have h0 : l64.getD 0 0 = 63 := by rw [← hl64.out]; decide +kernel
      have h63 : l64.getD 63 0 = 0 := by rw [← hl64.out]; decide +kernel
      have hlen : l64.length = 64 := by rw [← hl64.out]; decide +kernel
      rw [hl64.out] at HR7
      obtain ⟨va, vc, rfl⟩ := HR7.out.shape
      rw [hlen] at HR7 ⊢
      obtain ⟨va', vc', ev, hvc⟩ := HR7.out.ints
      injection ev with ev1 ev0 ev2
      clear ev0
      subst ev1 ev2
      obtain ⟨g, o, rfl, hg, hcell⟩ := hvc (by omega)
      have c0 := hcell 0 (by omega)
      have c63 := hcell 63 (by omega)
      rw [h0, Nat.add_zero] at c0
      rw [h63] at c63
      have hcap : 64 ≤ vc ∧ vc ≤ 9223372036854775807 := by
        rcases HR7.out.2 with ⟨q, _⟩ | ⟨g', cap', cur, q, _, _, q1, q2, _⟩
        · cases q
        · injection q with _ _ q
          subst q
          rw [hlen] at q1
          exact ⟨q1, q2⟩
      have AW := hide (awake22_any w7)
      clear DU Hb6 hcell hvc HR7 h0 h63 hlen hl64 hi64 hdec hlt hsz hws2 EP
      go_wp2_with (first | (go_at_call 30; refine AW.out.mono ?_; rintro e w8 ⟨rfl, hb8⟩; have d0 := (hb8.cell (p := ⟨g, o, none⟩) hg).trans c0; have d63 := (hb8.cell (p := ⟨g, o + 63, none⟩) hg).trans c63; have Hb8 := hide (below_next Hb7.out (Nat.le_refl _) hb8); clear hb8 AW c0 c63) | (go_at_call 32; refine (due_nil _).mono ?_; rintro e w9 ⟨rfl, hw9⟩; obtain rfl := hw9.symm) | (go_at_call 31; refine (now_nil _).mono ?_; rintro e w10 ⟨rfl, hw10⟩; obtain rfl := hw10.symm))
      go_ret
      exact ⟨rfl, Hb8.out⟩
end Go.Proofs.Ytcjahdgppnmdkaa
