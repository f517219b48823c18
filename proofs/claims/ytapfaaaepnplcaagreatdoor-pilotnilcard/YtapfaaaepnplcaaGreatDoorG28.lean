/- Mo7, Mo8, Mo9, Ex4, Ex5, Ex6. -/
import Derived.Test.YtapfaaaepnplcaaGreatDoorG27
set_option maxRecDepth 100000
set_option maxHeartbeats 2000000
namespace Go.Proofs.YtapfaaaepnplcaaGreatDoor
open Go.RowKit Go.Great
theorem meth_push_Mo7 (w : World) (Q : Nat) : (method 684 362 (qP_Mo3 Q) "Push").run Tryz.prog w = .ok (452, qP_Mo3 Q) w := by kernel_rfl
theorem meth_pop_Mo7 (w : World) (Q : Nat) : (method 684 362 (qP_Mo3 Q) "Pop").run Tryz.prog w = .ok (451, qP_Mo3 Q) w := by kernel_rfl
/-- a heap of the numbers s, in a queue -/
def HQ_Mo7 (w : World) (b Q : Nat) (s : List Int) : Prop := ∃ g cap l, Qu_Mo3 w b Q g cap l ∧ l.Perm s ∧ Hp_HpM l l.length
/-- what a heap's function leaves -/
def HEnd_Mo7 (w : World) (b Q : Nat) (s : List Int) (v : Value) (e : Ending) (w' : World) : Prop := e = .returned v ∧ HQ_Mo7 w' b Q s ∧ Below b w w'
theorem hpush_any_Mo7 (w : World) (b Q : Nat) (s : List Int) (x : Int) (h : HQ_Mo7 w b Q s) (hl : s.length ≤ 63) : Calls Tryz.prog 73 #[qI_Mo3 Q, evI x] w (HEnd_Mo7 w b Q (x :: s) (.tuple #[])) := by
  obtain ⟨g, cap, l, hq, hp, hh⟩ := h
  have hn : l.length ≤ 63 := by rw [hp.length_eq]; exact hl
  have HP := hide hp
  have HH := hide hh
  have PU := hide (pushM_any_Mo6 w b Q g cap l x hq (by omega))
  have m1 := meth_push_Mo7 w Q
  clear hq hp hh hl
  go_enter Tryz.func73, Tryz.ntmps73
  go_wp2_with fail
  refine PU.out.mono ?_
  rintro e w2 ⟨g2, cap2, rfl, hq2, hb2⟩
  have m2 : (method 684 362 (qP_Mo3 Q) "Len").run Tryz.prog w2 = .ok (309, slQ_Mo3 g2 (l ++ [x]).length cap2) w2 := meth_len_Mo4 683 w2 Q g2 _ cap2 (hq2.box.cell 0 rfl)
  have UP := hide (upQ_any_Mo4 w2 b Q g2 cap2 (l ++ [x]) l.length hq2 (by simp) (by rw [List.length_append]; exact HH.out.push x))
  have LN := hide (len_any_Mo3 g2 (l ++ [x]).length cap2 w2)
  have Hb := hide hb2
  have HP2 : Hid ((l ++ [x]).Perm (x :: s)) := hide (List.perm_append_comm.trans (HP.out.cons x))
  obtain ⟨N, hN⟩ : ∃ N, (l ++ [x]).length = N := ⟨_, rfl⟩
  obtain ⟨n, hn'⟩ : ∃ n, l.length = n := ⟨_, rfl⟩
  have e1 : (N : Int) - 1 = (n : Int) := by rw [← hN, ← hn', List.length_append]; simp
  have hN64 : N ≤ 64 := by rw [← hN, List.length_append]; simpa using hn
  rw [hN] at LN m2
  rw [hn'] at UP
  generalize l ++ [x] = k at *
  clear m1 PU hq2 hb2 hN hn hn' HH HP
  go_wp2_with (go_at_call 309; refine LN.out.mono ?_; rintro e w3 ⟨rfl, hw3⟩; obtain rfl := hw3.symm)
  refine UP.out.mono ?_
  rintro e w4 ⟨l4, ⟨rfl, hq4, hb4⟩, hp4, hh4⟩
  have HF : Hid (HEnd_Mo7 w b Q (x :: s) (.tuple #[]) (.returned (.tuple #[])) w4) := hide ⟨rfl, ⟨g2, cap2, l4, hq4, hp4.trans HP2.out, hh4⟩, Hb.out.trans hb4⟩
  clear hq4 hb4 hp4 hh4 UP HP2 Hb
  go_wp2_with fail
  go_end0
  exact HF.out
theorem hpop_any_Mo7 (w : World) (b Q : Nat) (s : List Int) (x : Int) (h : HQ_Mo7 w b Q (x :: s)) (hx : ∀ y ∈ s, x ≤ y) (hl : s.length ≤ 63) : Calls Tryz.prog 71 #[qI_Mo3 Q] w (HEnd_Mo7 w b Q s (evI x)) := by
  obtain ⟨g, cap, l, hq, hp, hh⟩ := h
  obtain ⟨n, hn⟩ : ∃ n, s.length = n := ⟨_, rfl⟩
  have hlen : l.length = n + 1 := by rw [hp.length_eq, ← hn]; rfl
  have hx0 : hg_HpM l 0 = x := by
    have hf := hh.first hp (by omega)
    have h1 := hf.2 x (by simp)
    rcases List.mem_cons.1 hf.1 with e | e
    · exact e
    · have := hx _ e; omega
  have m1 : (method 684 362 (qP_Mo3 Q) "Len").run Tryz.prog w = .ok (309, slQ_Mo3 g l.length cap) w := meth_len_Mo4 683 w Q g _ cap (hq.box.cell 0 rfl)
  have m2 : (method 684 362 (qP_Mo3 Q) "Swap").run Tryz.prog w = .ok (453, slQ_Mo3 g l.length cap) w := meth_swap_Mo4 683 w Q g _ cap (hq.box.cell 0 rfl)
  have LN := hide (len_any_Mo3 g l.length cap w)
  have SW : Hid (Calls Tryz.prog 453 #[slQ_Mo3 g l.length cap, .int .i64 0, .int .i64 n] w (QEnd_Mo3 w b Q g cap (sw_HpM l 0 n) (.tuple #[]))) := hide (swap_any_Mo3 w b Q g cap l 0 n hq (by omega) (by omega))
  have HD : Hid (DnI_HpM (sw_HpM l 0 n) 0 n) := hide (by rw [hlen] at hh; exact hh.pop hlen)
  have HS : Hid ((sw_HpM l 0 n).length = n + 1) := hide (by rw [sw_len_HpM, hlen])
  have HPm : Hid ((sw_HpM l 0 n).Perm l) := hide (sw_perm_HpM l 0 n (by omega) (by omega))
  have HL : Hid (hg_HpM (sw_HpM l 0 n) n = x) := hide (by rw [hg_sw_HpM _ _ _ _ (by omega) (by omega), if_pos rfl, hx0])
  have HPe : Hid (∀ m : List Int, m.Perm (sw_HpM l 0 n) → hg_HpM m n = x → Hp_HpM m n → Hp_HpM (m.take n) (m.take n).length ∧ (m.take n).Perm s) := hide (fun m h1 h2 h3 => by
    obtain ⟨r1, r2, r3⟩ := pop_end_HpM (l := l) (m := m) hlen (h1.trans HPm.out) (by rw [h2, hx0]) h3
    rw [r3]
    refine ⟨r1, ?_⟩
    rw [hx0] at r2
    exact (List.Perm.cons_inv (r2.symm.trans hp)))
  obtain ⟨N, hN⟩ : ∃ N, l.length = N := ⟨_, rfl⟩
  rw [hN] at LN SW m1 m2 hlen
  have e1 : (N : Int) - 1 = (n : Int) := by omega
  have hn64 : n ≤ 63 := by omega
  have hN64 : N ≤ 64 := by omega
  generalize sw_HpM l 0 n = k at *
  clear hq hp hh hx hl hn hx0 hN HPm hlen
  go_enter Tryz.func71, Tryz.ntmps71
  go_wp2_with (go_at_call 309; refine LN.out.mono ?_; rintro e w3 ⟨rfl, hw3⟩; obtain rfl := hw3.symm)
  refine SW.out.mono ?_
  rintro e w4 ⟨rfl, hq4, hb4⟩
  have Hb := hide hb4
  have DN := hide (downQ_any_Mo5 w4 b Q g cap n k hq4 HS.out HD.out (by omega))
  clear hq4 hb4 m1 m2 SW LN HD
  go_wp2_with fail
  refine DN.out.mono ?_
  rintro e w5 ⟨d, k5, ⟨rfl, hq5, hb5⟩, hp5, hh5, he5⟩
  have PO := hide (popM_any_Mo6 w5 b Q g cap n k5 hq5 (by rw [hp5.length_eq]; exact HS.out) (by omega))
  have HE5 : hg_HpM k5 n = x := by rw [he5]; exact HL.out
  rw [HE5] at PO
  replace Hb := hide (Hb.out.trans hb5)
  have HF := hide (HPe.out k5 hp5 HE5 hh5)
  have m3 := meth_pop_Mo7 w5 Q
  generalize k5.take n = k6 at *
  clear hq5 hb5 hp5 hh5 he5 HE5 HPe HL HS DN
  go_wp2_with fail
  refine PO.out.mono ?_
  rintro e w6 ⟨rfl, hq6, hb6⟩
  have HG : Hid (HEnd_Mo7 w b Q s (evI x) (.returned (evI x)) w6) := hide ⟨rfl, ⟨g, cap, k6, hq6, HF.out.2, HF.out.1⟩, Hb.out.trans hb6⟩
  clear hq6 hb6 PO HF Hb m3
  go_wp2_with fail
  go_ret
  exact HG.out
end Go.Proofs.YtapfaaaepnplcaaGreatDoor
set_option maxRecDepth 100000
set_option maxHeartbeats 4000000
namespace Go.Proofs.YtapfaaaepnplcaaGreatDoor
open Go.RowKit Go.Great
/-- is an event there? -/
def hasE (ev : Int) (i : Nat) : Bool := bits BinOp.and IntKind.i64 (ev / 2 ^ i) 1 == 1
/-- those below n that are there, by their numbers -/
def evs (ev : Int) : Nat → List Int
  | 0 => []
  | n + 1 => evs ev n ++ (if hasE ev n = true then [(n : Int)] else [])
theorem evs_len (ev : Int) : ∀ n, (evs ev n).length ≤ n
  | 0 => Nat.le_refl _
  | n + 1 => by
    have := evs_len ev n
    unfold evs
    rw [List.length_append]
    split <;> simp <;> omega
theorem evs_lt (ev : Int) : ∀ n, ∀ x ∈ evs ev n, 0 ≤ x ∧ x < n
  | 0, x, h => by cases h
  | n + 1, x, h => by
    unfold evs at h
    rcases List.mem_append.1 h with h | h
    · have := evs_lt ev n x h; omega
    · split at h
      · have : x = n := by simpa using h
        omega
      · cases h
theorem evs_sort (ev : Int) : ∀ n, (evs ev n).Pairwise (· ≤ ·)
  | 0 => List.Pairwise.nil
  | n + 1 => by
    unfold evs
    rw [List.pairwise_append]
    refine ⟨evs_sort ev n, ?_, ?_⟩
    · split <;> simp
    · intro x hx y hy
      have := evs_lt ev n x hx
      split at hy
      · have : y = n := by simpa using hy
        omega
      · cases hy
theorem HQ_Mo7.perm {w : World} {b Q : Nat} {s t : List Int} (h : HQ_Mo7 w b Q s) (hp : s.Perm t) : HQ_Mo7 w b Q t := by
  obtain ⟨g, cap, l, h1, h2, h3⟩ := h
  exact ⟨g, cap, l, h1, h2.trans hp, h3⟩
theorem HQ_Mo7.new (w : World) : HQ_Mo7 ((w.alloc (.cells #[] 3)).alloc (.cells #[.slice (some ⟨w.heap.size, 0, none⟩) 0 0] 434)) w.heap.size (w.heap.size + 1) [] := by
  refine ⟨w.heap.size, 0, [], ⟨by omega, ?_, ?_⟩, List.Perm.refl _, fun k h0 hk => by cases hk⟩
  · have := Blk.new (w.alloc (.cells #[] 3)) #[slQ_Mo3 w.heap.size 0 0] 434
    rwa [size_alloc] at this
  · exact own_of_Mo3 (l := []) (cur := #[]) (Nat.le_refl _) ((Blk.new w #[] 3).alloc _) rfl (Nat.le_refl _) (by unfold maxLen; omega) rfl rfl
theorem waiting_any_Mo8 (ev : Int) (w : World) : Calls Tryz.prog 215 #[.int .i64 ev] w fun e w' => ∃ Q, e = .returned (qP_Mo3 Q) ∧ HQ_Mo7 w' w.heap.size Q (evs ev 18) ∧ Below w.heap.size w w' := by
  have HN := hide (HQ_Mo7.new w)
  have Hb := hide (b2 w (.cells #[] 3) (.cells #[.slice (some ⟨w.heap.size, 0, none⟩) 0 0] 434))
  obtain ⟨Q, hQ⟩ : ∃ Q, w.heap.size + 1 = Q := ⟨_, rfl⟩
  rw [hQ] at HN
  go_enter Tryz.func215, Tryz.ntmps215
  go_wp2_with fail
  generalize (w.alloc (.cells #[] 3)).alloc (.cells #[.slice (some ⟨w.heap.size, 0, none⟩) 0 0] 434) = w1 at *
  go_loopw [7] (fun vi wr => ∃ i : Nat, vi = .int .i64 (i : Int) ∧ i ≤ 18 ∧ Hid (HQ_Mo7 wr w.heap.size Q (evs ev i)) ∧ Hid (Below w.heap.size w wr)) (fun vi _ => 18 - (intOf vi).toNat)
  case atStart => exact ⟨0, rfl, by omega, HN, Hb⟩
  case round =>
    clear HN Hb
    obtain ⟨i, rfl, hi, HN, Hb⟩ := hrel
    by_cases hl : i < 18
    · have PU := hide (hpush_any_Mo7 wr w.heap.size Q (evs ev i) i HN.out (by have := evs_len ev i; omega))
      have HX : Hid (evs ev (i + 1) = evs ev i ++ (if hasE ev i = true then [(i : Int)] else [])) := hide rfl
      have HD : Hid (hasE ev i = (bits BinOp.and IntKind.i64 (ev / 2 ^ i) 1 == 1)) := hide rfl
      by_cases hc : (bits BinOp.and IntKind.i64 (ev / 2 ^ i) 1 == 1) = true
      · have HY : Hid (((i : Int) :: evs ev i).Perm (evs ev (i + 1))) := hide (by rw [HX.out, HD.out, if_pos hc]; exact List.perm_append_comm (l₁ := [(i : Int)]))
        clear HX HD HN
        go_wp2_with fail
        refine PU.out.mono ?_
        rintro e w3 ⟨rfl, hq3, hb3⟩
        have HN := hide (hq3.perm HY.out)
        replace Hb := hide (Hb.out.trans hb3)
        clear hq3 hb3 PU HY hc
        go_wp2_with fail
        go_roundw
        case rel => exact ⟨i + 1, by go_num, by omega, HN, Hb⟩
        case measure => simp [intOf]; omega
      · have hc2 : (bits BinOp.and IntKind.i64 (ev / 2 ^ i) 1 == 1) = false := Bool.eq_false_iff.2 hc
        have HY : Hid (evs ev i = evs ev (i + 1)) := hide (by rw [HX.out, HD.out, if_neg hc, List.append_nil])
        rw [HY.out] at HN
        clear HX HD hc PU HY
        go_wp2_with fail
        go_roundw
        case rel => exact ⟨i + 1, by go_num, by omega, HN, Hb⟩
        case measure => simp [intOf]; omega
    · have e0 : i = 18 := by omega
      rw [e0] at HN
      clear e0
      go_wp2_with fail
      go_ret
      exact ⟨Q, rfl, HN.out, Hb.out⟩
/-- the first event that leads on -/
def fol (m : Int) : List Int → Option Int
  | [] => none
  | e :: l => if nx_MoM m e = m then fol m l else some e
theorem fol_same {m x : Int} (t : List Int) (h : nx_MoM m x = m) : fol m (x :: t) = fol m t := if_pos h
theorem fol_go {m x : Int} (t : List Int) (h : ¬ nx_MoM m x = m) : fol m (x :: t) = some x := if_neg h
/-- where it leads -/
def folM (m : Int) (l : List Int) : Int := match fol m l with
  | none => m
  | some e => nx_MoM m e
/-- what is told of it -/
def folE (m : Int) (l : List Int) : Int := (fol m l).getD (-1)
/-- how many wait in a queue -/
def qLen (w : World) (Q : Nat) : Nat := match w.cell? ⟨Q, 0, none⟩ with
  | some (.slice _ n _) => n
  | _ => 0
theorem HQ_Mo7.len {w : World} {b Q : Nat} {s : List Int} (h : HQ_Mo7 w b Q s) : qLen w Q = s.length := by
  obtain ⟨g, cap, l, h1, h2, h3⟩ := h
  unfold qLen
  rw [h1.box.cell 0 (v := slQ_Mo3 g l.length cap) rfl]
  exact h2.length_eq
theorem HQ_Mo7.cell {w : World} {b Q : Nat} {s : List Int} (h : HQ_Mo7 w b Q s) : ∃ g cap, w.cell? ⟨Q, 0, none⟩ = some (slQ_Mo3 g s.length cap) := by
  obtain ⟨g, cap, l, h1, h2, h3⟩ := h
  exact ⟨g, cap, by rw [← h2.length_eq]; exact h1.box.cell 0 rfl⟩
/-- a machine's cells -/
def mC (m la : Int) : Array Value := #[.int .u8 m, .int .i64 la]
/-- the machine in block M -/
abbrev Mac (w : World) (M : Nat) (m la : Int) : Prop := Blk w M (mC m la) 161
theorem Mac.below {w w' : World} {b M : Nat} {m la : Int} (h : Mac w M m la) (hb : Below b w w') (hM : M < b) : Mac w' M m la := Blk.below h hb hM
abbrev mP (M : Nat) : Value := .pointer (some ⟨M, 0, none⟩)
/-- what following leaves: the machine, and all below b but it -/
def FEnd (w : World) (b M : Nat) (m la did : Int) (e : Ending) (w' : World) : Prop := e = .returned (.int .i64 did) ∧ Mac w' M m la ∧ ∃ w2, Below b w w2 ∧ w2.grownBy w' (some M)
theorem follow_any (w : World) (b Q M : Nat) (m la : Int) (s : List Int) (hM : Mac w M m la) (hb : M < b) (hq : HQ_Mo7 w b Q s) (hs : s.Pairwise (· ≤ ·)) (hl : s.length ≤ 63) : Calls Tryz.prog 214 #[mP M, qP_Mo3 Q] w (FEnd w b M (folM m s) la (folE m s)) := by
  have HM := hide hM
  have HH := hide hq
  have HS := hide hs
  obtain ⟨R, HR⟩ : ∃ R, Hid (folM m s = R) := ⟨_, hide rfl⟩
  obtain ⟨D, HD⟩ : ∃ D, Hid (folE m s = D) := ⟨_, hide rfl⟩
  rw [HR.out, HD.out]
  have HL := hide hl
  clear hM hq hs hl
  go_enter Tryz.func214, Tryz.ntmps214
  go_wp2_with fail
  go_loopw [5] (fun _ wr => ∃ t : List Int, Hid (HQ_Mo7 wr b Q t) ∧ Hid (t.Pairwise (· ≤ ·)) ∧ Hid (t.length ≤ 63) ∧ Hid (folM m t = R) ∧ Hid (folE m t = D) ∧ Hid (Below b w wr)) (fun _ wr => qLen wr Q)
  case atStart => exact ⟨s, HH, HS, HL, HR, HD, hide (Below.refl _ _)⟩
  case round =>
    clear HH HS HL HR HD
    obtain ⟨t, HH, HS, HL, HR, HD, Hb⟩ := hrel
    have HMr := hide (HM.out.below Hb.out hb)
    obtain ⟨g, cap, cq⟩ := HH.out.cell
    cases t with
    | nil =>
      have hR : Hid (R = m) := hide HR.out.symm
      have hD : Hid (D = -1) := hide HD.out.symm
      have LN := hide (len_any_Mo3 g 0 cap wr)
      have cq0 : wr.cell? ⟨Q, 0, none⟩ = some (slQ_Mo3 g 0 cap) := cq
      clear cq HR HD HS HL HH
      go_wp2_with (go_at_call 309; refine LN.out.mono ?_; rintro e w3 ⟨rfl, hw3⟩; obtain rfl := hw3.symm)
      go_ret
      exact ⟨ret_int hD.out.symm, by rw [hR.out]; exact HMr.out, _, Hb.out, grown_below (Below.refl _ _) _⟩
    | cons x t =>
      have HPop := hide (hpop_any_Mo7 wr b Q t x HH.out (fun y hy => by have := HS.out; rw [List.pairwise_cons] at this; exact this.1 y hy) (by have := HL.out; simp at this; omega))
      have HL2 : Hid (t.length ≤ 63) := hide (by have := HL.out; simp at this; omega)
      have HS2 : Hid (t.Pairwise (· ≤ ·)) := hide (by have := HS.out; rw [List.pairwise_cons] at this; exact this.2)
      have HZ : Hid (qLen wr Q = t.length + 1) := hide (by rw [HH.out.len]; rfl)
      have NX := hide (next_any_Mo2 m x)
      obtain ⟨n, hn⟩ : ∃ n, Hid ((x :: t).length = n) := ⟨_, hide rfl⟩
      have hn0 : 0 < n := by rw [← hn.out]; simp
      have hn64 : n ≤ 64 := by have := HL.out; rw [hn.out] at this; omega
      rw [hn.out] at cq
      have LN := hide (len_any_Mo3 g n cap wr)
      have A1 := assert_one_Mo6 x
      clear HL HS hn HH
      go_upto_region 3 with (first | (go_at_call 309; refine LN.out.mono ?_; rintro e w3 ⟨rfl, hw3⟩; obtain rfl := hw3.symm) | (go_at_call 71; refine HPop.out.mono ?_; rintro e w4 ⟨rfl, hq4, hb4⟩; have HH4 := hide hq4; have Hb4 := hide hb4; clear hq4 hb4))
      have HM4 := hide (HMr.out.below Hb4.out hb)
      have c0 : w4.cell? ⟨M, 0, none⟩ = some (.int .u8 m) := HM4.out.cell 0 rfl
      clear cq LN HPop A1 HMr
      replace Hb := hide (Hb.out.trans Hb4.out)
      clear Hb4
      by_cases he : nx_MoM m x = m
      · have hR : Hid (folM m t = R) := hide (by rw [← HR.out]; unfold folM; rw [fol_same t he])
        have hD : Hid (folE m t = D) := hide (by rw [← HD.out]; unfold folE; rw [fol_same t he])
        rw [he] at NX
        clear HR HD he
        go_upto_region 4 with (go_at_call 310; refine (NX.out _).mono ?_; rintro e w5 ⟨rfl, hb5⟩; have HH5 := hide ((show HQ_Mo7 w5 b Q t from by obtain ⟨g, cap, l, h1, h2, h3⟩ := HH4.out; exact ⟨g, cap, l, h1.after hb5, h2, h3⟩)); have HM5 := hide (HM4.out.after hb5); have Hbn := hide hb5; clear hb5)
        have hsz : Hid (b ≤ w4.heap.size) := hide (by obtain ⟨g, cap, l, h1, h2, h3⟩ := HH4.out; exact Nat.le_trans h1.bq (Nat.le_of_lt h1.box.lt))
        replace Hb := hide (Hb.out.trans (Hbn.out.mono hsz.out))
        have c5 : w5.cell? ⟨M, 0, none⟩ = some (.int .u8 m) := HM5.out.cell 0 rfl
        clear c0 HM4 HH4 Hbn hsz NX
        go_wp2_with fail
        go_roundw
        case rel => exact ⟨t, HH5, HS2, HL2, hR, hD, Hb⟩
        case measure => rw [HZ.out, HH5.out.len]; omega
      · have hR : Hid (nx_MoM m x = R) := hide (by rw [← HR.out]; unfold folM; rw [fol_go t he])
        have hD : Hid (x = D) := hide (by rw [← HD.out]; unfold folE; rw [fol_go t he]; rfl)
        rw [hR.out] at NX he
        have hne : (R != m) = true := by simpa using he
        clear HR HD he hR
        go_upto_region 4 with (go_at_call 310; refine (NX.out _).mono ?_; rintro e w5 ⟨rfl, hb5⟩; have HM5 := hide (HM4.out.after hb5); have Hbn := hide hb5; clear hb5)
        have hsz : Hid (b ≤ w4.heap.size) := hide (by obtain ⟨g, cap, l, h1, h2, h3⟩ := HH4.out; exact Nat.le_trans h1.bq (Nat.le_of_lt h1.box.lt))
        replace Hb := hide (Hb.out.trans (Hbn.out.mono hsz.out))
        have c5 : w5.cell? ⟨M, 0, none⟩ = some (.int .u8 m) := HM5.out.cell 0 rfl
        have f5 := HM5.out.frozen 0
        clear c0 HM4 HH4 Hbn hsz NX
        go_wp2_with fail
        go_ret
        exact ⟨ret_int hD.out, HM5.out.set 0 _, _, Hb.out, grown_set _ _ _ _⟩
end Go.Proofs.YtapfaaaepnplcaaGreatDoor
set_option maxRecDepth 100000
set_option maxHeartbeats 4000000
namespace Go.Proofs.YtapfaaaepnplcaaGreatDoor
open Go.RowKit Go.Great
/-- the latches behind the events of a step that begins in mode m -/
def la1 (m la ev : Int) : Int := if flyB m = true then bits BinOp.or IntKind.i64 la (bits BinOp.and IntKind.i64 ev 55) else la
/-- .. and behind the step -/
def la2 (m l : Int) : Int := if m = 0 ∨ m = 1 then 0 else l
/-- the mode behind a step -/
def stM (m ev : Int) : Int := folM m (evs ev 18)
def stL (m la ev : Int) : Int := la2 (stM m ev) (la1 m la ev)
/-- which event was followed -/
def stE (m ev : Int) : Int := folE m (evs ev 18)
theorem newM_any (w : World) : Calls Tryz.prog 47 #[] w fun e w' => ∃ M, e = .returned (mP M) ∧ Mac w' M 0 0 ∧ Below w.heap.size w w' ∧ w.heap.size ≤ M := by
  go_enter Tryz.func47, Tryz.ntmps47
  go_wp2
  go_ret
  exact ⟨_, rfl, Blk.new _ _ _, below_alloc _ _, Nat.le_refl _⟩
theorem mode_nil (w : World) : Calls Tryz.prog 64 #[.pointer none] w fun e w' => e = .returned (.int .u8 0) ∧ w' = w := by
  go_enter Tryz.func64, Tryz.ntmps64
  go_wp2
  go_ret
  simp
theorem mode_any (w : World) (M : Nat) (m la : Int) (h : Mac w M m la) : Calls Tryz.prog 64 #[mP M] w fun e w' => e = .returned (.int .u8 m) ∧ w' = w := by
  have c0 : w.cell? ⟨M, 0, none⟩ = some (.int .u8 m) := h.cell 0 rfl
  clear h
  go_enter Tryz.func64, Tryz.ntmps64
  go_wp2
  go_ret
  simp
theorem latch_nil (w : World) : Calls Tryz.prog 25 #[.pointer none] w fun e w' => e = .returned (.int .i64 0) ∧ w' = w := by
  go_enter Tryz.func25, Tryz.ntmps25
  go_wp2
  go_ret
  simp
theorem latch_any (w : World) (M : Nat) (m la : Int) (h : Mac w M m la) : Calls Tryz.prog 25 #[mP M] w fun e w' => e = .returned (.int .i64 la) ∧ w' = w := by
  have c1 : w.cell? ⟨M, 1, none⟩ = some (.int .i64 la) := h.cell 1 rfl
  clear h
  go_enter Tryz.func25, Tryz.ntmps25
  go_wp2
  go_ret
  simp
theorem step_nil_Mo9 (ev : Int) (w : World) : Calls Tryz.prog 126 #[.pointer none, .int .i64 ev] w fun e w' => e = .returned (.int .i64 0) ∧ w' = w := by
  go_enter Tryz.func126, Tryz.ntmps126
  go_wp2
  go_ret
  simp
/-- what a step leaves -/
def SEnd (w : World) (M : Nat) (m la did : Int) (e : Ending) (w' : World) : Prop := e = .returned (.int .i64 did) ∧ Mac w' M m la ∧ w.grownBy w' (some M)
theorem step_any_Mo9 (w : World) (M : Nat) (m la ev : Int) (h : Mac w M m la) : Calls Tryz.prog 126 #[mP M, .int .i64 ev] w (SEnd w M (stM m ev) (stL m la ev) (stE m ev)) := by
  have FL := hide (flying_any m)
  have c0 : w.cell? ⟨M, 0, none⟩ = some (.int .u8 m) := h.cell 0 rfl
  have c1 : w.cell? ⟨M, 1, none⟩ = some (.int .i64 la) := h.cell 1 rfl
  have f1 := h.frozen 1
  have hM := h.lt
  have HL : Hid (∀ x : Int, Mac (w.setCell ⟨M, 1, none⟩ (.int .i64 x)) M m x) := hide (fun x => h.set 1 (.int .i64 x))
  have HM := hide h
  have HG : Hid (∀ x : Int, w.grownBy (w.setCell ⟨M, 1, none⟩ (.int .i64 x)) (some M)) := hide (fun x => grown_set w M 1 (.int .i64 x))
  have HW := hide (waiting_any_Mo8 ev)
  obtain ⟨R, HR⟩ : ∃ R, Hid (stM m ev = R) := ⟨_, hide rfl⟩
  obtain ⟨D, HD⟩ : ∃ D, Hid (stE m ev = D) := ⟨_, hide rfl⟩
  obtain ⟨A, HA⟩ : ∃ A, Hid (la1 m la ev = A) := ⟨_, hide rfl⟩
  obtain ⟨B, HB⟩ : ∃ B, Hid (la2 R A = B) := ⟨_, hide rfl⟩
  have HE : Hid (stL m la ev = B) := hide (by unfold stL; rw [HR.out, HA.out, HB.out])
  rw [HE.out, HR.out, HD.out]
  have HFo : Hid (∀ (W : World) (b Q : Nat) (x : Int), Mac W M m x → M < b → HQ_Mo7 W b Q (evs ev 18) → Calls Tryz.prog 214 #[mP M, qP_Mo3 Q] W (FEnd W b M R x D)) := hide (fun W b Q x h1 h2 h3 => by
    have := follow_any W b Q M m x (evs ev 18) h1 h2 h3 (evs_sort ev 18) (by have := evs_len ev 18; omega)
    rw [show folM m (evs ev 18) = R from HR.out, show folE m (evs ev 18) = D from HD.out] at this
    exact this)
  have HA2 : Hid (A = if flyB m = true then bits BinOp.or IntKind.i64 la (bits BinOp.and IntKind.i64 ev 55) else la) := hide HA.out.symm
  clear h HR HD HA HE
  generalize flyB m = fy at *
  go_enter Tryz.func126, Tryz.ntmps126
  go_upto_if 12 with (go_at_call 129; refine (FL.out _).mono ?_; rintro e w2 ⟨rfl, hw2⟩; obtain rfl := hw2.symm)
  go_cut [] (fun wx => Mac wx M m A ∧ w.grownBy wx (some M))
  case first =>
    cases fy
    · have e0 : A = la := HA2.out
      go_wp2_with fail
      go_meet
      exact ⟨by rw [e0]; exact HM.out, grown_below (Below.refl _ _) _⟩
    · have e0 : A = bits BinOp.or IntKind.i64 la (bits BinOp.and IntKind.i64 ev 55) := HA2.out
      have HX := hide (HL.out A)
      have HY := hide (HG.out A)
      rw [e0] at HX HY
      clear HL HG HA2
      go_wp2_with fail
      go_meet
      exact ⟨by rw [e0]; exact HX.out, HY.out⟩
  case rest =>
    obtain ⟨hM1, hG1⟩ := hcut
    have HM1 := hide hM1
    have HG1 := hide hG1
    have hlt := hM1.lt
    clear hM1 hG1 c0 c1 f1 hM HL HG HM HA2 FL
    go_wp2_with (go_at_call 215; refine (HW.out _).mono ?_; rintro e w2 ⟨Q, rfl, hq2, hb2⟩; have HQ2 := hide hq2; have Hb2 := hide hb2; clear hq2 hb2)
    refine (HFo.out w2 _ Q A (HM1.out.after Hb2.out) hlt HQ2.out).mono ?_
    rintro e w3 ⟨rfl, hM3, w4, hb4, hg4⟩
    have HM3 := hide hM3
    have HG3 := hide (grown_more (grown_after HG1.out (Hb2.out.trans hb4)) hg4)
    have HX := hide (hM3.set 1 (.int .i64 0))
    have HY := hide (grown_more HG3.out (grown_set w3 M 1 (.int .i64 0)))
    have c0 : w3.cell? ⟨M, 0, none⟩ = some (.int .u8 R) := hM3.cell 0 rfl
    have c1 : w3.cell? ⟨M, 1, none⟩ = some (.int .i64 A) := hM3.cell 1 rfl
    have f1 := hM3.frozen 1
    clear hM3 hb4 hg4 HFo HQ2 Hb2 HW HG1 HM1
    by_cases h0 : R = 0
    · have e0 : B = 0 := by rw [← HB.out]; unfold la2; rw [if_pos (.inl h0)]
      subst h0
      clear HB
      go_wp2_with fail
      go_ret
      exact ⟨rfl, by rw [e0]; exact HX.out, HY.out⟩
    · by_cases h1 : R = 1
      · have e0 : B = 0 := by rw [← HB.out]; unfold la2; rw [if_pos (.inr h1)]
        subst h1
        clear HB
        go_wp2_with fail
        go_ret
        exact ⟨rfl, by rw [e0]; exact HX.out, HY.out⟩
      · have e0 : Hid (B = A) := hide (by rw [← HB.out]; unfold la2; rw [if_neg (by omega)])
        have d0 : (R == 0) = false := by simpa using h0
        have d1 : (R == 1) = false := by simpa using h1
        clear HB HX HY
        go_wp2_with fail
        go_ret
        exact ⟨rfl, by rw [e0.out]; exact HM3.out, HG3.out⟩
end Go.Proofs.YtapfaaaepnplcaaGreatDoor
set_option maxRecDepth 100000
set_option maxHeartbeats 4000000
namespace Go.Proofs.YtapfaaaepnplcaaGreatDoor
open Go.RowKit Go.Great
theorem DnI.leaf {l : List Tu} {i n : Nat} (h : DnI l i n) (hi : n ≤ 2 * i + 1) : Hp l n := h.done (fun k h0 hk hp => by omega)
theorem DnI.less {l : List Tu} {i j n : Nat} (h : DnI l i n) (hmin : ∀ k, 0 < k → k < n → (k - 1) / 2 = i → hg l j ≤ hg l k) (hj : ¬ hg l j < hg l i) : Hp l n := h.done (fun k h0 hk hp => by have := hmin k h0 hk hp; omega)
theorem min_two {l : List Tu} {i n : Nat} (j : Nat) (h1 : hg l j ≤ hg l (2 * i + 1)) (h2 : 2 * i + 2 < n → hg l j ≤ hg l (2 * i + 2)) : ∀ k, 0 < k → k < n → (k - 1) / 2 = i → hg l j ≤ hg l k := by
  intro k h0 hk hp
  have : k = 2 * i + 1 ∨ k = 2 * i + 2 := by omega
  rcases this with rfl | rfl
  · exact h1
  · exact h2 hk
theorem sw_last {l : List Tu} {i j n : Nat} (hi : i < n) (hj : j < n) (hl : n < l.length) : te (sw l i j) n = te l n := by
  rw [te_sw _ _ _ _ (by omega) (by omega), if_neg (by omega), if_neg (by omega)]
def DEnd (w : World) (b Q o : Nat) (pre : List Value) (ty : TypeId) (a : Option Addr) (cap n : Nat) (l : List Tu) (e : Ending) (w' : World) : Prop := ∃ (d : Bool) (k : List Tu), QEnd w b Q o pre ty a cap k (.bool d) e w' ∧ k.Perm l ∧ Hp k n ∧ te k n = te l n
theorem downQ_any (w : World) (b Q o : Nat) (pre : List Value) (ty : TypeId) (a : Option Addr) (cap n : Nat) (l : List Tu) (h : Qu w b Q o pre ty a cap l) (hl : l.length = n + 1) (hD : DnI l 0 n) (hn : n ≤ 64) : Calls Tryz.prog 148 #[qI Q o, .int .i64 0, .int .i64 n] w (DEnd w b Q o pre ty a cap n l) := by
  have HQ := hide h
  have HD := hide hD
  obtain ⟨N, hN⟩ : ∃ N, Hid (N = n + 1) := ⟨_, hide rfl⟩
  have HL : Hid (l.length = N) := hide (by rw [hN.out]; exact hl)
  clear h hD hl
  go_enter Tryz.func148, Tryz.ntmps148
  go_wp2_with fail
  go_loopw [7] (fun vj wr => ∃ (i : Nat) (k : List Tu), vj = .int .i64 (i : Int) ∧ i ≤ n ∧ Hid (k.length = N) ∧ Hid (Qu wr b Q o pre ty a cap k) ∧ Hid (KB b Q w wr) ∧ Hid (DnI k i n) ∧ Hid (k.Perm l) ∧ Hid (te k n = te l n)) (fun vj _ => n - (intOf vj).toNat)
  case atStart => exact ⟨0, l, rfl, by omega, HL, HQ, hide (KB.refl _ _ _), HD, hide (List.Perm.refl _), hide rfl⟩
  case round =>
    clear HQ HD HL
    obtain ⟨i, k, rfl, hi, hk, HQ, Hb, HU, HP, HE⟩ := hrel
    obtain ⟨p, hp⟩ : ∃ p, 2 * i + 1 = p := ⟨_, rfl⟩
    have e1 : 2 * (i : Int) + 1 = (p : Int) := by omega
    by_cases hlf : n ≤ p
    · have HH := hide (HU.out.leaf (by omega))
      clear hp
      go_wp2_with fail
      go_ret
      exact ⟨_, k, ⟨rfl, HQ.out, Hb.out⟩, HP.out, HH.out, HE.out⟩
    obtain ⟨q, hq⟩ : ∃ q, p + 1 = q := ⟨_, rfl⟩
    have e2 : (p : Int) + 1 = (q : Int) := by omega
    have hin : i < p := by omega
    have hkl : Hid (∀ t, t ≤ n → t < k.length) := hide (fun t ht => by rw [hk.out, hN.out]; omega)
    have m1 : (method 684 179 (qP Q o) "Less").run Tryz.prog wr = .ok (442, slQ a N cap) wr := meth_less 683 wr Q o a N cap (by rw [← hk.out]; exact HQ.out.cellQ)
    by_cases hqn : q < n
    · have LE := hide (less_any wr b Q o pre ty a cap k q p HQ.out (hkl.out q (by omega)) (hkl.out p (by omega)))
      rw [hk.out] at LE
      by_cases hc : hg k q < hg k p
      · have HM := hide (min_two (l := k) (i := i) (n := n) q (by rw [hp]; omega) (fun _ => by rw [show 2 * i + 2 = q by omega]; omega))
        rw [decide_eq_true hc] at LE
        clear hc
        by_cases hlt : hg k q < hg k i
        · have HC : Hid (decide (hg k q < hg k i) = true) := hide (decide_eq_true hlt)
          have HS := hide (HU.out.swap (j := q) (by rw [hk.out, hN.out]; omega) (by omega) (by omega) (by omega) hlt HM.out)
          clear HU HM hlt hp hq HQ
          go_wp2_with (go_at_call 442; refine LE.out.mono ?_; rintro e w2 ⟨rfl, hQ2, hb2⟩; have L2 := hide (less_any w2 b Q o pre ty a cap k q i hQ2 (hkl.out q (by omega)) (hkl.out i (by omega))); rw [hk.out, HC.out] at L2; have m2 : (method 684 179 (qP Q o) "Less").run Tryz.prog w2 = .ok (442, slQ a N cap) w2 := meth_less 683 w2 Q o a N cap (by rw [← hk.out]; exact hQ2.cellQ); replace Hb := hide (Hb.out.trans hb2); clear hQ2 hb2 LE m1)
          refine L2.out.mono ?_
          rintro e w3 ⟨rfl, hQ3, hb3⟩
          have SW := hide (swap_any w3 b Q o pre ty a cap k i q hQ3 (hkl.out i (by omega)) (hkl.out q (by omega)))
          rw [hk.out] at SW
          have m3 : (method 684 179 (qP Q o) "Swap").run Tryz.prog w3 = .ok (443, slQ a N cap) w3 := meth_swap 683 w3 Q o a N cap (by rw [← hk.out]; exact hQ3.cellQ)
          replace Hb := hide (Hb.out.trans hb3)
          clear hQ3 hb3 L2
          go_wp2_with fail
          refine SW.out.mono ?_
          rintro e w4 ⟨rfl, hQ4, hb4⟩
          replace Hb := hide (Hb.out.trans hb4)
          have HQ := hide hQ4
          have HK : Hid ((sw k i q).length = N) := hide (by rw [sw_len, hk.out])
          have HP2 : Hid ((sw k i q).Perm l) := hide ((sw_perm k i q (hkl.out i (by omega)) (hkl.out q (by omega))).trans HP.out)
          have HE2 : Hid (te (sw k i q) n = te l n) := hide (by rw [sw_last (by omega) (by omega) (hkl.out n (Nat.le_refl _))]; exact HE.out)
          clear hQ4 hb4 SW HP hk m3 HE HC hkl
          generalize sw k i q = k2 at *
          go_wp2_with fail
          go_roundw
          case rel => exact ⟨q, k2, rfl, by omega, HK, HQ, Hb, HS, HP2, HE2⟩
          case measure => simp [intOf]; omega
        · have HC : Hid (decide (hg k q < hg k i) = false) := hide (decide_eq_false hlt)
          have HS := hide (HU.out.less HM.out hlt)
          clear HU HM hlt hp hq HQ
          go_wp2_with (go_at_call 442; refine LE.out.mono ?_; rintro e w2 ⟨rfl, hQ2, hb2⟩; have L2 := hide (less_any w2 b Q o pre ty a cap k q i hQ2 (hkl.out q (by omega)) (hkl.out i (by omega))); rw [hk.out, HC.out] at L2; have m2 : (method 684 179 (qP Q o) "Less").run Tryz.prog w2 = .ok (442, slQ a N cap) w2 := meth_less 683 w2 Q o a N cap (by rw [← hk.out]; exact hQ2.cellQ); replace Hb := hide (Hb.out.trans hb2); clear hQ2 hb2 LE m1)
          refine L2.out.mono ?_
          rintro e w3 ⟨rfl, hQ3, hb3⟩
          have HQ := hide hQ3
          replace Hb := hide (Hb.out.trans hb3)
          clear hQ3 hb3 L2
          go_wp2_with fail
          go_ret
          exact ⟨_, k, ⟨rfl, HQ.out, Hb.out⟩, HP.out, HS.out, HE.out⟩
      · have HM := hide (min_two (l := k) (i := i) (n := n) p (by rw [hp]; omega) (fun _ => by rw [show 2 * i + 2 = q by omega]; omega))
        rw [decide_eq_false hc] at LE
        clear hc
        by_cases hlt : hg k p < hg k i
        · have HC : Hid (decide (hg k p < hg k i) = true) := hide (decide_eq_true hlt)
          have HS := hide (HU.out.swap (j := p) (by rw [hk.out, hN.out]; omega) (by omega) (by omega) (by omega) hlt HM.out)
          clear HU HM hlt hp hq HQ
          go_wp2_with (go_at_call 442; refine LE.out.mono ?_; rintro e w2 ⟨rfl, hQ2, hb2⟩; have L2 := hide (less_any w2 b Q o pre ty a cap k p i hQ2 (hkl.out p (by omega)) (hkl.out i (by omega))); rw [hk.out, HC.out] at L2; have m2 : (method 684 179 (qP Q o) "Less").run Tryz.prog w2 = .ok (442, slQ a N cap) w2 := meth_less 683 w2 Q o a N cap (by rw [← hk.out]; exact hQ2.cellQ); replace Hb := hide (Hb.out.trans hb2); clear hQ2 hb2 LE m1)
          refine L2.out.mono ?_
          rintro e w3 ⟨rfl, hQ3, hb3⟩
          have SW := hide (swap_any w3 b Q o pre ty a cap k i p hQ3 (hkl.out i (by omega)) (hkl.out p (by omega)))
          rw [hk.out] at SW
          have m3 : (method 684 179 (qP Q o) "Swap").run Tryz.prog w3 = .ok (443, slQ a N cap) w3 := meth_swap 683 w3 Q o a N cap (by rw [← hk.out]; exact hQ3.cellQ)
          replace Hb := hide (Hb.out.trans hb3)
          clear hQ3 hb3 L2
          go_wp2_with fail
          refine SW.out.mono ?_
          rintro e w4 ⟨rfl, hQ4, hb4⟩
          replace Hb := hide (Hb.out.trans hb4)
          have HQ := hide hQ4
          have HK : Hid ((sw k i p).length = N) := hide (by rw [sw_len, hk.out])
          have HP2 : Hid ((sw k i p).Perm l) := hide ((sw_perm k i p (hkl.out i (by omega)) (hkl.out p (by omega))).trans HP.out)
          have HE2 : Hid (te (sw k i p) n = te l n) := hide (by rw [sw_last (by omega) (by omega) (hkl.out n (Nat.le_refl _))]; exact HE.out)
          clear hQ4 hb4 SW HP hk m3 HE HC hkl
          generalize sw k i p = k2 at *
          go_wp2_with fail
          go_roundw
          case rel => exact ⟨p, k2, rfl, by omega, HK, HQ, Hb, HS, HP2, HE2⟩
          case measure => simp [intOf]; omega
        · have HC : Hid (decide (hg k p < hg k i) = false) := hide (decide_eq_false hlt)
          have HS := hide (HU.out.less HM.out hlt)
          clear HU HM hlt hp hq HQ
          go_wp2_with (go_at_call 442; refine LE.out.mono ?_; rintro e w2 ⟨rfl, hQ2, hb2⟩; have L2 := hide (less_any w2 b Q o pre ty a cap k p i hQ2 (hkl.out p (by omega)) (hkl.out i (by omega))); rw [hk.out, HC.out] at L2; have m2 : (method 684 179 (qP Q o) "Less").run Tryz.prog w2 = .ok (442, slQ a N cap) w2 := meth_less 683 w2 Q o a N cap (by rw [← hk.out]; exact hQ2.cellQ); replace Hb := hide (Hb.out.trans hb2); clear hQ2 hb2 LE m1)
          refine L2.out.mono ?_
          rintro e w3 ⟨rfl, hQ3, hb3⟩
          have HQ := hide hQ3
          replace Hb := hide (Hb.out.trans hb3)
          clear hQ3 hb3 L2
          go_wp2_with fail
          go_ret
          exact ⟨_, k, ⟨rfl, HQ.out, Hb.out⟩, HP.out, HS.out, HE.out⟩
    · have HM := hide (min_two (l := k) (i := i) (n := n) p (by rw [hp]; omega) (fun _ => by omega))
      by_cases hlt : hg k p < hg k i
      · have HC : Hid (decide (hg k p < hg k i) = true) := hide (decide_eq_true hlt)
        have HS := hide (HU.out.swap (j := p) (by rw [hk.out, hN.out]; omega) (by omega) (by omega) (by omega) hlt HM.out)
        have L2 := hide (less_any wr b Q o pre ty a cap k p i HQ.out (hkl.out p (by omega)) (hkl.out i (by omega)))
        rw [hk.out, HC.out] at L2
        clear HU HM hlt hp hq HQ
        go_wp2_with fail
        refine L2.out.mono ?_
        rintro e w3 ⟨rfl, hQ3, hb3⟩
        have SW := hide (swap_any w3 b Q o pre ty a cap k i p hQ3 (hkl.out i (by omega)) (hkl.out p (by omega)))
        rw [hk.out] at SW
        have m3 : (method 684 179 (qP Q o) "Swap").run Tryz.prog w3 = .ok (443, slQ a N cap) w3 := meth_swap 683 w3 Q o a N cap (by rw [← hk.out]; exact hQ3.cellQ)
        replace Hb := hide (Hb.out.trans hb3)
        clear hQ3 hb3 L2
        go_wp2_with fail
        refine SW.out.mono ?_
        rintro e w4 ⟨rfl, hQ4, hb4⟩
        replace Hb := hide (Hb.out.trans hb4)
        have HQ := hide hQ4
        have HK : Hid ((sw k i p).length = N) := hide (by rw [sw_len, hk.out])
        have HP2 : Hid ((sw k i p).Perm l) := hide ((sw_perm k i p (hkl.out i (by omega)) (hkl.out p (by omega))).trans HP.out)
        have HE2 : Hid (te (sw k i p) n = te l n) := hide (by rw [sw_last (by omega) (by omega) (hkl.out n (Nat.le_refl _))]; exact HE.out)
        clear hQ4 hb4 SW HP hk m3 HE HC hkl
        generalize sw k i p = k2 at *
        go_wp2_with fail
        go_roundw
        case rel => exact ⟨p, k2, rfl, by omega, HK, HQ, Hb, HS, HP2, HE2⟩
        case measure => simp [intOf]; omega
      · have HC : Hid (decide (hg k p < hg k i) = false) := hide (decide_eq_false hlt)
        have HS := hide (HU.out.less HM.out hlt)
        have L2 := hide (less_any wr b Q o pre ty a cap k p i HQ.out (hkl.out p (by omega)) (hkl.out i (by omega)))
        rw [hk.out, HC.out] at L2
        clear HU HM hlt hp hq HQ
        go_wp2_with fail
        refine L2.out.mono ?_
        rintro e w3 ⟨rfl, hQ3, hb3⟩
        have HQ := hide hQ3
        replace Hb := hide (Hb.out.trans hb3)
        clear hQ3 hb3 L2
        go_wp2_with fail
        go_ret
        exact ⟨_, k, ⟨rfl, HQ.out, Hb.out⟩, HP.out, HS.out, HE.out⟩
end Go.Proofs.YtapfaaaepnplcaaGreatDoor
set_option maxRecDepth 100000
set_option maxHeartbeats 1000000
namespace Go.Proofs.YtapfaaaepnplcaaGreatDoor
open Go.RowKit Go.Great
abbrev tuI (t : Tu) : Value := .iface 183 (tuV t)
theorem assert_two (x0 x1 x2 x3 : Int) (u : TypeId) (w : World) : (Instr.typeAssert (.iface 183 (.agg #[.int .i64 x0, .int .i64 x1, .int .i64 x2, .int .i64 x3])) u 183 true).run Tryz.prog w = .ok (.tuple #[.agg #[.int .i64 x0, .int .i64 x1, .int .i64 x2, .int .i64 x3], .bool true]) w := by kernel_rfl
theorem assert_one (x0 x1 x2 x3 : Int) (u : TypeId) (w : World) : (Instr.typeAssert (.iface 183 (.agg #[.int .i64 x0, .int .i64 x1, .int .i64 x2, .int .i64 x3])) u 183 false).run Tryz.prog w = .ok (.agg #[.int .i64 x0, .int .i64 x1, .int .i64 x2, .int .i64 x3]) w := by kernel_rfl
theorem own_shape {w : World} {b n : Nat} {v : Value} {xs : List Value} (h : w.ownsRow b 183 4 v n xs) : ∃ a cap, v = slQ a n cap := by
  rcases h.2 with ⟨rfl, rfl⟩ | ⟨g, cap, _, hv, _⟩
  · exact ⟨none, 0, rfl⟩
  · exact ⟨_, cap, hv⟩
theorem ownsRow_set_other {w : World} {base : Nat} {e t : TypeId} {size : Nat} {v : Value} {n : Nat} {xs : List Value} {Q : Nat} {cs : Array Value} (hR : w.ownsRow base e size v n xs) (hG : Blk w Q cs t) (hne : e ≠ t) (k : Nat) (x : Value) : (w.setCell ⟨Q, k, none⟩ x).ownsRow base e size v n xs :=
  World.ownsRow.kept hR (grown_set w Q k x) (.inr (blk_apart hR hG hne))
theorem new_cell4 (w : World) (g : Nat) (hg : g = w.heap.size) (x0 x1 x2 x3 : Value) (t : TypeId) : ∀ j u, [x0, x1, x2, x3][j]? = some u → (w.alloc (.cells #[x0, x1, x2, x3] t)).cell? ((⟨g, 0, none⟩ : Addr).add j) = some u := by
  intro j u h
  subst hg
  have : j < 4 := by
    have := (List.getElem?_eq_some_iff.1 h).1
    simpa using this
  have hB := Blk.new w #[x0, x1, x2, x3] t
  have hc := hB.cell j (v := u) (by simpa using h)
  rw [add_plain', Nat.zero_add]
  exact hc
theorem row_tb {w : World} {b n : Nat} {v : Value} {xs : List Value} (h : w.ownsRow b 183 4 v n xs) {k : Nat} (e : v.ownBlock = some k) : TB w k := by
  rcases h.2 with ⟨rfl, _⟩ | ⟨g, cap, cur, rfl, _, hh, _⟩
  · cases e
  · simp [Value.ownBlock] at e
    subst e
    exact TB.of hh
theorem pushM_any (w : World) (b Q o : Nat) (pre : List Value) (ty : TypeId) (a : Option Addr) (cap : Nat) (l : List Tu) (x : Tu) (h : Qu w b Q o pre ty a cap l) (hl : l.length ≤ 64) (hx : TOk x) : Calls Tryz.prog 449 #[qP Q o, tuI x] w fun e w' => ∃ a2 cap2, QEnd w b Q o pre ty a2 cap2 (l ++ [x]) (.tuple #[]) e w' := by
  obtain ⟨i0, hi, hz0, hz1, hz2⟩ := info_parts info_tu
  have HX2 : Hid (tusC (l ++ [x]) = tusC l ++ [.int .i64 x.tk, .int .i64 x.rk, .int .i64 x.nu, .int .i64 x.pe]) := hide (by rw [tusC_app]; simp [tusC, tuC])
  have HOK : Hid (∀ t ∈ l ++ [x], TOk t) := hide (fun t ht => by
    rcases List.mem_append.1 ht with ht | ht
    · exact h.ok t ht
    · rw [List.mem_singleton.1 ht]; exact hx)
  have HLn : Hid ((l ++ [x]).length = l.length + 1) := hide (by simp)
  clear hx
  generalize l ++ [x] = l2 at *
  obtain ⟨x0, x1, x2, x3⟩ := x
  have A2 := assert_two x0 x1 x2 x3
  have hbs := h.bs
  have hlt : Q < w.heap.size := h.box.lt
  have Hpo := hide h.po
  have Hht := hide h.ht
  have HBx := hide h.box
  obtain ⟨W1, hW1⟩ : ∃ W1, w.alloc (.cells #[.int .i64 x0, .int .i64 x1, .int .i64 x2, .int .i64 x3] 183) = W1 := ⟨_, rfl⟩
  have hz : W1.heap.size = w.heap.size + 1 := by rw [← hW1, size_alloc]
  have BX : Hid (Blk W1 w.heap.size #[.int .i64 x0, .int .i64 x1, .int .i64 x2, .int .i64 x3] 183) := hide (by rw [← hW1]; exact Blk.new _ _ _)
  have HB1 : Hid (Below w.heap.size w W1) := hide (by rw [← hW1]; exact below_alloc _ _)
  have CQ : Hid (W1.drew.cell? ⟨Q, o, none⟩ = some (slQ a l.length cap)) := hide (h.after HB1.out).cellQ
  have HO : Hid ((W1.alloc (.cells #[.int .i64 x0, .int .i64 x1, .int .i64 x2, .int .i64 x3] 183)).drew.ownsRow b 183 4 (slQ a l.length cap) l.length (tusC l)) := hide (((h.after HB1.out).after (below_alloc W1 (.cells #[.int .i64 x0, .int .i64 x1, .int .i64 x2, .int .i64 x3] 183))).own)
  have HLt : Hid (∀ k, (slQ a l.length cap).ownBlock = some k → k < w.heap.size) := hide (fun k e => (h.own.lt k e).2)
  obtain ⟨n, hn⟩ : ∃ n, Hid (l.length = n) := ⟨_, hide rfl⟩
  rw [hn.out] at hl HLt CQ HO HLn HBx
  clear h
  go_enter Tryz.func449, Tryz.ntmps449
  go_wp2_with fail
  refine reg_last_held (fun wx => wx.cell? ⟨Q, o, none⟩ = some (slQ a n cap) ∧ wx.cell? ⟨w.heap.size, 0, none⟩ = some (.int .i64 x0) ∧ wx.cell? ⟨w.heap.size, 1, none⟩ = some (.int .i64 x1) ∧ wx.cell? ⟨w.heap.size, 2, none⟩ = some (.int .i64 x2) ∧ wx.cell? ⟨w.heap.size, 3, none⟩ = some (.int .i64 x3)) 8 rfl rfl _ rfl (by kernel_rfl) (by kernel_rfl) ⟨CQ.out, BX.out.cell 0 rfl, BX.out.cell 1 rfl, BX.out.cell 2 rfl, BX.out.cell 3 rfl⟩ (fun hHeld => ?_)
  simp only [List.take_succ_cons, List.take_zero]
  refine take_at (i := 0) (v := qP Q o) (d := some 12) rfl rfl (by kernel_rfl) (by kernel_rfl) (by kernel_rfl) (fun _ _ _ h => h) (Or.inl ⟨by rfl, fun wS ⟨hS0, hS1, hS2, hS3, hS4⟩ => by go_simp; all_goals (rw [IntKind.wrap_i64]; omega)⟩) (by assumption) ?_
  simp only [Act.put, List.setIfInBounds_toArray, List.set_cons_zero, List.set_cons_succ]
  refine take_at (i := 1) (v := qP Q o) (d := some 13) rfl rfl (by kernel_rfl) (by kernel_rfl) (by kernel_rfl) (fun _ _ _ h => h) (Or.inl ⟨by rfl, fun wS ⟨hS0, hS1, hS2, hS3, hS4⟩ => by go_simp; all_goals (rw [IntKind.wrap_i64]; omega)⟩) (by assumption) ?_
  simp only [Act.put, List.setIfInBounds_toArray, List.set_cons_zero, List.set_cons_succ]
  refine take_at (i := 2) (v := qP Q o) (d := some 14) rfl rfl (by kernel_rfl) (by kernel_rfl) (by kernel_rfl) (fun _ _ _ h => h) (Or.inl ⟨by rfl, fun wS ⟨hS0, hS1, hS2, hS3, hS4⟩ => by go_simp; all_goals (rw [IntKind.wrap_i64]; omega)⟩) (by assumption) ?_
  simp only [Act.put, List.setIfInBounds_toArray, List.set_cons_zero, List.set_cons_succ]
  refine take_at (i := 3) (v := slQ a n cap) (d := some 15) rfl rfl (by kernel_rfl) (by kernel_rfl) (by kernel_rfl) (fun _ _ _ h => h) (Or.inl ⟨by rfl, fun wS ⟨hS0, hS1, hS2, hS3, hS4⟩ => by go_simp; all_goals (rw [IntKind.wrap_i64]; omega)⟩) (by assumption) ?_
  simp only [Act.put, List.setIfInBounds_toArray, List.set_cons_zero, List.set_cons_succ]
  refine take_at (i := 4) (v := .agg #[.int .i64 x0, .int .i64 x1, .int .i64 x2, .int .i64 x3]) (d := some 16) rfl rfl (by kernel_rfl) (by kernel_rfl) (by kernel_rfl) (fun _ _ _ h => h) (Or.inl ⟨by rfl, fun wS ⟨hS0, hS1, hS2, hS3, hS4⟩ => by go_simp; all_goals (rw [IntKind.wrap_i64]; omega)⟩) (by assumption) ?_
  simp only [Act.put, List.setIfInBounds_toArray, List.set_cons_zero, List.set_cons_succ]
  clear hHeld
  refine wpAnyH_ready (rs := [5]) (by kernel_rfl) (by simp) ?_
  refine AllReadyH.cons rfl (fun K hK => ?_) AllReadyH.nil
  go_simp
  have CQ2 : Hid ((W1.drew.alloc (.cells #[.int .i64 x0, .int .i64 x1, .int .i64 x2, .int .i64 x3] 183)).cell? ⟨Q, o, none⟩ = some (slQ a n cap)) := hide (by rw [(below_alloc W1.drew _).cell (p := ⟨Q, o, none⟩) (by show Q < W1.heap.size; omega)]; exact CQ.out)
  have BX2 := hide ((blk_drew BX.out).alloc (.cells #[.int .i64 x0, .int .i64 x1, .int .i64 x2, .int .i64 x3] 183))
  refine hK.out _ _ ⟨CQ2.out, BX2.out.cell 0 rfl, BX2.out.cell 1 rfl, BX2.out.cell 2 rfl, BX2.out.cell 3 rfl⟩ (fun hHeld => ?_)
  clear hK K hHeld
  refine wpAnyH_ready (rs := [6]) (by kernel_rfl) (by simp) ?_
  refine AllReadyH.cons rfl (fun K hK => ?_) AllReadyH.nil
  rw [if_pos (by rfl)]
  obtain ⟨v', w5, hrun, hown5, hgrow5⟩ := run_append_one (P := Tryz.prog) (W1.alloc (.cells #[.int .i64 x0, .int .i64 x1, .int .i64 x2, .int .i64 x3] 183)).drew 122 122 b 183 i0 _ 4 32 Tryz.underlying122 hi hz0 hz1 hz2 rfl (by decide) (slQ a n cap) n (tusC l) HO.out ⟨w.heap.size + 1, 0, none⟩ 1 [.int .i64 x0, .int .i64 x1, .int .i64 x2, .int .i64 x3] rfl (new_cell4 W1 _ hz.symm _ _ _ _ _) (by intro u hu; simp at hu; rcases hu with rfl | rfl | rfl | rfl <;> rfl) (by omega) (by omega) (by show b ≤ (W1.alloc _).heap.size; rw [size_alloc]; omega)
  refine wp_append_run (.tmp 15) (.tmp 17) 122 rfl _ _ _ rfl rfl hrun ?_
  obtain ⟨a2, cap2, rfl⟩ := own_shape hown5
  have HG : Hid (Below w.heap.size w (W1.alloc (.cells #[.int .i64 x0, .int .i64 x1, .int .i64 x2, .int .i64 x3] 183)).drew) := hide ((HB1.out.alloc (by omega) _).drew)
  have HBQ : Hid (Blk w5 Q (pre ++ [slQ a n cap]).toArray ty) := hide (blk_grown HO.out (HBx.out.after HG.out) Hht.out hgrow5)
  have HBT : Hid (Blk w5 w.heap.size #[.int .i64 x0, .int .i64 x1, .int .i64 x2, .int .i64 x3] 183) := hide ((blk_drew (BX.out.alloc _)).grown hgrow5 (fun e => Nat.lt_irrefl _ (HLt.out _ e)))
  have HKB : Hid (KB b Q w w5) := hide ((KB.of_below HG.out hbs).trans (KB.of_grown hgrow5 (by show b ≤ (W1.alloc _).heap.size; rw [size_alloc]; omega) (fun k e => .inr ⟨(HO.out.lt k e).1, row_tb HO.out e⟩)))
  have HR5 := hide hown5
  clear hown5 hgrow5 hrun hi hz0 hz1 hz2 HO BX HBx HLt CQ CQ2 BX2
  refine hK.out _ _ ⟨HBQ.out.cell o (by rw [← Hpo.out]; simp), HBT.out.cell 0 rfl, HBT.out.cell 1 rfl, HBT.out.cell 2 rfl, HBT.out.cell 3 rfl⟩ (fun hHeld => ?_)
  clear hK K
  simp only [Act.put, List.setIfInBounds_toArray]
  refine take_at (i := 7) (v := qP Q o) (d := some 19) rfl rfl (by kernel_rfl) (by kernel_rfl) (by kernel_rfl) (fun _ _ _ h => h) (Or.inl ⟨by rfl, fun wS ⟨hS0, hS1, hS2, hS3, hS4⟩ => by go_simp; all_goals (rw [IntKind.wrap_i64]; omega)⟩) (by assumption) ?_
  simp only [Act.put]
  refine wpAnyH_done (by kernel_rfl) (then_last ?_) _
  have c5 : w5.cell? ⟨Q, o, none⟩ = some (slQ a n cap) := HBQ.out.cell o (by rw [← Hpo.out]; simp)
  have f5 := HBQ.out.frozen o
  clear hHeld
  go_simp
  go_wp2_with fail
  go_end0
  refine ⟨a2, cap2, rfl, ⟨Hpo.out, ?_, ?_, ?_, HOK.out, Hht.out⟩, HKB.out.set Q o _ (.inl rfl)⟩
  · rw [setCell_size]; exact Nat.le_trans hbs HKB.out.size
  · rw [HLn.out, ← arr_set_last pre (slQ a n cap), Hpo.out]; exact HBQ.out.set o _
  · rw [HLn.out, HX2.out]
    exact ownsRow_set_other HR5.out HBQ.out Hht.out o _
theorem popM_any (w : World) (b Q o : Nat) (pre : List Value) (ty : TypeId) (a : Option Addr) (cap n : Nat) (l : List Tu) (h : Qu w b Q o pre ty a cap l) (hl : l.length = n + 1) (hn : n ≤ 64) : Calls Tryz.prog 448 #[qP Q o] w (QEnd w b Q o pre ty a cap (l.take n) (tuI (te l n))) := by
  have cq := h.cellQ
  have fq := h.box.frozen o
  obtain ⟨g, cur, rfl, _, _, _, _, _⟩ := h.row (by omega)
  obtain ⟨c0, c1, c2, c3⟩ := h.at n (by omega)
  have hcp := h.cap_in
  have hlt := h.box.lt
  have HK : Hid (∀ o1, Qu ((w.setCell ⟨Q, o, none⟩ (.slice (some ⟨g, 0, none⟩) n cap)).alloc o1) b Q o pre ty (some ⟨g, 0, none⟩) cap (l.take n)) := hide (fun o1 => (h.less hl).after (below_alloc _ o1))
  have Hb : Hid (∀ o1, KB b Q w ((w.setCell ⟨Q, o, none⟩ (.slice (some ⟨g, 0, none⟩) n cap)).alloc o1)) := hide (fun o1 => ((KB.refl b Q w).set Q o _ (.inl rfl)).trans (KB.of_below (below_alloc _ o1) (by rw [setCell_size]; exact h.bs)))
  obtain ⟨N, hN⟩ : ∃ N, l.length = N := ⟨_, rfl⟩
  rw [hN] at cq hcp hl
  have e1 : (N : Int) - 1 = (n : Int) := by omega
  have hnc : n ≤ cap := by omega
  generalize te l n = x at *
  obtain ⟨x0, x1, x2, x3⟩ := x
  generalize l.take n = m at *
  clear h hN
  go_enter Tryz.func448, Tryz.ntmps448
  go_wp2_with fail
  go_ret
  exact ⟨rfl, HK.out _, Hb.out _⟩
end Go.Proofs.YtapfaaaepnplcaaGreatDoor
set_option maxRecDepth 100000
set_option maxHeartbeats 2000000
namespace Go.Proofs.YtapfaaaepnplcaaGreatDoor
open Go.RowKit Go.Great
theorem meth_push (w : World) (Q o : Nat) : (method 684 179 (qP Q o) "Push").run Tryz.prog w = .ok (449, qP Q o) w := by kernel_rfl
theorem meth_pop (w : World) (Q o : Nat) : (method 684 179 (qP Q o) "Pop").run Tryz.prog w = .ok (448, qP Q o) w := by kernel_rfl
/-- a heap of the numbers s, in a queue -/
def HQ (w : World) (b Q o : Nat) (pre : List Value) (ty : TypeId) (s : List Tu) : Prop := ∃ a cap l, Qu w b Q o pre ty a cap l ∧ l.Perm s ∧ Hp l l.length
/-- what a heap's function leaves -/
def HEnd (w : World) (b Q o : Nat) (pre : List Value) (ty : TypeId) (s : List Tu) (v : Value) (e : Ending) (w' : World) : Prop := e = .returned v ∧ HQ w' b Q o pre ty s ∧ KB b Q w w'
theorem hpush_any (w : World) (b Q o : Nat) (pre : List Value) (ty : TypeId) (s : List Tu) (x : Tu) (h : HQ w b Q o pre ty s) (hl : s.length ≤ 63) (hok : TOk x) : Calls Tryz.prog 73 #[qI Q o, tuI x] w (HEnd w b Q o pre ty (x :: s) (.tuple #[])) := by
  obtain ⟨a, cap, l, hq, hp, hh⟩ := h
  have hn : l.length ≤ 63 := by rw [hp.length_eq]; exact hl
  have HP := hide hp
  have HH := hide hh
  have PU := hide (pushM_any w b Q o pre ty a cap l x hq (by omega) hok)
  have m1 := meth_push w Q o
  clear hq hp hh hl
  go_enter Tryz.func73, Tryz.ntmps73
  go_wp2_with fail
  refine PU.out.mono ?_
  rintro e w2 ⟨a2, cap2, rfl, hq2, hb2⟩
  have m2 : (method 684 179 (qP Q o) "Len").run Tryz.prog w2 = .ok (441, slQ a2 (l ++ [x]).length cap2) w2 := meth_len 683 w2 Q o a2 _ cap2 (hq2.cellQ)
  have UP := hide (upQ_any w2 b Q o pre ty a2 cap2 (l ++ [x]) l.length hq2 (by simp) (by rw [List.length_append]; exact HH.out.push x))
  have LN := hide (len_any a2 (l ++ [x]).length cap2 w2)
  have Hb := hide hb2
  have HP2 : Hid ((l ++ [x]).Perm (x :: s)) := hide (List.perm_append_comm.trans (HP.out.cons x))
  obtain ⟨N, hN⟩ : ∃ N, (l ++ [x]).length = N := ⟨_, rfl⟩
  obtain ⟨n, hn'⟩ : ∃ n, l.length = n := ⟨_, rfl⟩
  have e1 : (N : Int) - 1 = (n : Int) := by rw [← hN, ← hn', List.length_append]; simp
  have hN64 : N ≤ 64 := by rw [← hN, List.length_append]; simpa using hn
  rw [hN] at LN m2
  rw [hn'] at UP
  generalize l ++ [x] = k at *
  clear m1 PU hq2 hb2 hN hn hn' HH HP
  go_wp2_with (go_at_call 441; refine LN.out.mono ?_; rintro e w3 ⟨rfl, hw3⟩; obtain rfl := hw3.symm)
  refine UP.out.mono ?_
  rintro e w4 ⟨l4, ⟨rfl, hq4, hb4⟩, hp4, hh4⟩
  have HF : Hid (HEnd w b Q o pre ty (x :: s) (.tuple #[]) (.returned (.tuple #[])) w4) := hide ⟨rfl, ⟨a2, cap2, l4, hq4, hp4.trans HP2.out, hh4⟩, Hb.out.trans hb4⟩
  clear hq4 hb4 hp4 hh4 UP HP2 Hb
  go_wp2_with fail
  go_end0
  exact HF.out
theorem hpop_any (w : World) (b Q o : Nat) (pre : List Value) (ty : TypeId) (s : List Tu) (x : Tu) (h : HQ w b Q o pre ty (x :: s)) (hx : ∀ y ∈ s, ky x < ky y) (hl : s.length ≤ 63) : Calls Tryz.prog 71 #[qI Q o] w (HEnd w b Q o pre ty s (tuI x)) := by
  obtain ⟨a, cap, l, hq, hp, hh⟩ := h
  obtain ⟨n, hn⟩ : ∃ n, s.length = n := ⟨_, rfl⟩
  have hlen : l.length = n + 1 := by rw [hp.length_eq, ← hn]; rfl
  have hx0 : te l 0 = x := by
    have hf := hh.first hp (by omega)
    have h1 := hf.2 x (by simp)
    rcases List.mem_cons.1 hf.1 with e | e
    · exact e
    · have h2 := hx _ e
      unfold hg at h1
      omega
  have m1 : (method 684 179 (qP Q o) "Len").run Tryz.prog w = .ok (441, slQ a l.length cap) w := meth_len 683 w Q o a _ cap (hq.cellQ)
  have m2 : (method 684 179 (qP Q o) "Swap").run Tryz.prog w = .ok (443, slQ a l.length cap) w := meth_swap 683 w Q o a _ cap (hq.cellQ)
  have LN := hide (len_any a l.length cap w)
  have SW : Hid (Calls Tryz.prog 443 #[slQ a l.length cap, .int .i64 0, .int .i64 n] w (QEnd w b Q o pre ty a cap (sw l 0 n) (.tuple #[]))) := hide (swap_any w b Q o pre ty a cap l 0 n hq (by omega) (by omega))
  have HD : Hid (DnI (sw l 0 n) 0 n) := hide (by rw [hlen] at hh; exact hh.pop hlen)
  have HS : Hid ((sw l 0 n).length = n + 1) := hide (by rw [sw_len, hlen])
  have HPm : Hid ((sw l 0 n).Perm l) := hide (sw_perm l 0 n (by omega) (by omega))
  have HL : Hid (te (sw l 0 n) n = x) := hide (by rw [te_sw _ _ _ _ (by omega) (by omega), if_pos rfl, hx0])
  have HPe : Hid (∀ m : List Tu, m.Perm (sw l 0 n) → te m n = x → Hp m n → Hp (m.take n) (m.take n).length ∧ (m.take n).Perm s) := hide (fun m h1 h2 h3 => by
    obtain ⟨r1, r2, r3⟩ := pop_end (l := l) (m := m) hlen (h1.trans HPm.out) (by rw [h2, hx0]) h3
    rw [r3]
    refine ⟨r1, ?_⟩
    rw [hx0] at r2
    exact (List.Perm.cons_inv (r2.symm.trans hp)))
  obtain ⟨N, hN⟩ : ∃ N, l.length = N := ⟨_, rfl⟩
  rw [hN] at LN SW m1 m2 hlen
  have e1 : (N : Int) - 1 = (n : Int) := by omega
  have hn64 : n ≤ 63 := by omega
  have hN64 : N ≤ 64 := by omega
  generalize sw l 0 n = k at *
  clear hq hp hh hx hl hn hx0 hN HPm hlen
  go_enter Tryz.func71, Tryz.ntmps71
  go_wp2_with (go_at_call 441; refine LN.out.mono ?_; rintro e w3 ⟨rfl, hw3⟩; obtain rfl := hw3.symm)
  refine SW.out.mono ?_
  rintro e w4 ⟨rfl, hq4, hb4⟩
  have Hb := hide hb4
  have DN := hide (downQ_any w4 b Q o pre ty a cap n k hq4 HS.out HD.out (by omega))
  clear hq4 hb4 m1 m2 SW LN HD
  go_wp2_with fail
  refine DN.out.mono ?_
  rintro e w5 ⟨d, k5, ⟨rfl, hq5, hb5⟩, hp5, hh5, he5⟩
  have PO := hide (popM_any w5 b Q o pre ty a cap n k5 hq5 (by rw [hp5.length_eq]; exact HS.out) (by omega))
  have HE5 : te k5 n = x := by rw [he5]; exact HL.out
  rw [HE5] at PO
  replace Hb := hide (Hb.out.trans hb5)
  have HF := hide (HPe.out k5 hp5 HE5 hh5)
  have m3 := meth_pop w5 Q o
  generalize k5.take n = k6 at *
  clear hq5 hb5 hp5 hh5 he5 HE5 HPe HL HS DN
  go_wp2_with fail
  refine PO.out.mono ?_
  rintro e w6 ⟨rfl, hq6, hb6⟩
  have HG : Hid (HEnd w b Q o pre ty s (tuI x) (.returned (tuI x)) w6) := hide ⟨rfl, ⟨a, cap, k6, hq6, HF.out.2, HF.out.1⟩, Hb.out.trans hb6⟩
  clear hq6 hb6 PO HF Hb m3
  go_wp2_with fail
  go_ret
  exact HG.out
end Go.Proofs.YtapfaaaepnplcaaGreatDoor
