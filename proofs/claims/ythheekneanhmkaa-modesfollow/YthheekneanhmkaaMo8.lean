/- Package modes: waiting, follow. -/
import Derived.Test.YthheekneanhmkaaMo7
namespace Go.Proofs.Ythheekneanhmkaa
open Go.RowKit Go.Great

/-- is an event there? -/
def hasE (ev : Int) (i : Nat) : Bool := bits BinOp.and IntKind.i64 (ev / 2 ^ i) 1 == 1
/-- those below n that are there, by their numbers -/
def evs (ev : Int) : Nat → List Int
  | 0 => []
  | n + 1 => evs ev n ++ (if hasE ev n = true then [(n : Int)] else [])
theorem evs_len (ev : Int) : ∀ n, (evs ev n).length ≤ n
  | 0 => Nat.le_refl _
  | n + 1 => by
    have := evs_len ev n
    unfold evs
    rw [List.length_append]
    split <;> simp <;> omega
theorem evs_lt (ev : Int) : ∀ n, ∀ x ∈ evs ev n, 0 ≤ x ∧ x < n
  | 0, x, h => by cases h
  | n + 1, x, h => by
    unfold evs at h
    rcases List.mem_append.1 h with h | h
    · have := evs_lt ev n x h; omega
    · split at h
      · have : x = n := by simpa using h
        omega
      · cases h
theorem evs_sort (ev : Int) : ∀ n, (evs ev n).Pairwise (· ≤ ·)
  | 0 => List.Pairwise.nil
  | n + 1 => by
    unfold evs
    rw [List.pairwise_append]
    refine ⟨evs_sort ev n, ?_, ?_⟩
    · split <;> simp
    · intro x hx y hy
      have := evs_lt ev n x hx
      split at hy
      · have : y = n := by simpa using hy
        omega
      · cases hy
theorem HQ.perm {w : World} {b Q : Nat} {s t : List Int} (h : HQ w b Q s) (hp : s.Perm t) : HQ w b Q t := by
  obtain ⟨g, cap, l, h1, h2, h3⟩ := h
  exact ⟨g, cap, l, h1, h2.trans hp, h3⟩
theorem HQ.new (w : World) : HQ ((w.alloc (.cells #[] 3)).alloc (.cells #[.slice (some ⟨w.heap.size, 0, none⟩) 0 0] 56)) w.heap.size (w.heap.size + 1) [] := by
  refine ⟨w.heap.size, 0, [], ⟨by omega, ?_, ?_⟩, List.Perm.refl _, fun k h0 hk => by cases hk⟩
  · have := Blk.new (w.alloc (.cells #[] 3)) #[slQ w.heap.size 0 0] 56
    rwa [size_alloc] at this
  · exact own_of (l := []) (cur := #[]) (Nat.le_refl _) ((Blk.new w #[] 3).alloc _) rfl (Nat.le_refl _) (by unfold maxLen; omega) rfl rfl
set_option maxHeartbeats 2000000 in
theorem waiting_any (ev : Int) (w : World) : Calls Try.prog 24 #[.int .i64 ev] w fun e w' => ∃ Q, e = .returned (qP Q) ∧ HQ w' w.heap.size Q (evs ev 18) ∧ Below w.heap.size w w' := by
  have HN := hide (HQ.new w)
  have Hb := hide (b2 w (.cells #[] 3) (.cells #[.slice (some ⟨w.heap.size, 0, none⟩) 0 0] 56))
  obtain ⟨Q, hQ⟩ : ∃ Q, w.heap.size + 1 = Q := ⟨_, rfl⟩
  rw [hQ] at HN
  go_enter Try.func24, Try.ntmps24
  go_wp2_with fail
  generalize (w.alloc (.cells #[] 3)).alloc (.cells #[.slice (some ⟨w.heap.size, 0, none⟩) 0 0] 56) = w1 at *
  go_loopw [7] (fun vi wr => ∃ i : Nat, vi = .int .i64 (i : Int) ∧ i ≤ 18 ∧ Hid (HQ wr w.heap.size Q (evs ev i)) ∧ Hid (Below w.heap.size w wr)) (fun vi _ => 18 - (intOf vi).toNat)
  case atStart => exact ⟨0, rfl, by omega, HN, Hb⟩
  case round =>
    clear HN Hb
    obtain ⟨i, rfl, hi, HN, Hb⟩ := hrel
    by_cases hl : i < 18
    · have PU := hide (hpush_any wr w.heap.size Q (evs ev i) i HN.out (by have := evs_len ev i; omega))
      have HX : Hid (evs ev (i + 1) = evs ev i ++ (if hasE ev i = true then [(i : Int)] else [])) := hide rfl
      have HD : Hid (hasE ev i = (bits BinOp.and IntKind.i64 (ev / 2 ^ i) 1 == 1)) := hide rfl
      by_cases hc : (bits BinOp.and IntKind.i64 (ev / 2 ^ i) 1 == 1) = true
      · have HY : Hid (((i : Int) :: evs ev i).Perm (evs ev (i + 1))) := hide (by rw [HX.out, HD.out, if_pos hc]; exact List.perm_append_comm (l₁ := [(i : Int)]))
        clear HX HD HN
        go_wp2_with fail
        refine PU.out.mono ?_
        rintro e w3 ⟨rfl, hq3, hb3⟩
        have HN := hide (hq3.perm HY.out)
        replace Hb := hide (Hb.out.trans hb3)
        clear hq3 hb3 PU HY hc
        go_wp2_with fail
        go_roundw
        case rel => exact ⟨i + 1, by go_num, by omega, HN, Hb⟩
        case measure => simp [intOf]; omega
      · have hc2 : (bits BinOp.and IntKind.i64 (ev / 2 ^ i) 1 == 1) = false := Bool.eq_false_iff.2 hc
        have HY : Hid (evs ev i = evs ev (i + 1)) := hide (by rw [HX.out, HD.out, if_neg hc, List.append_nil])
        rw [HY.out] at HN
        clear HX HD hc PU HY
        go_wp2_with fail
        go_roundw
        case rel => exact ⟨i + 1, by go_num, by omega, HN, Hb⟩
        case measure => simp [intOf]; omega
    · have e0 : i = 18 := by omega
      rw [e0] at HN
      clear e0
      go_wp2_with fail
      go_ret
      exact ⟨Q, rfl, HN.out, Hb.out⟩
/-- the first event that leads on -/
def fol (m : Int) : List Int → Option Int
  | [] => none
  | e :: l => if nx m e = m then fol m l else some e
theorem fol_same {m x : Int} (t : List Int) (h : nx m x = m) : fol m (x :: t) = fol m t := if_pos h
theorem fol_go {m x : Int} (t : List Int) (h : ¬ nx m x = m) : fol m (x :: t) = some x := if_neg h
/-- where it leads -/
def folM (m : Int) (l : List Int) : Int := match fol m l with
  | none => m
  | some e => nx m e
/-- what is told of it -/
def folE (m : Int) (l : List Int) : Int := (fol m l).getD (-1)
/-- how many wait in a queue -/
def qLen (w : World) (Q : Nat) : Nat := match w.cell? ⟨Q, 0, none⟩ with
  | some (.slice _ n _) => n
  | _ => 0
theorem HQ.len {w : World} {b Q : Nat} {s : List Int} (h : HQ w b Q s) : qLen w Q = s.length := by
  obtain ⟨g, cap, l, h1, h2, h3⟩ := h
  unfold qLen
  rw [h1.box.cell 0 (v := slQ g l.length cap) rfl]
  exact h2.length_eq
theorem HQ.cell {w : World} {b Q : Nat} {s : List Int} (h : HQ w b Q s) : ∃ g cap, w.cell? ⟨Q, 0, none⟩ = some (slQ g s.length cap) := by
  obtain ⟨g, cap, l, h1, h2, h3⟩ := h
  exact ⟨g, cap, by rw [← h2.length_eq]; exact h1.box.cell 0 rfl⟩
/-- a machine's cells -/
def mC (m la : Int) : Array Value := #[.int .u8 m, .int .i64 la]
/-- the machine in block M -/
abbrev Mac (w : World) (M : Nat) (m la : Int) : Prop := Blk w M (mC m la) 50
theorem Mac.below {w w' : World} {b M : Nat} {m la : Int} (h : Mac w M m la) (hb : Below b w w') (hM : M < b) : Mac w' M m la := Blk.below h hb hM
abbrev mP (M : Nat) : Value := .pointer (some ⟨M, 0, none⟩)
/-- what following leaves: the machine, and all below b but it -/
def FEnd (w : World) (b M : Nat) (m la did : Int) (e : Ending) (w' : World) : Prop := e = .returned (.int .i64 did) ∧ Mac w' M m la ∧ ∃ w2, Below b w w2 ∧ w2.grownBy w' (some M)
set_option maxHeartbeats 4000000 in
theorem follow_any (w : World) (b Q M : Nat) (m la : Int) (s : List Int) (hM : Mac w M m la) (hb : M < b) (hq : HQ w b Q s) (hs : s.Pairwise (· ≤ ·)) (hl : s.length ≤ 63) : Calls Try.prog 23 #[mP M, qP Q] w (FEnd w b M (folM m s) la (folE m s)) := by
  have HM := hide hM
  have HH := hide hq
  have HS := hide hs
  obtain ⟨R, HR⟩ : ∃ R, Hid (folM m s = R) := ⟨_, hide rfl⟩
  obtain ⟨D, HD⟩ : ∃ D, Hid (folE m s = D) := ⟨_, hide rfl⟩
  rw [HR.out, HD.out]
  have HL := hide hl
  clear hM hq hs hl
  go_enter Try.func23, Try.ntmps23
  go_wp2_with fail
  go_loopw [5] (fun _ wr => ∃ t : List Int, Hid (HQ wr b Q t) ∧ Hid (t.Pairwise (· ≤ ·)) ∧ Hid (t.length ≤ 63) ∧ Hid (folM m t = R) ∧ Hid (folE m t = D) ∧ Hid (Below b w wr)) (fun _ wr => qLen wr Q)
  case atStart => exact ⟨s, HH, HS, HL, HR, HD, hide (Below.refl _ _)⟩
  case round =>
    clear HH HS HL HR HD
    obtain ⟨t, HH, HS, HL, HR, HD, Hb⟩ := hrel
    have HMr := hide (HM.out.below Hb.out hb)
    obtain ⟨g, cap, cq⟩ := HH.out.cell
    cases t with
    | nil =>
      have hR : Hid (R = m) := hide HR.out.symm
      have hD : Hid (D = -1) := hide HD.out.symm
      have LN := hide (len_any g 0 cap wr)
      have cq0 : wr.cell? ⟨Q, 0, none⟩ = some (slQ g 0 cap) := cq
      clear cq HR HD HS HL HH
      go_wp2_with (go_at_call 26; refine LN.out.mono ?_; rintro e w3 ⟨rfl, hw3⟩; obtain rfl := hw3.symm)
      go_ret
      exact ⟨ret_int hD.out.symm, by rw [hR.out]; exact HMr.out, _, Hb.out, grown_below (Below.refl _ _) _⟩
    | cons x t =>
      have HPop := hide (hpop_any wr b Q t x HH.out (fun y hy => by have := HS.out; rw [List.pairwise_cons] at this; exact this.1 y hy) (by have := HL.out; simp at this; omega))
      have HL2 : Hid (t.length ≤ 63) := hide (by have := HL.out; simp at this; omega)
      have HS2 : Hid (t.Pairwise (· ≤ ·)) := hide (by have := HS.out; rw [List.pairwise_cons] at this; exact this.2)
      have HZ : Hid (qLen wr Q = t.length + 1) := hide (by rw [HH.out.len]; rfl)
      have NX := hide (next_any m x)
      obtain ⟨n, hn⟩ : ∃ n, Hid ((x :: t).length = n) := ⟨_, hide rfl⟩
      have hn0 : 0 < n := by rw [← hn.out]; simp
      have hn64 : n ≤ 64 := by have := HL.out; rw [hn.out] at this; omega
      rw [hn.out] at cq
      have LN := hide (len_any g n cap wr)
      have A1 := assert_one x
      clear HL HS hn HH
      go_upto_region 3 with (first | (go_at_call 26; refine LN.out.mono ?_; rintro e w3 ⟨rfl, hw3⟩; obtain rfl := hw3.symm) | (go_at_call 27; refine HPop.out.mono ?_; rintro e w4 ⟨rfl, hq4, hb4⟩; have HH4 := hide hq4; have Hb4 := hide hb4; clear hq4 hb4))
      have HM4 := hide (HMr.out.below Hb4.out hb)
      have c0 : w4.cell? ⟨M, 0, none⟩ = some (.int .u8 m) := HM4.out.cell 0 rfl
      clear cq LN HPop A1 HMr
      replace Hb := hide (Hb.out.trans Hb4.out)
      clear Hb4
      by_cases he : nx m x = m
      · have hR : Hid (folM m t = R) := hide (by rw [← HR.out]; unfold folM; rw [fol_same t he])
        have hD : Hid (folE m t = D) := hide (by rw [← HD.out]; unfold folE; rw [fol_same t he])
        rw [he] at NX
        clear HR HD he
        go_upto_region 4 with (go_at_call 8; refine (NX.out _).mono ?_; rintro e w5 ⟨rfl, hb5⟩; have HH5 := hide ((show HQ w5 b Q t from by obtain ⟨g, cap, l, h1, h2, h3⟩ := HH4.out; exact ⟨g, cap, l, h1.after hb5, h2, h3⟩)); have HM5 := hide (HM4.out.after hb5); have Hbn := hide hb5; clear hb5)
        have hsz : Hid (b ≤ w4.heap.size) := hide (by obtain ⟨g, cap, l, h1, h2, h3⟩ := HH4.out; exact Nat.le_trans h1.bq (Nat.le_of_lt h1.box.lt))
        replace Hb := hide (Hb.out.trans (Hbn.out.mono hsz.out))
        have c5 : w5.cell? ⟨M, 0, none⟩ = some (.int .u8 m) := HM5.out.cell 0 rfl
        clear c0 HM4 HH4 Hbn hsz NX
        go_wp2_with fail
        go_roundw
        case rel => exact ⟨t, HH5, HS2, HL2, hR, hD, Hb⟩
        case measure => rw [HZ.out, HH5.out.len]; omega
      · have hR : Hid (nx m x = R) := hide (by rw [← HR.out]; unfold folM; rw [fol_go t he])
        have hD : Hid (x = D) := hide (by rw [← HD.out]; unfold folE; rw [fol_go t he]; rfl)
        rw [hR.out] at NX he
        have hne : (R != m) = true := by simpa using he
        clear HR HD he hR
        go_upto_region 4 with (go_at_call 8; refine (NX.out _).mono ?_; rintro e w5 ⟨rfl, hb5⟩; have HM5 := hide (HM4.out.after hb5); have Hbn := hide hb5; clear hb5)
        have hsz : Hid (b ≤ w4.heap.size) := hide (by obtain ⟨g, cap, l, h1, h2, h3⟩ := HH4.out; exact Nat.le_trans h1.bq (Nat.le_of_lt h1.box.lt))
        replace Hb := hide (Hb.out.trans (Hbn.out.mono hsz.out))
        have c5 : w5.cell? ⟨M, 0, none⟩ = some (.int .u8 m) := HM5.out.cell 0 rfl
        have f5 := HM5.out.frozen 0
        clear c0 HM4 HH4 Hbn hsz NX
        go_wp2_with fail
        go_ret
        exact ⟨ret_int hD.out, HM5.out.set 0 _, _, Hb.out, grown_set _ _ _ _⟩
end Go.Proofs.Ythheekneanhmkaa
