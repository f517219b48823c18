/- Package container/heap: Push and Pop over a queue of turns. -/
import Derived.Test.YtcjahdgppnmdkaaEx5
set_option maxRecDepth 100000
namespace Go.Proofs.Ytcjahdgppnmdkaa
open Go.RowKit Go.Great

theorem meth_push (w : World) (Q o : Nat) : (method 294 145 (qP Q o) "Push").run Try.prog w = .ok (138, qP Q o) w := by kernel_rfl
theorem meth_pop (w : World) (Q o : Nat) : (method 294 145 (qP Q o) "Pop").run Try.prog w = .ok (137, qP Q o) w := by kernel_rfl
/-- a heap of the numbers s, in a queue -/
def HQ (w : World) (b Q o : Nat) (pre : List Value) (ty : TypeId) (s : List Tu) : Prop := ∃ a cap l, Qu w b Q o pre ty a cap l ∧ l.Perm s ∧ Hp l l.length
/-- what a heap's function leaves -/
def HEnd (w : World) (b Q o : Nat) (pre : List Value) (ty : TypeId) (s : List Tu) (v : Value) (e : Ending) (w' : World) : Prop := e = .returned v ∧ HQ w' b Q o pre ty s ∧ KB b Q w w'
set_option maxHeartbeats 2000000 in
theorem hpush_any (w : World) (b Q o : Nat) (pre : List Value) (ty : TypeId) (s : List Tu) (x : Tu) (h : HQ w b Q o pre ty s) (hl : s.length ≤ 63) (hok : TOk x) : Calls Try.prog 88 #[qI Q o, tuI x] w (HEnd w b Q o pre ty (x :: s) (.tuple #[])) := by
  obtain ⟨a, cap, l, hq, hp, hh⟩ := h
  have hn : l.length ≤ 63 := by rw [hp.length_eq]; exact hl
  have HP := hide hp
  have HH := hide hh
  have PU := hide (pushM_any w b Q o pre ty a cap l x hq (by omega) hok)
  have m1 := meth_push w Q o
  clear hq hp hh hl
  go_enter Try.func88, Try.ntmps88
  go_wp2_with fail
  refine PU.out.mono ?_
  rintro e w2 ⟨a2, cap2, rfl, hq2, hb2⟩
  have m2 : (method 294 145 (qP Q o) "Len").run Try.prog w2 = .ok (130, slQ a2 (l ++ [x]).length cap2) w2 := meth_len 293 w2 Q o a2 _ cap2 (hq2.cellQ)
  have UP := hide (upQ_any w2 b Q o pre ty a2 cap2 (l ++ [x]) l.length hq2 (by simp) (by rw [List.length_append]; exact HH.out.push x))
  have LN := hide (len_any a2 (l ++ [x]).length cap2 w2)
  have Hb := hide hb2
  have HP2 : Hid ((l ++ [x]).Perm (x :: s)) := hide (List.perm_append_comm.trans (HP.out.cons x))
  obtain ⟨N, hN⟩ : ∃ N, (l ++ [x]).length = N := ⟨_, rfl⟩
  obtain ⟨n, hn'⟩ : ∃ n, l.length = n := ⟨_, rfl⟩
  have e1 : (N : Int) - 1 = (n : Int) := by rw [← hN, ← hn', List.length_append]; simp
  have hN64 : N ≤ 64 := by rw [← hN, List.length_append]; simpa using hn
  rw [hN] at LN m2
  rw [hn'] at UP
  generalize l ++ [x] = k at *
  clear m1 PU hq2 hb2 hN hn hn' HH HP
  go_wp2_with (go_at_call 130; refine LN.out.mono ?_; rintro e w3 ⟨rfl, hw3⟩; obtain rfl := hw3.symm)
  refine UP.out.mono ?_
  rintro e w4 ⟨l4, ⟨rfl, hq4, hb4⟩, hp4, hh4⟩
  have HF : Hid (HEnd w b Q o pre ty (x :: s) (.tuple #[]) (.returned (.tuple #[])) w4) := hide ⟨rfl, ⟨a2, cap2, l4, hq4, hp4.trans HP2.out, hh4⟩, Hb.out.trans hb4⟩
  clear hq4 hb4 hp4 hh4 UP HP2 Hb
  go_wp2_with fail
  go_end0
  exact HF.out
set_option maxHeartbeats 2000000 in
theorem hpop_any (w : World) (b Q o : Nat) (pre : List Value) (ty : TypeId) (s : List Tu) (x : Tu) (h : HQ w b Q o pre ty (x :: s)) (hx : ∀ y ∈ s, ky x < ky y) (hl : s.length ≤ 63) : Calls Try.prog 86 #[qI Q o] w (HEnd w b Q o pre ty s (tuI x)) := by
  obtain ⟨a, cap, l, hq, hp, hh⟩ := h
  obtain ⟨n, hn⟩ : ∃ n, s.length = n := ⟨_, rfl⟩
  have hlen : l.length = n + 1 := by rw [hp.length_eq, ← hn]; rfl
  have hx0 : te l 0 = x := by
    have hf := hh.first hp (by omega)
    have h1 := hf.2 x (by simp)
    rcases List.mem_cons.1 hf.1 with e | e
    · exact e
    · have h2 := hx _ e
      unfold hg at h1
      omega
  have m1 : (method 294 145 (qP Q o) "Len").run Try.prog w = .ok (130, slQ a l.length cap) w := meth_len 293 w Q o a _ cap (hq.cellQ)
  have m2 : (method 294 145 (qP Q o) "Swap").run Try.prog w = .ok (132, slQ a l.length cap) w := meth_swap 293 w Q o a _ cap (hq.cellQ)
  have LN := hide (len_any a l.length cap w)
  have SW : Hid (Calls Try.prog 132 #[slQ a l.length cap, .int .i64 0, .int .i64 n] w (QEnd w b Q o pre ty a cap (sw l 0 n) (.tuple #[]))) := hide (swap_any w b Q o pre ty a cap l 0 n hq (by omega) (by omega))
  have HD : Hid (DnI (sw l 0 n) 0 n) := hide (by rw [hlen] at hh; exact hh.pop hlen)
  have HS : Hid ((sw l 0 n).length = n + 1) := hide (by rw [sw_len, hlen])
  have HPm : Hid ((sw l 0 n).Perm l) := hide (sw_perm l 0 n (by omega) (by omega))
  have HL : Hid (te (sw l 0 n) n = x) := hide (by rw [te_sw _ _ _ _ (by omega) (by omega), if_pos rfl, hx0])
  have HPe : Hid (∀ m : List Tu, m.Perm (sw l 0 n) → te m n = x → Hp m n → Hp (m.take n) (m.take n).length ∧ (m.take n).Perm s) := hide (fun m h1 h2 h3 => by
    obtain ⟨r1, r2, r3⟩ := pop_end (l := l) (m := m) hlen (h1.trans HPm.out) (by rw [h2, hx0]) h3
    rw [r3]
    refine ⟨r1, ?_⟩
    rw [hx0] at r2
    exact (List.Perm.cons_inv (r2.symm.trans hp)))
  obtain ⟨N, hN⟩ : ∃ N, l.length = N := ⟨_, rfl⟩
  rw [hN] at LN SW m1 m2 hlen
  have e1 : (N : Int) - 1 = (n : Int) := by omega
  have hn64 : n ≤ 63 := by omega
  have hN64 : N ≤ 64 := by omega
  generalize sw l 0 n = k at *
  clear hq hp hh hx hl hn hx0 hN HPm hlen
  go_enter Try.func86, Try.ntmps86
  go_wp2_with (go_at_call 130; refine LN.out.mono ?_; rintro e w3 ⟨rfl, hw3⟩; obtain rfl := hw3.symm)
  refine SW.out.mono ?_
  rintro e w4 ⟨rfl, hq4, hb4⟩
  have Hb := hide hb4
  have DN := hide (downQ_any w4 b Q o pre ty a cap n k hq4 HS.out HD.out (by omega))
  clear hq4 hb4 m1 m2 SW LN HD
  go_wp2_with fail
  refine DN.out.mono ?_
  rintro e w5 ⟨d, k5, ⟨rfl, hq5, hb5⟩, hp5, hh5, he5⟩
  have PO := hide (popM_any w5 b Q o pre ty a cap n k5 hq5 (by rw [hp5.length_eq]; exact HS.out) (by omega))
  have HE5 : te k5 n = x := by rw [he5]; exact HL.out
  rw [HE5] at PO
  replace Hb := hide (Hb.out.trans hb5)
  have HF := hide (HPe.out k5 hp5 HE5 hh5)
  have m3 := meth_pop w5 Q o
  generalize k5.take n = k6 at *
  clear hq5 hb5 hp5 hh5 he5 HE5 HPe HL HS DN
  go_wp2_with fail
  refine PO.out.mono ?_
  rintro e w6 ⟨rfl, hq6, hb6⟩
  have HG : Hid (HEnd w b Q o pre ty s (tuI x) (.returned (tuI x)) w6) := hide ⟨rfl, ⟨a, cap, k6, hq6, HF.out.2, HF.out.1⟩, Hb.out.trans hb6⟩
  clear hq6 hb6 PO HF Hb m3
  go_wp2_with fail
  go_ret
  exact HG.out
end Go.Proofs.Ytcjahdgppnmdkaa
