/- Package exec: a queue's methods by way of the interface. -/
import Derived.Test.YtcjahdgppnmdkaaEx2
set_option maxRecDepth 100000
namespace Go.Proofs.Ytcjahdgppnmdkaa
open Go.RowKit Go.Great

theorem wrap_nil (A : Array TypeId) (t : TypeId) (a : Addr) (x y : String) : Builtin.ssaWrapNilChk_ A t #[.pointer (some a), strVal x, strVal y] = pure (.pointer (some a)) := rfl
theorem method_via {t elem : TypeId} {name : String} {f : FuncId} (hm : (Try.prog.info? t).bind (fun i => (i.methods.find? (·.name == name)).map fun m => (m.path.toList.length, m.func)) = some (0, some (f, false))) (hu : Try.prog.underlying t = some (.pointer elem)) (F : Nat) (w : World) (a : Addr) (v : Value) (hl : (loadVar elem a).run Try.prog w = .ok v w) : (method (F + 1) t (.pointer (some a)) name).run Try.prog w = .ok (f, v) w := by
  cases hi : Try.prog.info? t with
  | none => rw [hi] at hm; cases hm
  | some i =>
    rw [hi] at hm
    simp only [Option.bind_some] at hm
    cases hq : i.methods.find? (·.name == name) with
    | none => rw [hq] at hm; cases hm
    | some m =>
      rw [hq] at hm
      simp only [Option.map_some, Option.some.injEq, Prod.mk.injEq] at hm
      obtain ⟨h1, h2⟩ := hm
      have hp : m.path = #[] := by
        have := List.eq_nil_of_length_eq_zero h1
        exact Array.toList_eq_nil_iff.1 this
      unfold method
      simp [typeInfo, hi, hq, hp, h2, follow, receiverAt, run_underlying hu, Place.get, wrap_nil, asAddr, hl, Result.andThen]
theorem load_queue (w : World) (Q o : Nat) (a : Option Addr) (n cap : Nat) (h : w.cell? ⟨Q, o, none⟩ = some (slQ a n cap)) : (loadVar 118 ⟨Q, o, none⟩).run Try.prog w = .ok (slQ a n cap) w := by
  simp [go_sem, h]
theorem meth_less (F : Nat) (w : World) (Q o : Nat) (a : Option Addr) (n cap : Nat) (h : w.cell? ⟨Q, o, none⟩ = some (slQ a n cap)) : (method (F + 1) 145 (qP Q o) "Less").run Try.prog w = .ok (131, slQ a n cap) w :=
  method_via (by kernel_rfl) (by kernel_rfl) F w _ _ (load_queue w Q o a n cap h)
theorem meth_swap (F : Nat) (w : World) (Q o : Nat) (a : Option Addr) (n cap : Nat) (h : w.cell? ⟨Q, o, none⟩ = some (slQ a n cap)) : (method (F + 1) 145 (qP Q o) "Swap").run Try.prog w = .ok (132, slQ a n cap) w :=
  method_via (by kernel_rfl) (by kernel_rfl) F w _ _ (load_queue w Q o a n cap h)
theorem meth_len (F : Nat) (w : World) (Q o : Nat) (a : Option Addr) (n cap : Nat) (h : w.cell? ⟨Q, o, none⟩ = some (slQ a n cap)) : (method (F + 1) 145 (qP Q o) "Len").run Try.prog w = .ok (130, slQ a n cap) w :=
  method_via (by kernel_rfl) (by kernel_rfl) F w _ _ (load_queue w Q o a n cap h)
set_option maxHeartbeats 1000000 in
theorem upQ_any (w : World) (b Q o : Nat) (pre : List Value) (ty : TypeId) (a : Option Addr) (cap : Nat) (l : List Tu) (j : Nat) (h : Qu w b Q o pre ty a cap l) (hj : j < l.length) (hU : UpI l j l.length) : Calls Try.prog 109 #[qI Q o, .int .i64 j] w fun e w' => ∃ l', QEnd w b Q o pre ty a cap l' (.tuple #[]) e w' ∧ l'.Perm l ∧ Hp l' l'.length := by
  have HQ := hide h
  have HU := hide hU
  obtain ⟨n, hn⟩ : ∃ n, Hid (l.length = n) := ⟨_, hide rfl⟩
  rw [hn.out] at hj
  have hcp := h.cap_in
  rw [hn.out] at hcp
  clear h hU
  go_enter Try.func109, Try.ntmps109
  go_wp2_with fail
  go_loopw [1] (fun vj wr => ∃ (i : Nat) (k : List Tu), vj = .int .i64 (i : Int) ∧ i < n ∧ Hid (k.length = n) ∧ Hid (Qu wr b Q o pre ty a cap k) ∧ Hid (KB b Q w wr) ∧ Hid (UpI k i n) ∧ Hid (k.Perm l)) (fun vj _ => (intOf vj).toNat)
  case atStart => exact ⟨j, l, rfl, hj, hn, HQ, hide (KB.refl _ _ _), hide (by rw [← hn.out]; exact HU.out), hide (List.Perm.refl _)⟩
  case round =>
    clear HQ HU
    obtain ⟨i, k, rfl, hi, hk, HQ, Hb, HU, HP⟩ := hrel
    by_cases h0 : i = 0
    · subst h0
      go_wp2_with fail
      go_end0
      exact ⟨k, ⟨rfl, HQ.out, Hb.out⟩, HP.out, by rw [hk.out]; exact HU.out.done (.inl rfl)⟩
    · obtain ⟨p, hp⟩ : ∃ p, (i - 1) / 2 = p := ⟨_, rfl⟩
      have e1 : ((i : Int) - 1) / 2 = (p : Int) := by omega
      have hpi : p < i := by omega
      have HS : Hid (hg k i < hg k p → UpI (sw k p i) p n) := hide (fun h => by have := HU.out.swap (by rw [hk.out]; exact Nat.le_refl _) (by omega) hi (by rw [hp]; exact h); rwa [hp] at this)
      have HT : Hid (¬ hg k i < hg k p → Hp k n) := hide (fun h => HU.out.done (.inr (by rw [hp]; omega)))
      have LE := hide (less_any wr b Q o pre ty a cap k i p HQ.out (by rw [hk.out]; exact hi) (by rw [hk.out]; omega))
      rw [hk.out] at LE
      have m1 : (method 294 145 (qP Q o) "Less").run Try.prog wr = .ok (131, slQ a n cap) wr := meth_less 293 wr Q o a n cap (by rw [← hk.out]; exact HQ.out.cellQ)
      clear hp HU HQ
      by_cases hlt : hg k i < hg k p
      · rw [decide_eq_true hlt] at LE
        replace HS := hide (HS.out hlt)
        clear HT hlt
        go_wp2_with (go_at_call 131; refine LE.out.mono ?_; rintro e w2 ⟨rfl, hQ2, hb2⟩; have SW := hide (swap_any w2 b Q o pre ty a cap k p i hQ2 (by rw [hk.out]; omega) (by rw [hk.out]; exact hi)); rw [hk.out] at SW; have m2 : (method 294 145 (qP Q o) "Swap").run Try.prog w2 = .ok (132, slQ a n cap) w2 := meth_swap 293 w2 Q o a n cap (by rw [← hk.out]; exact hQ2.cellQ); replace Hb := hide (Hb.out.trans hb2); clear hQ2 hb2 LE m1)
        refine SW.out.mono ?_
        rintro e w3 ⟨rfl, hQ3, hb3⟩
        replace Hb := hide (Hb.out.trans hb3)
        have HQ := hide hQ3
        have HK : Hid ((sw k p i).length = n) := hide (by rw [sw_len, hk.out])
        have HP2 : Hid ((sw k p i).Perm l) := hide ((sw_perm k p i (by rw [hk.out]; omega) (by rw [hk.out]; exact hi)).trans HP.out)
        clear hQ3 hb3 SW HP hk m2
        generalize sw k p i = k2 at *
        go_wp2_with fail
        go_roundw
        case rel => exact ⟨p, k2, rfl, by omega, HK, HQ, Hb, HS, HP2⟩
        case measure => simp [intOf]; omega
      · rw [decide_eq_false hlt] at LE
        replace HT := hide (HT.out hlt)
        clear HS hlt
        go_wp2_with (go_at_call 131; refine LE.out.mono ?_; rintro e w2 ⟨rfl, hQ2, hb2⟩; have HQ := hide hQ2; replace Hb := hide (Hb.out.trans hb2); clear hQ2 hb2 LE m1)
        go_end0
        exact ⟨k, ⟨rfl, HQ.out, Hb.out⟩, HP.out, by rw [hk.out]; exact HT.out⟩
end Go.Proofs.Ytcjahdgppnmdkaa
