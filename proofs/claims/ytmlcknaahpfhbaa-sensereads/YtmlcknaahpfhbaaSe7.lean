/- Package sense: Read. -/
import Derived.Test.YtmlcknaahpfhbaaSe6
import Derived.Laws.Externs
import Derived.Lib.Bytealg
namespace Go.Proofs.Ytmlcknaahpfhbaa
open Go.RowKit Go.Great

theorem goS_iff (s : Nat) (l : List UInt8) : goS s (165 :: l) = true ↔ (toS s + 3 ≤ l.length ∧ (l.take (1 + toS s)).getD 0 0 = UInt8.ofNat s ∧ (l.drop (1 + toS s)).take 2 = [loS (l.take (1 + toS s)), hiS (l.take (1 + toS s))]) := by
  unfold goS
  rw [Bool.and_eq_true, decide_eq_true_eq, beq_iff_eq, List.length_cons]
  have e1 : (165 :: l).take (toS s + 4) = 165 :: l.take (toS s + 3) := rfl
  have e2 : (165 :: l).drop 2 = l.drop 1 := rfl
  rw [e1, e2]
  have e3 : l.take (toS s + 3) = l.take (1 + toS s) ++ (l.drop (1 + toS s)).take 2 := by
    rw [show toS s + 3 = (1 + toS s) + 2 by omega, List.take_add]
  rw [e3]
  cases l with
  | nil => simp
  | cons x r =>
    have e4 : (x :: r).take (1 + toS s) = x :: r.take (toS s) := by rw [Nat.add_comm]; rfl
    have e5 : (x :: r).drop 1 = r := rfl
    rw [e4, e5]
    unfold frS
    constructor
    · rintro ⟨h1, h2⟩
      injection h2 with _ h2
      have h2 : x :: (r.take (toS s) ++ ((x :: r).drop (1 + toS s)).take 2) = UInt8.ofNat s :: (r.take (toS s) ++ [loS (UInt8.ofNat s :: r.take (toS s)), hiS (UInt8.ofNat s :: r.take (toS s))]) := h2
      injection h2 with h3 h4
      have h5 := List.append_cancel_left h4
      subst h3
      exact ⟨by omega, rfl, h5⟩
    · rintro ⟨h1, h2, h3⟩
      have h2 : x = UInt8.ofNat s := h2
      refine ⟨by omega, ?_⟩
      rw [h3, h2]
theorem open_bad (s : Nat) (hs : s < 256) (l : List UInt8) (hl : l.length ≤ 4611686018427387904) (v : Value) (w : World) (hv : Ints w v (wpS s)) (h : goS s (165 :: l) = false) : Calls Try.prog 22 #[.int .u8 (s : Int), v, .string (bs l)] w fun e w' => e = .returned (.tuple #[.slice none 0 0, .string ⟨#[]⟩, .bool false]) ∧ Below w.heap.size w w' := by
  by_cases h1 : l.length < 1 + toS s
  · exact open_short1 s l v w hv h1
  · by_cases h2 : l.length < toS s + 3
    · exact open_short2 s l hl v w hv ⟨by omega, h2⟩
    · by_cases h3 : (l.take (1 + toS s)).getD 0 0 = UInt8.ofNat s
      · refine open_check s l hl v w hv (by omega) h3 hs fun h4 => ?_
        rw [(goS_iff s l).2 ⟨by omega, h3, h4⟩] at h
        cases h
      · exact open_kind s l hl v w hv (by omega) h3 hs
theorem open_fine (s : Nat) (hs : s < 256) (l : List UInt8) (hl : l.length ≤ 4611686018427387904) (v : Value) (w : World) (hv : Ints w v (wpS s)) (h : goS s (165 :: l) = true) : Calls Try.prog 22 #[.int .u8 (s : Int), v, .string (bs l)] w fun e w' => ∃ vn, e = .returned (.tuple #[vn, .string (bs (l.drop (toS s + 3))), .bool true]) ∧ IRow w' w.heap.size vn (fieK (wsS s) ((l.drop 1).take (toS s)) (wsS s).length) ∧ Below w.heap.size w w' := by
  obtain ⟨h1, h2, h3⟩ := (goS_iff s l).1 h
  exact open_good s l hl v w hv h1 h2 hs h3
theorem index_any (s : ByteArray) (w : World) : Calls Try.prog 21 #[.string s, .int .u8 165] w fun e w' => e = .returned (.int .i64 (Lib.indexByte s.data.toList 165)) ∧ w' = w := by
  have hx : ∀ wx : World, (callFunc 42 #[.string s, .int .u8 165]).run Try.prog wx = .ok (.value (.int .i64 (Lib.indexByte s.data.toList 165))) wx := by
    intro wx
    rw [run_callFunc_extern (fn := Try.f42) (e := Extern.BytealgIndexByte.indexByte) (by kernel_rfl) (by kernel_rfl) (by kernel_rfl) (by kernel_rfl) (by kernel_rfl)]
    rw [Lib.run_indexByteString]
    rfl
  go_enter Try.func21, Try.ntmps21
  go_wp2
  go_ret
  exact ⟨rfl, rfl⟩
/-- where the next A5 is -/
theorem next_a5 : ∀ (l : List UInt8), (Lib.indexByte l 165 = -1 ∧ ∀ b ∈ l, b ≠ 165) ∨ ∃ k : Nat, Lib.indexByte l 165 = k ∧ k < l.length ∧ (∀ b ∈ l.take k, b ≠ 165) ∧ l = l.take k ++ 165 :: l.drop (k + 1)
  | [] => .inl ⟨rfl, by simp⟩
  | x :: t => by
    by_cases hx : x = 165
    · subst hx
      exact .inr ⟨0, rfl, by simp, by simp, rfl⟩
    · have hi : Lib.indexByte (x :: t) 165 = if Lib.indexByte t 165 == -1 then -1 else Lib.indexByte t 165 + 1 := by
        rw [Lib.indexByte, if_neg (by simpa using hx)]
      rcases next_a5 t with ⟨h1, h2⟩ | ⟨k, h1, h2, h3, h4⟩
      · left
        rw [hi, h1]
        refine ⟨rfl, fun b hb => ?_⟩
        rcases List.mem_cons.1 hb with rfl | hb
        · exact hx
        · exact h2 b hb
      · right
        refine ⟨k + 1, ?_, by simpa using h2, ?_, ?_⟩
        · rw [hi, h1]
          have : ((k : Int) == -1) = false := by rw [beq_eq_false_iff_ne]; omega
          rw [this]
          rfl
        · intro b hb
          rw [List.take_succ_cons] at hb
          rcases List.mem_cons.1 hb with rfl | hb
          · exact hx
          · exact h3 b hb
        · rw [List.take_succ_cons, List.drop_succ_cons, List.cons_append, ← h4]
theorem IRow.lower {w : World} {base base' : Nat} {v : Value} {l : List Int} (h : IRow w base v l) (hb : base' ≤ base) : IRow w base' v l :=
  ⟨h.1, h.2.imp id (fun ⟨g, cap, cur, q1, q2, q3⟩ => ⟨g, cap, cur, q1, Nat.le_trans hb q2, q3⟩)⟩
theorem reS_all (s : Nat) (l : List UInt8) (r : RdS) (h : ∀ b ∈ l, b ≠ 165) : reS s l r = r := by
  have := reS_quiet s l [] r h
  rwa [List.append_nil, reS_nil] at this
/-- a sensor that is none: nothing is read, and nothing is bad in it -/
def rdR (s : Nat) (l : List UInt8) : RdS := if (wsS s).length = 0 then ⟨[], false, 0⟩ else reS s l ⟨[], false, 0⟩
def lenOf : Value → Nat
  | .string s => s.size
  | _ => 0
set_option maxRecDepth 100000 in
set_option maxHeartbeats 4000000 in
theorem read_any (s : Nat) (hs : s < 256) (l : List UInt8) (hl : l.length ≤ 4611686018427387904) (w : World) : Calls Try.prog 9 #[.int .u8 (s : Int), .string (bs l)] w fun e w' => ∃ v, e = .returned (.tuple #[v, .bool (rdR s l).is, .int .i64 ((rdR s l).bad : Int)]) ∧ IRow w' w.heap.size v (rdR s l).out ∧ Below w.heap.size w w' := by
  have hWI := fun W => widths_any s hs W
  unfold rdR
  by_cases h1 : (wsS s).length = 0
  · rw [if_pos h1]
    have HL := hide h1
    clear h1
    generalize bs l = d
    go_enter Try.func9, Try.ntmps9
    go_wp2_with fail
    refine (hWI _).mono ?_
    rintro e w1 ⟨v, rfl, hI, hB⟩
    obtain ⟨av, cv, rfl, _⟩ := hI
    rw [wpS_len, HL.out]
    have HB := hide hB
    clear hB hWI
    go_wp2_with fail
    go_ret3
    exact ⟨_, rfl, IRow.nil _ _, HB.out⟩
  · rw [if_neg h1]
    have hl0 : (((wsS s).length : Int) == 0) = false := by rw [beq_eq_false_iff_ne]; omega
    have HPos := hide h1
    have hm5 := wsS_len s
    have HR : Hid (reS s l ⟨[], false, 0⟩ = reS s l ⟨[], false, 0⟩) := rfl
    obtain ⟨R, hR⟩ : ∃ R, reS s l ⟨[], false, 0⟩ = R := ⟨_, rfl⟩
    have HRR := hide hR
    rw [hR]
    clear hR HR h1
    go_enter Try.func9, Try.ntmps9
    go_wp2_with fail
    refine (hWI _).mono ?_
    rintro e w1 ⟨v, rfl, hI, hB⟩
    have HI := hide hI
    have HB := hide hB
    obtain ⟨av, cv, rfl, _⟩ := hI
    rw [wpS_len] at HI ⊢
    generalize hmm : (wsS s).length = m at *
    have HMM := hide hmm
    clear hB hWI hmm
    go_wp2_with fail
    go_loopw [1, 8, 9] (fun d vl bd wx => ∃ (l' : List UInt8) (r : RdS), d = .string (bs l') ∧ bd = .int .i64 (r.bad : Int) ∧ IRow wx w.heap.size vl r.out ∧ Hid (Below w1.heap.size w1 wx) ∧ Hid (reS s l' r = R) ∧ Hid (l'.length + r.bad ≤ l.length ∧ r.is = decide (0 < r.out.length) ∧ r.out.length ≤ 5)) (fun d _ _ _ => lenOf d)
    case atStart => exact ⟨l, ⟨[], false, 0⟩, rfl, rfl, IRow.nil _ _, hide (Below.refl _ _), hide HRR.out, hide ⟨by simp, rfl, by simp⟩⟩
    case round =>
      obtain ⟨l', r, rfl, rfl, hRow, HBX, HRS, HLL⟩ := hrel
      have HRow := hide hRow
      clear hRow
      have IX := fun W => index_any (bs l') W
      rw [bs_list] at IX
      have hbad : r.bad ≤ 4611686018427387904 := by have := HLL.out.1; omega
      obtain ⟨va, vc, hve⟩ := HRow.out.shape
      subst hve
      have hol : r.out.length ≤ 5 := HLL.out.2.2
      rcases next_a5 l' with ⟨h1, h2⟩ | ⟨k, h1, h2, h3, h4⟩
      · rw [h1] at IX
        have HE : Hid (R = r) := hide (by rw [← HRS.out, reS_all s l' r h2])
        clear h1 h2
        generalize bs l' = d at *
        have HIS : Hid (r.is = decide (0 < r.out.length)) := hide HLL.out.2.1
        generalize hq : r.out.length = q at *
        generalize hb : r.bad = bb at *
        go_wp2_with fail
        refine (IX _).mono ?_
        rintro e w2 ⟨rfl, hw2⟩
        obtain rfl := hw2.symm
        go_wp2_with fail
        go_ret3
        refine ⟨_, ?_, by rw [HE.out]; exact HRow.out, below_next HB.out (Nat.le_refl _) HBX.out⟩
        rw [HE.out, HIS.out, hb]
        simp
      · rw [h1] at IX
        have hsl : ∀ wx, (Instr.slice 9 (.string (bs l')) (some (.int .i64 ((k + 1 : Nat) : Int))) none none).run Try.prog wx = .ok (.string (bs (l'.drop (k + 1)))) wx := fun wx => by
          rw [from_run (bs l') (k + 1) (by rw [bs_size]; omega) wx, ext_drop]
        have hk1 : (k : Int) + 1 = ((k + 1 : Nat) : Int) := by omega
        have hkl : (k : Int) ≤ 4611686018427387904 := by have := HLL.out.1; omega
        have HD : Hid (reS s (165 :: l'.drop (k + 1)) r = R) := hide (by
          rw [← HRS.out]
          conv => rhs; rw [h4]
          rw [reS_quiet s _ _ r h3])
        have HLN : Hid ((l'.drop (k + 1)).length < l'.length ∧ (l'.drop (k + 1)).length + 1 ≤ l'.length) := hide (by rw [List.length_drop]; omega)
        have hl2 : (l'.drop (k + 1)).length ≤ 4611686018427387904 := by have := HLN.out; have := HLL.out.1; omega
        generalize l'.drop (k + 1) = l2 at *
        generalize hk2 : k + 1 = k2 at *
        have HSZ : Hid ((bs l').size = l'.length) := hide (bs_size l')
        generalize bs l' = d at *
        clear h1 h2 h3 h4 hk2
        cases hg : goS s (165 :: l2) with
        | false =>
          have OB := fun W hv => open_bad s hs l2 hl2 (.slice av m cv) W hv hg
          have HRB : Hid (reS s l2 ⟨r.out, r.is, r.bad + 1⟩ = R) := hide (by rw [← reS_bad s l2 r hg]; exact HD.out)
          clear hg
          go_wp2_with fail
          refine (IX _).mono ?_
          rintro e w2 ⟨rfl, hw2⟩
          obtain rfl := hw2.symm
          go_wp2_with fail
          refine (OB _ (HI.out.below HBX.out)).mono ?_
          rintro e w3 ⟨rfl, hB3⟩
          have HB3 := hide hB3
          clear hB3
          go_wp2_with fail
          go_roundw
          case rel => exact ⟨l2, ⟨r.out, r.is, r.bad + 1⟩, rfl, by go_num, HRow.out.below HB3.out, hide (below_next HBX.out (Nat.le_refl _) HB3.out), HRB, hide ⟨by have := HLL.out.1; have := HLN.out.2; show l2.length + (r.bad + 1) ≤ _; omega, HLL.out.2⟩⟩
          case measure => show (bs l2).size < d.size; rw [HSZ.out, bs_size]; exact HLN.out.1
        | true =>
          have OF := fun W hv => open_fine s hs l2 hl2 (.slice av m cv) W hv hg
          have HRB : Hid (reS s (l2.drop (toS s + 3)) ⟨fieK (wsS s) ((l2.drop 1).take (toS s)) m, true, r.bad⟩ = R) := hide (by have := reS_good s l2 r hg; rw [HD.out, HMM.out] at this; exact this.symm)
          rw [HMM.out] at OF
          have HFL : Hid ((fieK (wsS s) ((l2.drop 1).take (toS s)) m).length = m) := hide (fieK_len _ _ _)
          generalize fieK (wsS s) ((l2.drop 1).take (toS s)) m = F at *
          clear hg
          go_wp2_with fail
          refine (IX _).mono ?_
          rintro e w2 ⟨rfl, hw2⟩
          obtain rfl := hw2.symm
          go_wp2_with fail
          refine (OF _ (HI.out.below HBX.out)).mono ?_
          rintro e w3 ⟨vn, rfl, hIR, hB3⟩
          have HB3 := hide hB3
          have HIR := hide hIR
          obtain ⟨va2, vc2, hve⟩ := IRow.shape hIR
          subst hve
          clear hB3 hIR
          go_wp2_with fail
          go_roundw
          case rel => exact ⟨l2.drop (toS s + 3), ⟨F, true, r.bad⟩, rfl, rfl, HIR.out.lower (Nat.le_trans HB.out.size HBX.out.size), hide (below_next HBX.out (Nat.le_refl _) HB3.out), HRB, hide ⟨by have := HLL.out.1; have := HLN.out.2; show (l2.drop (toS s + 3)).length + r.bad ≤ _; rw [List.length_drop]; omega, by show true = decide (0 < F.length); rw [HFL.out, decide_eq_true (Nat.pos_of_ne_zero HPos.out)], by show F.length ≤ 5; rw [HFL.out]; exact hm5⟩⟩
          case measure => show (bs (l2.drop (toS s + 3))).size < d.size; rw [HSZ.out, bs_size, List.length_drop]; have := HLN.out.1; omega
end Go.Proofs.Ytmlcknaahpfhbaa
