/- Encode and Decode of package params. -/
import Derived.Test.YtfhcfngogfefjaaPaF
namespace Go.Proofs.Ytfhcfngogfefjaa
open Go.RowKit Go.Great

theorem cut_run (s : ByteArray) (a b : Nat) (h1 : a ≤ b) (h2 : b ≤ s.size) (wx : World) : (Instr.slice 9 (.string s) (some (.int .i64 a)) (some (.int .i64 b)) none).run Try.prog wx = .ok (.string (s.extract a b)) wx := by
  rw [run_slice_string wx 9 s .i64 .i64 a b Try.underlying9 (by omega) (by omega) (by omega)]
  simp
theorem val_int {k : IntKind} {a b : Int} (h : a = b) : Value.int k a = .int k b := by rw [h]
/-- a list that is handed on, or none -/
def souE (l : List Int) : List Int := if chk l = 0 then l else []
theorem sound_any (l : List Int) (v : Value) (w : World) (base : Nat) (hv : IRow w base v l) : Calls Try.prog 44 #[v] w fun e w' => ∃ u, e = .returned (.tuple #[u, .int .i64 (chk l)]) ∧ (chk l = 0 → u = v) ∧ IRow w' base u (souE l) ∧ Below w.heap.size w w' := by
  have hck := check_any l v w hv.ints
  have HV := hide hv
  unfold souE
  by_cases hc : chk l = 0
  · rw [if_pos hc]
    rw [hc] at hck ⊢
    obtain ⟨a, cap, rfl⟩ := hv.shape
    obtain ⟨n, HN⟩ : ∃ n, Hid (l.length = n) := ⟨_, rfl⟩
    rw [HN.out] at hck HV ⊢
    clear hc hv
    go_enter Try.func44, Try.ntmps44
    go_wp2_with fail
    refine hck.mono ?_
    rintro e w1 ⟨rfl, hB1⟩
    have HB1 := hide hB1
    clear hB1 hck
    go_wp2_with fail
    go_ret2
    exact ⟨_, rfl, fun _ => rfl, HV.out.below HB1.out, HB1.out⟩
  · rw [if_neg hc]
    obtain ⟨a, cap, rfl⟩ := hv.shape
    obtain ⟨n, HN⟩ : ∃ n, Hid (l.length = n) := ⟨_, rfl⟩
    rw [HN.out] at hck ⊢
    generalize chk l = c at hc hck ⊢
    have hne : (c != 0) = true := by simp [hc]
    have HNE := hide hc
    clear hc hv HV
    go_enter Try.func44, Try.ntmps44
    go_wp2_with fail
    refine hck.mono ?_
    rintro e w1 ⟨rfl, hB1⟩
    have HB1 := hide hB1
    clear hB1 hck
    go_wp2_with fail
    go_ret2
    exact ⟨_, rfl, fun h => absurd h HNE.out, IRow.nil _ _, HB1.out⟩
/-- what Decode answers -/
def decE (s : ByteArray) : List Int × Int := if s.size = 96 then (souE (decK s.data.toList 24), chk (decK s.data.toList 24)) else ([], 3)
theorem numAt_cut (s : ByteArray) (k : Nat) : numAt (s.extract (4 * k) (4 * k + 4)).data.toList 0 = numAt s.data.toList k := by
  have e : ∀ j, j < 4 → at8 (s.extract (4 * k) (4 * k + 4)).data.toList j = at8 s.data.toList (4 * k + j) := by
    intro j hj
    unfold at8
    rw [extract_list, Nat.add_sub_cancel_left, List.getD, List.getElem?_take, if_pos hj, List.getElem?_drop, List.getD]
  unfold numAt
  rw [show 4 * 0 = 0 from rfl, Nat.zero_add, Nat.zero_add, Nat.zero_add, e 0 (by omega), e 1 (by omega), e 2 (by omega), e 3 (by omega), Nat.add_zero]
set_option maxHeartbeats 400000 in
theorem decode_any (s : ByteArray) (w : World) : Calls Try.prog 33 #[.string s] w fun e w' => ∃ v, e = .returned (.tuple #[v, .int .i64 (decE s).2]) ∧ IRow w' w.heap.size v (decE s).1 ∧ Below w.heap.size w w' := by
  unfold decE
  by_cases hs : s.size = 96
  · rw [if_pos hs]
    simp only
    obtain ⟨i0, hi, hz0, hz1, hz2⟩ := info_parts info_int
    have HNM := hide (fun b hb W => number_any b hb W)
    have HS := hide hs
    have hsi : (s.size : Int) = 96 := by omega
    have HSO := hide (fun v W b h => sound_any (decK s.data.toList 24) v W b h)
    obtain ⟨D, HD⟩ : ∃ D, Hid (decK s.data.toList 24 = D) := ⟨_, rfl⟩
    rw [HD.out] at HSO ⊢
    generalize souE D = DL at HSO ⊢
    generalize chk D = dc at HSO ⊢
    clear hs
    go_enter Try.func33, Try.ntmps33
    go_wp2_with (at_make; refine wpList_make_own _ rfl (.const (.int .i64 0)) (.const (.int .i64 24)) 22 rfl w.heap.size 3 i0 _ 1 Try.underlying22 hi hz0 hz1 .i64 .i64 _ 24 rfl rfl (by rfl) ?b1 ?b2 ?b3 ?_)
    case b1 => rw [hz2]; omega
    case b2 => unfold maxLen; omega
    case b3 => exact Nat.le_refl _
    intro w1 hown1 hgrow1
    have HB1 : Hid (Below w.heap.size w w1) := (Below.refl w.heap.size w).grown hgrow1 (Nat.le_refl _) (fun k e => by cases e)
    have HO1 : Hid (IRow w1 w.heap.size (.slice (some ⟨w.heap.size, 0, none⟩) 0 24) []) := hown1
    clear hown1 hgrow1
    go_wp2_with fail
    go_loopw [4, 5] (fun v i wx => ∃ k : Nat, k ≤ 24 ∧ i = .int .i64 ((4 * k : Nat) : Int) ∧ v = .slice (some ⟨w.heap.size, 0, none⟩) k 24 ∧ IRow wx w.heap.size v (decK s.data.toList k) ∧ Below w.heap.size w wx) (fun _ i _ => 96 - (intOf i).toNat)
    case atStart => exact ⟨0, by omega, rfl, rfl, HO1.out, HB1.out⟩
    case round =>
      obtain ⟨k, hk, rfl, rfl, hR, hB⟩ := hrel
      have HB := hide hB
      have HRr := hide hR
      clear hR hB HO1 HB1
      by_cases hlt : k < 24
      · have hcut : ∀ wx, (Instr.slice 9 (.string s) (some (.int .i64 ((4 * k : Nat) : Int))) (some (.int .i64 ((4 * k + 4 : Nat) : Int))) none).run Try.prog wx = .ok (.string (s.extract (4 * k) (4 * k + 4))) wx := fun wx => cut_run s (4 * k) (4 * k + 4) (by omega) (by have := HS.out; omega) wx
        have hq : (s.extract (4 * k) (4 * k + 4)).size = 4 := by
          rw [← list_size, extract_list, List.length_take, List.length_drop, list_size, HS.out]; omega
        have HNk := hide (fun W => HNM.out (s.extract (4 * k) (4 * k + 4)) hq W)
        rw [numAt_cut s k] at HNk
        have HDK : Hid (decK s.data.toList (k + 1) = decK s.data.toList k ++ [numAt s.data.toList k]) := rfl
        have HLE := hide (decK_len s.data.toList k)
        generalize numAt s.data.toList k = z at HNk HDK
        generalize decK s.data.toList k = L at HDK HLE HRr
        generalize s.extract (4 * k) (4 * k + 4) = c at hcut HNk
        have hd : decide (((4 * k : Nat) : Int) < 96) = true := decide_eq_true (by omega)
        have hws := HB.out.size
        obtain ⟨p, HP⟩ : ∃ p, Hid (4 * k = p) := ⟨_, rfl⟩
        rw [show ((4 * k + 4 : Nat) : Int) = ((4 * k : Nat) : Int) + 4 by omega] at hcut
        rw [HP.out] at hcut hd ⊢
        have hpb : p ≤ 92 := by have := HP.out; omega
        clear hq
        go_wp2_with fail
        refine (HNk.out _).mono ?_
        rintro e w2 ⟨rfl, q, hw2⟩
        have HB2 : Hid (Below w.heap.size w w2) := by rw [hw2]; exact below_drewN HB.out q
        have HR2 : Hid (IRow w2 w.heap.size (.slice (some ⟨w.heap.size, 0, none⟩) k 24) L) := by
          rw [hw2]; exact HRr.out.drewN q
        have HO3 : Hid ((w2.alloc (.cells #[.int .i64 z] 3)).ownsRow w.heap.size 3 1 (.slice (some ⟨w.heap.size, 0, none⟩) k 24) k (L.map (Value.int .i64))) := by
          have := HR2.out.alloc (.cells #[.int .i64 z] 3)
          unfold IRow at this
          rw [HLE.out] at this
          exact this
        have hws2 := HB2.out.size
        clear hw2
        go_wp2_with (at_builtin; refine wpList_append_fits _ rfl (.tmp 16) (.tmp 23) 22 rfl w.heap.size 3 i0 1 Try.underlying22 hi hz1 w.heap.size k 24 _ rfl HO3.out ⟨w2.heap.size, 0, none⟩ 1 1 [.int .i64 z] rfl rfl ?c1 ?c2 ?c3 ?_)
        case c1 => exact new_cell1 _ _ rfl _ _
        case c2 => intro u hu; simp at hu; subst hu; rfl
        case c3 => omega
        intro w5 hown5 hgrow5
        have HR5 : Hid (IRow w5 w.heap.size (.slice (some ⟨w.heap.size, 0, none⟩) (k + 1) 24) (decK s.data.toList (k + 1))) := by
          show World.ownsRow _ _ _ _ _ _ _
          rw [HDK.out, List.length_append, HLE.out, List.map_append]; exact hown5
        have HB5 : Hid (Below w.heap.size w w5) := (HB2.out.alloc hws2 _).grown hgrow5 (by rw [size_alloc]; omega) (fun k e => by injection e with e; omega)
        clear hown5 hgrow5 HO3 hi hz0 hz1 hz2 hcut
        go_wp2_with fail
        go_roundw
        case rel => exact ⟨k + 1, by omega, val_int (by have := HP.out; omega), rfl, HR5.out, HB5.out⟩
        case measure => simp [intOf]; omega
      · obtain rfl : k = 24 := by omega
        rw [HD.out] at HRr
        have HSk := hide (HSO.out _ _ _ HRr.out)
        clear hi hz0 hz1 hz2 HSO HNM
        go_wp2_with fail
        refine HSk.out.mono ?_
        rintro e w2 ⟨u, rfl, _, hR2, hB2⟩
        have HB2 : Hid (Below w.heap.size w w2) := below_next HB.out (Nat.le_refl _) hB2
        have HR2 := hide hR2
        clear hB2 hR2
        go_wp2_with fail
        go_ret2
        exact ⟨u, rfl, HR2.out, HB2.out⟩
  · rw [if_neg hs]
    simp only
    have hne : ((s.size : Int) != 96) = true := by simp; omega
    clear hs
    go_enter Try.func33, Try.ntmps33
    go_wp2_with fail
    go_ret2
    exact ⟨_, rfl, IRow.nil _ _, Below.refl _ _⟩
end Go.Proofs.Ytfhcfngogfefjaa
