/- Package mission: number, appendNumbers, Encode. -/
import Derived.Test.YtnekjfidobglmaaMi3
import Derived.Test.YtnekjfidobglmaaMiB
namespace Go.Proofs.Ytnekjfidobglmaa
open Go.RowKit Go.Great Go.Maps

theorem or32 (x y : Nat) (k : Nat) (hy : y < 2 ^ k) (hx : x * 2 ^ k + y < 4294967296) : bits .or .u32 ((x * 2 ^ k : Nat) : Int) (y : Int) = ((x * 2 ^ k + y : Nat) : Int) := by
  have e1 : BitVec.ofInt 32 ((x * 2 ^ k : Nat) : Int) = BitVec.ofNat 32 (x * 2 ^ k) := by
    apply BitVec.eq_of_toNat_eq; rw [BitVec.toNat_ofInt, BitVec.toNat_ofNat]; omega
  have e2 : BitVec.ofInt 32 (y : Int) = BitVec.ofNat 32 y := by
    apply BitVec.eq_of_toNat_eq; rw [BitVec.toNat_ofInt, BitVec.toNat_ofNat]; omega
  show IntKind.u32.wrap ((BitVec.ofInt 32 ((x * 2 ^ k : Nat) : Int) ||| BitVec.ofInt 32 (y : Int)).toNat : Int) = _
  rw [e1, e2, BitVec.toNat_or, BitVec.toNat_ofNat, BitVec.toNat_ofNat, Nat.mod_eq_of_lt (by omega : x * 2 ^ k < 2 ^ 32), Nat.mod_eq_of_lt (by omega : y < 2 ^ 32)]
  have e3 : x * 2 ^ k ||| y = x * 2 ^ k + y := by
    rw [Nat.mul_comm]; exact (Nat.two_pow_add_eq_or_of_lt hy x).symm
  rw [e3]
  show IntKind.u32.wrap _ = _
  rw [IntKind.wrap_u32]
  omega
def pre (l : List UInt8) : Nat → Nat
  | 0 => 0
  | i + 1 => pre l i * 256 + (at8 l i).toNat
theorem pre_lt (l : List UInt8) : ∀ i, i ≤ 4 → pre l i < 256 ^ i
  | 0, _ => by simp [pre]
  | i + 1, h => by
    have := pre_lt l i (by omega)
    have hb := (at8 l i).toNat_lt
    unfold pre
    rw [Nat.pow_succ]
    omega
theorem pre_four (l : List UInt8) : ((pre l 4 : Nat) : Int) = natB (at8 l 0) (at8 l 1) (at8 l 2) (at8 l 3) := by
  unfold natB
  simp only [pre]
  omega
theorem or_one (x : Nat) (b : UInt8) (hx : x < 16777216) : bits .or .u32 ((x : Int) * 256 % 4294967296) ((b.toNat : Int) % 4294967296) = ((x * 256 + b.toNat : Nat) : Int) := by
  have hb := b.toNat_lt
  have := or32 x b.toNat 8 (by omega) (by omega)
  rw [show (x : Int) * 256 % 4294967296 = ((x * 2 ^ 8 : Nat) : Int) by omega, show (b.toNat : Int) % 4294967296 = (b.toNat : Int) by omega, this]
theorem at8_get (s : ByteArray) (i : Nat) (h : i < s.size) : s[i] = at8 s.data.toList i := by
  unfold at8
  have h1 : i < s.data.toList.length := by rw [list_size]; exact h
  rw [List.getD, List.getElem?_eq_getElem h1]
  rfl
set_option maxHeartbeats 2000000 in
theorem number_any (s : ByteArray) (hs : 4 ≤ s.size) (hm : s.size ≤ 1000000000) (w : World) : Calls Try.prog 36 #[.string s] w fun e w' => e = .returned (.int .i64 (num4 s.data.toList 0)) ∧ w' = w := by
  have HG : Hid (num4 s.data.toList 0 = sgn ((pre s.data.toList 4 : Nat) : Int)) := hide (by rw [pre_four]; rfl)
  rw [HG.out]
  have HL := hide (fun i hi => pre_lt s.data.toList i hi)
  have HP : Hid (∀ i, pre s.data.toList (i + 1) = pre s.data.toList i * 256 + (at8 s.data.toList i).toNat) := fun i => rfl
  generalize pre s.data.toList = P at *
  clear HG
  go_enter Try.func36, Try.ntmps36
  go_wp2_with fail
  go_loopw [3, 5] (fun vw vi wx => ∃ i : Nat, i ≤ 4 ∧ vi = .int .i64 (i : Int) ∧ vw = .int .u32 ((P i : Nat) : Int) ∧ wx = w) (fun _ vi _ => 4 - (intOf vi).toNat)
  case atStart => exact ⟨0, Nat.zero_le _, rfl, (by have := HL.out 0 (by omega); simp at this; rw [this]; rfl), rfl⟩
  case round =>
    obtain ⟨i, hi, rfl, rfl, rfl⟩ := hrel
    by_cases hl : i < 4
    · have hx : P i < 16777216 := by
        have := HL.out i hi
        have : (256 : Nat) ^ i ≤ 256 ^ 3 := Nat.pow_le_pow_right (by omega) (by omega)
        omega
      have hq : i < s.size := by omega
      have HQ : Hid (∀ h : i < s.size, s[i]'h = at8 s.data.toList i) := hide (fun h => at8_get s i h)
      have HPi := hide (HP.out i)
      generalize at8 s.data.toList i = d at *
      generalize P i = x at *
      go_wp2_with fail
      refine ⟨⟨i + 1, by omega, by go_num, ?_, trivial⟩, by simp [intOf]; omega⟩
      rw [HPi.out, HQ.out hq, show (x : Int) * 256 = (x : Int) * 256 % 4294967296 by omega, or_one x d hx]
    · obtain rfl : i = 4 := by omega
      have h4 := HL.out 4 (by omega)
      obtain ⟨x, HX⟩ : ∃ x, Hid (P 4 = x) := ⟨_, hide rfl⟩
      rw [HX.out] at h4 ⊢
      clear HP HL
      go_wp2_with fail
      go_ret
      refine ⟨ret_int ?_, rfl⟩
      rw [HX.out]
      unfold sgn wrap64 wrap32
      split <;> omega
/-- three numbers, appended one behind the other -/
def three (a b c : Int) (k : Nat) : Int := if k = 0 then a else if k = 1 then b else c
def pre3 (l : List UInt8) (a b c : Int) : Nat → List UInt8
  | 0 => l
  | k + 1 => pre3 l a b c k ++ encB (three a b c k)
theorem pre3_len (l : List UInt8) (a b c : Int) (k : Nat) : (pre3 l a b c k).length = l.length + 4 * k := by
  induction k with
  | zero => rfl
  | succ k ih => rw [pre3, List.length_append, ih, encB_len]; omega
theorem pre3_all (l : List UInt8) (a b c : Int) : pre3 l a b c 3 = l ++ (encB a ++ encB b ++ encB c) := by simp [pre3, three, List.append_assoc]
theorem three_cell {w : World} {g : Nat} {a b c : Int} (h : Blk w g #[.int .i64 a, .int .i64 b, .int .i64 c] 3) (k : Nat) (hk : k < 3) : w.cell? ⟨g, k, none⟩ = some (.int .i64 (three a b c k)) := by
  have : k = 0 ∨ k = 1 ∨ k = 2 := by omega
  rcases this with rfl | rfl | rfl
  · exact h.cell 0 rfl
  · exact h.cell 1 rfl
  · exact h.cell 2 rfl
theorem new_cell4 (w : World) (g : Nat) (hg : g = w.heap.size) (a b c d : Value) (t : TypeId) : ∀ j u, [a, b, c, d][j]? = some u → (w.alloc (.cells #[a, b, c, d] t)).cell? ((⟨g, 0, none⟩ : Addr).add j) = some u := by
  subst hg
  intro j u hu
  rw [show (Addr.add ⟨w.heap.size, 0, none⟩ j) = ⟨w.heap.size, j, none⟩ by simp [Addr.add]; exact fun h => h.symm, World.cell?_alloc_new]
  simpa using hu
set_option maxRecDepth 100000 in
set_option maxHeartbeats 4000000 in
theorem appN_any (l : List UInt8) (hl : l.length ≤ 8192) (v : Value) (base : Nat) (a b c : Int) (g : Nat) (w : World) (hR : BRow w base v l) (hbase : base ≤ w.heap.size) (hG : Blk w g #[.int .i64 a, .int .i64 b, .int .i64 c] 3) : Calls Try.prog 32 #[v, .slice (some ⟨g, 0, none⟩) 3 3] w fun e w' => ∃ v', e = .returned v' ∧ BRow w' base v' (l ++ (encB a ++ encB b ++ encB c)) ∧ Below base w w' := by
  obtain ⟨i0, hi, hz0, hz1, hz2⟩ := info_parts info_byte
  rw [← pre3_all]
  obtain ⟨m, hm⟩ : ∃ m : Nat, m = 3 := ⟨_, rfl⟩
  obtain ⟨ao, cap, rfl⟩ := hR.shape
  have HR := hide hR
  have HG := hide hG
  clear hR hG
  rw [← hm]
  have hm2 : m ≤ 3 := by omega
  clear hm
  have HL0 := hide hl
  go_enter Try.func32, Try.ntmps32
  go_wp2_with fail
  go_loopw [0, 9] (fun v i wx => ∃ k : Nat, k ≤ m ∧ i = .int .i64 k ∧ Hid (BRow wx base v (pre3 l a b c k)) ∧ Hid (Below base w wx) ∧ Hid (Blk wx g #[.int .i64 a, .int .i64 b, .int .i64 c] 3)) (fun _ i _ => m - (intOf i).toNat)
  case atStart => exact ⟨0, Nat.zero_le _, rfl, HR.out, hide (Below.refl _ _), HG⟩
  case round =>
    obtain ⟨k, hk, rfl, hR, hB, hG⟩ := hrel
    clear HR HG
    have hws := hB.out.size
    by_cases hlt : k < m
    · have d0 := three_cell hG.out k (by omega)
      have HP : Hid (pre3 l a b c (k + 1) = pre3 l a b c k ++ encB (three a b c k)) := rfl
      have HPL : Hid ((pre3 l a b c k).length ≤ 8204) := hide (by rw [pre3_len]; have := HL0.out; omega)
      have HCe := hide (encB_cells (three a b c k))
      generalize three a b c k = x at d0 HP HCe
      generalize pre3 l a b c k = q at HP HPL hR
      have HO : ∀ o, Hid ((wr.alloc o).ownsRow base 5 1 u0 q.length (bytesV q)) := fun o => hR.out.alloc o
      have HGA : ∀ o, Hid (Blk (wr.alloc o) g #[.int .i64 a, .int .i64 b, .int .i64 c] 3) := fun o => hide (hG.out.alloc o)
      clear hR hG
      go_wp2_with (at_builtin; refine wpList_append_own _ rfl (.tmp 13) (.tmp 25) 61 rfl base 5 i0 _ 1 1 Try.underlying61 hi hz0 hz1 hz2 rfl (by decide) _ _ _ rfl (HO _).out ⟨wr.heap.size, 0, none⟩ 4 4 [.int .u8 (x / 16777216 % 256), .int .u8 (x / 65536 % 256), .int .u8 (x / 256 % 256), .int .u8 (x % 256)] rfl rfl ?c1 ?c2 ?c3 ?c4 ?c5 ?_)
      case c1 => exact new_cell4 _ _ rfl _ _ _ _ _
      case c2 => intro u hu; simp at hu; rcases hu with rfl | rfl | rfl | rfl <;> rfl
      case c3 => have := HPL.out; unfold maxLen; omega
      case c4 => have := HPL.out; omega
      case c5 => rw [size_alloc]; omega
      intro v' w5 hown5 hgrow5 _
      have HR5 : Hid (BRow w5 base v' (pre3 l a b c (k + 1))) := by
        show World.ownsRow _ _ _ _ _ _ _
        rw [HP.out, List.length_append, bytesV_app, HCe.out]; exact hown5
      have HB5 : Hid (Below base w w5) := hide (((hB.out.alloc (by omega) _).grown hgrow5 (by rw [size_alloc]; omega) (fun j e => ((HO (.cells #[] 5)).out.lt j e).1)))
      have HG5 : Hid (Blk w5 g #[.int .i64 a, .int .i64 b, .int .i64 c] 3) := hide (blk_grown (HO _).out (HGA _).out (by decide) hgrow5)
      obtain ⟨ao5, cap5, rfl⟩ := HR5.out.shape
      clear hown5 hgrow5 HO HGA hi hz0 hz1 hz2
      go_wp2_with fail
      go_roundw
      case rel => exact ⟨k + 1, by omega, by go_num, HR5, HB5, HG5⟩
      case measure => simp [intOf]; omega
    · obtain rfl : k = m := by omega
      obtain ⟨ao5, cap5, rfl⟩ := hR.out.shape
      clear hi hz0 hz1 hz2
      go_wp2_with fail
      go_ret
      exact ⟨_, rfl, hR.out, hB.out⟩
theorem encR_cons {L : List It} {k : Nat} {x : It} (h : L[k]? = some x) : encR (L.take (k + 1)) = encR (L.take k) ++ encIt x := by
  obtain ⟨hlt, e⟩ := List.getElem?_eq_some_iff.1 h
  rw [List.take_succ_eq_append_getElem hlt, encR_snoc, e]
set_option maxRecDepth 100000 in
set_option maxHeartbeats 4000000 in
theorem encode_any (L : List It) (v : Value) (w : World) (hR : Rws w v 4 itC L) : Calls Try.prog 12 #[v] w fun e w' => e = .returned (.tuple #[.string (bs (encA L)), .int .i64 (chk L)]) ∧ Below w.heap.size w w' := by
  have CH := hide (check_any L v w hR)
  have HR := hide hR
  obtain ⟨mN, na, np, rfl, _⟩ := hR
  by_cases hc : chk L = 0
  · have h64 := (chk_ok hc).1
    have HE : Hid (encA L = encL L) := hide (by unfold encA; rw [if_pos hc])
    rw [hc] at CH ⊢
    rw [HE.out]
    clear HE hc
    obtain ⟨n, eN⟩ : ∃ n, Hid (L.length = n) := ⟨_, hide rfl⟩
    have HL : Hid (encL L = UInt8.ofNat n :: encR (L.take n)) := hide (by rw [← eN.out, List.take_length]; rfl)
    obtain ⟨E, HEE⟩ : ∃ E, Hid (encL L = E) := ⟨_, hide rfl⟩
    rw [HEE.out]
    rw [eN.out] at h64 mN CH ⊢
    obtain ⟨i0, hi, hz0, hz1, hz2⟩ := info_parts info_byte
    have hmod : (n : Int) % 256 = n := by omega
    go_enter Try.func12, Try.ntmps12
    go_wp2_with fail
    refine CH.out.mono ?_
    rintro e w1 ⟨rfl, hb1⟩
    have HB1 := hide (below_next hb1 (Nat.le_refl _) (below_alloc w1 (.cells #[.int .u8 (n : Int)] 5)))
    have HO1 : Hid (BRow (w1.alloc (.cells #[.int .u8 (n : Int)] 5)) w.heap.size (.slice (some ⟨w1.heap.size, 0, none⟩) 1 1) [UInt8.ofNat n]) := hide ⟨rfl, .inr ⟨w1.heap.size, 1, #[.int .u8 (n : Int)], rfl, hb1.size, heap_alloc_new _ _, Nat.le_refl _, by unfold maxLen; omega, rfl, (by unfold bytesV; simp; omega)⟩⟩
    clear hb1 CH
    go_upto_region 5 with fail
    generalize w1.alloc (.cells #[.int .u8 (n : Int)] 5) = W1 at *
    go_wp2_with fail
    go_loopw [5, 19] (fun v i wx => ∃ k : Nat, k ≤ n ∧ i = .int .i64 k ∧ Hid (BRow wx w.heap.size v (UInt8.ofNat n :: encR (L.take k))) ∧ Hid (Below w.heap.size w wx)) (fun _ i _ => n - (intOf i).toNat)
    case atStart => exact ⟨0, Nat.zero_le _, rfl, HO1, HB1⟩
    case round =>
      clear HO1 HB1
      obtain ⟨k, hk, rfl, hRr, hB⟩ := hrel
      have hws := hB.out.size
      by_cases hlt : k < n
      · obtain ⟨g, og, cap, x, e1, hg, hxl, cell⟩ := HR.out.get k (by rw [eN.out]; omega)
        injection e1 with e1 e2 e3
        subst e1 e3
        have HS : Hid (UInt8.ofNat n :: encR (L.take (k + 1)) = ((UInt8.ofNat n :: encR (L.take k)) ++ [x.k]) ++ (encB x.a ++ encB x.b ++ encB x.c)) := hide (by rw [encR_cons hxl]; simp [encIt])
        have HQ : Hid ((UInt8.ofNat n :: encR (L.take k)).length ≤ 1000) := hide (by rw [List.length_cons, encR_len, List.length_take]; omega)
        have p0 : wr.cell? ⟨g, og + k * 4, none⟩ = some (.int .u8 x.k.toNat) := cell wr hB.out 0 _ rfl
        have p1 : wr.cell? ⟨g, og + k * 4 + 1, none⟩ = some (.int .i64 x.a) := cell wr hB.out 1 _ rfl
        have p2 : wr.cell? ⟨g, og + k * 4 + 2, none⟩ = some (.int .i64 x.b) := cell wr hB.out 2 _ rfl
        have p3 : wr.cell? ⟨g, og + k * 4 + 3, none⟩ = some (.int .i64 x.c) := cell wr hB.out 3 _ rfl
        clear cell e2 hxl
        generalize UInt8.ofNat n :: encR (L.take k) = q at HS HQ hRr
        obtain ⟨kk, a, b, c⟩ := x
        simp only at *
        have HX := hide (Blk.new wr (iC kk.toNat a b c) 48)
        have Hb := hide (hB.out.alloc hws (.cells (iC kk.toNat a b c) 48))
        replace hRr := hide (hRr.out.alloc (.cells (iC kk.toNat a b c) 48))
        have hz : (wr.alloc (.cells (iC kk.toNat a b c) 48)).heap.size = wr.heap.size + 1 := size_alloc _ _
        clear hB
        go_upto_region 8 with fail
        generalize wr.alloc (.cells (iC kk.toNat a b c) 48) = W2 at *
        have hW2 : w.heap.size ≤ W2.heap.size := by omega
        have hxW : wr.heap.size < W2.heap.size := by omega
        generalize wr.heap.size = gx at *
        clear p0 p1 p2 p3 hz hws
        obtain ⟨q0, q1, q2, q3⟩ := it_cells HX.out
        have HO : ∀ o, Hid ((W2.alloc o).ownsRow w.heap.size 5 1 u5 q.length (bytesV q)) := fun o => hRr.out.alloc o
        go_wp2_with (at_builtin; refine wpList_append_own _ rfl (.tmp 23) (.tmp 26) 61 rfl w.heap.size 5 i0 _ 1 1 Try.underlying61 hi hz0 hz1 hz2 rfl (by decide) _ _ _ rfl (HO _).out ⟨W2.heap.size, 0, none⟩ 1 1 [.int .u8 (kk.toNat : Int)] rfl rfl ?c1 ?c2 ?c3 ?c4 ?c5 ?_)
        case c1 => exact new_cell1 _ _ rfl _ _
        case c2 => intro u hu; simp at hu; subst hu; rfl
        case c3 => have := HQ.out; unfold maxLen; omega
        case c4 => have := HQ.out; omega
        case c5 => rw [size_alloc]; omega
        intro v' w5 hown5 hgrow5 _
        have HR5 : Hid (BRow w5 w.heap.size v' (q ++ [kk])) := by
          show World.ownsRow _ _ _ _ _ _ _
          rw [List.length_append, bytesV_app]; exact hown5
        have HB5 : Hid (Below w.heap.size w w5) := hide (((Hb.out.alloc hW2 _).grown hgrow5 (by rw [size_alloc]; omega) (fun j e => ((HO (.cells #[] 5)).out.lt j e).1)))
        have HX5 : Hid (Blk w5 gx (iC kk.toNat a b c) 48) := hide (blk_grown (HO _).out (HX.out.alloc _) (by decide) hgrow5)
        have hz5 : w.heap.size ≤ w5.heap.size := HB5.out.size
        obtain ⟨ao5, cap5, rfl⟩ := HR5.out.shape
        clear hown5 hgrow5 HO hi hz0 hz1 hz2 HX Hb q0 q1 q2 q3 hRr
        obtain ⟨q0, q1, q2, q3⟩ := it_cells HX5.out
        have AN := hide (fun W g hg => appN_any (q ++ [kk]) (by have := HQ.out; rw [List.length_append]; simp; omega) (.slice ao5 (q ++ [kk]).length cap5) w.heap.size a b c g W hg)
        generalize (q ++ [kk]).length = lq at *
        go_wp2_with fail
        refine (AN.out _ w5.heap.size ?r1 ?r2 ?r3).mono ?_
        case r1 => exact HR5.out.alloc _
        case r2 => rw [size_alloc]; omega
        case r3 => exact Blk.new _ _ _
        rintro e w6 ⟨v6, rfl, hR6, hB6⟩
        have HR6 : Hid (BRow w6 w.heap.size v6 (UInt8.ofNat n :: encR (L.take (k + 1)))) := hide (by rw [HS.out]; exact hR6)
        have HB6 : Hid (Below w.heap.size w w6) := hide ((HB5.out.alloc hz5 _).trans hB6)
        obtain ⟨ao6, cap6, rfl⟩ := hR6.shape
        clear hR6 hB6 q0 q1 q2 q3 AN HR5 HB5
        generalize (q ++ [kk] ++ (encB a ++ encB b ++ encB c)).length = l6 at *
        go_wp2_with fail
        go_roundw
        case rel => exact ⟨k + 1, by omega, by go_num, HR6, HB6⟩
        case measure => simp [intOf]; omega
      · obtain rfl : k = n := by omega
        have hT := hRr.out.text
        rw [← HL.out, HEE.out] at hT
        obtain ⟨a4, c4, rfl⟩ := hRr.out.shape
        clear hi hz0 hz1 hz2
        generalize (UInt8.ofNat k :: encR (L.take k)).length = l4 at *
        go_wp2_with fail
        go_ret2
        exact ⟨rfl, hB.out⟩
  · have HE : Hid (encA L = []) := hide (by unfold encA; rw [if_neg hc])
    rw [HE.out]
    have hne : (chk L != 0) = true := by simp [hc]
    generalize chk L = c at *
    generalize L.length = n at *
    clear HE HR
    go_enter Try.func12, Try.ntmps12
    go_wp2_with fail
    refine CH.out.mono ?_
    rintro e w1 ⟨rfl, hb1⟩
    go_wp2_with fail
    go_ret2
    exact ⟨rfl, hb1⟩
end Go.Proofs.Ytnekjfidobglmaa
