/- So5. -/
import Derived.Test.YtcjahdgppnmdkaaStoreRunsG03
import Derived.OwnWalk
import Derived.Lib.AppendStr
import Derived.Lib.BufferRead
set_option maxRecDepth 100000
namespace Go.Proofs.Ytcjahdgppnmdkaa
open Go.RowKit Go.Great
/-- a slice of bytes of the call's own -/
def BOwn (w : World) (base : Nat) (v : Value) (l : List UInt8) : Prop := w.ownsRow base 5 1 v l.length (bytesV l)
theorem BOwn.text {w : World} {base : Nat} {v : Value} {l : List UInt8} (h : BOwn w base v l) : (convert 93 9 v).run Try.prog w = .ok (.string (bs l)) w := by
  have h0 := h
  rcases h.2 with ⟨h1, h2⟩ | ⟨g, cap, cur, h1, _⟩
  · have : l = [] := List.eq_nil_of_length_eq_zero h2
    rw [h1, this, Lib.run_convert_nil_bytes w 93 9 5 0 (by kernel_rfl) (by kernel_rfl) (by kernel_rfl)]
    rfl
  · subst h1
    refine run_convert_bytes_back _ 93 9 5 ⟨g, 0, none⟩ cap l (by kernel_rfl) (by kernel_rfl) (by kernel_rfl) ?_
    intro j hj
    exact World.ownsRow.cells h0 (g := g) rfl j _ (by simp [bytesV, hj])
theorem so_info : (Try.prog.info? 5).map (fun i => (i.zero, i.size, i.bytes)) = some (some (.int .u8 0), 1, 1) := by kernel_rfl
theorem so_parts {t : TypeId} {z : Value} {a b : Nat} (h : (Try.prog.info? t).map (fun i => (i.zero, i.size, i.bytes)) = some (some z, a, b)) : ∃ i, Try.prog.info? t = some i ∧ i.zero = some z ∧ i.size = a ∧ i.bytes = b := by
  cases hi : Try.prog.info? t with
  | none => rw [hi] at h; cases h
  | some i =>
    rw [hi] at h
    simp only [Option.map_some, Option.some.injEq, Prod.mk.injEq] at h
    exact ⟨i, rfl, h.1, h.2.1, h.2.2⟩
theorem so_new1 (w : World) (a : Value) (t : TypeId) : ∀ j u, [a][j]? = some u → (w.alloc (.cells #[a] t)).cell? ((⟨w.heap.size, 0, none⟩ : Addr).add j) = some u := by
  intro j u hu
  rw [Addr.add0, World.cell?_alloc_new]
  simpa using hu
theorem so_new3 (w : World) (a b c : Value) (t : TypeId) : ∀ j u, [a, b, c][j]? = some u → (w.alloc (.cells #[a, b, c] t)).cell? ((⟨w.heap.size, 0, none⟩ : Addr).add j) = some u := by
  intro j u hu
  rw [Addr.add0, World.cell?_alloc_new]
  simpa using hu
set_option maxHeartbeats 1000000 in
theorem recOf_any (w : World) (i : Nat) (t : ByteArray) (ht : t.size ≤ 2000) : Calls Try.prog 97 #[.int .i64 (i : Int), .string t] w fun e w' => e = .returned (.string (bs (recB i t.data.toList))) ∧ Below w.heap.size w w' := by
  obtain ⟨i0, hi, hz0, hz1, hz2⟩ := so_parts so_info
  obtain ⟨n, hn⟩ : ∃ n, t.size = n := ⟨_, rfl⟩
  obtain ⟨b0, h0⟩ : ∃ b : UInt8, Hid (UInt8.ofNat i = b) := ⟨_, hide rfl⟩
  obtain ⟨b1, h1⟩ : ∃ b : UInt8, Hid (UInt8.ofNat n = b) := ⟨_, hide rfl⟩
  obtain ⟨b2, h2⟩ : ∃ b : UInt8, Hid (UInt8.ofNat (n / 256) = b) := ⟨_, hide rfl⟩
  have HL : Hid (recB i t.data.toList = [b0, b1, b2] ++ t.data.toList ++ [0]) := by
    show _ = _
    rw [recB, list_size, hn, h0.out, h1.out, h2.out]; rfl
  rw [HL.out]
  have hn2 : n ≤ 2000 := by omega
  have e0 : IntKind.u8.wrap (i : Int) = (b0.toNat : Int) := by rw [← h0.out, UInt8.toNat_ofNat', IntKind.wrap_u8]; omega
  have e1 : IntKind.u8.wrap (n : Int) = (b1.toNat : Int) := by rw [← h1.out, UInt8.toNat_ofNat', IntKind.wrap_u8]; omega
  have e2 : IntKind.u8.wrap ((n : Int) / 256) = (b2.toNat : Int) := by rw [← h2.out, UInt8.toNat_ofNat', IntKind.wrap_u8]; omega
  obtain ⟨l, hl⟩ : ∃ l, Hid (t.data.toList = l) := ⟨_, hide rfl⟩
  have hll : Hid (l.length = n) := by show _ = _; rw [← hl.out, list_size, hn]
  rw [hl.out]
  go_enter Try.func97, Try.ntmps97
  go_wp2_with (at_make; refine wpList_make_own _ rfl (.const (.int .i64 0)) (.tmp 8) 93 rfl w.heap.size 5 i0 _ 1 Try.underlying93 hi hz0 hz1 .i64 .i64 _ (4 + n) rfl rfl (by push_cast; rfl) ?b1 ?b2 ?b3 ?_)
  case b1 => rw [hz2]; omega
  case b2 => unfold maxLen; omega
  case b3 => exact Nat.le_refl _
  intro w1 hown1 hgrow1
  have HB1 : Hid (Below w.heap.size w w1) := (Below.refl w.heap.size w).grown hgrow1 (Nat.le_refl _) (fun k e => by cases e)
  have HO1 : Hid ((w1.alloc (.cells #[.int .u8 (b0.toNat : Int), .int .u8 (b1.toNat : Int), .int .u8 (b2.toNat : Int)] 5)).ownsRow w.heap.size 5 1 (.slice (some ⟨w.heap.size, 0, none⟩) 0 (4 + n)) 0 []) := hown1.alloc _
  have hs1 := HB1.out.size
  clear hown1 hgrow1
  go_wp2_with (at_builtin; refine wpList_append_own _ rfl (.tmp 10) (.tmp 20) 93 rfl w.heap.size 5 i0 _ 1 1 Try.underlying93 hi hz0 hz1 hz2 rfl (by decide) _ _ _ rfl HO1.out ⟨w1.heap.size, 0, none⟩ 3 3 [.int .u8 (b0.toNat : Int), .int .u8 (b1.toNat : Int), .int .u8 (b2.toNat : Int)] rfl rfl ?c1 ?c2 ?c3 ?c4 ?c5 ?_)
  case c1 => exact so_new3 _ _ _ _ _
  case c2 => intro u hu; simp at hu; rcases hu with rfl | rfl | rfl <;> rfl
  case c3 => unfold maxLen; omega
  case c4 => omega
  case c5 => exact Nat.le_trans hs1 (below_alloc _ _).size
  intro v2 w2 hown2 hgrow2 _
  have HB2 : Hid (Below w.heap.size w w2) := ((HB1.out.alloc hs1 _).grown hgrow2 (Nat.le_trans hs1 (below_alloc _ _).size) (fun j e => (HO1.out.lt j e).1))
  have HO2 : Hid (w2.ownsRow w.heap.size 5 1 v2 3 (bytesV [b0, b1, b2])) := hown2
  clear hown2 hgrow2 HO1 HB1 hs1 e0 e1 e2
  go_wp2_with (at_builtin; refine Lib.wpList_append_own_string _ rfl (.tmp 22) (.tmp 23) 93 9 rfl w.heap.size 5 i0 Try.underlying93 Try.underlying9 hi hz0 hz1 hz2 _ _ _ rfl HO2.out t rfl ?p1 ?p2 ?p3 ?_)
  case p1 => unfold maxLen; omega
  case p2 => omega
  case p3 => exact HB2.out.size
  intro v3 w3 hown3 hgrow3 _
  have HB3 : Hid (Below w.heap.size w w3) := HB2.out.grown hgrow3 HB2.out.size (fun j e => (HO2.out.lt j e).1)
  have HO3 : Hid ((w3.alloc (.cells #[.int .u8 0] 5)).ownsRow w.heap.size 5 1 v3 (3 + n) (bytesV ([b0, b1, b2] ++ l))) := by
    have : w3.ownsRow w.heap.size 5 1 v3 (3 + n) (bytesV ([b0, b1, b2] ++ l)) := by
      rw [← hl.out]
      simpa [bytesV, Lib.strCells, hn] using hown3
    exact this.alloc _
  have hs3 := HB3.out.size
  clear hown3 hgrow3 HO2 HB2
  go_wp2_with (at_builtin; refine wpList_append_own _ rfl (.tmp 25) (.tmp 26) 93 rfl w.heap.size 5 i0 _ 1 1 Try.underlying93 hi hz0 hz1 hz2 rfl (by decide) _ _ _ rfl HO3.out ⟨w3.heap.size, 0, none⟩ 1 1 [.int .u8 0] rfl rfl ?d1 ?d2 ?d3 ?d4 ?d5 ?_)
  case d1 => exact so_new1 _ _ _
  case d2 => intro u hu; simp at hu; subst hu; rfl
  case d3 => unfold maxLen; omega
  case d4 => omega
  case d5 => exact Nat.le_trans hs3 (below_alloc _ _).size
  intro v4 w4 hown4 hgrow4 _
  have HB4 : Hid (Below w.heap.size w w4) := ((HB3.out.alloc hs3 _).grown hgrow4 (Nat.le_trans hs3 (below_alloc _ _).size) (fun j e => (HO3.out.lt j e).1))
  have HO4 : BOwn w4 w.heap.size v4 ([b0, b1, b2] ++ l ++ [0]) := by
    have : (([b0, b1, b2] ++ l ++ [0] : List UInt8)).length = 3 + n + 1 := by have := hll.out; simp; omega
    show World.ownsRow _ _ _ _ _ _ _
    rw [this]
    simpa [bytesV] using hown4
  have ht4 := HO4.text
  clear hown4 hgrow4 HO3 HB3 hs3 HO4
  go_wp2_with fail
  go_ret
  exact ⟨rfl, HB4.out⟩
theorem ix3_0 (a b c d e f g h i : Value) (w : World) : (Instr.index 106 (.agg #[a, b, c, d, e, f, g, h, i]) (.int .i64 0)).run Try.prog w = .ok (.agg #[a, b, c]) w := by kernel_rfl
theorem ix3_1 (a b c d e f g h i : Value) (w : World) : (Instr.index 106 (.agg #[a, b, c, d, e, f, g, h, i]) (.int .i64 1)).run Try.prog w = .ok (.agg #[d, e, f]) w := by kernel_rfl
theorem ix3_2 (a b c d e f g h i : Value) (w : World) : (Instr.index 106 (.agg #[a, b, c, d, e, f, g, h, i]) (.int .i64 2)).run Try.prog w = .ok (.agg #[g, h, i]) w := by kernel_rfl
/-- what a put needs -/
def tmN (k : Kp) (i m : Nat) : Nat := if m ≠ i ∧ (k m).th then 4 + (k m).n else 0
def upN (k : Kp) (i n : Nat) : Nat → Nat
  | 0 => 5 + n
  | j + 1 => upN k i n j + tmN k i j
theorem upN_need (k : Kp) (i n : Nat) : upN k i n 3 = needN k i n := rfl
theorem tmN_le (k : Kp) (hk : ∀ i, (k i).th = true → (k i).n ≤ 2000) (i m : Nat) : tmN k i m ≤ 2004 := by
  unfold tmN
  split
  · have := hk m (by simp_all); omega
  · omega
set_option maxRecDepth 100000 in
theorem need_any (w : World) (S : Nat) (p : Value) (ac tu en : Int) (k : Kp) (h : So w S p ac tu en k) (hk : ∀ i, (k i).th = true → (k i).n ≤ 2000) (i n : Nat) (hn : n ≤ 2000) : Calls Try.prog 51 #[fp S, .int .i64 (i : Int), .int .i64 (n : Int)] w fun e w' => e = .returned (.int .i64 (needN k i n : Int)) ∧ Below w.heap.size w w' := by
  have c4 := h.c4
  have c5 := h.c5
  have c6 := h.c6
  have c7 := h.c7
  have c8 := h.c8
  have c9 := h.c9
  have c10 := h.c10
  have c11 := h.c11
  have c12 := h.c12
  have hls := h.lt
  rw [← upN_need]
  have hT := tmN_le k hk
  have HL : ∀ j, j ≤ 3 → upN k i n j ≤ 2005 + 2004 * j := by
    intro j
    induction j with
    | zero => intro _; show 5 + n ≤ _; omega
    | succ j ih => intro hj; have := ih (by omega); have := hT i j; show upN k i n j + tmN k i j ≤ _; omega
  have HU : Hid (∀ j, upN k i n (j + 1) = upN k i n j + tmN k i j) := hide (fun _ => rfl)
  have H0 : Hid (upN k i n 0 = 5 + n) := hide rfl
  go_enter Try.func51, Try.ntmps51
  go_wp2_with fail
  clear c4 c5 c6 c7 c8 c9 c10 c11 c12
  have x0 := ix3_0
  have x1 := ix3_1
  have x2 := ix3_2
  go_loopw [16, 7] (fun v s wr => ∃ (j q : Nat), v = .int .i64 (j : Int) ∧ s = .int .i64 (q : Int) ∧ j ≤ 3 ∧ q ≤ 10000 ∧ Hid (upN k i n j = q) ∧ Below w.heap.size w wr) (fun v _ _ => 3 - (intOf v).toNat)
  case atStart => exact ⟨0, 5 + n, rfl, by go_num, by omega, by omega, H0, Below.refl _ _⟩
  case round =>
    obtain ⟨j, q, rfl, rfl, hj, hq, hE, hB⟩ := hrel
    have HB := hide hB
    clear hB
    by_cases h3 : j = 3
    · subst h3
      go_wp2_with fail
      go_ret
      exact ⟨by rw [hE.out]; rfl, HB.out⟩
    · have hs := HU.out j
      have hl := HL (j + 1) (by omega)
      have HS : Hid (upN k i n (j + 1) = q + tmN k i j) := by show _ = _; rw [hs, hE.out]
      rw [HS.out] at hl
      have ht := hT i j
      have hbs := HB.out.size
      have HN : ∀ o, Hid (Below w.heap.size w (wr.alloc o)) := fun o => hide (HB.out.alloc hbs o)
      unfold tmN at HS hl
      have HK := hide (hk j)
      have hqi : (q : Int) ≤ 10000 := by omega
      have HQ := hide hq
      have HLL := hide hl
      clear hs HL hT HU hk hl hq ht hn
      obtain rfl | rfl | rfl : j = 0 ∨ j = 1 ∨ j = 2 := by omega
      · by_cases hji : i = 0
        · have hne : ((0 : Int) != (i : Int)) = false := by subst hji; rfl
          rw [if_neg (by omega)] at HS HLL
          clear hji
          go_wp2_with fail
          go_roundw
          case rel => exact ⟨0 + 1, q, by go_num, by go_num, by omega, HQ.out, HS, (HN _).out⟩
          case measure => simp [intOf]
        · have hne : ((0 : Int) != (i : Int)) = true := by simp; omega
          cases hth : (k 0).th
          · rw [hth, if_neg (by simp)] at HS HLL
            go_wp2_with fail
            go_roundw
            case rel => exact ⟨0 + 1, q, by go_num, by go_num, by omega, HQ.out, HS, (HN _).out⟩
            case measure => simp [intOf]
          · rw [hth, if_pos ⟨fun e => hji e.symm, rfl⟩] at HS HLL
            have hki : ((k 0).n : Int) ≤ 2000 := by have := HK.out hth; omega
            go_wp2_with fail
            go_roundw
            case rel => exact ⟨0 + 1, _, by go_num, by go_num, by omega, by have := HLL.out; omega, HS, (HN _).out⟩
            case measure => simp [intOf]
      · by_cases hji : i = 1
        · have hne : ((1 : Int) != (i : Int)) = false := by subst hji; rfl
          rw [if_neg (by omega)] at HS HLL
          clear hji
          go_wp2_with fail
          go_roundw
          case rel => exact ⟨1 + 1, q, by go_num, by go_num, by omega, HQ.out, HS, (HN _).out⟩
          case measure => simp [intOf]
        · have hne : ((1 : Int) != (i : Int)) = true := by simp; omega
          cases hth : (k 1).th
          · rw [hth, if_neg (by simp)] at HS HLL
            go_wp2_with fail
            go_roundw
            case rel => exact ⟨1 + 1, q, by go_num, by go_num, by omega, HQ.out, HS, (HN _).out⟩
            case measure => simp [intOf]
          · rw [hth, if_pos ⟨fun e => hji e.symm, rfl⟩] at HS HLL
            have hki : ((k 1).n : Int) ≤ 2000 := by have := HK.out hth; omega
            go_wp2_with fail
            go_roundw
            case rel => exact ⟨1 + 1, _, by go_num, by go_num, by omega, by have := HLL.out; omega, HS, (HN _).out⟩
            case measure => simp [intOf]
      · by_cases hji : i = 2
        · have hne : ((2 : Int) != (i : Int)) = false := by subst hji; rfl
          rw [if_neg (by omega)] at HS HLL
          clear hji
          go_wp2_with fail
          go_roundw
          case rel => exact ⟨2 + 1, q, by go_num, by go_num, by omega, HQ.out, HS, (HN _).out⟩
          case measure => simp [intOf]
        · have hne : ((2 : Int) != (i : Int)) = true := by simp; omega
          cases hth : (k 2).th
          · rw [hth, if_neg (by simp)] at HS HLL
            go_wp2_with fail
            go_roundw
            case rel => exact ⟨2 + 1, q, by go_num, by go_num, by omega, HQ.out, HS, (HN _).out⟩
            case measure => simp [intOf]
          · rw [hth, if_pos ⟨fun e => hji e.symm, rfl⟩] at HS HLL
            have hki : ((k 2).n : Int) ≤ 2000 := by have := HK.out hth; omega
            go_wp2_with fail
            go_roundw
            case rel => exact ⟨2 + 1, _, by go_num, by go_num, by omega, by have := HLL.out; omega, HS, (HN _).out⟩
            case measure => simp [intOf]
end Go.Proofs.Ytcjahdgppnmdkaa
