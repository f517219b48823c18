/- Package store: records that are read. -/
import Derived.Test.YtcjahdgppnmdkaaSo2
set_option maxRecDepth 100000
namespace Go.Proofs.Ytcjahdgppnmdkaa
open Go.RowKit Go.Great

theorem getD_ba (s : ByteArray) (j : Nat) (h : j < s.size) : s.data.toList.getD j 0 = s[j] := by
  rw [getD_at _ _ (by rw [list_size]; exact h)]; rfl
theorem used_any (w : World) (s : ByteArray) (hs : s.size ≤ 4096) : Calls Try.prog 111 #[.string s] w fun e w' => ∃ u : Nat, e = .returned (.int .i64 (u : Int)) ∧ w' = w ∧ u ≤ s.size ∧ ∀ a, (a < u ↔ blankB s.data.toList a = false) := by
  go_enter Try.func111, Try.ntmps111
  go_wp2_with fail
  go_loopw [3] (fun v wr => ∃ i : Nat, v = .int .i64 (i : Int) ∧ i ≤ s.size ∧ wr = w ∧ Hid (∀ j, i ≤ j → j < s.size → s.data.toList.getD j 0 = 255)) (fun v _ => (intOf v).toNat)
  case atStart => exact ⟨s.size, rfl, Nat.le_refl _, rfl, hide (fun j h1 h2 => by omega)⟩
  case round =>
    obtain ⟨i, rfl, hi, hw, hA⟩ := hrel
    obtain rfl := hw
    by_cases h0 : i = 0
    · subst h0
      go_wp2_with fail
      go_ret
      refine ⟨0, rfl, rfl, Nat.zero_le _, fun a => ⟨fun h => by omega, fun h => ?_⟩⟩
      rw [(blankB_iff _ _).2 (fun j h1 h2 => hA.out j (Nat.zero_le _) (by rw [list_size] at h2; exact h2))] at h
      cases h
    · obtain ⟨c, rfl⟩ : ∃ c, i = c + 1 := ⟨i - 1, by omega⟩
      have hm : ((c + 1 : Nat) : Int) - 1 = (c : Int) := by omega
      have hp : (0 : Int) < ((c + 1 : Nat) : Int) := by omega
      have hc : c < s.size := by omega
      have hg := getD_ba s c hc
      have e0 : ((s[c].toNat : Int) == 255) = decide (s[c] = 255) := nat_u8 _ 255 (by omega)
      by_cases h1 : s[c] = 255
      · rw [decide_eq_true h1] at e0
        clear h1
        have HG : Hid (s.data.toList.getD c 0 = 255) := by
          show _ = _
          rw [hg]
          exact of_decide_eq_true ((nat_u8 s[c] 255 (by omega)).symm.trans e0)
        clear hg
        go_wp2_with fail
        go_roundw
        case rel =>
          refine ⟨c, by go_num, by omega, trivial, hide (fun j h1 h2 => ?_)⟩
          by_cases e : j = c
          · subst e; exact HG.out
          · exact hA.out j (by omega) h2
        case measure => simp [intOf]
      · rw [decide_eq_false h1] at e0
        have HG : Hid (¬ s.data.toList.getD c 0 = 255) := by
          show ¬ _
          rw [hg]; exact h1
        clear hg h1
        go_wp2_with fail
        go_ret
        refine ⟨c + 1, rfl, rfl, by omega, fun a => ⟨fun h => ?_, fun h => ?_⟩⟩
        · cases hb : blankB s.data.toList a
          · rfl
          · exact absurd ((blankB_iff _ _).1 hb c (by omega) (by rw [list_size]; exact hc)) HG.out
        · refine Nat.lt_of_not_le fun hle => ?_
          rw [(blankB_iff _ _).2 (fun j h1 h2 => hA.out j (by omega) (by rw [list_size] at h2; exact h2))] at h
          cases h
theorem or_len (a b : UInt8) : bits .or .i64 (a.toNat : Int) ((b.toNat : Int) * 256) = ((a.toNat + 256 * b.toNat : Nat) : Int) := by
  have ha := a.toNat_lt
  have hb := b.toNat_lt
  have e1 : BitVec.ofInt 64 (a.toNat : Int) = BitVec.ofNat 64 a.toNat := rfl
  have e2 : BitVec.ofInt 64 ((b.toNat : Int) * 256) = BitVec.ofNat 64 (256 * b.toNat) := by
    rw [show (b.toNat : Int) * 256 = ((256 * b.toNat : Nat) : Int) by omega]; rfl
  show IntKind.i64.wrap ((BitVec.ofInt 64 (a.toNat : Int) ||| BitVec.ofInt 64 ((b.toNat : Int) * 256)).toNat : Int) = _
  rw [e1, e2, BitVec.toNat_or, BitVec.toNat_ofNat, BitVec.toNat_ofNat, Nat.mod_eq_of_lt (by omega), Nat.mod_eq_of_lt (by omega)]
  have e3 : a.toNat ||| 256 * b.toNat = a.toNat + 256 * b.toNat := by
    have := Nat.shiftLeft_add_eq_or_of_lt (b := a.toNat) (i := 8) (by omega) b.toNat
    rw [Nat.shiftLeft_eq] at this
    rw [Nat.or_comm, show 256 * b.toNat = b.toNat * 2 ^ 8 by omega, ← this]
    omega
  rw [e3, IntKind.wrap_i64]
  omega
/-- what recordAt answers -/
def recV (l : List UInt8) (a : Nat) : Value :=
  if wholeB l a then .tuple #[.int .i64 (idAt l a), .agg #[.bool true, .int .i64 ((a + 3 : Nat) : Int), .int .i64 (lenAt l a)], .bool true]
  else .tuple #[.int .i64 0, .agg #[.bool false, .int .i64 0, .int .i64 0], .bool false]
theorem ext_at (s : ByteArray) (a i : Nat) (h : a + i < s.size) (h2 : i < (s.extract a s.size).size) : (s.extract a s.size)[i] = s.data.toList.getD (a + i) 0 := by
  rw [getD_ba s (a + i) h, ByteArray.getElem_extract]
theorem results_tct {fn : Func} {t p u : Tmp} {ty : TypeId} (h : fn.results = #[.tmp t, .cell p ty, .tmp u]) (tmps : Array Value) (P : Program) (w : World) :
    (results fn tmps).run P w =
      ((asAddr (tmps.getD p undef)).run P w).andThen fun a w₁ => ((loadVar ty a).run P w₁).andThen fun v w₂ => .ok (.tuple #[tmps.getD t undef, v, tmps.getD u undef]) w₂ := by
  simp only [results, h]
  simp [Sem.run_bind, Result.andThen]
theorem rec_back (tmps : Array Value) (w : World) (g : Nat) (x y z a b : Value) (fr : Nat × Nat) (h4 : tmps.getD 4 undef = a) (h5 : tmps.getD 5 undef = .pointer (some ⟨g, 0, none⟩)) (h6 : tmps.getD 6 undef = b) (hg : w.heap[g]? = some (.cells #[x, y, z] 105 fr)) : (results Try.f112 tmps).run Try.prog w = .ok (.tuple #[a, .agg #[x, y, z], b]) w := by
  rw [results_tct (by kernel_rfl : Try.f112.results = #[.tmp 4, .cell 5 105, .tmp 6])]
  have := run_loadVar_row (P := Try.prog) w g 105 105 #[x, y, z] fr _ hg Try.underlying105 rfl (by kernel_rfl)
  rw [h4, h5, h6]
  simp [asAddr, this, Result.andThen]
/-- a variable that holds a stretch -/
def Sgv (w : World) (g : Nat) (x y z : Value) : Prop := w.heap[g]? = some (.cells #[x, y, z] 105 (0, 0))
theorem Sgv.set {w : World} {g : Nat} {x y z : Value} (h : Sgv w g x y z) (x' y' z' : Value) : Sgv (((w.setCell ⟨g, 0, none⟩ x').setCell ⟨g, 1, none⟩ y').setCell ⟨g, 2, none⟩ z') g x' y' z' := by
  have h1 : w.heap[g]? = some (.cells [x, y, z].toArray 105 (0, 0)) := h
  unfold Sgv
  rw [set_list (set_list (set_list h1 _) _) _]
  rfl
theorem Sgv.drew {w : World} {g : Nat} {x y z : Value} (h : Sgv w g x y z) : Sgv w.drew g x y z := h
theorem sgv_new (w : World) (x y z : Value) : Sgv (w.alloc (.cells #[x, y, z] 105)) w.heap.size x y z := heap_alloc_new _ _
theorem below_set3 {B : Nat} {w w1 : World} {g : Nat} (h : Below B w w1) (hg : B ≤ g) (a b c : Value) : Below B w (((w1.setCell ⟨g, 0, none⟩ a).setCell ⟨g, 1, none⟩ b).setCell ⟨g, 2, none⟩ c) :=
  ((h.setCell (p := ⟨g, 0, none⟩) hg a).setCell (p := ⟨g, 1, none⟩) hg b).setCell (p := ⟨g, 2, none⟩) hg c
theorem below_drew1 {B : Nat} {w w1 : World} (h : Below B w w1) : Below B w w1.drew := ⟨h.os, h.tape, h.output, h.size, h.block⟩
theorem rec_short (w : World) (s : ByteArray) (a : Nat) (ha : a ≤ s.size) (h4 : s.size < a + 4) : Calls Try.prog 112 #[.string s, .int .i64 (a : Int)] w fun e w' => e = .returned (.tuple #[.int .i64 0, .agg #[.bool false, .int .i64 0, .int .i64 0], .bool false]) ∧ Below w.heap.size w w' := by
  obtain ⟨t, ht⟩ : ∃ t, s.extract a s.size = t := ⟨_, rfl⟩
  have hz : t.size < 4 := by rw [← ht, ByteArray.size_extract]; omega
  have hz' : (t.size : Int) < 4 := by omega
  go_enter Try.func112, Try.ntmps112
  go_wp2_with fail
  refine bodyPost_ret (rec_back _ _ w.heap.size _ _ _ _ _ _ rfl rfl rfl (sgv_new w _ _ _)) rfl ?_
  exact ⟨rfl, below_alloc _ _⟩
theorem rec_long (w : World) (s : ByteArray) (a : Nat) (hs : s.size ≤ 4096) (ha : a + 4 ≤ s.size) : Calls Try.prog 112 #[.string s, .int .i64 (a : Int)] w fun e w' => e = .returned (recV s.data.toList a) ∧ Below w.heap.size w w' := by
  obtain ⟨t, ht⟩ : ∃ t, s.extract a s.size = t := ⟨_, rfl⟩
  have hz : t.size = s.size - a := by rw [← ht, ByteArray.size_extract]; omega
  have hz4 : 4 ≤ t.size := by omega
  have hz4' : decide ((t.size : Int) < 4) = false := decide_eq_false (by omega)
  have hzm : t.size ≤ 4096 := by omega
  obtain ⟨b0, h0⟩ : ∃ b, Hid (s.data.toList.getD a 0 = b) := ⟨_, hide rfl⟩
  obtain ⟨b1, h1⟩ : ∃ b, Hid (s.data.toList.getD (a + 1) 0 = b) := ⟨_, hide rfl⟩
  obtain ⟨b2, h2⟩ : ∃ b, Hid (s.data.toList.getD (a + 2) 0 = b) := ⟨_, hide rfl⟩
  have i0 : ∀ h : 0 < t.size, t[0]'h = b0 := fun h => by subst ht; rw [ext_at s a 0 (by omega), ← h0.out]; rfl
  have i1 : ∀ h : 1 < t.size, t[1]'h = b1 := fun h => by subst ht; rw [ext_at s a 1 (by omega), ← h1.out]
  have i2 : ∀ h : 2 < t.size, t[2]'h = b2 := fun h => by subst ht; rw [ext_at s a 2 (by omega), ← h2.out]
  obtain ⟨n, hn⟩ : ∃ n, Hid (lenAt s.data.toList a = n) := ⟨_, hide rfl⟩
  have hnv : Hid (n = b1.toNat + 256 * b2.toNat) := by
    show _ = _
    rw [← hn.out, lenAt, h1.out, h2.out]
  have ho : bits .or .i64 (b1.toNat : Int) ((b2.toNat : Int) * 256) = (n : Int) := by
    rw [or_len, hnv.out]
  have hb0 : (b0.toNat : Int) ≤ 255 := by have := b0.toNat_lt; omega
  have hb1 : (b1.toNat : Int) ≤ 255 := by have := b1.toNat_lt; omega
  have hb2 : (b2.toNat : Int) ≤ 255 := by have := b2.toNat_lt; omega
  have hnb : n ≤ 65535 := by have := hnv.out; omega
  obtain ⟨m, hm⟩ : ∃ m : Nat, (3 : Int) + (n : Int) = (m : Int) := ⟨3 + n, by omega⟩
  have hmn : Hid (m = 3 + n) := by show _ = _; omega
  have hm1 : (m : Int) ≤ 65538 := by omega
  obtain ⟨q, hq⟩ : ∃ q : Nat, (4 : Int) + (n : Int) = (q : Int) := ⟨4 + n, by omega⟩
  have hq1 : (q : Int) ≤ 65539 := by omega
  obtain ⟨V, hV⟩ : ∃ V, Hid (recV s.data.toList a = V) := ⟨_, hide rfl⟩
  rw [hV.out]
  have hno : (¬ ((b0.toNat < 3 ∧ n ≤ 2000) ∧ a + 4 + n ≤ s.size) ∨ s.data.toList.getD (a + 3 + n) 0 ≠ 0) → V = .tuple #[.int .i64 0, .agg #[.bool false, .int .i64 0, .int .i64 0], .bool false] := by
    intro hc
    rw [← hV.out, recV, if_neg]
    intro hw
    obtain ⟨c1, c2, c3, c4, c5⟩ := wholeB_true hw
    rw [hn.out] at c3 c4 c5
    rw [idAt, h0.out] at c2
    rw [list_size] at c4
    rcases hc with hc | hc
    · exact hc ⟨⟨c2, c3⟩, c4⟩
    · exact hc c5
  have O := fun wx => obj_any wx (b0.toNat : Int)
  have HZ := hide hz
  clear hz
  by_cases d0 : b0.toNat < 3
  · have e0 : (decide (0 ≤ (b0.toNat : Int)) && decide ((b0.toNat : Int) < 3)) = true := by simp; omega
    rw [e0] at O
    by_cases d1 : n ≤ 2000
    · by_cases d2 : a + 4 + n ≤ s.size
      · have hq2 : (q : Int) ≤ (t.size : Int) := by have := HZ.out; omega
        have hm2 : m < t.size := by have := HZ.out; omega
        obtain ⟨c, hc⟩ : ∃ c, Hid (s.data.toList.getD (a + 3 + n) 0 = c) := ⟨_, hide rfl⟩
        have i3 : ∀ h : m < t.size, t[m]'h = c := fun h => by
          subst ht
          rw [ext_at s a m (by have := hmn.out; omega), ← hc.out, hmn.out, Nat.add_assoc]
        have e3 : ((c.toNat : Int) != 0) = !decide (c = 0) := congrArg (!·) (nat_u8 c 0 (by omega))
        by_cases d3 : c = 0
        · rw [decide_eq_true d3] at e3
          have hyes : V = .tuple #[.int .i64 (b0.toNat : Int), .agg #[.bool true, .int .i64 ((a : Int) + 3), .int .i64 (n : Int)], .bool true] := by
            rw [← hV.out, recV, if_pos, hn.out, idAt, h0.out]
            · rfl
            · unfold wholeB
              simp only [Bool.and_eq_true, decide_eq_true_eq, beq_iff_eq]
              rw [hn.out, list_size]
              refine ⟨⟨⟨⟨ha, ?_⟩, d1⟩, d2⟩, ?_⟩
              · rw [h0.out]; exact d0
              · rw [hc.out, d3]
          subst hyes
          clear hno hV d3
          go_enter Try.func112, Try.ntmps112
          go_wp2_with fail
          go_region
          go_wp2_with (go_at_call 50; refine (O _).mono ?_; rintro e w1 ⟨rfl, rfl⟩)
          refine bodyPost_ret (rec_back _ _ w.heap.size _ _ _ _ _ _ rfl rfl rfl (sgv_new w _ _ _).drew) rfl ?_
          exact ⟨rfl, below_drew1 (below_alloc _ _)⟩
        · rw [decide_eq_false d3] at e3
          obtain rfl := hno (.inr (by rw [hc.out]; exact d3))
          clear hno hV d3
          go_enter Try.func112, Try.ntmps112
          go_wp2_with fail
          go_region
          go_wp2_with (go_at_call 50; refine (O _).mono ?_; rintro e w1 ⟨rfl, rfl⟩)
          refine bodyPost_ret (rec_back _ _ w.heap.size _ _ _ _ _ _ rfl rfl rfl (sgv_new w _ _ _).drew) rfl ?_
          exact ⟨rfl, below_drew1 (below_alloc _ _)⟩
      · have hq2 : (t.size : Int) < (q : Int) := by have := HZ.out; omega
        obtain rfl := hno (.inl (by omega))
        clear hno hV
        go_enter Try.func112, Try.ntmps112
        go_wp2_with fail
        go_region
        go_wp2_with (go_at_call 50; refine (O _).mono ?_; rintro e w1 ⟨rfl, rfl⟩)
        refine bodyPost_ret (rec_back _ _ w.heap.size _ _ _ _ _ _ rfl rfl rfl (sgv_new w _ _ _).drew) rfl ?_
        exact ⟨rfl, below_drew1 (below_alloc _ _)⟩
    · obtain rfl := hno (.inl (by omega))
      clear hno hV
      go_enter Try.func112, Try.ntmps112
      go_wp2_with fail
      go_region
      go_wp2_with (go_at_call 50; refine (O _).mono ?_; rintro e w1 ⟨rfl, rfl⟩)
      refine bodyPost_ret (rec_back _ _ w.heap.size _ _ _ _ _ _ rfl rfl rfl (sgv_new w _ _ _).drew) rfl ?_
      exact ⟨rfl, below_drew1 (below_alloc _ _)⟩
  · obtain rfl := hno (.inl (by omega))
    have e0 : (decide (0 ≤ (b0.toNat : Int)) && decide ((b0.toNat : Int) < 3)) = false := by simp; omega
    rw [e0] at O
    clear hno hV
    go_enter Try.func112, Try.ntmps112
    go_wp2_with fail
    go_region
    go_wp2_with (go_at_call 50; refine (O _).mono ?_; rintro e w1 ⟨rfl, rfl⟩)
    refine bodyPost_ret (rec_back _ _ w.heap.size _ _ _ _ _ _ rfl rfl rfl (sgv_new w _ _ _).drew) rfl ?_
    exact ⟨rfl, below_drew1 (below_alloc _ _)⟩
theorem rec_any (w : World) (s : ByteArray) (a : Nat) (hs : s.size ≤ 4096) (ha : a ≤ s.size) : Calls Try.prog 112 #[.string s, .int .i64 (a : Int)] w fun e w' => e = .returned (recV s.data.toList a) ∧ Below w.heap.size w w' := by
  by_cases h4 : a + 4 ≤ s.size
  · exact rec_long w s a hs h4
  · have : recV s.data.toList a = .tuple #[.int .i64 0, .agg #[.bool false, .int .i64 0, .int .i64 0], .bool false] := by
      rw [recV, if_neg]
      intro hw
      have := (wholeB_true hw).1
      rw [list_size] at this
      omega
    rw [this]
    exact rec_short w s a ha (by omega)
/-- the closure of find -/
theorem note_any (w : World) (B S : Nat) (p : Value) (ac tu en : Int) (k : Kp) (h : So w S p ac tu en k) (hB : w.heap[B]? = some (.cells #[fp S] 24 (0, 0))) (i : Nat) (hi : i < 3) (t : Bool) (lo n : Nat) : Calls Try.prog 105 #[.int .i64 (i : Int), .agg #[.bool t, .int .i64 (lo : Int), .int .i64 (n : Int)], fp B] w fun e w' => e = .returned (.tuple #[]) ∧ So w' S p ac tu en (upd k i ⟨t, lo, n⟩) ∧ Kept S w w' := by
  have hlt := lt_of_block hB
  have hls := h.lt
  have cB : w.cell? ⟨B, 0, none⟩ = some (fp S) := by simp [World.cell?, hB]
  obtain rfl | rfl | rfl : i = 0 ∨ i = 1 ∨ i = 2 := by omega
  · have f4 := h.frozen 4
    have f5 := h.frozen 5
    have f6 := h.frozen 6
    have c4 := h.c4
    have c5 := h.c5
    have c6 := h.c6
    go_enter Try.func105, Try.ntmps105
    go_wp2_with fail
    go_region
    go_wp2_with fail
    go_end0
    exact ⟨rfl, ((h.k0 t lo n).below (below_alloc _ _)).drew, (((((Kept.refl S w).set _ _).set _ _).set _ _).alloc _).drew⟩
  · have f4 := h.frozen 7
    have f5 := h.frozen 8
    have f6 := h.frozen 9
    have c4 := h.c7
    have c5 := h.c8
    have c6 := h.c9
    go_enter Try.func105, Try.ntmps105
    go_wp2_with fail
    go_region
    go_wp2_with fail
    go_end0
    exact ⟨rfl, ((h.k1 t lo n).below (below_alloc _ _)).drew, (((((Kept.refl S w).set _ _).set _ _).set _ _).alloc _).drew⟩
  · have f4 := h.frozen 10
    have f5 := h.frozen 11
    have f6 := h.frozen 12
    have c4 := h.c10
    have c5 := h.c11
    have c6 := h.c12
    go_enter Try.func105, Try.ntmps105
    go_wp2_with fail
    go_region
    go_wp2_with fail
    go_end0
    exact ⟨rfl, ((h.k2 t lo n).below (below_alloc _ _)).drew, (((((Kept.refl S w).set _ _).set _ _).set _ _).alloc _).drew⟩
theorem box_ne {w : World} {B S : Nat} {v p : Value} {ac tu en : Int} {k : Kp} (h : So w S p ac tu en k) (hB : w.heap[B]? = some (.cells #[v] 24 (0, 0))) : B ≠ S := by
  intro e
  subst e
  have := hB.symm.trans h.blk
  simp at this
theorem recs_any (w : World) (B S : Nat) (p : Value) (ac tu en : Int) (k : Kp) (h : So w S p ac tu en k) (hB : w.heap[B]? = some (.cells #[fp S] 24 (0, 0))) (s : ByteArray) (hs : s.size = 4096) : Calls Try.prog 104 #[.string s, .func (.func 105) #[] #[fp B]] w fun e w' => e = .returned (.tuple #[.int .i64 ((rd s.data.toList 4096 1 k).2.1 : Int), .bool (rd s.data.toList 4096 1 k).2.2]) ∧ So w' S p ac tu en (rd s.data.toList 4096 1 k).1 ∧ Kept S w w' := by
  have hne := box_ne h hB
  obtain ⟨l, hl⟩ : ∃ l, Hid (s.data.toList = l) := ⟨_, hide rfl⟩
  have hll : Hid (l.length = 4096) := by show _ = _; rw [← hl.out, list_size]; exact hs
  obtain ⟨⟨K, E, c⟩, hr⟩ : ∃ r, Hid (rd l 4096 1 k = r) := ⟨_, hide rfl⟩
  rw [hl.out, hr.out]
  simp only
  have U := used_any w s (by omega)
  have R := fun wx a ha => rec_any wx s a (by omega) ha
  rw [hl.out] at U
  simp only [hl.out] at R
  have HS := hide hs
  clear hs
  go_enter Try.func104, Try.ntmps104
  go_wp2_with fail
  refine U.mono ?_
  rintro e w1 ⟨u, rfl, hw, hu, hub⟩
  obtain rfl := hw.symm
  clear hw U
  go_wp2_with fail
  go_loopw [7] (fun v wr => ∃ (a f : Nat) (kk : Kp), v = .int .i64 (a : Int) ∧ a ≤ 4096 ∧ So wr S p ac tu en kk ∧ wr.heap[B]? = some (.cells #[fp S] 24 (0, 0)) ∧ Kept S w wr ∧ Hid (4096 < a + f) ∧ Hid (rd l 4096 1 k = rd l f a kk)) (fun v _ => 4096 - (intOf v).toNat)
  case atStart => exact ⟨1, 4096, k, rfl, by omega, h, hB, Kept.refl _ _, hide (by omega), hide rfl⟩
  case round =>
    obtain ⟨a, f, kk, rfl, ha, hS, hBr, hK, hf, hE⟩ := hrel
    obtain ⟨g, rfl⟩ : ∃ g, f = g + 1 := ⟨f - 1, by have := hf.out; omega⟩
    by_cases hlt : a < u
    · have hbl := (hub a).1 hlt
      have hlt' : (a : Int) < (u : Int) := by omega
      have Ra := R wr a (by have := HS.out; omega)
      unfold recV at Ra
      cases hw : wholeB l a
      · rw [hw] at Ra
        simp only [Bool.false_eq_true, if_false] at Ra
        have HE : Hid ((K, E, c) = (kk, a, false)) := by
          show _ = _
          rw [← hr.out, hE.out, rd, hbl, hw]; rfl
        clear hE hr hw hub
        go_wp2_with fail
        refine Ra.mono ?_
        rintro e w2 ⟨rfl, b2⟩
        go_wp2_with fail
        go_ret2
        have := HE.out
        injection this with e1 e2
        injection e2 with e2 e3
        subst e1 e2 e3
        exact ⟨rfl, (hS.below b2).below (below_alloc _ _), (hK.below b2).below (below_alloc _ _)⟩
      · rw [hw] at Ra
        simp only [if_true] at Ra
        obtain ⟨c1, c2, c3, c4, c5⟩ := wholeB_true hw
        rw [hll.out] at c4
        have HE : Hid (rd l 4096 1 k = rd l g (a + 4 + lenAt l a) (upd kk (idAt l a) (sgAt l a))) := by
          show _ = _
          rw [hE.out, rd, hbl, hw]; rfl
        unfold sgAt at HE
        obtain ⟨i, hi⟩ : ∃ i, Hid (idAt l a = i) := ⟨_, hide rfl⟩
        obtain ⟨n, hn⟩ : ∃ n, Hid (lenAt l a = n) := ⟨_, hide rfl⟩
        rw [hi.out, hn.out] at Ra
        rw [hi.out, hn.out] at HE
        rw [hi.out] at c2
        rw [hn.out] at c3 c4
        clear hE hw hub c1 c5
        go_wp2_with fail
        refine Ra.mono ?_
        rintro e w2 ⟨rfl, b2⟩
        have hB2 : w2.heap[B]? = some (.cells #[fp S] 24 (0, 0)) := by rw [b2.block B (lt_of_block hBr)]; exact hBr
        have b3 := below_alloc w2 (Obj.cells #[.bool true, .int .i64 ((a : Int) + 3), .int .i64 (n : Int)] 105)
        have N := note_any _ B S p ac tu en kk ((hS.below b2).below b3) (by rw [b3.block B (lt_of_block hB2)]; exact hB2) i c2 true (a + 3) n
        rw [show ((a + 3 : Nat) : Int) = (a : Int) + 3 by omega] at N
        have hSl := (hS.below b2).lt
        have hv : (w2.alloc (Obj.cells #[.bool true, .int .i64 ((a : Int) + 3), .int .i64 (n : Int)] 105)).heap[w2.heap.size]? = some (.cells #[.bool true, .int .i64 ((a : Int) + 3), .int .i64 (n : Int)] 105) := heap_alloc_new _ _
        go_wp2_with fail
        refine N.mono ?_
        rintro e w3 ⟨rfl, h3, k3⟩
        have hv3 := k3.other hv (by omega)
        have cn : w3.cell? ⟨w2.heap.size, 2, none⟩ = some (.int .i64 (n : Int)) := by simp [World.cell?, hv3]
        have hB3 := k3.other (by rw [b3.block B (lt_of_block hB2)]; exact hB2) hne
        have K3 : Hid (Kept S w w3) := hide (((hK.below b2).below b3).trans k3)
        clear hv hv3 k3 N
        go_wp2_with fail
        go_roundw
        case rel => exact ⟨a + 4 + n, g, _, by go_num, by omega, h3, hB3, K3.out, hide (by have := hf.out; omega), HE⟩
        case measure => simp [intOf]; omega
    · have hlt' : decide ((a : Int) < (u : Int)) = false := decide_eq_false (by omega)
      have hbl : blankB l a = true := by
        cases hb : blankB l a
        · exact absurd ((hub a).2 hb) hlt
        · rfl
      have HE : Hid ((K, E, c) = (kk, a, true)) := by
        show _ = _
        rw [← hr.out, hE.out, rd, hbl]; rfl
      clear hE hr hub hbl
      go_wp2_with fail
      go_ret2
      have := HE.out
      injection this with e1 e2
      injection e2 with e2 e3
      subst e1 e2 e3
      exact ⟨rfl, hS, hK⟩
end Go.Proofs.Ytcjahdgppnmdkaa
