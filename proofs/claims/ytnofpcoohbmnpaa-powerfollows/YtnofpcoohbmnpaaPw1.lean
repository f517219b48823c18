/- Package power: needs, Left, Step, hear. -/
import Derived.Test.YtnofpcoohbmnpaaPwM
namespace Go.Proofs.Ytnofpcoohbmnpaa
open Go.RowKit Go.Great

/-- a span's value -/
abbrev spV (l h : Int) : Value := .agg #[.int .i64 l, .int .i64 h]
/-- a reading's value -/
abbrev rdV (o : Bool) (x : Int) : Value := .agg #[.bool o, .int .i64 x]
abbrev bP (B : Nat) : Value := .pointer (some ⟨B, 0, none⟩)
set_option maxHeartbeats 1000000 in
theorem needs_any (w : World) (B : Nat) (t : Ba) (k : Int) (hB : Bat w B t) (ht : Sound t.l) (h0 : 0 ≤ k) (h1 : k ≤ 104000000000000) : Calls Try.prog 30 #[bP B, .int .i64 k] w fun e w' => e = .returned (.int .i64 (need t.l k)) ∧ ∃ n, w' = w.drewN n := by
  have c17 := hB.val ht.len 17 (by omega)
  have c24 := hB.drain ht.len
  have hn := need_in ht k h0 h1
  have hd := drn_in ht
  have hf := floor_in ht
  unfold need
  generalize t.l.getD 17 0 = f at *
  generalize drn t.l = d at *
  clear hB ht
  obtain ⟨x, hx⟩ : ∃ x, d * (k + 8) = x := ⟨_, rfl⟩
  have hx2 : (k + 8) * d = x := by rw [Int.mul_comm]; exact hx
  rw [hx] at hn ⊢
  go_enter Try.func30, Try.ntmps30
  go_wp2_with fail
  go_quiet (fail)
  go_wp2_with fail
  go_ret
  exact ⟨ret_int (by omega), _, rfl⟩
theorem left_nil (w : World) : Calls Try.prog 15 #[.pointer none] w fun e w' => e = .returned (.tuple #[spV 0 0, .bool false]) ∧ Below w.heap.size w w' := by
  go_enter Try.func15, Try.ntmps15
  go_wp2_with fail
  exact bodyPost_ret (res_back2 (p := 2) (u := 3) (by kernel_rfl) Try.underlying31 (by kernel_rfl) _ _ w.heap.size _ rfl rfl (Blk.new _ _ _)) rfl ⟨rfl, below_alloc _ _⟩
set_option maxHeartbeats 1000000 in
theorem left_any (w : World) (B : Nat) (t : Ba) (hB : Bat w B t) (hl : t.l.length = 24) : Calls Try.prog 15 #[bP B] w fun e w' => e = .returned (.tuple #[spV t.lo t.hi, .bool t.kn]) ∧ Below w.heap.size w w' := by
  have c25 := hB.clo hl
  have c26 := hB.chi hl
  have c27 := hB.ckn hl
  have hlt := hB.lt
  clear hB
  go_enter Try.func15, Try.ntmps15
  go_wp2_with fail
  go_region
  all_goals go_wp2_with fail
  all_goals exact bodyPost_ret (res_back2 (p := 2) (u := 3) (by kernel_rfl) Try.underlying31 (by kernel_rfl) _ _ w.heap.size _ rfl rfl (blk_drew (Blk.new _ _ _))) rfl ⟨rfl, (below_alloc _ _).drew⟩
theorem step_nil (w : World) (o : Bool) (x : Int) : Calls Try.prog 13 #[.pointer none, rdV o x] w fun e w' => e = .returned (.tuple #[]) ∧ Below w.heap.size w w' := by
  go_enter Try.func13, Try.ntmps13
  go_wp2_with fail
  refine bodyPost_ret (results_none rfl _ _ _) rfl ?_
  exact ⟨rfl, below_alloc _ _⟩
theorem bat_put {w W : World} {B : Nat} {t : Ba} (hl : t.l.length = 24) (hW : Bat W B t) (hG : w.grownBy W (some B)) (p q : Int) : Bat (((W.setCell ⟨B, 25, none⟩ (.int .i64 p)).setCell ⟨B, 26, none⟩ (.int .i64 q)).setCell ⟨B, 27, none⟩ (.bool true)) B ⟨t.l, p, q, true⟩ ∧ w.grownBy (((W.setCell ⟨B, 25, none⟩ (.int .i64 p)).setCell ⟨B, 26, none⟩ (.int .i64 q)).setCell ⟨B, 27, none⟩ (.bool true)) (some B) := by
  refine ⟨?_, grown_more (grown_more (grown_more hG (grown_set _ B _ _)) (grown_set _ B _ _)) (grown_set _ B _ _)⟩
  have h1 := hW.set 25 (.int .i64 p)
  rw [bC_lo hl] at h1
  have h2 := h1.set 26 (.int .i64 q)
  rw [bC_hi (t := { t with lo := p }) hl] at h2
  have h3 := h2.set 27 (.bool true)
  rw [bC_kn (t := { t with lo := p, hi := q }) hl] at h3
  exact h3
set_option maxHeartbeats 2000000 in
theorem hear_any (w : World) (B : Nat) (t : Ba) (x : Int) (hB : Bat w B t) (ht : BOk t) (hx : I64 x) : Calls Try.prog 24 #[bP B, .int .i64 x] w fun e w' => e = .returned (.tuple #[]) ∧ Bat w' B (hearS t x) ∧ w.grownBy w' (some B) := by
  have hl := ht.snd.len
  have ho := off_in ht.snd
  have c18 := hB.val hl 18 (by omega)
  have SB := hide (fun w => sub_any x (t.l.getD 18 0) w hx (by unfold I64; omega))
  have AD := hide (fun w => add_any x (t.l.getD 18 0) w hx (by unfold I64; omega))
  have E : Hid (hearS t x = if t.kn = true ∧ ¬ (if sHi t.l x < t.hi then sHi t.l x else t.hi) < (if t.lo < sLo t.l x then sLo t.l x else t.lo) then ⟨t.l, (if t.lo < sLo t.l x then sLo t.l x else t.lo), (if sHi t.l x < t.hi then sHi t.l x else t.hi), true⟩ else ⟨t.l, sLo t.l x, sHi t.l x, true⟩) := hide rfl
  rw [show sat (x - t.l.getD 18 0) = sLo t.l x from rfl] at SB
  rw [show sat (x + t.l.getD 18 0) = sHi t.l x from rfl] at AD
  generalize sLo t.l x = a at SB E
  generalize sHi t.l x = b at AD E
  generalize t.l.getD 18 0 = off at *
  obtain ⟨L, hL⟩ : ∃ L, Hid ((if t.lo < a then a else t.lo) = L) := ⟨_, hide rfl⟩
  obtain ⟨H, hH⟩ : ∃ H, Hid ((if b < t.hi then b else t.hi) = H) := ⟨_, hide rfl⟩
  rw [hL.out, hH.out] at E
  have hlt := hB.lt
  have HB := hide hB
  have EL : Hid (hearS t x = ⟨t.l, L, H, true⟩ ∧ t.kn = true ∧ (decide (H < L) = false) ∨ hearS t x = ⟨t.l, a, b, true⟩ ∧ (t.kn = false ∨ t.kn = true ∧ decide (H < L) = true)) := by
    rw [E.out]
    cases hk : t.kn
    · right; exact ⟨by simp, .inl rfl⟩
    · by_cases hc : H < L
      · right; exact ⟨by simp [hc], .inr ⟨rfl, by simpa using hc⟩⟩
      · left; exact ⟨by simp [hc], rfl, by simpa using hc⟩
  clear hB ht hx ho E
  go_enter Try.func24, Try.ntmps24
  go_upto_region 2 with (first | (go_at_call 23; refine (SB.out _).mono ?_; rintro e w1 ⟨rfl, hw⟩; obtain rfl := hw.symm) | (go_at_call 42; refine (AD.out _).mono ?_; rintro e w1 ⟨rfl, hw⟩; obtain rfl := hw.symm))
  have HT := hide (Blk.new w #[.int .i64 a, .int .i64 b] 31)
  have HB1 := hide (HB.out.alloc (.cells #[.int .i64 a, .int .i64 b] 31))
  have G1 := hide (grown_alloc w (.cells #[.int .i64 a, .int .i64 b] 31) (some B))
  have hz : (w.alloc (.cells #[.int .i64 a, .int .i64 b] 31)).heap.size = w.heap.size + 1 := size_alloc _ _
  generalize w.alloc (.cells #[.int .i64 a, .int .i64 b] 31) = W1 at *
  clear c18 HB
  have c25 := HB1.out.clo hl
  have c26 := HB1.out.chi hl
  have c27 := HB1.out.ckn hl
  have t0 : W1.cell? ⟨w.heap.size, 0, none⟩ = some (.int .i64 a) := HT.out.cell 0 rfl
  have t1 : W1.cell? ⟨w.heap.size, 1, none⟩ = some (.int .i64 b) := HT.out.cell 1 rfl
  go_region
  rw [hL.out, hH.out]
  have hd : ∀ o, (W1.alloc o).drew.heap.size = w.heap.size + 2 := fun o => (size_alloc W1 o).trans (by rw [hz])
  have HC : Hid (Blk (W1.alloc (.cells #[.int .i64 L, .int .i64 H] 31)).drew (w.heap.size + 1) #[.int .i64 L, .int .i64 H] 31) := hide (blk_drew (by have := Blk.new W1 #[.int .i64 L, .int .i64 H] 31; rwa [hz] at this))
  have HT2 := hide (blk_drew (HT.out.alloc (.cells #[.int .i64 L, .int .i64 H] 31)))
  have HB2 := hide (blk_drew (HB1.out.alloc (.cells #[.int .i64 L, .int .i64 H] 31)))
  have G2 := hide (grown_drew1 (grown_after G1.out (below_alloc W1 (.cells #[.int .i64 L, .int .i64 H] 31))))
  clear HT HB1 G1 c25 c26 c27 t0 t1 hd
  generalize (W1.alloc (.cells #[.int .i64 L, .int .i64 H] 31)).drew = W2 at *
  have c25 := HB2.out.clo hl
  have c26 := HB2.out.chi hl
  have c27 := HB2.out.ckn hl
  have f25 := HB2.out.frozen 25
  have f26 := HB2.out.frozen 26
  have f27 := HB2.out.frozen 27
  have d0 : W2.cell? ⟨w.heap.size + 1, 0, none⟩ = some (.int .i64 L) := HC.out.cell 0 rfl
  have d1 : W2.cell? ⟨w.heap.size + 1, 1, none⟩ = some (.int .i64 H) := HC.out.cell 1 rfl
  have e0 := HC.out.frozen 0
  have e1 := HC.out.frozen 1
  have t0 : W2.cell? ⟨w.heap.size, 0, none⟩ = some (.int .i64 a) := HT2.out.cell 0 rfl
  have t1 : W2.cell? ⟨w.heap.size, 1, none⟩ = some (.int .i64 b) := HT2.out.cell 1 rfl
  have n0 : ¬ w.heap.size + 1 = B := by omega
  have n1 : ¬ B = w.heap.size + 1 := by omega
  rcases EL.out with ⟨hE, hk, hc⟩ | ⟨hE, hk⟩
  · rw [hk] at c27
    have HE := hide hE
    clear hE EL
    go_wp2_with fail
    go_end0
    rw [HE.out]
    exact ⟨rfl, bat_put hl HB2.out G2.out L H⟩
  · have HE := hide hE
    clear hE EL
    rcases hk with hk | ⟨hk, hc⟩
    · rw [hk] at c27
      go_wp2_with fail
      go_end0
      rw [HE.out]
      exact ⟨rfl, bat_put hl ((HB2.out.setOther n1 _ _).setOther n1 _ _) (grown_then (grown_then G2.out (grown_set _ _ _ _) (fun q e => .inr (by injection e with e; omega))) (grown_set _ _ _ _) (fun q e => .inr (by injection e with e; omega))) a b⟩
    · rw [hk] at c27
      go_wp2_with fail
      go_end0
      rw [HE.out]
      exact ⟨rfl, bat_put hl ((HB2.out.setOther n1 _ _).setOther n1 _ _) (grown_then (grown_then G2.out (grown_set _ _ _ _) (fun q e => .inr (by injection e with e; omega))) (grown_set _ _ _ _) (fun q e => .inr (by injection e with e; omega))) a b⟩
theorem tier_nil (w : World) (h d : Int) : Calls Try.prog 16 #[.pointer none, .int .i64 h, .int .i64 d] w fun e w' => e = .returned (.int .u8 0) ∧ w' = w := by
  go_enter Try.func16, Try.ntmps16
  go_wp2_with fail
  go_ret
  exact ⟨rfl, rfl⟩
end Go.Proofs.Ytnofpcoohbmnpaa
