/- PwM, Pw1, Pw2, Pw3, CoM. -/
import Derived.Test.YtapfaaaepnplcaaGreatDoorG20
import Derived.Test.YtapfaaaepnplcaaGreatDoorG06
import Derived.Test.YtapfaaaepnplcaaGreatDoorG01
set_option maxRecDepth 100000
namespace Go.Proofs.YtapfaaaepnplcaaGreatDoor
open Go.RowKit Go.Great
/-- a battery: its parameters, what is left, whether it is known -/
structure Ba where
  l : List Int
  lo : Int
  hi : Int
  kn : Bool
def drn (l : List Int) : Int := (marL l).drain
def bN (l : List Int) : Ba := ⟨l, 0, 0, false⟩
def tick (t : Ba) : Ba := if t.kn = true then { t with lo := sat (t.lo - drn t.l) } else t
def sLo (l : List Int) (x : Int) : Int := sat (x - l.getD 18 0)
def sHi (l : List Int) (x : Int) : Int := sat (x + l.getD 18 0)
def cLo (t : Ba) (x : Int) : Int := if t.lo < sLo t.l x then sLo t.l x else t.lo
def cHi (t : Ba) (x : Int) : Int := if sHi t.l x < t.hi then sHi t.l x else t.hi
def hearS (t : Ba) (x : Int) : Ba := if t.kn = true ∧ ¬ cHi t x < cLo t x then ⟨t.l, cLo t x, cHi t x, true⟩ else ⟨t.l, sLo t.l x, sHi t.l x, true⟩
def stpS (t : Ba) (o : Bool) (x : Int) : Ba := if o = true then hearS (tick t) x else tick t
def need (l : List Int) (k : Int) : Int := l.getD 17 0 + drn l * (k + 8)
def lanT (l : List Int) (h : Int) : Int := (landE l (clamp h 0 536870912)).1
def retT (l : List Int) (h d : Int) : Int := (retE l (clamp h 0 536870912) (clamp d 0 536870912)).1
def tierI (t : Ba) (h d : Int) : Int := if t.kn = false ∨ t.lo < need t.l (lanT t.l h) then 2 else if t.lo < need t.l (retT t.l h d + lanT t.l h) then 1 else 0
structure BOk (t : Ba) : Prop where
  snd : Sound t.l
  lo : I64 t.lo
  hi : I64 t.hi
theorem sat_in (x : Int) : I64 (sat x) := by
  unfold sat I64; split
  · omega
  · split <;> omega
theorem bN_ok {l : List Int} (h : Sound l) : BOk (bN l) := ⟨h, by unfold I64 bN; simp, by unfold I64 bN; simp⟩
theorem tick_ok {t : Ba} (h : BOk t) : BOk (tick t) := by
  unfold tick; split
  · exact ⟨h.snd, sat_in _, h.hi⟩
  · exact h
theorem hear_ok {t : Ba} (h : BOk t) (x : Int) : BOk (hearS t x) := by
  unfold hearS; split
  · refine ⟨h.snd, ?_, ?_⟩
    · show I64 (cLo t x)
      unfold cLo; split
      · exact sat_in _
      · exact h.lo
    · show I64 (cHi t x)
      unfold cHi; split
      · exact sat_in _
      · exact h.hi
  · exact ⟨h.snd, sat_in _, sat_in _⟩
theorem stp_ok {t : Ba} (h : BOk t) (o : Bool) (x : Int) : BOk (stpS t o x) := by
  unfold stpS; split
  · exact hear_ok (tick_ok h) x
  · exact tick_ok h
theorem tick_l (t : Ba) : (tick t).l = t.l := by unfold tick; split <;> rfl
theorem hear_l (t : Ba) (x : Int) : (hearS t x).l = t.l := by unfold hearS; split <;> rfl
theorem stp_l (t : Ba) (o : Bool) (x : Int) : (stpS t o x).l = t.l := by
  unfold stpS; split
  · rw [hear_l, tick_l]
  · exact tick_l t
theorem drn_in {l : List Int} (h : Sound l) : 0 ≤ drn l ∧ drn l ≤ 3000 := by
  have b := h.inr
  have b19 := b 19 (by omega)
  have b20 := b 20 (by omega)
  simp [loL, hiL] at b19 b20
  unfold drn marL
  simp only [List.getD] at *
  omega
theorem off_in {l : List Int} (h : Sound l) : 0 ≤ l.getD 18 0 ∧ l.getD 18 0 ≤ 1000000 := by
  have b := h.inr 18 (by omega)
  simpa [loL, hiL] using b
theorem floor_in {l : List Int} (h : Sound l) : 0 ≤ l.getD 17 0 ∧ l.getD 17 0 ≤ 1000000000 := by
  have b := h.inr 17 (by omega)
  simpa [loL, hiL] using b
theorem clamp_in (h : Int) : 0 ≤ clamp h 0 536870912 ∧ clamp h 0 536870912 ≤ 536870912 := by
  unfold clamp; split
  · omega
  · split <;> omega
theorem lanT_eq {l : List Int} (hs : Sound l) (h : Int) : lanT l h = landI (marL l) (l.getD 9 0) (clamp h 0 536870912) := by
  unfold lanT landE
  rw [if_pos hs.chk, if_pos (clamp_in h)]
theorem retT_eq {l : List Int} (hs : Sound l) (h d : Int) : retT l h d = retI l (clamp h 0 536870912) (clamp d 0 536870912) := by
  unfold retT retE
  rw [if_pos hs.chk, if_pos ⟨clamp_in h, clamp_in d⟩]
theorem lanT_in {l : List Int} (hs : Sound l) (h : Int) : 0 ≤ lanT l h ∧ lanT l h ≤ 4000000000000 := by
  rw [lanT_eq hs]
  obtain ⟨-, -, -, -, -, -, b6, b7, b8, b9, b10, -⟩ := hs.inr.bounds
  have := land_in (marL l) hs.marIn (l.getD 9 0) (clamp h 0 536870912) b9.1 b9.2 (clamp_in h).1 (clamp_in h).2
  omega
theorem retT_in {l : List Int} (hs : Sound l) (h d : Int) : 0 ≤ retT l h d ∧ retT l h d ≤ 100000000000000 := by
  rw [retT_eq hs]
  have hx := clamp_in h
  have hd := clamp_in d
  generalize clamp h 0 536870912 = x at *
  generalize clamp d 0 536870912 = y at *
  obtain ⟨-, -, -, -, -, -, b6, b7, b8, b9, b10, -⟩ := hs.inr.bounds
  unfold retI
  simp only
  have h1 := leg_in (max x (l.getD 10 0) + 1000) (l.getD 8 0) (l.getD 6 0) (by omega) (by omega) (by omega) (by omega) (by omega)
  have h2 := leg_in y (l.getD 7 0) (l.getD 6 0) (by omega) (by omega) (by omega) (by omega) (by omega)
  have h3 := upI_in (12800 * (max x (l.getD 10 0) + 1000)) (l.getD 9 0) (by omega) (by omega)
  have h4 := (ediv_in (l.getD 8 0 + l.getD 9 0) (l.getD 6 0) (by omega)).1 (by omega)
  omega
theorem need_in {l : List Int} (hs : Sound l) (k : Int) (h0 : 0 ≤ k) (h1 : k ≤ 104000000000000) : 0 ≤ drn l * (k + 8) ∧ drn l * (k + 8) ≤ 400000000000000000 := by
  have hd := drn_in hs
  refine ⟨Int.mul_nonneg hd.1 (by omega), ?_⟩
  have := Int.mul_le_mul hd.2 (show k + 8 ≤ 104000000000008 by omega) (by omega) (by omega)
  omega
/-- a battery's cells -/
def bC (t : Ba) : Array Value := (t.l.map (Value.int .i64) ++ [Value.int .i64 (drn t.l), Value.int .i64 t.lo, Value.int .i64 t.hi, Value.bool t.kn]).toArray
theorem bC_val {t : Ba} (h : t.l.length = 24) (i : Nat) (hi : i < 24) : (bC t)[i]? = some (.int .i64 (t.l.getD i 0)) := by
  unfold bC
  rw [List.getElem?_toArray, List.getElem?_append_left (by simpa [h] using hi), List.getElem?_map, List.getD, List.getElem?_eq_getElem (by omega)]
  rfl
theorem bC_at {t : Ba} (h : t.l.length = 24) (i : Nat) (hi : 24 ≤ i) : (bC t)[i]? = ([.int .i64 (drn t.l), .int .i64 t.lo, .int .i64 t.hi, .bool t.kn] : List Value)[i - 24]? := by
  unfold bC
  rw [List.getElem?_toArray, List.getElem?_append_right (by simpa [h] using hi)]
  simp [h]
theorem bC_set {t : Ba} (h : t.l.length = 24) (i : Nat) (u : Value) : (bC t).setIfInBounds (24 + i) u = (t.l.map (Value.int .i64) ++ ([.int .i64 (drn t.l), .int .i64 t.lo, .int .i64 t.hi, .bool t.kn] : List Value).set i u).toArray := by
  unfold bC
  rw [List.setIfInBounds_toArray, List.set_append, if_neg (by simp [h])]
  simp [h]
theorem bC_lo {t : Ba} (h : t.l.length = 24) (x : Int) : (bC t).setIfInBounds 25 (.int .i64 x) = bC { t with lo := x } := bC_set h 1 _
theorem bC_hi {t : Ba} (h : t.l.length = 24) (x : Int) : (bC t).setIfInBounds 26 (.int .i64 x) = bC { t with hi := x } := bC_set h 2 _
theorem bC_kn {t : Ba} (h : t.l.length = 24) (x : Bool) : (bC t).setIfInBounds 27 (.bool x) = bC { t with kn := x } := bC_set h 3 _
/-- a battery's block -/
abbrev Bat (w : World) (B : Nat) (t : Ba) : Prop := Blk w B (bC t) 172
theorem Blk.drain {w : World} {B : Nat} {t : Ba} (h : Bat w B t) (hl : t.l.length = 24) : w.cell? ⟨B, 24, none⟩ = some (.int .i64 (drn t.l)) := h.cell 24 (bC_at hl 24 (by omega))
theorem Blk.clo {w : World} {B : Nat} {t : Ba} (h : Bat w B t) (hl : t.l.length = 24) : w.cell? ⟨B, 25, none⟩ = some (.int .i64 t.lo) := h.cell 25 (bC_at hl 25 (by omega))
theorem Blk.chi {w : World} {B : Nat} {t : Ba} (h : Bat w B t) (hl : t.l.length = 24) : w.cell? ⟨B, 26, none⟩ = some (.int .i64 t.hi) := h.cell 26 (bC_at hl 26 (by omega))
theorem Blk.ckn {w : World} {B : Nat} {t : Ba} (h : Bat w B t) (hl : t.l.length = 24) : w.cell? ⟨B, 27, none⟩ = some (.bool t.kn) := h.cell 27 (bC_at hl 27 (by omega))
theorem Blk.val {w : World} {B : Nat} {t : Ba} (h : Bat w B t) (hl : t.l.length = 24) (i : Nat) (hi : i < 24) : w.cell? ⟨B, i, none⟩ = some (.int .i64 (t.l.getD i 0)) := h.cell i (bC_val hl i hi)
/-- its parameters as a slice -/
theorem Blk.vals {w : World} {B : Nat} {t : Ba} (h : Bat w B t) (hl : t.l.length = 24) (c : Nat) : Ints w (.slice (some ⟨B, 0, none⟩) 24 c) t.l :=
  ⟨some ⟨B, 0, none⟩, c, by rw [hl], fun _ => ⟨B, 0, rfl, h.lt, fun i hi => by
    rw [Nat.zero_add]
    exact h.val hl i (by omega)⟩⟩
end Go.Proofs.YtapfaaaepnplcaaGreatDoor
set_option maxRecDepth 100000
set_option maxHeartbeats 2000000
namespace Go.Proofs.YtapfaaaepnplcaaGreatDoor
open Go.RowKit Go.Great
/-- a span's value -/
abbrev spV (l h : Int) : Value := .agg #[.int .i64 l, .int .i64 h]
/-- a reading's value -/
abbrev rdV (o : Bool) (x : Int) : Value := .agg #[.bool o, .int .i64 x]
abbrev bP (B : Nat) : Value := .pointer (some ⟨B, 0, none⟩)
theorem needs_any (w : World) (B : Nat) (t : Ba) (k : Int) (hB : Bat w B t) (ht : Sound t.l) (h0 : 0 ≤ k) (h1 : k ≤ 104000000000000) : Calls Tryz.prog 302 #[bP B, .int .i64 k] w fun e w' => e = .returned (.int .i64 (need t.l k)) ∧ ∃ n, w' = w.drewN n := by
  have c17 := hB.val ht.len 17 (by omega)
  have c24 := hB.drain ht.len
  have hn := need_in ht k h0 h1
  have hd := drn_in ht
  have hf := floor_in ht
  unfold need
  generalize t.l.getD 17 0 = f at *
  generalize drn t.l = d at *
  clear hB ht
  obtain ⟨x, hx⟩ : ∃ x, d * (k + 8) = x := ⟨_, rfl⟩
  have hx2 : (k + 8) * d = x := by rw [Int.mul_comm]; exact hx
  rw [hx] at hn ⊢
  go_enter Tryz.func302, Tryz.ntmps302
  go_wp2_with fail
  go_quiet (fail)
  go_wp2_with fail
  go_ret
  exact ⟨ret_int (by omega), _, rfl⟩
theorem left_nil (w : World) : Calls Tryz.prog 29 #[.pointer none] w fun e w' => e = .returned (.tuple #[spV 0 0, .bool false]) ∧ Below w.heap.size w w' := by
  go_enter Tryz.func29, Tryz.ntmps29
  go_wp2_with fail
  exact bodyPost_ret (res_back2 (p := 2) (u := 3) (by kernel_rfl) Tryz.underlying41 (by kernel_rfl) _ _ w.heap.size _ rfl rfl (Blk.new _ _ _)) rfl ⟨rfl, below_alloc _ _⟩
theorem left_any (w : World) (B : Nat) (t : Ba) (hB : Bat w B t) (hl : t.l.length = 24) : Calls Tryz.prog 29 #[bP B] w fun e w' => e = .returned (.tuple #[spV t.lo t.hi, .bool t.kn]) ∧ Below w.heap.size w w' := by
  have c25 := hB.clo hl
  have c26 := hB.chi hl
  have c27 := hB.ckn hl
  have hlt := hB.lt
  clear hB
  go_enter Tryz.func29, Tryz.ntmps29
  go_wp2_with fail
  go_region
  all_goals go_wp2_with fail
  all_goals exact bodyPost_ret (res_back2 (p := 2) (u := 3) (by kernel_rfl) Tryz.underlying41 (by kernel_rfl) _ _ w.heap.size _ rfl rfl (blk_drew (Blk.new _ _ _))) rfl ⟨rfl, (below_alloc _ _).drew⟩
theorem step_nil (w : World) (o : Bool) (x : Int) : Calls Tryz.prog 121 #[.pointer none, rdV o x] w fun e w' => e = .returned (.tuple #[]) ∧ Below w.heap.size w w' := by
  go_enter Tryz.func121, Tryz.ntmps121
  go_wp2_with fail
  refine bodyPost_ret (results_none rfl _ _ _) rfl ?_
  exact ⟨rfl, below_alloc _ _⟩
theorem bat_put {w W : World} {B : Nat} {t : Ba} (hl : t.l.length = 24) (hW : Bat W B t) (hG : w.grownBy W (some B)) (p q : Int) : Bat (((W.setCell ⟨B, 25, none⟩ (.int .i64 p)).setCell ⟨B, 26, none⟩ (.int .i64 q)).setCell ⟨B, 27, none⟩ (.bool true)) B ⟨t.l, p, q, true⟩ ∧ w.grownBy (((W.setCell ⟨B, 25, none⟩ (.int .i64 p)).setCell ⟨B, 26, none⟩ (.int .i64 q)).setCell ⟨B, 27, none⟩ (.bool true)) (some B) := by
  refine ⟨?_, grown_more (grown_more (grown_more hG (grown_set _ B _ _)) (grown_set _ B _ _)) (grown_set _ B _ _)⟩
  have h1 := hW.set 25 (.int .i64 p)
  rw [bC_lo hl] at h1
  have h2 := h1.set 26 (.int .i64 q)
  rw [bC_hi (t := { t with lo := p }) hl] at h2
  have h3 := h2.set 27 (.bool true)
  rw [bC_kn (t := { t with lo := p, hi := q }) hl] at h3
  exact h3
theorem hear_any (w : World) (B : Nat) (t : Ba) (x : Int) (hB : Bat w B t) (ht : BOk t) (hx : I64 x) : Calls Tryz.prog 202 #[bP B, .int .i64 x] w fun e w' => e = .returned (.tuple #[]) ∧ Bat w' B (hearS t x) ∧ w.grownBy w' (some B) := by
  have hl := ht.snd.len
  have ho := off_in ht.snd
  have c18 := hB.val hl 18 (by omega)
  have SB := hide (fun w => sub_any x (t.l.getD 18 0) w hx (by unfold I64; omega))
  have AD := hide (fun w => add_any x (t.l.getD 18 0) w hx (by unfold I64; omega))
  have E : Hid (hearS t x = if t.kn = true ∧ ¬ (if sHi t.l x < t.hi then sHi t.l x else t.hi) < (if t.lo < sLo t.l x then sLo t.l x else t.lo) then ⟨t.l, (if t.lo < sLo t.l x then sLo t.l x else t.lo), (if sHi t.l x < t.hi then sHi t.l x else t.hi), true⟩ else ⟨t.l, sLo t.l x, sHi t.l x, true⟩) := hide rfl
  rw [show sat (x - t.l.getD 18 0) = sLo t.l x from rfl] at SB
  rw [show sat (x + t.l.getD 18 0) = sHi t.l x from rfl] at AD
  generalize sLo t.l x = a at SB E
  generalize sHi t.l x = b at AD E
  generalize t.l.getD 18 0 = off at *
  obtain ⟨L, hL⟩ : ∃ L, Hid ((if t.lo < a then a else t.lo) = L) := ⟨_, hide rfl⟩
  obtain ⟨H, hH⟩ : ∃ H, Hid ((if b < t.hi then b else t.hi) = H) := ⟨_, hide rfl⟩
  rw [hL.out, hH.out] at E
  have hlt := hB.lt
  have HB := hide hB
  have EL : Hid (hearS t x = ⟨t.l, L, H, true⟩ ∧ t.kn = true ∧ (decide (H < L) = false) ∨ hearS t x = ⟨t.l, a, b, true⟩ ∧ (t.kn = false ∨ t.kn = true ∧ decide (H < L) = true)) := by
    rw [E.out]
    cases hk : t.kn
    · right; exact ⟨by simp, .inl rfl⟩
    · by_cases hc : H < L
      · right; exact ⟨by simp [hc], .inr ⟨rfl, by simpa using hc⟩⟩
      · left; exact ⟨by simp [hc], rfl, by simpa using hc⟩
  clear hB ht hx ho E
  go_enter Tryz.func202, Tryz.ntmps202
  go_upto_region 2 with (first | (go_at_call 172; refine (SB.out _).mono ?_; rintro e w1 ⟨rfl, hw⟩; obtain rfl := hw.symm) | (go_at_call 199; refine (AD.out _).mono ?_; rintro e w1 ⟨rfl, hw⟩; obtain rfl := hw.symm))
  have HT := hide (Blk.new w #[.int .i64 a, .int .i64 b] 41)
  have HB1 := hide (HB.out.alloc (.cells #[.int .i64 a, .int .i64 b] 41))
  have G1 := hide (grown_alloc w (.cells #[.int .i64 a, .int .i64 b] 41) (some B))
  have hz : (w.alloc (.cells #[.int .i64 a, .int .i64 b] 41)).heap.size = w.heap.size + 1 := size_alloc _ _
  generalize w.alloc (.cells #[.int .i64 a, .int .i64 b] 41) = W1 at *
  clear c18 HB
  have c25 := HB1.out.clo hl
  have c26 := HB1.out.chi hl
  have c27 := HB1.out.ckn hl
  have t0 : W1.cell? ⟨w.heap.size, 0, none⟩ = some (.int .i64 a) := HT.out.cell 0 rfl
  have t1 : W1.cell? ⟨w.heap.size, 1, none⟩ = some (.int .i64 b) := HT.out.cell 1 rfl
  go_region
  rw [hL.out, hH.out]
  have hd : ∀ o, (W1.alloc o).drew.heap.size = w.heap.size + 2 := fun o => (size_alloc W1 o).trans (by rw [hz])
  have HC : Hid (Blk (W1.alloc (.cells #[.int .i64 L, .int .i64 H] 41)).drew (w.heap.size + 1) #[.int .i64 L, .int .i64 H] 41) := hide (blk_drew (by have := Blk.new W1 #[.int .i64 L, .int .i64 H] 41; rwa [hz] at this))
  have HT2 := hide (blk_drew (HT.out.alloc (.cells #[.int .i64 L, .int .i64 H] 41)))
  have HB2 := hide (blk_drew (HB1.out.alloc (.cells #[.int .i64 L, .int .i64 H] 41)))
  have G2 := hide (grown_drew1 (grown_after G1.out (below_alloc W1 (.cells #[.int .i64 L, .int .i64 H] 41))))
  clear HT HB1 G1 c25 c26 c27 t0 t1 hd
  generalize (W1.alloc (.cells #[.int .i64 L, .int .i64 H] 41)).drew = W2 at *
  have c25 := HB2.out.clo hl
  have c26 := HB2.out.chi hl
  have c27 := HB2.out.ckn hl
  have f25 := HB2.out.frozen 25
  have f26 := HB2.out.frozen 26
  have f27 := HB2.out.frozen 27
  have d0 : W2.cell? ⟨w.heap.size + 1, 0, none⟩ = some (.int .i64 L) := HC.out.cell 0 rfl
  have d1 : W2.cell? ⟨w.heap.size + 1, 1, none⟩ = some (.int .i64 H) := HC.out.cell 1 rfl
  have e0 := HC.out.frozen 0
  have e1 := HC.out.frozen 1
  have t0 : W2.cell? ⟨w.heap.size, 0, none⟩ = some (.int .i64 a) := HT2.out.cell 0 rfl
  have t1 : W2.cell? ⟨w.heap.size, 1, none⟩ = some (.int .i64 b) := HT2.out.cell 1 rfl
  have n0 : ¬ w.heap.size + 1 = B := by omega
  have n1 : ¬ B = w.heap.size + 1 := by omega
  rcases EL.out with ⟨hE, hk, hc⟩ | ⟨hE, hk⟩
  · rw [hk] at c27
    have HE := hide hE
    clear hE EL
    go_wp2_with fail
    go_end0
    rw [HE.out]
    exact ⟨rfl, bat_put hl HB2.out G2.out L H⟩
  · have HE := hide hE
    clear hE EL
    rcases hk with hk | ⟨hk, hc⟩
    · rw [hk] at c27
      go_wp2_with fail
      go_end0
      rw [HE.out]
      exact ⟨rfl, bat_put hl ((HB2.out.setOther n1 _ _).setOther n1 _ _) (grown_then (grown_then G2.out (grown_set _ _ _ _) (fun q e => .inr (by injection e with e; omega))) (grown_set _ _ _ _) (fun q e => .inr (by injection e with e; omega))) a b⟩
    · rw [hk] at c27
      go_wp2_with fail
      go_end0
      rw [HE.out]
      exact ⟨rfl, bat_put hl ((HB2.out.setOther n1 _ _).setOther n1 _ _) (grown_then (grown_then G2.out (grown_set _ _ _ _) (fun q e => .inr (by injection e with e; omega))) (grown_set _ _ _ _) (fun q e => .inr (by injection e with e; omega))) a b⟩
theorem tier_nil (w : World) (h d : Int) : Calls Tryz.prog 206 #[.pointer none, .int .i64 h, .int .i64 d] w fun e w' => e = .returned (.int .u8 0) ∧ w' = w := by
  go_enter Tryz.func206, Tryz.ntmps206
  go_wp2_with fail
  go_ret
  exact ⟨rfl, rfl⟩
end Go.Proofs.YtapfaaaepnplcaaGreatDoor
set_option maxRecDepth 100000
set_option maxHeartbeats 2000000
namespace Go.Proofs.YtapfaaaepnplcaaGreatDoor
open Go.RowKit Go.Great
def StepEnd (w : World) (B : Nat) (t : Ba) (e : Ending) (w' : World) : Prop := e = .returned (.tuple #[]) ∧ Bat w' B t ∧ w.grownBy w' (some B)
theorem step_any_Pw2 (w : World) (B : Nat) (t : Ba) (o : Bool) (x : Int) (hB : Bat w B t) (ht : BOk t) (hx : I64 x) : Calls Tryz.prog 121 #[bP B, rdV o x] w (StepEnd w B (stpS t o x)) := by
  have hl := ht.snd.len
  have hd := drn_in ht.snd
  have HE := hide (fun W (hW : Bat W B (tick t)) => hear_any W B (tick t) x hW (tick_ok ht) hx)
  have SB := hide (fun w => sub_any t.lo (drn t.l) w ht.lo (by unfold I64; omega))
  have hlt := hB.lt
  have HR := hide (Blk.new w #[.bool o, .int .i64 x] 60)
  have HB := hide (hB.alloc (.cells #[.bool o, .int .i64 x] 60))
  have G := hide (grown_alloc w (.cells #[.bool o, .int .i64 x] 60) (some B))
  have HO : Hid (stpS t o x = if o = true then hearS (tick t) x else tick t) := hide rfl
  clear hB ht hx
  obtain ⟨k, hk⟩ : ∃ k, Hid (t.kn = k) := ⟨_, hide rfl⟩
  cases k
  · have ET : Hid (tick t = t) := hide (by unfold tick; rw [hk.out]; rfl)
    rw [ET.out] at HO HE
    rw [HO.out]
    cases o
    · go_enter Tryz.func121, Tryz.ntmps121
      go_upto_region 1 with fail
      generalize w.alloc (.cells #[.bool false, .int .i64 x] 60) = W at *
      have c27 := HB.out.ckn hl
      rw [hk.out] at c27
      have r0 : W.cell? ⟨w.heap.size, 0, none⟩ = some (.bool false) := HR.out.cell 0 rfl
      go_wp2_with fail
      go_end0
      exact ⟨rfl, HB.out, G.out⟩
    · go_enter Tryz.func121, Tryz.ntmps121
      go_upto_region 1 with fail
      generalize w.alloc (.cells #[.bool true, .int .i64 x] 60) = W at *
      have c27 := HB.out.ckn hl
      rw [hk.out] at c27
      have r0 : W.cell? ⟨w.heap.size, 0, none⟩ = some (.bool true) := HR.out.cell 0 rfl
      have r1 : W.cell? ⟨w.heap.size, 1, none⟩ = some (.int .i64 x) := HR.out.cell 1 rfl
      go_wp2_with fail
      refine (HE.out _ HB.out).mono ?_
      rintro e w1 ⟨rfl, hB1, hG1⟩
      go_wp2_with fail
      go_end0
      exact ⟨rfl, hB1, grown_more G.out hG1⟩
  · have ET : Hid (tick t = { t with lo := sat (t.lo - drn t.l) }) := hide (by unfold tick; rw [hk.out]; rfl)
    rw [HO.out]
    generalize tick t = t' at *
    generalize sat (t.lo - drn t.l) = z at *
    cases o
    · go_enter Tryz.func121, Tryz.ntmps121
      go_upto_region 1 with fail
      generalize w.alloc (.cells #[.bool false, .int .i64 x] 60) = W at *
      have c27 := HB.out.ckn hl
      rw [hk.out] at c27
      have c25 := HB.out.clo hl
      have c24 := HB.out.drain hl
      have f25 := HB.out.frozen 25
      go_upto_region 3 with fail
      refine reg_last 14 rfl rfl _ rfl (by kernel_rfl) (by kernel_rfl) (by kernel_rfl) ?_
      simp only [List.take_succ_cons, List.take_zero]
      repeat (quiet_step (first
        | (go_at_call 172; exact Calls.quiet_of_same (SB.out _))))
      refine wpQuiet_nil ?_
      intro nq
      go_simp
      have HB2 := hide ((blk_drewN HB.out nq).set 25 (.int .i64 z))
      rw [bC_lo hl, ← ET.out] at HB2
      have HR2 := hide ((blk_drewN HR.out nq).setOther (show w.heap.size ≠ B by omega) 25 (.int .i64 z))
      have G2 := hide (grown_more (grown_drewNN G.out nq) (grown_set _ B 25 (.int .i64 z)))
      generalize (W.drewN nq).setCell ⟨B, 25, none⟩ (.int .i64 z) = W2 at *
      have r0 : W2.cell? ⟨w.heap.size, 0, none⟩ = some (.bool false) := HR2.out.cell 0 rfl
      go_wp2_with fail
      go_end0
      exact ⟨rfl, HB2.out, G2.out⟩
    · go_enter Tryz.func121, Tryz.ntmps121
      go_upto_region 1 with fail
      generalize w.alloc (.cells #[.bool true, .int .i64 x] 60) = W at *
      have c27 := HB.out.ckn hl
      rw [hk.out] at c27
      have c25 := HB.out.clo hl
      have c24 := HB.out.drain hl
      have f25 := HB.out.frozen 25
      go_upto_region 3 with fail
      refine reg_last 14 rfl rfl _ rfl (by kernel_rfl) (by kernel_rfl) (by kernel_rfl) ?_
      simp only [List.take_succ_cons, List.take_zero]
      repeat (quiet_step (first
        | (go_at_call 172; exact Calls.quiet_of_same (SB.out _))))
      refine wpQuiet_nil ?_
      intro nq
      go_simp
      have HB2 := hide ((blk_drewN HB.out nq).set 25 (.int .i64 z))
      rw [bC_lo hl, ← ET.out] at HB2
      have HR2 := hide ((blk_drewN HR.out nq).setOther (show w.heap.size ≠ B by omega) 25 (.int .i64 z))
      have G2 := hide (grown_more (grown_drewNN G.out nq) (grown_set _ B 25 (.int .i64 z)))
      generalize (W.drewN nq).setCell ⟨B, 25, none⟩ (.int .i64 z) = W2 at *
      have r0 : W2.cell? ⟨w.heap.size, 0, none⟩ = some (.bool true) := HR2.out.cell 0 rfl
      have r1 : W2.cell? ⟨w.heap.size, 1, none⟩ = some (.int .i64 x) := HR2.out.cell 1 rfl
      go_wp2_with fail
      refine (HE.out _ HB2.out).mono ?_
      rintro e w1 ⟨rfl, hB1, hG1⟩
      go_wp2_with fail
      go_end0
      exact ⟨rfl, hB1, grown_more G2.out hG1⟩
end Go.Proofs.YtapfaaaepnplcaaGreatDoor
set_option maxRecDepth 100000
set_option maxHeartbeats 2000000
namespace Go.Proofs.YtapfaaaepnplcaaGreatDoor
open Go.RowKit Go.Great
theorem tier_any (w : World) (B : Nat) (t : Ba) (h d : Int) (hB : Bat w B t) (ht : BOk t) : Calls Tryz.prog 206 #[bP B, .int .i64 h, .int .i64 d] w fun e w' => e = .returned (.int .u8 (tierI t h d)) ∧ Below w.heap.size w w' := by
  have hl := ht.snd.len
  have LA : Hid (∀ W, Bat W B t → Calls Tryz.prog 300 #[.slice (some ⟨B, 0, none⟩) 24 24, .int .i64 (clamp h 0 536870912)] W fun e w' => e = .returned (.tuple #[.int .i64 (lanT t.l h), .int .i64 (landE t.l (clamp h 0 536870912)).2]) ∧ Below W.heap.size W w') := hide (fun W hW => landTicks_any t.l _ _ W (hW.vals hl 24))
  have RE : Hid (∀ W, Bat W B t → Calls Tryz.prog 301 #[.slice (some ⟨B, 0, none⟩) 24 24, .int .i64 (clamp h 0 536870912), .int .i64 (clamp d 0 536870912)] W fun e w' => e = .returned (.tuple #[.int .i64 (retT t.l h d), .int .i64 (retE t.l (clamp h 0 536870912) (clamp d 0 536870912)).2]) ∧ Below W.heap.size W w') := hide (fun W hW => returnTicks_any t.l _ _ _ W (hW.vals hl 24))
  have C1 := hide (fun W => clamp_any h 0 536870912 W)
  have C2 := hide (fun W => clamp_any d 0 536870912 W)
  have l1 := lanT_in ht.snd h
  have r1 := retT_in ht.snd h d
  have HS := hide ht.snd
  have E : Hid (tierI t h d = if t.kn = false ∨ t.lo < need t.l (lanT t.l h) then 2 else if t.lo < need t.l (retT t.l h d + lanT t.l h) then 1 else 0) := hide rfl
  generalize clamp h 0 536870912 = ch at *
  generalize clamp d 0 536870912 = cd at *
  generalize lanT t.l h = a at *
  generalize retT t.l h d = b at *
  generalize (landE t.l ch).2 = e1 at *
  generalize (retE t.l ch cd).2 = e2 at *
  have NA : Hid (∀ W, Bat W B t → Calls Tryz.prog 302 #[bP B, .int .i64 a] W fun e w' => e = .returned (.int .i64 (need t.l a)) ∧ ∃ n, w' = W.drewN n) := hide (fun W hW => needs_any W B t a hW HS.out l1.1 (by omega))
  have NB : Hid (∀ W, Bat W B t → Calls Tryz.prog 302 #[bP B, .int .i64 (b + a)] W fun e w' => e = .returned (.int .i64 (need t.l (b + a))) ∧ ∃ n, w' = W.drewN n) := hide (fun W hW => needs_any W B t (b + a) hW HS.out (by omega) (by omega))
  generalize need t.l a = p at *
  generalize need t.l (b + a) = q at *
  have HB := hide hB
  clear hB ht
  go_enter Tryz.func206, Tryz.ntmps206
  go_upto_region 4 with (first | (go_at_call_of 143 h; refine (C1.out _).mono ?_; rintro e w1 ⟨rfl, hw⟩; obtain rfl := hw.symm) | (go_at_call_of 143 d; refine (C2.out _).mono ?_; rintro e w1 ⟨rfl, hw⟩; obtain rfl := hw.symm))
  go_upto_region 5 with (go_at_call 300; refine (LA.out _ HB.out).mono ?_; rintro e w1 ⟨rfl, hb1⟩)
  have HB1 := hide (HB.out.after hb1)
  have Hb1 := hide hb1
  clear hb1 HB
  go_upto_region 6 with (go_at_call 301; refine (RE.out _ HB1.out).mono ?_; rintro e w2 ⟨rfl, hb2⟩)
  have HB2 := hide (HB1.out.after hb2)
  have Hb2 := hide (below_next Hb1.out (Nat.le_refl _) hb2)
  clear hb2 HB1 Hb1
  have c25 := HB2.out.clo hl
  have c27 := HB2.out.ckn hl
  have hw : wrap64 (b + a) = b + a := by unfold wrap64; omega
  obtain ⟨k, hk⟩ : ∃ k, Hid (t.kn = k) := ⟨_, hide rfl⟩
  rw [hk.out] at c27 E
  clear l1 r1
  cases k
  · rw [show (if false = false ∨ t.lo < p then (2 : Int) else if t.lo < q then 1 else 0) = 2 by simp] at E
    go_quiet (fail)
    go_wp2_with fail
    go_ret
    rw [E.out]
    exact ⟨rfl, below_drewN Hb2.out nq⟩
  · go_quiet (first | (go_at_call 302; exact Calls.quiet_of (NA.out _ (blk_drewN HB2.out _))))
    have HB3 := hide (blk_drewN HB2.out nq)
    have Hb3 := hide (below_drewN Hb2.out nq)
    clear HB2 Hb2 c25 c27
    generalize w2.drewN nq = W3 at *
    by_cases h1 : t.lo < p
    · rw [show (if true = false ∨ t.lo < p then (2 : Int) else if t.lo < q then 1 else 0) = 2 by simp [h1]] at E
      go_wp2_with fail
      go_ret
      rw [E.out]
      exact ⟨rfl, Hb3.out⟩
    · have c25 := HB3.out.clo hl
      go_upto_region 8 with fail
      go_quiet (first | (go_at_call 302; exact Calls.quiet_of (NB.out _ (blk_drewN HB3.out _))))
      have Hb4 := hide (below_drewN Hb3.out nq)
      clear HB3 Hb3 c25
      generalize W3.drewN nq = W4 at *
      by_cases h2 : t.lo < q
      · rw [show (if true = false ∨ t.lo < p then (2 : Int) else if t.lo < q then 1 else 0) = 1 by simp [h1, h2]] at E
        go_wp2_with fail
        go_ret
        rw [E.out]
        exact ⟨rfl, Hb4.out⟩
      · rw [show (if true = false ∨ t.lo < p then (2 : Int) else if t.lo < q then 1 else 0) = 0 by simp [h1, h2]] at E
        go_wp2_with fail
        go_ret
        rw [E.out]
        exact ⟨rfl, Hb4.out⟩
end Go.Proofs.YtapfaaaepnplcaaGreatDoor
set_option maxRecDepth 100000
namespace Go.Proofs.YtapfaaaepnplcaaGreatDoor
open Go.RowKit
theorem sqrt_belowC (k : Nat) (n : Int) (h : n < 0) : sqrtFrom k n 0 = 0 := by
  induction k with
  | zero => rfl
  | succ k ih =>
    have hp : (0 : Int) < 2 ^ k := Int.pow_pos (by omega)
    have ht : n.tdiv (0 + 2 ^ k) ≤ 0 := by
      have := Int.tdiv_nonneg (a := -n) (b := 0 + 2 ^ k) (by omega) (by omega)
      rw [Int.neg_tdiv] at this
      omega
    unfold sqrtFrom
    rw [if_neg (by omega)]
    exact ih
theorem le_quotC (n x : Int) (hn : 0 ≤ n) (hx : 0 < x) : x ≤ n.tdiv x ↔ x * x ≤ n := by
  rw [Int.tdiv_eq_ediv_of_nonneg hn]
  exact Int.le_ediv_iff_mul_le hx
/-- what the document's root looks at is what the program's does -/
theorem root_cond (n x : Int) (hn : n ≤ 9223372036854775807) (hx : 0 < x) : (x ≤ 3037000499 ∧ x * x ≤ n) ↔ x ≤ n.tdiv x := by
  by_cases h : 0 ≤ n
  · rw [le_quotC n x h hx]
    refine ⟨fun q => q.2, fun q => ⟨?_, q⟩⟩
    by_cases g : x ≤ 3037000499
    · exact g
    · have := Int.mul_le_mul (a := 3037000500) (b := 3037000500) (c := x) (d := x) (by omega) (by omega) (by omega) (by omega)
      omega
  · have h1 : n.tdiv x ≤ 0 := by
      have := Int.tdiv_nonneg (a := -n) (b := x) (by omega) (by omega)
      rw [Int.neg_tdiv] at this
      omega
    have h2 : 0 ≤ x * x := Int.mul_nonneg (by omega) (by omega)
    constructor
    · rintro ⟨_, q⟩; omega
    · intro q; omega
theorem sqrt_fromC (k : Nat) (n r : Int) (hn : 0 ≤ n) (hr : 0 ≤ r) (h1 : r * r ≤ n) (h2 : n < (r + 2 ^ k) * (r + 2 ^ k)) :
    0 ≤ sqrtFrom k n r ∧ sqrtFrom k n r * sqrtFrom k n r ≤ n ∧ n < (sqrtFrom k n r + 1) * (sqrtFrom k n r + 1) := by
  induction k generalizing r with
  | zero => exact ⟨hr, h1, by show n < (r + 1) * (r + 1); simpa using h2⟩
  | succ k ih =>
    have hp : (0 : Int) < 2 ^ k := Int.pow_pos (by omega)
    unfold sqrtFrom
    have hq := le_quotC n (r + 2 ^ k) hn (by omega)
    split
    · rename_i g
      refine ih (r + 2 ^ k) (by omega) (hq.1 g) ?_
      rw [Int.pow_succ] at h2
      rw [show r + 2 ^ k + 2 ^ k = r + 2 ^ k * 2 by omega]
      exact h2
    · rename_i g
      refine ih r hr h1 ?_
      have : ¬ (r + 2 ^ k) * (r + 2 ^ k) ≤ n := fun q => g (hq.2 q)
      omega
/-- the root -/
def rt (n : Int) : Int := sqrtFrom 32 n 0
theorem rt_facts (n : Int) (h : 0 ≤ n) (h' : n ≤ 9223372036854775807) : 0 ≤ rt n ∧ rt n * rt n ≤ n ∧ n < (rt n + 1) * (rt n + 1) ∧ rt n ≤ 3037000499 := by
  obtain ⟨h1, h2, h3⟩ := sqrt_fromC 32 n 0 h (by omega) (by omega) (by simp; omega)
  unfold rt
  generalize sqrtFrom 32 n 0 = r at *
  refine ⟨h1, h2, h3, ?_⟩
  by_cases g : r ≤ 3037000499
  · exact g
  · have := Int.mul_le_mul (a := 3037000500) (b := 3037000500) (c := r) (d := r) (by omega) (by omega) (by omega) (by omega)
    omega
theorem rt_zero : rt 0 = 0 := by
  have h := rt_facts 0 (by decide) (by decide)
  generalize rt 0 = r at *
  by_cases g : r = 0
  · exact g
  · have := Int.mul_pos (show 0 < r by omega) (show 0 < r by omega)
    omega
theorem rt_mono {a b : Int} (h0 : 0 ≤ a) (h : a ≤ b) (h1 : b ≤ 9223372036854775807) : rt a ≤ rt b := by
  obtain ⟨x0, x1, _, _⟩ := rt_facts a h0 (by omega)
  obtain ⟨y0, _, y2, _⟩ := rt_facts b (by omega) h1
  generalize rt a = x at *
  generalize rt b = y at *
  by_cases g : x ≤ y
  · exact g
  · have := Int.mul_le_mul (a := y + 1) (b := y + 1) (c := x) (d := x) (by omega) (by omega) (by omega) (by omega)
    omega
theorem sat_mono {a b : Int} (h : a ≤ b) : sat a ≤ sat b := by
  unfold sat
  repeat' split
  all_goals omega
theorem sat_pos {a : Int} (h : 0 ≤ a) : 0 ≤ sat a := by
  unfold sat
  repeat' split
  all_goals omega
/-- an amount: of the least int the greatest -/
def amt (f : Int) : Int := if f < 0 then sat (0 - f) else f
theorem amt_in {f : Int} (h : I64 f) : 0 ≤ amt f ∧ amt f ≤ 9223372036854775807 := by
  unfold I64 at h
  unfold amt sat
  repeat' split
  all_goals omega
/-- how fast an axis shall go over an amount -/
def lawM (m sp ac : Int) : Int := min sp (min (rt (sat (ac * m))) (m / 32))
/-- how fast an axis shall go -/
def lawS (far sp ac : Int) : Int := if sp < 1 ∨ ac < 1 then 0 else if far < 0 then -(lawM (amt far) sp ac) else lawM far sp ac
theorem lawM_in {m sp ac : Int} (hm : 0 ≤ m) (hs : 1 ≤ sp) (ha : 1 ≤ ac) : 0 ≤ lawM m sp ac ∧ lawM m sp ac ≤ sp := by
  have h0 : 0 ≤ ac * m := Int.mul_nonneg (by omega) hm
  have h := rt_facts (sat (ac * m)) (sat_pos h0) (sat_in _).2
  unfold lawM
  omega
theorem lawM_mono {m m' sp ac : Int} (h0 : 0 ≤ m) (h : m ≤ m') (ha : 1 ≤ ac) : lawM m sp ac ≤ lawM m' sp ac := by
  have e0 : 0 ≤ ac * m := Int.mul_nonneg (by omega) h0
  have e1 : ac * m ≤ ac * m' := Int.mul_le_mul_of_nonneg_left h (by omega)
  have h2 := rt_mono (sat_pos e0) (sat_mono e1) (sat_in _).2
  unfold lawM
  omega
theorem lawM_zero {sp ac : Int} (hs : 1 ≤ sp) : lawM 0 sp ac = 0 := by
  unfold lawM
  rw [Int.mul_zero, show sat 0 = 0 from rfl, rt_zero]
  omega
theorem lawS_mono {a b sp ac : Int} (ha : I64 a) (hb : I64 b) (h : a ≤ b) : lawS a sp ac ≤ lawS b sp ac := by
  unfold lawS
  by_cases hc : sp < 1 ∨ ac < 1
  · rw [if_pos hc, if_pos hc]; omega
  · rw [if_neg hc, if_neg hc]
    have ia := amt_in ha
    have ib := amt_in hb
    by_cases h1 : a < 0
    · rw [if_pos h1]
      have pa := lawM_in (m := amt a) (sp := sp) (ac := ac) ia.1 (by omega) (by omega)
      by_cases h2 : b < 0
      · rw [if_pos h2]
        have hm : amt b ≤ amt a := by
          unfold amt
          rw [if_pos h1, if_pos h2]
          exact sat_mono (by omega)
        have := lawM_mono (sp := sp) (ac := ac) ib.1 hm (by omega)
        omega
      · rw [if_neg h2]
        have pb := lawM_in (m := b) (sp := sp) (ac := ac) (by omega) (by omega) (by omega)
        omega
    · rw [if_neg h1, if_neg (by omega)]
      exact lawM_mono (by omega) h (by omega)
theorem lawS_bound {a sp ac : Int} (ha : I64 a) : -(max sp 0) ≤ lawS a sp ac ∧ lawS a sp ac ≤ max sp 0 := by
  unfold lawS
  by_cases hc : sp < 1 ∨ ac < 1
  · rw [if_pos hc]; omega
  · rw [if_neg hc]
    have ia := amt_in ha
    by_cases h1 : a < 0
    · rw [if_pos h1]
      have pa := lawM_in (m := amt a) (sp := sp) (ac := ac) ia.1 (by omega) (by omega)
      omega
    · rw [if_neg h1]
      have pb := lawM_in (m := a) (sp := sp) (ac := ac) (by omega) (by omega) (by omega)
      omega
theorem lawS_sign {a sp ac : Int} (ha : I64 a) : (0 < a → 0 ≤ lawS a sp ac) ∧ (a < 0 → lawS a sp ac ≤ 0) ∧ (a = 0 → lawS a sp ac = 0) := by
  unfold lawS
  by_cases hc : sp < 1 ∨ ac < 1
  · rw [if_pos hc]; omega
  · rw [if_neg hc]
    have ia := amt_in ha
    by_cases h1 : a < 0
    · rw [if_pos h1]
      have pa := lawM_in (m := amt a) (sp := sp) (ac := ac) ia.1 (by omega) (by omega)
      omega
    · rw [if_neg h1]
      have pb := lawM_in (m := a) (sp := sp) (ac := ac) (by omega) (by omega) (by omega)
      refine ⟨by omega, by omega, fun h => ?_⟩
      subst h
      exact lawM_zero (by omega)
theorem lawS_turn {a sp ac : Int} (ha : I64 a) (hl : a ≠ -9223372036854775808) : lawS (sat (0 - a)) sp ac = -(lawS a sp ac) := by
  unfold I64 at ha
  have e : sat (0 - a) = -a := by
    unfold sat
    repeat' split
    all_goals omega
  rw [e]
  unfold lawS
  by_cases hc : sp < 1 ∨ ac < 1
  · rw [if_pos hc, if_pos hc]; omega
  · rw [if_neg hc, if_neg hc]
    by_cases h1 : a < 0
    · rw [if_pos h1, if_neg (by omega)]
      have : amt a = -a := by unfold amt; rw [if_pos h1]; exact e
      rw [this]; omega
    · rw [if_neg h1]
      by_cases h0 : a = 0
      · subst h0
        rw [if_neg (by omega), show (-0 : Int) = 0 from rfl, lawM_zero (by omega)]
        omega
      · rw [if_pos (by omega)]
        have : amt (-a) = a := by
          unfold amt
          rw [if_pos (by omega)]
          unfold sat
          repeat' split
          all_goals omega
        rw [this]
/-- a reference goes nearer, by no more than a step -/
theorem slew_in (a b s : Int) (hs : 0 ≤ s) : -s ≤ slew a b s - a ∧ slew a b s - a ≤ s ∧ ((a ≤ slew a b s ∧ slew a b s ≤ b) ∨ (b ≤ slew a b s ∧ slew a b s ≤ a) ∨ slew a b s = a) := by
  unfold slew
  repeat' split
  all_goals omega
/-- an axis that is as near to its reference as it is told wrong, and as the air is, stays so -/
theorem led {v ref nxt n air off dev : Int} (hn : -off ≤ n ∧ n ≤ off) (ha : -dev ≤ air ∧ air ≤ dev) (hs : -12 ≤ nxt - ref ∧ nxt - ref ≤ 12) (hl : 12 + dev + 2 * off ≤ 64) (hv : -(off + dev) ≤ v - ref ∧ v - ref ≤ off + dev) : clamp (nxt - (v + n)) (-64) 64 = nxt - (v + n) ∧ -(off + dev) ≤ v + (nxt - (v + n)) + air - nxt ∧ v + (nxt - (v + n)) + air - nxt ≤ off + dev := by
  refine ⟨?_, by omega, by omega⟩
  unfold clamp
  rw [if_neg (by omega), if_neg (by omega)]
end Go.Proofs.YtapfaaaepnplcaaGreatDoor
