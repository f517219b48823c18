/- Package power over numbers: what is left, how far it goes. -/
import Derived.Test.YtnofpcoohbmnpaaPaR
import Derived.Test.YtnofpcoohbmnpaaGn0
namespace Go.Proofs.Ytnofpcoohbmnpaa
open Go.RowKit Go.Great

/-- a battery: its parameters, what is left, whether it is known -/
structure Ba where
  l : List Int
  lo : Int
  hi : Int
  kn : Bool
def drn (l : List Int) : Int := (marL l).drain
def bN (l : List Int) : Ba := ⟨l, 0, 0, false⟩
def tick (t : Ba) : Ba := if t.kn = true then { t with lo := sat (t.lo - drn t.l) } else t
def sLo (l : List Int) (x : Int) : Int := sat (x - l.getD 18 0)
def sHi (l : List Int) (x : Int) : Int := sat (x + l.getD 18 0)
def cLo (t : Ba) (x : Int) : Int := if t.lo < sLo t.l x then sLo t.l x else t.lo
def cHi (t : Ba) (x : Int) : Int := if sHi t.l x < t.hi then sHi t.l x else t.hi
def hearS (t : Ba) (x : Int) : Ba := if t.kn = true ∧ ¬ cHi t x < cLo t x then ⟨t.l, cLo t x, cHi t x, true⟩ else ⟨t.l, sLo t.l x, sHi t.l x, true⟩
def stpS (t : Ba) (o : Bool) (x : Int) : Ba := if o = true then hearS (tick t) x else tick t
def need (l : List Int) (k : Int) : Int := l.getD 17 0 + drn l * (k + 8)
def lanT (l : List Int) (h : Int) : Int := (landE l (clamp h 0 536870912)).1
def retT (l : List Int) (h d : Int) : Int := (retE l (clamp h 0 536870912) (clamp d 0 536870912)).1
def tierI (t : Ba) (h d : Int) : Int := if t.kn = false ∨ t.lo < need t.l (lanT t.l h) then 2 else if t.lo < need t.l (retT t.l h d + lanT t.l h) then 1 else 0
structure BOk (t : Ba) : Prop where
  snd : Sound t.l
  lo : I64 t.lo
  hi : I64 t.hi
theorem sat_in (x : Int) : I64 (sat x) := by
  unfold sat I64; split
  · omega
  · split <;> omega
theorem bN_ok {l : List Int} (h : Sound l) : BOk (bN l) := ⟨h, by unfold I64 bN; simp, by unfold I64 bN; simp⟩
theorem tick_ok {t : Ba} (h : BOk t) : BOk (tick t) := by
  unfold tick; split
  · exact ⟨h.snd, sat_in _, h.hi⟩
  · exact h
theorem hear_ok {t : Ba} (h : BOk t) (x : Int) : BOk (hearS t x) := by
  unfold hearS; split
  · refine ⟨h.snd, ?_, ?_⟩
    · show I64 (cLo t x)
      unfold cLo; split
      · exact sat_in _
      · exact h.lo
    · show I64 (cHi t x)
      unfold cHi; split
      · exact sat_in _
      · exact h.hi
  · exact ⟨h.snd, sat_in _, sat_in _⟩
theorem stp_ok {t : Ba} (h : BOk t) (o : Bool) (x : Int) : BOk (stpS t o x) := by
  unfold stpS; split
  · exact hear_ok (tick_ok h) x
  · exact tick_ok h
theorem tick_l (t : Ba) : (tick t).l = t.l := by unfold tick; split <;> rfl
theorem hear_l (t : Ba) (x : Int) : (hearS t x).l = t.l := by unfold hearS; split <;> rfl
theorem stp_l (t : Ba) (o : Bool) (x : Int) : (stpS t o x).l = t.l := by
  unfold stpS; split
  · rw [hear_l, tick_l]
  · exact tick_l t
theorem drn_in {l : List Int} (h : Sound l) : 0 ≤ drn l ∧ drn l ≤ 3000 := by
  have b := h.inr
  have b19 := b 19 (by omega)
  have b20 := b 20 (by omega)
  simp [loL, hiL] at b19 b20
  unfold drn marL
  simp only [List.getD] at *
  omega
theorem off_in {l : List Int} (h : Sound l) : 0 ≤ l.getD 18 0 ∧ l.getD 18 0 ≤ 1000000 := by
  have b := h.inr 18 (by omega)
  simpa [loL, hiL] using b
theorem floor_in {l : List Int} (h : Sound l) : 0 ≤ l.getD 17 0 ∧ l.getD 17 0 ≤ 1000000000 := by
  have b := h.inr 17 (by omega)
  simpa [loL, hiL] using b
theorem clamp_in (h : Int) : 0 ≤ clamp h 0 536870912 ∧ clamp h 0 536870912 ≤ 536870912 := by
  unfold clamp; split
  · omega
  · split <;> omega
theorem lanT_eq {l : List Int} (hs : Sound l) (h : Int) : lanT l h = landI (marL l) (l.getD 9 0) (clamp h 0 536870912) := by
  unfold lanT landE
  rw [if_pos hs.chk, if_pos (clamp_in h)]
theorem retT_eq {l : List Int} (hs : Sound l) (h d : Int) : retT l h d = retI l (clamp h 0 536870912) (clamp d 0 536870912) := by
  unfold retT retE
  rw [if_pos hs.chk, if_pos ⟨clamp_in h, clamp_in d⟩]
theorem lanT_in {l : List Int} (hs : Sound l) (h : Int) : 0 ≤ lanT l h ∧ lanT l h ≤ 4000000000000 := by
  rw [lanT_eq hs]
  obtain ⟨-, -, -, -, -, -, b6, b7, b8, b9, b10, -⟩ := hs.inr.bounds
  have := land_in (marL l) hs.marIn (l.getD 9 0) (clamp h 0 536870912) b9.1 b9.2 (clamp_in h).1 (clamp_in h).2
  omega
theorem retT_in {l : List Int} (hs : Sound l) (h d : Int) : 0 ≤ retT l h d ∧ retT l h d ≤ 100000000000000 := by
  rw [retT_eq hs]
  have hx := clamp_in h
  have hd := clamp_in d
  generalize clamp h 0 536870912 = x at *
  generalize clamp d 0 536870912 = y at *
  obtain ⟨-, -, -, -, -, -, b6, b7, b8, b9, b10, -⟩ := hs.inr.bounds
  unfold retI
  simp only
  have h1 := leg_in (max x (l.getD 10 0) + 1000) (l.getD 8 0) (l.getD 6 0) (by omega) (by omega) (by omega) (by omega) (by omega)
  have h2 := leg_in y (l.getD 7 0) (l.getD 6 0) (by omega) (by omega) (by omega) (by omega) (by omega)
  have h3 := upI_in (12800 * (max x (l.getD 10 0) + 1000)) (l.getD 9 0) (by omega) (by omega)
  have h4 := (ediv_in (l.getD 8 0 + l.getD 9 0) (l.getD 6 0) (by omega)).1 (by omega)
  omega
theorem need_in {l : List Int} (hs : Sound l) (k : Int) (h0 : 0 ≤ k) (h1 : k ≤ 104000000000000) : 0 ≤ drn l * (k + 8) ∧ drn l * (k + 8) ≤ 400000000000000000 := by
  have hd := drn_in hs
  refine ⟨Int.mul_nonneg hd.1 (by omega), ?_⟩
  have := Int.mul_le_mul hd.2 (show k + 8 ≤ 104000000000008 by omega) (by omega) (by omega)
  omega
/-- a battery's cells -/
def bC (t : Ba) : Array Value := (t.l.map (Value.int .i64) ++ [Value.int .i64 (drn t.l), Value.int .i64 t.lo, Value.int .i64 t.hi, Value.bool t.kn]).toArray
theorem bC_val {t : Ba} (h : t.l.length = 24) (i : Nat) (hi : i < 24) : (bC t)[i]? = some (.int .i64 (t.l.getD i 0)) := by
  unfold bC
  rw [List.getElem?_toArray, List.getElem?_append_left (by simpa [h] using hi), List.getElem?_map, List.getD, List.getElem?_eq_getElem (by omega)]
  rfl
theorem bC_at {t : Ba} (h : t.l.length = 24) (i : Nat) (hi : 24 ≤ i) : (bC t)[i]? = ([.int .i64 (drn t.l), .int .i64 t.lo, .int .i64 t.hi, .bool t.kn] : List Value)[i - 24]? := by
  unfold bC
  rw [List.getElem?_toArray, List.getElem?_append_right (by simpa [h] using hi)]
  simp [h]
theorem bC_set {t : Ba} (h : t.l.length = 24) (i : Nat) (u : Value) : (bC t).setIfInBounds (24 + i) u = (t.l.map (Value.int .i64) ++ ([.int .i64 (drn t.l), .int .i64 t.lo, .int .i64 t.hi, .bool t.kn] : List Value).set i u).toArray := by
  unfold bC
  rw [List.setIfInBounds_toArray, List.set_append, if_neg (by simp [h])]
  simp [h]
theorem bC_lo {t : Ba} (h : t.l.length = 24) (x : Int) : (bC t).setIfInBounds 25 (.int .i64 x) = bC { t with lo := x } := bC_set h 1 _
theorem bC_hi {t : Ba} (h : t.l.length = 24) (x : Int) : (bC t).setIfInBounds 26 (.int .i64 x) = bC { t with hi := x } := bC_set h 2 _
theorem bC_kn {t : Ba} (h : t.l.length = 24) (x : Bool) : (bC t).setIfInBounds 27 (.bool x) = bC { t with kn := x } := bC_set h 3 _
/-- a battery's block -/
abbrev Bat (w : World) (B : Nat) (t : Ba) : Prop := Blk w B (bC t) 64
theorem Blk.drain {w : World} {B : Nat} {t : Ba} (h : Bat w B t) (hl : t.l.length = 24) : w.cell? ⟨B, 24, none⟩ = some (.int .i64 (drn t.l)) := h.cell 24 (bC_at hl 24 (by omega))
theorem Blk.clo {w : World} {B : Nat} {t : Ba} (h : Bat w B t) (hl : t.l.length = 24) : w.cell? ⟨B, 25, none⟩ = some (.int .i64 t.lo) := h.cell 25 (bC_at hl 25 (by omega))
theorem Blk.chi {w : World} {B : Nat} {t : Ba} (h : Bat w B t) (hl : t.l.length = 24) : w.cell? ⟨B, 26, none⟩ = some (.int .i64 t.hi) := h.cell 26 (bC_at hl 26 (by omega))
theorem Blk.ckn {w : World} {B : Nat} {t : Ba} (h : Bat w B t) (hl : t.l.length = 24) : w.cell? ⟨B, 27, none⟩ = some (.bool t.kn) := h.cell 27 (bC_at hl 27 (by omega))
theorem Blk.val {w : World} {B : Nat} {t : Ba} (h : Bat w B t) (hl : t.l.length = 24) (i : Nat) (hi : i < 24) : w.cell? ⟨B, i, none⟩ = some (.int .i64 (t.l.getD i 0)) := h.cell i (bC_val hl i hi)
/-- its parameters as a slice -/
theorem Blk.vals {w : World} {B : Nat} {t : Ba} (h : Bat w B t) (hl : t.l.length = 24) (c : Nat) : Ints w (.slice (some ⟨B, 0, none⟩) 24 c) t.l :=
  ⟨some ⟨B, 0, none⟩, c, by rw [hl], fun _ => ⟨B, 0, rfl, h.lt, fun i hi => by
    rw [Nat.zero_add]
    exact h.val hl i (by omega)⟩⟩
end Go.Proofs.Ytnofpcoohbmnpaa
