/- Package est, in plain numbers: measures, what a filter keeps, what a compass keeps. -/
import Derived.Test.YtgadpalkchillaaBk0
namespace Go.Proofs.Ytgadpalkchillaa
open Go.RowKit Go.Great

theorem sat_ok (x : Int) : I64 (sat x) := by unfold sat I64; split <;> (try split) <;> omega
theorem sat_in {x : Int} (h : I64 x) : sat x = x := by unfold I64 at h; unfold sat; split <;> (try split) <;> omega
theorem sat_mono {x y : Int} (h : x ≤ y) : sat x ≤ sat y := by unfold sat; repeat' split
                                                               all_goals omega
/-- a measure -/
structure Mea where
  o : Bool
  x : Int
  e : Int
/-- it is an int's -/
structure MOk (m : Mea) : Prop where
  x : I64 m.x
  e : I64 m.e
/-- is it there? -/
def mth (m : Mea) : Bool := m.o && decide (0 ≤ m.e)
def mlo (m : Mea) : Int := sat (m.x - m.e)
def mhi (m : Mea) : Int := sat (m.x + m.e)
theorem m_le {m : Mea} (h : mth m = true) : mlo m ≤ mhi m := by
  unfold mth at h
  simp at h
  exact sat_mono (by omega)
/-- a filter -/
structure Fi where
  st : Int
  kn : Bool
  q0 : Int
  q1 : Int
  pl : Int
  ph : Int
  vl : Int
  vh : Int
  j : Int
/-- silence goes on -/
def qt (m : Mea) (q : Int) : Int := if mth m = true then 0 else sat (q + 1)
def fhear (p v : Mea) (t : Fi) : Fi := { t with q0 := qt p t.q0, q1 := qt v t.q1 }
def fbeg (p v : Mea) (t : Fi) : Fi := if (mth p && mth v) = true then { t with kn := true, pl := mlo p, ph := mhi p, vl := mlo v, vh := mhi v } else t
def fmov (acc d : Int) (t : Fi) : Fi :=
  { t with vl := sat (sat (t.vl + acc) - d), vh := sat (sat (t.vh + acc) + d), pl := sat (t.pl + sat (sat (t.vl + acc) - d)), ph := sat (t.ph + sat (sat (t.vh + acc) + d)) }
def imin (a b : Int) : Int := if b < a then b else a
def imax (a b : Int) : Int := if a < b then b else a
def fstd (pl ph : Int) (t : Fi) : Fi := { t with vl := imin t.vl 0, vh := imax t.vh 0, pl := imin t.pl pl, ph := imax t.ph ph }
/-- is nothing left? -/
def cutN (l h : Int) (m : Mea) : Bool := mth m && decide (imin h (mhi m) < imax l (mlo m))
def cutL (l h : Int) (m : Mea) : Int := if mth m = true then (if imin h (mhi m) < imax l (mlo m) then mlo m else imax l (mlo m)) else l
def cutH (l h : Int) (m : Mea) : Int := if mth m = true then (if imin h (mhi m) < imax l (mlo m) then mhi m else imin h (mhi m)) else h
def jmp (b : Bool) (j : Int) : Int := if b = true then imin (j + 1) 65535 else j
def fcp (m : Mea) (t : Fi) : Fi := { t with pl := cutL t.pl t.ph m, ph := cutH t.pl t.ph m, j := jmp (cutN t.pl t.ph m) t.j }
def fcv (m : Mea) (t : Fi) : Fi := { t with vl := cutL t.vl t.vh m, vh := cutH t.vl t.vh m, j := jmp (cutN t.vl t.vh m) t.j }
/-- a step of a filter that knows -/
def fgo (acc dev : Int) (sd : Bool) (p v : Mea) (t : Fi) : Fi :=
  fcv v (fcp p (if sd = true then fstd t.pl t.ph (fmov acc (imax dev 0) (fhear p v t)) else fmov acc (imax dev 0) (fhear p v t)))
/-- a step -/
def fstp (acc dev : Int) (sd : Bool) (p v : Mea) (t : Fi) : Fi := if t.kn = true then fgo acc dev sd p v t else fbeg p v t
/-- its numbers are ints, and its spans in order -/
structure FOk (t : Fi) : Prop where
  st : I64 t.st
  q0 : 0 ≤ t.q0 ∧ t.q0 ≤ 9223372036854775807
  q1 : 0 ≤ t.q1 ∧ t.q1 ≤ 9223372036854775807
  pl : I64 t.pl
  ph : I64 t.ph
  vl : I64 t.vl
  vh : I64 t.vh
  p : t.pl ≤ t.ph
  v : t.vl ≤ t.vh
  j : 0 ≤ t.j ∧ t.j ≤ 65535
theorem qt_ok {m : Mea} {q : Int} (h : 0 ≤ q ∧ q ≤ 9223372036854775807) : 0 ≤ qt m q ∧ qt m q ≤ 9223372036854775807 := by
  unfold qt sat
  split
  · omega
  · split <;> (try split) <;> omega
theorem jmp_ok {b : Bool} {j : Int} (h : 0 ≤ j ∧ j ≤ 65535) : 0 ≤ jmp b j ∧ jmp b j ≤ 65535 := by
  unfold jmp imin
  split
  · split <;> omega
  · exact h
theorem imin_ok {a b : Int} (h : I64 a) (g : I64 b) : I64 (imin a b) := by unfold imin; split <;> assumption
theorem imax_ok {a b : Int} (h : I64 a) (g : I64 b) : I64 (imax a b) := by unfold imax; split <;> assumption
theorem cut_ok {l h : Int} {m : Mea} (hl : I64 l) (hh : I64 h) (hle : l ≤ h) : I64 (cutL l h m) ∧ I64 (cutH l h m) ∧ cutL l h m ≤ cutH l h m := by
  unfold cutL cutH
  by_cases hm : mth m = true
  · rw [if_pos hm, if_pos hm]
    split
    · exact ⟨sat_ok _, sat_ok _, m_le hm⟩
    · exact ⟨imax_ok hl (sat_ok _), imin_ok hh (sat_ok _), by omega⟩
  · rw [if_neg hm, if_neg hm]
    exact ⟨hl, hh, hle⟩
theorem fhear_ok {p v : Mea} {t : Fi} (h : FOk t) : FOk (fhear p v t) := ⟨h.st, qt_ok h.q0, qt_ok h.q1, h.pl, h.ph, h.vl, h.vh, h.p, h.v, h.j⟩
theorem fmov_ok {acc d : Int} {t : Fi} (h : FOk t) (hd : 0 ≤ d) : FOk (fmov acc d t) := by
  have hv : sat (sat (t.vl + acc) - d) ≤ sat (sat (t.vh + acc) + d) := sat_mono (by have := sat_mono (show t.vl + acc ≤ t.vh + acc by have := h.v; omega); omega)
  exact ⟨h.st, h.q0, h.q1, sat_ok _, sat_ok _, sat_ok _, sat_ok _, sat_mono (by have := h.p; omega), hv, h.j⟩
theorem i64_nought : I64 0 := by unfold I64; omega
theorem fstd_ok {pl ph : Int} {t : Fi} (h : FOk t) (h1 : I64 pl) (h2 : I64 ph) : FOk (fstd pl ph t) := by
  refine ⟨h.st, h.q0, h.q1, imin_ok h.pl h1, imax_ok h.ph h2, imin_ok h.vl i64_nought, imax_ok h.vh i64_nought, ?_, ?_, h.j⟩
  · have := h.p; show imin t.pl pl ≤ imax t.ph ph; unfold imin imax; split <;> split <;> omega
  · have := h.v; show imin t.vl 0 ≤ imax t.vh 0; unfold imin imax; split <;> split <;> omega
theorem fcp_ok {m : Mea} {t : Fi} (h : FOk t) : FOk (fcp m t) := by
  obtain ⟨a, b, c⟩ := cut_ok (m := m) h.pl h.ph h.p
  exact ⟨h.st, h.q0, h.q1, a, b, h.vl, h.vh, c, h.v, jmp_ok h.j⟩
theorem fcv_ok {m : Mea} {t : Fi} (h : FOk t) : FOk (fcv m t) := by
  obtain ⟨a, b, c⟩ := cut_ok (m := m) h.vl h.vh h.v
  exact ⟨h.st, h.q0, h.q1, h.pl, h.ph, a, b, h.p, c, jmp_ok h.j⟩
theorem fbeg_ok {p v : Mea} {t : Fi} (h : FOk t) : FOk (fbeg p v t) := by
  unfold fbeg
  split
  · rename_i hh
    simp at hh
    exact ⟨h.st, h.q0, h.q1, sat_ok _, sat_ok _, sat_ok _, sat_ok _, m_le hh.1, m_le hh.2, h.j⟩
  · exact h
theorem imax0 (d : Int) : 0 ≤ imax d 0 := by unfold imax; split <;> omega
theorem fgo_ok {acc dev : Int} {sd : Bool} {p v : Mea} {t : Fi} (h : FOk t) : FOk (fgo acc dev sd p v t) := by
  unfold fgo
  refine fcv_ok (fcp_ok ?_)
  split
  · exact fstd_ok (fmov_ok (fhear_ok h) (imax0 _)) h.pl h.ph
  · exact fmov_ok (fhear_ok h) (imax0 _)
theorem fstp_ok {acc dev : Int} {sd : Bool} {p v : Mea} {t : Fi} (h : FOk t) : FOk (fstp acc dev sd p v t) := by
  unfold fstp
  split
  · exact fgo_ok h
  · exact fbeg_ok h
/-- is a filter good? -/
def fgd (t : Fi) : Bool := t.kn && decide (imax t.q0 t.q1 ≤ t.st)
/-- a new filter -/
def fN (s : Int) : Fi := ⟨s, false, 0, 0, 0, 0, 0, 0, 0⟩
theorem z63 : (0 : Int) ≤ 0 ∧ (0 : Int) ≤ 9223372036854775807 := by omega
theorem z16 : (0 : Int) ≤ 0 ∧ (0 : Int) ≤ 65535 := by omega
theorem z20 : (0 : Int) ≤ 0 ∧ (0 : Int) < 1048576 := by omega
theorem z21 : (0 : Int) ≤ 0 ∧ (0 : Int) ≤ 1048576 := by omega
theorem fN_ok {s : Int} (h : I64 s) : FOk (fN s) := ⟨h, z63, z63, i64_nought, i64_nought, i64_nought, i64_nought, Int.le_refl _, Int.le_refl _, z16⟩
/-- a filter's cells -/
def fC (t : Fi) : Array Value := #[.int .i64 t.st, .bool t.kn, .int .i64 t.q0, .int .i64 t.q1, .int .i64 t.pl, .int .i64 t.ph, .int .i64 t.vl, .int .i64 t.vh, .int .i64 t.j]
/-- a compass -/
structure Co where
  st : Int
  kn : Bool
  q0 : Int
  q1 : Int
  h : Int
  b : Int
def cC (t : Co) : Array Value := #[.int .i64 t.st, .bool t.kn, .int .i64 t.q0, .int .i64 t.q1, .int .i64 t.h, .int .i64 t.b]
def moff (m : Mea) : Int := imin m.e 65536
def cbeg (m : Mea) (t : Co) : Co := if mth m = true then { t with kn := true, h := (16 * m.x) % 1048576, b := 16 * moff m } else t
def ckeep (h b : Int) (t : Co) : Co := { t with h := h % 1048576, b := imin b 524288 }
def crot (m : Mea) (t : Co) : Co := if mth m = true then ckeep (t.h + m.x) (t.b + moff m) t else ckeep t.h (t.b + 4096) t
def cway (m : Mea) (h : Int) : Int := (16 * m.x - h + 524288) % 1048576 - 524288
def clean (m : Mea) (t : Co) : Co := if mth m = true then ckeep (t.h + cway m t.h / 8) (7 * t.b / 8 + 2 * moff m + 1) t else t
def cstp (r m : Mea) (t : Co) : Co := if t.kn = true then clean m (crot r { t with q0 := qt m t.q0 }) else cbeg m t
structure COk (t : Co) : Prop where
  st : I64 t.st
  q0 : 0 ≤ t.q0 ∧ t.q0 ≤ 9223372036854775807
  q1 : 0 ≤ t.q1 ∧ t.q1 ≤ 9223372036854775807
  h : 0 ≤ t.h ∧ t.h < 1048576
  b : 0 ≤ t.b ∧ t.b ≤ 1048576
theorem moff_ok {m : Mea} (h : mth m = true) : 0 ≤ moff m ∧ moff m ≤ 65536 := by
  unfold mth at h
  simp at h
  unfold moff imin
  split <;> omega
theorem ckeep_ok {h b : Int} {t : Co} (ht : COk t) (hb : 0 ≤ b) : COk (ckeep h b t) :=
  ⟨ht.st, ht.q0, ht.q1, by show 0 ≤ h % 1048576 ∧ h % 1048576 < 1048576; omega, by show 0 ≤ imin b 524288 ∧ imin b 524288 ≤ 1048576; unfold imin; split <;> omega⟩
theorem crot_ok {m : Mea} {t : Co} (ht : COk t) : COk (crot m t) := by
  have := ht.b
  unfold crot
  split
  · exact ckeep_ok ht (by have := moff_ok (by assumption); omega)
  · exact ckeep_ok ht (by omega)
theorem clean_ok {m : Mea} {t : Co} (ht : COk t) : COk (clean m t) := by
  have := ht.b
  unfold clean
  split
  · exact ckeep_ok ht (by have := moff_ok (by assumption); omega)
  · exact ht
theorem cbeg_ok {m : Mea} {t : Co} (ht : COk t) : COk (cbeg m t) := by
  unfold cbeg
  split
  · have := moff_ok (by assumption)
    exact ⟨ht.st, ht.q0, ht.q1, by show 0 ≤ 16 * m.x % 1048576 ∧ 16 * m.x % 1048576 < 1048576; omega, by show 0 ≤ 16 * moff m ∧ 16 * moff m ≤ 1048576; omega⟩
  · exact ht
theorem chear_ok {m : Mea} {t : Co} (ht : COk t) : COk { t with q0 := qt m t.q0 } := ⟨ht.st, qt_ok ht.q0, ht.q1, ht.h, ht.b⟩
theorem cstp_ok {r m : Mea} {t : Co} (ht : COk t) : COk (cstp r m t) := by
  unfold cstp
  split
  · exact clean_ok (crot_ok (chear_ok ht))
  · exact cbeg_ok ht
def cN (s : Int) : Co := ⟨s, false, 0, 0, 0, 0⟩
theorem cN_ok {s : Int} (h : I64 s) : COk (cN s) := ⟨h, z63, z63, z20, z21⟩
def cgd (t : Co) : Bool := t.kn && decide (imax t.q0 t.q1 ≤ t.st) && decide (t.b < 65536)
end Go.Proofs.Ytgadpalkchillaa
