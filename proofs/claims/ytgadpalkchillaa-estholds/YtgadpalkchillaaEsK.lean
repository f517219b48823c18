/- The truth lies in the spans, in plain numbers. -/
import Derived.Test.YtgadpalkchillaaEsO
namespace Go.Proofs.Ytgadpalkchillaa
open Go.RowKit Go.Great

theorem imin_le (a b : Int) : imin a b ≤ a ∧ imin a b ≤ b ∧ (imin a b = a ∨ imin a b = b) := by unfold imin; split <;> omega
theorem le_imax (a b : Int) : a ≤ imax a b ∧ b ≤ imax a b ∧ (imax a b = a ∨ imax a b = b) := by unfold imax; split <;> omega
/-- the truth lies in a filter's spans, which are far from an int's ends; no jump was -/
structure Tin (t : Fi) (p v : Int) (i : Int) : Prop where
  kn : t.kn = true
  j : t.j = 0
  pl : t.pl ≤ p
  ph : p ≤ t.ph
  vl : t.vl ≤ v
  vh : v ≤ t.vh
  vl0 : -275951648768 - i * 4194304 ≤ t.vl
  vh0 : t.vh ≤ 275951648768 + i * 4194304
  pl0 : -2251799813685248 - i * 549755813888 ≤ t.pl
  ph0 : t.ph ≤ 2251799813685248 + i * 549755813888
theorem sat_far {x : Int} (h : -4611686018427387904 ≤ x) (g : x ≤ 4611686018427387904) : sat x = x := sat_in (by unfold I64; omega)
theorem cut_in {l h x e p off : Int} {hp : Bool} (h1 : l ≤ p) (h2 : p ≤ h) (hx : x = p + off) (o1 : -e ≤ off) (o2 : off ≤ e) (he : 0 ≤ e) (b1 : -4611686018427387904 ≤ p) (b2 : p ≤ 4611686018427387904) (be : e ≤ 1125899906842624) :
    cutN l h ⟨hp, x, e⟩ = false ∧ cutL l h ⟨hp, x, e⟩ ≤ p ∧ p ≤ cutH l h ⟨hp, x, e⟩ ∧ l ≤ cutL l h ⟨hp, x, e⟩ ∧ cutH l h ⟨hp, x, e⟩ ≤ h ∧ (hp = true → cutH l h ⟨hp, x, e⟩ - cutL l h ⟨hp, x, e⟩ ≤ 2 * e) := by
  cases hp with
  | false =>
    have hth : mth ⟨false, x, e⟩ = false := rfl
    unfold cutN cutL cutH
    rw [hth]
    exact ⟨rfl, h1, h2, Int.le_refl _, Int.le_refl _, fun h => by cases h⟩
  | true =>
    have hth : mth ⟨true, x, e⟩ = true := by simp [mth, he]
    have hlo : mlo ⟨true, x, e⟩ = x - e := by show sat (x - e) = x - e; exact sat_in (by unfold I64; omega)
    have hhi : mhi ⟨true, x, e⟩ = x + e := by show sat (x + e) = x + e; exact sat_in (by unfold I64; omega)
    obtain ⟨m1, m2, m3⟩ := imin_le h (x + e)
    obtain ⟨n1, n2, n3⟩ := le_imax l (x - e)
    have hc : ¬ imin h (x + e) < imax l (x - e) := by omega
    unfold cutN cutL cutH
    rw [hth, hlo, hhi, if_pos rfl, if_pos rfl, if_neg hc, if_neg hc]
    refine ⟨by simp; omega, by omega, by omega, by omega, by omega, fun _ => by omega⟩
/-- a step keeps the truth in the spans -/
theorem step_in {t : Fi} {p v i a ex D op ov EP EV : Int} {sd hp hv : Bool} (h : Tin t p v i) (hi : 0 ≤ i) (hi2 : i ≤ 2001) (a0 : -1048576 ≤ a) (a1 : a ≤ 1048576) (e0 : -D ≤ ex) (e1 : ex ≤ D) (d1 : D ≤ 1048576) (p0 : -EP ≤ op) (p1 : op ≤ EP) (v0 : -EV ≤ ov) (v1 : ov ≤ EV) (ep0 : 0 ≤ EP) (ep1 : EP ≤ 1125899906842624) (ev0 : 0 ≤ EV) (ev1 : EV ≤ 1073741824)
    (v' p' : Int) (hv' : v' = if sd = true then 0 else v + a + ex) (hp' : p' = if sd = true then p else p + v') :
    Tin (fstp a D sd ⟨hp, p' + op, EP⟩ ⟨hv, v' + ov, EV⟩ t) p' v' (i + 1) ∧ (hp = true → (fstp a D sd ⟨hp, p' + op, EP⟩ ⟨hv, v' + ov, EV⟩ t).ph - (fstp a D sd ⟨hp, p' + op, EP⟩ ⟨hv, v' + ov, EV⟩ t).pl ≤ 2 * EP) ∧ (hv = true → (fstp a D sd ⟨hp, p' + op, EP⟩ ⟨hv, v' + ov, EV⟩ t).vh - (fstp a D sd ⟨hp, p' + op, EP⟩ ⟨hv, v' + ov, EV⟩ t).vl ≤ 2 * EV) := by
  obtain ⟨kn, j, pl, ph, vl, vh, vl0, vh0, pl0, ph0⟩ := h
  have hD : imax D 0 = D := by unfold imax; split <;> omega
  have s1 : sat (t.vl + a) = t.vl + a := sat_far (by omega) (by omega)
  have s2 : sat (t.vh + a) = t.vh + a := sat_far (by omega) (by omega)
  have s3 : sat (t.vl + a - D) = t.vl + a - D := sat_far (by omega) (by omega)
  have s4 : sat (t.vh + a + D) = t.vh + a + D := sat_far (by omega) (by omega)
  have s5 : sat (t.pl + (t.vl + a - D)) = t.pl + (t.vl + a - D) := sat_far (by omega) (by omega)
  have s6 : sat (t.ph + (t.vh + a + D)) = t.ph + (t.vh + a + D) := sat_far (by omega) (by omega)
  obtain ⟨P, hP⟩ : ∃ m : Mea, m = ⟨hp, p' + op, EP⟩ := ⟨_, rfl⟩
  obtain ⟨V, hV⟩ : ∃ m : Mea, m = ⟨hv, v' + ov, EV⟩ := ⟨_, rfl⟩
  rw [← hP, ← hV]
  have hf : fstp a D sd P V t = fgo a D sd P V t := by unfold fstp; rw [if_pos kn]
  have hm : fmov a (imax D 0) (fhear P V t) = { fhear P V t with vl := t.vl + a - D, vh := t.vh + a + D, pl := t.pl + (t.vl + a - D), ph := t.ph + (t.vh + a + D) } := by
    unfold fmov
    rw [hD]
    show ({ fhear P V t with vl := sat (sat (t.vl + a) - D), vh := sat (sat (t.vh + a) + D), pl := sat (t.pl + sat (sat (t.vl + a) - D)), ph := sat (t.ph + sat (sat (t.vh + a) + D)) } : Fi) = _
    rw [s1, s2, s3, s4, s5, s6]
  have hmid : Tin (if sd = true then fstd t.pl t.ph (fmov a (imax D 0) (fhear P V t)) else fmov a (imax D 0) (fhear P V t)) p' v' (i + 1) := by
    rw [hm]
    cases sd with
    | true =>
      rw [if_pos rfl] at hv' hp' ⊢
      obtain ⟨x1, x2, x3⟩ := imin_le (t.vl + a - D) 0
      obtain ⟨y1, y2, y3⟩ := le_imax (t.vh + a + D) 0
      obtain ⟨z1, z2, z3⟩ := imin_le (t.pl + (t.vl + a - D)) t.pl
      obtain ⟨u1, u2, u3⟩ := le_imax (t.ph + (t.vh + a + D)) t.ph
      refine ⟨kn, j, ?_, ?_, ?_, ?_, ?_, ?_, ?_, ?_⟩
      · show imin (t.pl + (t.vl + a - D)) t.pl ≤ p'; omega
      · show p' ≤ imax (t.ph + (t.vh + a + D)) t.ph; omega
      · show imin (t.vl + a - D) 0 ≤ v'; omega
      · show v' ≤ imax (t.vh + a + D) 0; omega
      · show -275951648768 - (i + 1) * 4194304 ≤ imin (t.vl + a - D) 0; omega
      · show imax (t.vh + a + D) 0 ≤ 275951648768 + (i + 1) * 4194304; omega
      · show -2251799813685248 - (i + 1) * 549755813888 ≤ imin (t.pl + (t.vl + a - D)) t.pl; omega
      · show imax (t.ph + (t.vh + a + D)) t.ph ≤ 2251799813685248 + (i + 1) * 549755813888; omega
    | false =>
      rw [if_neg (by decide)] at hv' hp' ⊢
      refine ⟨kn, j, ?_, ?_, ?_, ?_, ?_, ?_, ?_, ?_⟩
      · show t.pl + (t.vl + a - D) ≤ p'; omega
      · show p' ≤ t.ph + (t.vh + a + D); omega
      · show t.vl + a - D ≤ v'; omega
      · show v' ≤ t.vh + a + D; omega
      · show -275951648768 - (i + 1) * 4194304 ≤ t.vl + a - D; omega
      · show t.vh + a + D ≤ 275951648768 + (i + 1) * 4194304; omega
      · show -2251799813685248 - (i + 1) * 549755813888 ≤ t.pl + (t.vl + a - D); omega
      · show t.ph + (t.vh + a + D) ≤ 2251799813685248 + (i + 1) * 549755813888; omega
  rw [hf]
  unfold fgo
  obtain ⟨u, hu⟩ : ∃ u, (if sd = true then fstd t.pl t.ph (fmov a (imax D 0) (fhear P V t)) else fmov a (imax D 0) (fhear P V t)) = u := ⟨_, rfl⟩
  rw [hu] at hmid ⊢
  clear hu hm hf s1 s2 s3 s4 s5 s6 hv' hp' kn j pl ph vl vh vl0 vh0 pl0 ph0
  obtain ⟨kn, j, pl, ph, vl, vh, vl0, vh0, pl0, ph0⟩ := hmid
  obtain ⟨c1, c2, c3, c4, c5, c6⟩ := cut_in (hp := hp) (x := p' + op) pl ph rfl p0 p1 ep0 (by omega) (by omega) ep1
  obtain ⟨g1, g2, g3, g4, g5, g6⟩ := cut_in (hp := hv) (x := v' + ov) vl vh rfl v0 v1 ev0 (by omega) (by omega) (by omega)
  rw [← hP] at c1 c2 c3 c4 c5 c6
  rw [← hV] at g1 g2 g3 g4 g5 g6
  refine ⟨⟨kn, ?_, c2, c3, g2, g3, ?_, ?_, ?_, ?_⟩, c6, g6⟩
  · show jmp (cutN u.vl u.vh V) (jmp (cutN u.pl u.ph P) u.j) = 0
    rw [g1, c1]
    exact j
  · show _ ≤ cutL u.vl u.vh V; omega
  · show cutH u.vl u.vh V ≤ _; omega
  · show _ ≤ cutL u.pl u.ph P; omega
  · show cutH u.pl u.ph P ≤ _; omega
/-- the first step -/
theorem first_in {P V EP EV : Int} (p0 : -1125899906842624 ≤ P) (p1 : P ≤ 1125899906842624) (v0 : -274877906944 ≤ V) (v1 : V ≤ 274877906944) (ep0 : 0 ≤ EP) (ep1 : EP ≤ 1125899906842624) (ev0 : 0 ≤ EV) (ev1 : EV ≤ 1073741824) (s : Int) :
    Tin (fstp 0 0 false ⟨true, P, EP⟩ ⟨true, V, EV⟩ (fN s)) P V 0 := by
  have h1 : mth ⟨true, P, EP⟩ = true := by simp [mth, ep0]
  have h2 : mth ⟨true, V, EV⟩ = true := by simp [mth, ev0]
  have hlo : mlo ⟨true, P, EP⟩ = P - EP := by show sat (P - EP) = P - EP; exact sat_far (by omega) (by omega)
  have hhi : mhi ⟨true, P, EP⟩ = P + EP := by show sat (P + EP) = P + EP; exact sat_far (by omega) (by omega)
  have vlo : mlo ⟨true, V, EV⟩ = V - EV := by show sat (V - EV) = V - EV; exact sat_far (by omega) (by omega)
  have vhi : mhi ⟨true, V, EV⟩ = V + EV := by show sat (V + EV) = V + EV; exact sat_far (by omega) (by omega)
  have e : fstp 0 0 false ⟨true, P, EP⟩ ⟨true, V, EV⟩ (fN s) = { fN s with kn := true, pl := P - EP, ph := P + EP, vl := V - EV, vh := V + EV } := by
    show fbeg ⟨true, P, EP⟩ ⟨true, V, EV⟩ (fN s) = _
    unfold fbeg
    rw [h1, h2, hlo, hhi, vlo, vhi]
    rfl
  rw [e]
  refine ⟨rfl, rfl, ?_, ?_, ?_, ?_, ?_, ?_, ?_, ?_⟩
  · show P - EP ≤ P; omega
  · show P ≤ P + EP; omega
  · show V - EV ≤ V; omega
  · show V ≤ V + EV; omega
  · show _ ≤ V - EV; omega
  · show V + EV ≤ _; omega
  · show _ ≤ P - EP; omega
  · show P + EP ≤ _; omega
end Go.Proofs.Ytgadpalkchillaa
