/- The document's Due: which jobs are due in a tick. -/
import Derived.Test.YtcjahdgppnmdkaaExd
set_option maxRecDepth 100000
namespace Go.Proofs.Ytcjahdgppnmdkaa
open Go.RowKit Go.Great

set_option maxHeartbeats 2000000 in
theorem refIs_any (x : Jb) (t : Int) (w : World) (hp : 1 ≤ x.pe) (h0 : 0 ≤ x.ph) (hpm : x.pe ≤ 9223372036854775807) (ht0 : 0 ≤ t) (ht : t ≤ 9223372036854775807) : Calls Try.prog 60 #[.agg #[.int .i64 x.pe, .int .i64 x.ph, .int .i64 x.rk], .int .i64 t] w fun e w' => e = .returned (.bool (dueB x t)) ∧ Below w.heap.size w w' := by
  obtain ⟨a, b, c⟩ := x
  unfold dueB
  simp only at *
  by_cases h : b ≤ t
  · rw [decide_eq_true h, Bool.true_and]
    obtain ⟨d, hd⟩ : ∃ d, Hid (t - b = d) := ⟨_, hide rfl⟩
    have hd0 : 0 ≤ d := by rw [← hd.out]; omega
    have hdm : d ≤ 9223372036854775807 := by rw [← hd.out]; omega
    have hdd : t - b = d := hd.out
    have hm : Int.tmod d a = d % a := Int.tmod_eq_emod_of_nonneg hd0
    rw [hdd]
    have hge : decide (b ≤ t) = true := decide_eq_true h
    have r0 := Int.emod_nonneg d (b := a) (by omega)
    have r1 := Int.emod_lt_of_pos d (b := a) (by omega)
    go_enter Try.func60, Try.ntmps60
    go_wp2_with fail
    go_ret
    exact ⟨rfl, below_alloc _ _⟩
  · rw [decide_eq_false h, Bool.false_and]
    go_enter Try.func60, Try.ntmps60
    go_wp2_with fail
    go_ret
    exact ⟨rfl, below_alloc _ _⟩
/-- how many of the first ones have no greater rank -/
def tw (L : List Jb) (k : Nat) (l : List Nat) : Nat := (l.takeWhile (fun i => decide ((jbA L i).rk ≤ (jbA L k).rk))).length
theorem tw_le (L : List Jb) (k : Nat) (l : List Nat) : tw L k l ≤ l.length := (List.takeWhile_sublist _).length_le
theorem ins_split (L : List Jb) (k : Nat) (l : List Nat) : ins L k l = l.take (tw L k l) ++ k :: l.drop (tw L k l) := by
  unfold ins tw
  have h := List.takeWhile_append_dropWhile (p := fun i => decide ((jbA L i).rk ≤ (jbA L k).rk)) (l := l)
  have h1 : l.take (l.takeWhile (fun i => decide ((jbA L i).rk ≤ (jbA L k).rk))).length = l.takeWhile (fun i => decide ((jbA L i).rk ≤ (jbA L k).rk)) := by
    conv => lhs; arg 2; rw [← h]
    exact List.take_left
  have h2 : l.drop (l.takeWhile (fun i => decide ((jbA L i).rk ≤ (jbA L k).rk))).length = l.dropWhile (fun i => decide ((jbA L i).rk ≤ (jbA L k).rk)) := by
    conv => lhs; arg 2; rw [← h]
    exact List.drop_left
  rw [h1, h2]
theorem tw_lt {L : List Jb} {k j : Nat} {l : List Nat} (hj : j < tw L k l) (hl : j < l.length) : (jbA L l[j]).rk ≤ (jbA L k).rk := by
  unfold tw at hj
  have h1 : (l.takeWhile (fun i => decide ((jbA L i).rk ≤ (jbA L k).rk)))[j] = l[j] := by
    have := (List.takeWhile_prefix (l := l) (fun i => decide ((jbA L i).rk ≤ (jbA L k).rk))).getElem hj
    exact this
  have h2 := mem_tw (List.getElem_mem hj)
  rw [h1, decide_eq_true_iff] at h2
  exact h2
/-- in a list in order, what lies behind is greater -/
theorem tw_ge {L : List Jb} {k j : Nat} {l : List Nat} (hs : l.Pairwise (ahd L)) (hj : tw L k l ≤ j) (hl : j < l.length) : (jbA L k).rk < (jbA L l[j]).rk := by
  have hlt : tw L k l < l.length := by omega
  have h1 : ¬ (jbA L l[tw L k l]).rk ≤ (jbA L k).rk := by
    intro hle
    have h := List.takeWhile_append_dropWhile (p := fun i => decide ((jbA L i).rk ≤ (jbA L k).rk)) (l := l)
    have h3 : l.dropWhile (fun i => decide ((jbA L i).rk ≤ (jbA L k).rk)) = l.drop (tw L k l) := by
      unfold tw
      conv => rhs; arg 2; rw [← h]
      exact List.drop_left.symm
    have h4 := List.head?_dropWhile_not (fun i => decide ((jbA L i).rk ≤ (jbA L k).rk)) l
    rw [h3, List.drop_eq_getElem_cons hlt] at h4
    simp at h4
    rw [List.getElem?_eq_getElem hlt] at h4
    simp only at h4
    omega
  rcases Nat.lt_or_eq_of_le hj with h2 | h2
  · have := List.pairwise_iff_getElem.1 hs (tw L k l) j hlt hl h2
    rcases this with h3 | h3 <;> omega
  · subst h2
    omega
theorem IRow.cap {w : World} {base n c : Nat} {a : Option Addr} {l : List Int} (h : IRow w base (.slice a n c) l) : n = l.length ∧ n ≤ c ∧ c ≤ 9223372036854775807 ∧ (a = none → n = 0 ∧ c = 0) ∧ (0 < l.length → ∃ g, a = some ⟨g, 0, none⟩) ∧ (∀ ad, a = some ad → ∃ g, ad = ⟨g, 0, none⟩) := by
  rcases h.2 with ⟨q, q1⟩ | ⟨g, cap, cur, q, _, _, q1, q2, _⟩
  · injection q with e1 e2 e3
    exact ⟨by omega, by omega, by omega, fun _ => ⟨e2, e3⟩, fun h => by omega, fun ad e => by rw [e1] at e; cases e⟩
  · injection q with e1 e2 e3
    subst e1 e3
    unfold maxLen at q2
    exact ⟨e2, by omega, q2, (fun e => by cases e), fun _ => ⟨g, rfl⟩, fun ad e => by injection e with e; exact ⟨g, e.symm⟩⟩
theorem iAt {w : World} {base n c : Nat} {g : Nat} {l : List Nat} (h : IRow w base (.slice (some ⟨g, 0, none⟩) n c) (l.map Int.ofNat)) (j : Nat) (hj : j < l.length) : w.cell? ⟨g, j, none⟩ = some (.int .i64 (l[j] : Nat)) := by
  obtain ⟨e, _⟩ := h.cap
  subst e
  rw [World.ownsRow.cellAt h j (by simpa using hj)]
  simp [hj]
set_option maxRecDepth 100000 in
theorem islice_hi (a : Option Addr) (n cap q : Nat) (hq : q ≤ cap) (_hc : cap ≤ 9223372036854775807) (ha : ∀ ad, a = some ad → ∃ g, ad = ⟨g, 0, none⟩) (wx : World) : (Instr.slice 72 (.slice a n cap) none (some (.int .i64 q)) none).run Try.prog wx = .ok (.slice a q cap) wx := by
  have ht : Try.prog.underlying 72 = some (.slice (Try.prog.elem 72)) := by kernel_rfl
  have hs : (sizeOf (Try.prog.elem 72)).run Try.prog wx = .ok 1 wx := Try.sizeOf3 wx
  rw [run_slice_h wx 72 a n cap ht .i64 q (by omega) (by omega), hs]
  unfold sliced
  have e : (if cap = 0 then a else a.map (·.add (0 * 1))) = a := by
    cases a with
    | none => simp
    | some ad =>
      obtain ⟨g, rfl⟩ := ha ad rfl
      simp [Addr.add]
  simp only [Result.andThen]
  rw [e]
  simp
set_option maxRecDepth 100000 in
theorem islice_lo (a : Option Addr) (n cap l : Nat) (hl : l ≤ n) (_hn : n ≤ 9223372036854775807) (wx : World) : (Instr.slice 72 (.slice a n cap) (some (.int .i64 l)) none none).run Try.prog wx = .ok (.slice (if cap = l then a else a.map (·.add (l * 1))) (n - l) (cap - l)) wx := by
  have ht : Try.prog.underlying 72 = some (.slice (Try.prog.elem 72)) := by kernel_rfl
  have hs : (sizeOf (Try.prog.elem 72)).run Try.prog wx = .ok 1 wx := Try.sizeOf3 wx
  rw [run_slice_l wx 72 a n cap ht .i64 l (by omega) (by omega), hs]
  simp [Result.andThen, sliced]
set_option maxHeartbeats 4000000 in
theorem refDue_any (L : List Jb) (v : Value) (t : Int) (w : World) (hR : Rws w v 3 jbC L) (hL : JsOk L) (ht0 : 0 ≤ t) (ht : t ≤ 9223372036854775807) : Calls Try.prog 34 #[v, .int .i64 t] w fun e w' => ∃ u, e = .returned u ∧ IRow w' w.heap.size u ((dueS L t).map Int.ofNat) ∧ Below w.heap.size w w' := by
  have HR := hide hR
  have HL := hide hL
  have IS : Hid (∀ k, k < L.length → ∀ q, Calls Try.prog 60 #[.agg #[.int .i64 (jbA L k).pe, .int .i64 (jbA L k).ph, .int .i64 (jbA L k).rk], .int .i64 t] q fun e w' => e = .returned (.bool (dueB (jbA L k) t)) ∧ Below q.heap.size q w') := hide (fun k hk q => refIs_any _ t q (hL.good _ (jbA_in hk)).1 (hL.good _ (jbA_in hk)).2 (hL.ok _ (jbA_in hk)).a0.2 ht0 ht)
  obtain ⟨_, na, np, rfl, _⟩ := hR
  have hl := hL.le
  obtain ⟨i0, hi, hz0, hz1, hz2⟩ := info_parts info_int
  obtain ⟨n, hn⟩ : ∃ n, Hid (L.length = n) := ⟨_, hide rfl⟩
  rw [hn.out] at hl IS ⊢
  clear hL
  go_enter Try.func34, Try.ntmps34
  go_wp2_with fail
  go_loopw [5, 6] (fun v5 v6 wr => ∃ (i m c : Nat) (a : Option Addr), v6 = .int .i64 (i : Int) ∧ v5 = .slice a m c ∧ i ≤ n ∧ Hid (IRow wr w.heap.size v5 ((dueN L t i).map Int.ofNat)) ∧ Hid (Below w.heap.size w wr)) (fun _ v6 _ => n - (intOf v6).toNat)
  case atStart => exact ⟨0, 0, 0, none, rfl, rfl, by omega, hide (IRow.nil _ _), hide (Below.refl _ _)⟩
  case round =>
    obtain ⟨i, m, c, a, rfl, rfl, hin, HO, Hb⟩ := hrel
    by_cases hlt : i < n
    · obtain ⟨g, o, rfl, hg, hcc⟩ := jb_at HR.out i (by rw [hn.out]; exact hlt)
      obtain ⟨c0, c1, c2⟩ := hcc wr Hb.out
      have IS1 := hide (IS.out i hlt wr)
      have HN1 : Hid (dueN L t (i + 1) = if dueB (jbA L i) t then ins L i (dueN L t i) else dueN L t i) := hide rfl
      obtain ⟨bb, hbb⟩ : ∃ bb, Hid (dueB (jbA L i) t = bb) := ⟨_, hide rfl⟩
      rw [hbb.out] at IS1 HN1
      cases bb with
      | false =>
        have HO2 : Hid (∀ w', Below wr.heap.size wr w' → IRow w' w.heap.size (.slice a m c) ((dueN L t (i + 1)).map Int.ofNat)) := hide (fun w' hb => by rw [HN1.out]; exact HO.out.below hb)
        generalize (jbA L i).pe = x0 at *
        generalize (jbA L i).ph = x1 at *
        generalize (jbA L i).rk = x2 at *
        clear hcc HN1
        go_wp2_with fail
        refine IS1.out.mono ?_
        rintro e w2 ⟨rfl, hb2⟩
        have HO3 := hide (HO2.out w2 hb2)
        have Hb2 := hide (below_next Hb.out (Nat.le_refl _) hb2)
        clear hb2 IS1 HO2
        go_wp2_with fail
        go_roundw
        case rel => exact ⟨i + 1, m, c, a, by simp, rfl, by omega, HO3, Hb2⟩
        case measure => simp [intOf]; omega
      | true =>
        have HN2 : Hid (dueN L t (i + 1) = ins L i (dueN L t i)) := HN1
        obtain ⟨lo, hlo⟩ : ∃ lo, Hid (dueN L t i = lo) := ⟨_, hide rfl⟩
        have HSo : Hid (lo.Pairwise (ahd L)) := hide (by rw [← hlo.out]; exact dueN_sorted L t i)
        have HMo : Hid (∀ k ∈ lo, k < i) := hide (fun k hk => by rw [← hlo.out] at hk; exact (dueN_mem.1 hk).1)
        rw [hlo.out] at HO HN2
        obtain ⟨hm, hmc, hcm, hnil, hsome, hz⟩ := HO.out.cap
        rw [List.length_map] at hm hsome
        have HN3 : Hid (dueN L t (i + 1) = lo.take (tw L i lo) ++ i :: lo.drop (tw L i lo)) := hide (by rw [HN2.out, ins_split])
        have hmn : m ≤ n := by
          rw [hm, ← hlo.out]
          have h1 := (dueN_perm L t i).length_eq
          have h2 := List.length_filter_le (fun k => dueB (jbA L k) t) (List.range i)
          rw [List.length_range] at h2
          omega
        have HCC := hide hcc
        have Hsome := hide hsome
        have Hnil := hide hnil
        have htwle : tw L i lo ≤ m := by rw [hm]; exact tw_le L i lo
        have Hm := hide hm
        obtain ⟨p, hp⟩ : ∃ p, Hid (tw L i lo = p) := ⟨_, hide rfl⟩
        rw [hp.out] at htwle HN3
        clear HN1 HN2 hsome hnil hz hcc hm hi hz0 hz1 hz2
        generalize hpe : (jbA L i).pe = x0 at *
        generalize hph : (jbA L i).ph = x1 at *
        generalize hrk : (jbA L i).rk = x2 at *
        have HRK := hide hrk
        clear hpe hph hrk
        go_upto_region 6 with (go_at_call 60; refine IS1.out.mono ?_; rintro e w2 ⟨rfl, hb2⟩; have HO2 := hide (HO.out.below hb2); have Hb2 := hide (below_next Hb.out (Nat.le_refl _) hb2); clear hb2 IS1 HO Hb)
        go_upto_region 7 with fail
        go_loopw [7] (fun v7 wx => ∃ q : Nat, v7 = .int .i64 (q : Int) ∧ p ≤ q ∧ q ≤ m ∧ Hid (Below w2.heap.size w2 wx)) (fun v7 _ => (intOf v7).toNat)
        case atStart => exact ⟨m, rfl, htwle, Nat.le_refl _, hide (Below.refl _ _)⟩
        case round =>
          obtain ⟨q, rfl, hpq, hqm, HB3⟩ := hrel
          have HOx := hide (HO2.out.below HB3.out)
          obtain ⟨r0, r1, r2⟩ := HCC.out wr (below_next Hb2.out (Nat.le_refl _) HB3.out)
          by_cases hq : p < q
          · have hql : q - 1 < lo.length := by rw [← Hm.out]; omega
            have hgt : (jbA L i).rk < (jbA L lo[q - 1]).rk := tw_ge HSo.out (by rw [hp.out]; omega) hql
            rw [HRK.out] at hgt
            obtain ⟨go, rfl⟩ := Hsome.out (by omega)
            have hki := HMo.out _ (List.getElem_mem hql)
            have d0 := iAt HOx.out (q - 1) hql
            generalize lo[q - 1] = k at *
            obtain ⟨g2, o2, eg, _, hc2⟩ := jb_at HR.out k (by rw [hn.out]; omega)
            injection eg with eg
            injection eg with eg1 eg2
            subst eg1 eg2
            obtain ⟨_, _, s2⟩ := hc2 wr (below_next Hb2.out (Nat.le_refl _) HB3.out)
            generalize (jbA L k).rk = y2 at *
            obtain ⟨q', rfl⟩ : ∃ q', q = q' + 1 := ⟨q - 1, by omega⟩
            rw [Nat.add_sub_cancel] at d0
            have hq0 : decide ((0 : Int) < ((q' + 1 : Nat) : Int)) = true := decide_eq_true (by omega)
            have e1 : ((q' + 1 : Nat) : Int) - 1 = (q' : Int) := by omega
            have hpq' : p ≤ q' := by omega
            have hkn : (k : Int) < n := by omega
            have hqm2 : (q' : Int) < m := by omega
            clear hc2 hq hql
            go_upto_region 7 with fail
            go_quiet (fail)
            go_wp2_with fail
            go_roundw
            case rel => exact ⟨q', rfl, hpq', by omega, hide (below_drewN HB3.out _)⟩
            case measure => simp [intOf]
          · obtain rfl : q = p := by omega
            go_upto_region 7 with fail
            go_cut [42] (fun v wx => v = .bool false ∧ Hid (Below w2.heap.size w2 wx))
            case first =>
              by_cases h0 : q = 0
              · subst h0
                go_quiet (fail)
                go_wp2_with fail
                go_meet
                exact ⟨rfl, hide (below_drewN HB3.out _)⟩
              · have hql : q - 1 < lo.length := by rw [← Hm.out]; omega
                have hgt : (jbA L lo[q - 1]).rk ≤ (jbA L i).rk := tw_lt (by rw [hp.out]; omega) hql
                rw [HRK.out] at hgt
                obtain ⟨go, rfl⟩ := Hsome.out (by omega)
                have hki := HMo.out _ (List.getElem_mem hql)
                have d0 := iAt HOx.out (q - 1) hql
                generalize lo[q - 1] = k at *
                obtain ⟨g2, o2, eg, _, hc2⟩ := jb_at HR.out k (by rw [hn.out]; omega)
                injection eg with eg
                injection eg with eg1 eg2
                subst eg1 eg2
                obtain ⟨_, _, s2⟩ := hc2 wr (below_next Hb2.out (Nat.le_refl _) HB3.out)
                generalize (jbA L k).rk = y2 at *
                obtain ⟨q', rfl⟩ : ∃ q', q = q' + 1 := ⟨q - 1, by omega⟩
                rw [Nat.add_sub_cancel] at d0
                have hq0 : decide ((0 : Int) < ((q' + 1 : Nat) : Int)) = true := decide_eq_true (by omega)
                have e1 : ((q' + 1 : Nat) : Int) - 1 = (q' : Int) := by omega
                have hkn : (k : Int) < n := by omega
                have hqm2 : (q' : Int) < m := by omega
                clear hc2 h0 hql
                go_quiet (fail)
                go_wp2_with fail
                go_meet
                exact ⟨by rw [decide_eq_false (by omega)], hide (below_drewN HB3.out _)⟩
            case rest =>
              obtain ⟨rfl, HB4⟩ := hcut
              have HOc := hide (HO2.out.below HB4.out)
              clear HO2 HOx HB3 r0 r1 r2 HSo HMo HCC
              have SH := islice_hi a m c q (by omega) hcm (by
                intro ad e
                have h1 := (HOc.out.cap).2.2.2.2.2 ad e
                exact h1)
              have SL0 := hide (islice_lo a m c q htwle (by omega))
              have hatn : Hid ((if c = q then a else a.map (·.add (q * 1))) = none → m - q = 0 ∧ c - q = 0) := hide (fun e => by
                cases ha : a with
                | none => have := Hnil.out ha; omega
                | some ad => rw [ha] at e; split at e <;> simp at e)
              have hats : Hid (∀ ad, (if c = q then a else a.map (·.add (q * 1))) = some ad → ∀ j u, ((lo.drop q).map (fun k : Nat => Value.int .i64 (k : Int)))[j]? = some u → ∀ W, Below wc.heap.size wc W → W.cell? (ad.add j) = some u) := hide (fun ad e j u hj W hW => by
                have hjl := (List.getElem?_eq_some_iff.1 hj).1
                rw [List.length_map, List.length_drop, ← Hm.out] at hjl
                obtain ⟨go, rfl⟩ := Hsome.out (by rw [← Hm.out]; omega)
                rw [if_neg (by omega)] at e
                simp only [Option.map_some, Option.some.injEq] at e
                subst e
                have h1 := iAt (HOc.out.below hW) (q + j) (by rw [← Hm.out]; omega)
                rw [List.getElem?_map, List.getElem?_drop, List.getElem?_eq_getElem (by rw [← Hm.out]; omega), Option.map_some, Option.some.injEq] at hj
                rw [← hj, add_plain', add_plain', Nat.mul_one, Nat.zero_add]
                exact h1)
              have hatd : Hid (∀ ad, a = some ad → ∀ j u, ((lo.take q).map (fun k : Nat => Value.int .i64 (k : Int)))[j]? = some u → wc.cell? (ad.add j) = some u) := hide (fun ad e j u hj => by
                have hjl := (List.getElem?_eq_some_iff.1 hj).1
                rw [List.length_map, List.length_take] at hjl
                obtain ⟨go, ego⟩ := Hsome.out (by rw [← Hm.out]; omega)
                rw [ego] at e
                injection e with e
                subst e
                subst ego
                have h1 := iAt HOc.out j (by rw [← Hm.out]; omega)
                rw [List.getElem?_map, List.getElem?_take, if_pos (by omega), List.getElem?_eq_getElem (by rw [← Hm.out]; omega), Option.map_some, Option.some.injEq] at hj
                rw [← hj, add_plain', Nat.zero_add]
                exact h1)
              obtain ⟨at3, hat3⟩ : ∃ at3, Hid ((if c = q then a else a.map (·.add (q * 1))) = at3) := ⟨_, hide rfl⟩
              rw [hat3.out] at hatn hats
              have SL : ∀ wx, (Instr.slice 72 (.slice a m c) (some (.int .i64 q)) none none).run Try.prog wx = .ok (.slice at3 (m - q) (c - q)) wx := fun wx => by rw [← hat3.out]; exact SL0.out wx
              clear SL0
              have hlt1 : (lo.take q).length = q := by rw [List.length_take, ← Hm.out]; omega
              have hld1 : (lo.drop q).length = m - q := by rw [List.length_drop, ← Hm.out]
              have HL1 := hide hlt1
              have HL2 := hide hld1
              have Hbc : Hid (Below w.heap.size w wc) := hide (below_next Hb2.out (Nat.le_refl _) HB4.out)
              clear hlt1 hld1
              obtain ⟨i1, hi1, hz10, hz11, hz12⟩ := info_parts info_int
              go_wp2_with (at_builtin; refine wpList_append_any rfl (.tmp 45) (.tmp 48) 72 rfl wc.heap.size 3 i1 _ 1 8 Try.underlying72 hi1 hz10 hz11 hz12 rfl (by decide) (.slice none 0 0) 0 [] rfl (World.ownsRow_nil _ _ _ _) a q c ((lo.take q).map (fun k : Nat => Value.int .i64 (k : Int))) rfl ?a1 ?a0 hatd.out ?a2 ?a3 ?a4 (Nat.le_refl _) ?_)
              case a1 => rw [List.length_map, HL1.out, Nat.mul_one]
              case a0 => intro e; have := Hnil.out e; omega
              case a2 => intro u hu; obtain ⟨k, _, rfl⟩ := List.mem_map.1 hu; rfl
              case a3 => unfold maxLen; omega
              case a4 => omega
              intro v5 w5 hown5 hgrow5
              have hown5 : w5.ownsRow wc.heap.size 3 1 v5 q ((lo.take q).map (fun k : Nat => Value.int .i64 (k : Int))) := by simpa using hown5
              have HB5 : Hid (Below wc.heap.size wc w5) := hide ((Below.refl wc.heap.size wc).grown hgrow5 (Nat.le_refl _) (fun k e => by cases e))
              obtain ⟨a5, c5, hv5⟩ : ∃ a5 c5, v5 = .slice a5 q c5 := by
                rcases hown5.2 with ⟨e1, e2⟩ | ⟨g5, cp, cur, e1, _⟩
                · exact ⟨none, 0, by rw [e1, e2]⟩
                · exact ⟨some ⟨g5, 0, none⟩, cp, e1⟩
              subst hv5
              have hws5 := HB5.out.size
              have HO5 : Hid ((w5.alloc (.cells #[.int .i64 i] 3)).ownsRow wc.heap.size 3 1 (.slice a5 q c5) q ((lo.take q).map (fun k : Nat => Value.int .i64 (k : Int)))) := hide (World.ownsRow.kept hown5 (grown_below (below_alloc w5 _) none) (by cases a5 <;> simp [Value.ownBlock]))
              have HC5 : Hid (∀ j u, [Value.int .i64 (i : Int)][j]? = some u → (w5.alloc (.cells #[.int .i64 (i : Int)] 3)).cell? ((⟨w5.heap.size, 0, none⟩ : Addr).add j) = some u) := hide (new_cell1 w5 _ rfl (.int .i64 (i : Int)) 3)
              clear hown5 hgrow5 hatd
              go_wp2_with (at_builtin; refine wpList_append_own _ rfl (.tmp 50) (.tmp 52) 72 rfl wc.heap.size 3 i1 _ 1 8 Try.underlying72 hi1 hz10 hz11 hz12 rfl (by decide) _ _ _ rfl HO5.out ⟨w5.heap.size, 0, none⟩ 1 1 [.int .i64 (i : Int)] rfl rfl ?b1 ?b2 ?b3 ?b4 ?b5 ?_)
              case b1 => exact HC5.out
              case b2 => simp [Value.oneCell']
              case b3 => unfold maxLen; omega
              case b4 => omega
              case b5 => rw [size_alloc]; omega
              intro v6 w6 hown6 hgrow6 _
              have HB6 : Hid (Below wc.heap.size wc w6) := hide ((HB5.out.alloc hws5 _).grown hgrow6 (by rw [size_alloc]; omega) (fun j e => (HO5.out.lt j e).1))
              obtain ⟨a6, c6, hv6⟩ : ∃ a6 c6, v6 = .slice a6 (q + 1) c6 := by
                rcases hown6.2 with ⟨_, e2⟩ | ⟨g5, cp, cur, e1, _⟩
                · cases e2
                · exact ⟨some ⟨g5, 0, none⟩, cp, e1⟩
              subst hv6
              have HR6 := hide hown6
              have hws6 := HB6.out.size
              clear hown6 hgrow6 HO5 HC5 HB5 hws5
              go_wp2_with (at_builtin; refine wpList_append_any rfl (.tmp 54) (.tmp 57) 72 rfl wc.heap.size 3 i1 _ 1 8 Try.underlying72 hi1 hz10 hz11 hz12 rfl (by decide) _ _ _ rfl HR6.out at3 (m - q) (c - q) ((lo.drop q).map (fun k : Nat => Value.int .i64 (k : Int))) rfl ?d1 hatn.out ?d0 ?d2 ?d3 ?d4 ?d5 ?_)
              case d1 => rw [List.length_map, HL2.out, Nat.mul_one]
              case d0 => exact fun ad e j u hu => hats.out ad e j u hu w6 HB6.out
              case d2 => intro u hu; obtain ⟨k, _, rfl⟩ := List.mem_map.1 hu; rfl
              case d3 => unfold maxLen; omega
              case d4 => omega
              case d5 => exact hws6
              intro v7 w7 hown7 hgrow7
              have HB7 : Hid (Below wc.heap.size wc w7) := hide (HB6.out.grown hgrow7 hws6 (fun j e => (HR6.out.lt j e).1))
              have hsum : q + 1 + (m - q) = m + 1 := by omega
              rw [hsum] at hown7
              have HR7 : Hid (IRow w7 w.heap.size v7 ((dueN L t (i + 1)).map Int.ofNat)) := hide (by
                rw [HN3.out]
                unfold IRow
                have e1 : ((lo.take q ++ i :: lo.drop q).map Int.ofNat).length = m + 1 := by
                  rw [List.length_map, List.length_append, List.length_cons, HL1.out, HL2.out]; omega
                rw [e1]
                have e2 : ((lo.take q ++ i :: lo.drop q).map Int.ofNat).map (Value.int .i64) = (lo.map (fun k : Nat => Value.int .i64 (k : Int))).take q ++ Value.int .i64 (i : Int) :: (lo.map (fun k : Nat => Value.int .i64 (k : Int))).drop q := by
                  simp [Function.comp_def]
                rw [e2]
                refine ⟨hown7.1, ?_⟩
                rcases hown7.2 with z | ⟨g2, cap2, cur2, z1, z2, z3⟩
                · exact .inl z
                · exact .inr ⟨g2, cap2, cur2, z1, Nat.le_trans Hbc.out.size z2, z3⟩)
              obtain ⟨a7, c7, hv7⟩ : ∃ a7 c7, v7 = .slice a7 (m + 1) c7 := by
                rcases hown7.2 with ⟨_, e2⟩ | ⟨g5, cp, cur, e1, _⟩
                · cases e2
                · exact ⟨some ⟨g5, 0, none⟩, cp, e1⟩
              subst hv7
              have Hb7 : Hid (Below w.heap.size w w7) := hide (below_next Hbc.out (Nat.le_refl _) HB7.out)
              clear hown7 hgrow7 HR6 hws6 HB6 HB7 hats hatn SH SL HN3 HOc hi1 hz10 hz11 hz12 hsum
              go_wp2_with fail
              go_roundw
              case rel => exact ⟨i + 1, m + 1, c7, a7, by simp, rfl, by omega, HR7, Hb7⟩
              case measure => simp [intOf]; omega
    · have HF : Hid (IRow wr w.heap.size (.slice a m c) ((dueS L t).map Int.ofNat)) := hide (by unfold dueS; rw [hn.out, show n = i by omega]; exact HO.out)
      clear HO
      go_wp2_with fail
      go_ret
      exact ⟨_, rfl, HF.out, Hb.out⟩
end Go.Proofs.Ytcjahdgppnmdkaa
