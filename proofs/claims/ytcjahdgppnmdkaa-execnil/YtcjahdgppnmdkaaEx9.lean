/- Package exec: New, Due, Now. -/
import Derived.Test.YtcjahdgppnmdkaaExP
set_option maxRecDepth 100000
namespace Go.Proofs.Ytcjahdgppnmdkaa
open Go.RowKit Go.Great

set_option maxHeartbeats 1000000 in
theorem take_none (w : World) (b P o : Nat) (pre : List Value) (ty : TypeId) (s : List Tu) (T : Int) (h : HQ w b P o pre ty s) (hT : ∀ t ∈ s, t.tk ≠ T) : Calls Try.prog 59 #[qP P o, .int .i64 T] w fun e w' => e = .returned (.slice none 0 0) ∧ w' = w := by
  obtain ⟨a, cap, l, hq, hp, hh⟩ := h
  have H1 := hide (holds_no w b P o pre ty a cap l T hq (fun t ht => hT t (hp.subset ht)))
  have cq := hq.cellQ
  generalize l.length = n at *
  clear hq hp hh hT
  go_enter Try.func59, Try.ntmps59
  go_wp2_with (go_at_call 84; refine H1.out.mono ?_; rintro e w3 ⟨rfl, hw3⟩; obtain rfl := hw3.symm)
  go_ret
  exact ⟨rfl, rfl⟩
/-- the turns of tick T are taken out, whether there are any or not -/
theorem take_all (w : World) (b P o : Nat) (pre : List Value) (ty : TypeId) (d r : List Tu) (T : Int) (h : HQ w b P o pre ty (d ++ r)) (hty : 3 ≠ ty) (hD : DR T d r) : Calls Try.prog 59 #[qP P o, .int .i64 T] w (TEnd w b P o pre ty d r) := by
  by_cases h0 : 0 < d.length
  · exact take_any w b P o pre ty d r T h hty hD h0
  · have : d = [] := List.eq_nil_of_length_eq_zero (by omega)
    subst this
    rw [List.nil_append] at h
    refine (take_none w b P o pre ty r T h (fun t ht => by have := hD.r0 t ht; omega)).mono ?_
    rintro e w1 ⟨rfl, rfl⟩
    exact ⟨_, rfl, IRow.nil _ _, h, World.grownBy.refl _ _⟩
set_option maxHeartbeats 1000000 in
theorem wrong_any (x : Jb) (w : World) : Calls Try.prog 62 #[.agg #[.int .i64 x.pe, .int .i64 x.ph, .int .i64 x.rk]] w fun e w' => e = .returned (.bool (bad x)) ∧ Below w.heap.size w w' := by
  obtain ⟨a, b, c⟩ := x
  unfold bad
  simp only
  by_cases h : a < 1
  · rw [decide_eq_true h, Bool.true_or]
    go_enter Try.func62, Try.ntmps62
    go_wp2_with fail
    go_ret
    exact ⟨rfl, below_alloc _ _⟩
  · rw [decide_eq_false h, Bool.false_or]
    go_enter Try.func62, Try.ntmps62
    go_wp2_with fail
    go_ret
    exact ⟨rfl, below_alloc _ _⟩
theorem jb_at {w : World} {L : List Jb} {na : Option Addr} {np : Nat} (h : Rws w (.slice na L.length np) 3 jbC L) (i : Nat) (hi : i < L.length) : ∃ g o, na = some ⟨g, o, none⟩ ∧ g < w.heap.size ∧ ∀ w', Below w.heap.size w w' → w'.cell? ⟨g, o + i * 3, none⟩ = some (.int .i64 (jbA L i).pe) ∧ w'.cell? ⟨g, o + i * 3 + 1, none⟩ = some (.int .i64 (jbA L i).ph) ∧ w'.cell? ⟨g, o + i * 3 + 2, none⟩ = some (.int .i64 (jbA L i).rk) := by
  obtain ⟨g, o, cap, x, e, hg, hx, hc⟩ := h.get i hi
  injection e with e _ _
  have ex : jbA L i = x := by unfold jbA; rw [List.getD, hx]; rfl
  rw [ex]
  exact ⟨g, o, e, hg, fun w' hb => ⟨hc w' hb 0 _ rfl, hc w' hb 1 _ rfl, hc w' hb 2 _ rfl⟩⟩
set_option maxHeartbeats 2000000 in
theorem index_any (L : List Jb) (v : Value) (w : World) (hR : Rws w v 3 jbC L) (hl : L.length ≤ 64) : Calls Try.prog 90 #[v, .func (.func 62) #[] #[]] w fun e w' => (∃ x : Int, e = .returned (.int .i64 x) ∧ decide (0 ≤ x) = L.any bad) ∧ Below w.heap.size w w' := by
  have HR := hide hR
  obtain ⟨_, na, np, rfl, _⟩ := hR
  obtain ⟨n, hn⟩ : ∃ n, Hid (L.length = n) := ⟨_, hide rfl⟩
  rw [hn.out] at hl ⊢
  go_enter Try.func90, Try.ntmps90
  go_wp2_with fail
  go_loopw [8] (fun v8 wr => ∃ i : Nat, v8 = .int .i64 (i : Int) ∧ i ≤ n ∧ Hid (Below w.heap.size w wr) ∧ Hid (∀ j : Nat, j < i → bad (jbA L j) = false)) (fun v8 _ => n - (intOf v8).toNat)
  case atStart => exact ⟨0, rfl, by omega, hide (Below.refl _ _), hide (fun j hj => by omega)⟩
  case round =>
    obtain ⟨i, rfl, hi, Hb, HB⟩ := hrel
    by_cases hin : i < n
    · obtain ⟨g, o, ena, hg, hc⟩ := jb_at HR.out i (by rw [hn.out]; exact hin)
      subst ena
      obtain ⟨c0, c1, c2⟩ := hc wr Hb.out
      have WR := hide (wrong_any (jbA L i) wr)
      obtain ⟨bb, hbb⟩ : ∃ bb, Hid (bad (jbA L i) = bb) := ⟨_, hide rfl⟩
      rw [hbb.out] at WR
      have HT : Hid (bb = true → L.any bad = true) := hide (fun e => List.any_eq_true.2 ⟨jbA L i, jbA_in (by rw [hn.out]; exact hin), by rw [hbb.out, e]⟩)
      generalize (jbA L i).pe = x0 at *
      generalize (jbA L i).ph = x1 at *
      generalize (jbA L i).rk = x2 at *
      clear hc
      cases bb with
      | true =>
        go_wp2_with fail
        refine WR.out.mono ?_
        rintro e w2 ⟨rfl, hb2⟩
        have HbN := hide (below_next Hb.out (Nat.le_refl _) hb2)
        clear hb2 WR HB
        go_wp2_with fail
        go_ret
        refine ⟨⟨_, rfl, ?_⟩, HbN.out⟩
        rw [HT.out (by trivial)]
        simp
      | false =>
        go_wp2_with fail
        refine WR.out.mono ?_
        rintro e w2 ⟨rfl, hb2⟩
        have HbN := hide (below_next Hb.out (Nat.le_refl _) hb2)
        clear hb2 WR HT
        go_wp2_with fail
        go_roundw
        case rel => exact ⟨i + 1, by simp, by omega, HbN, hide (fun j hj => by
          by_cases e : j = i
          · rw [e]; exact hbb.out
          · exact HB.out j (by omega))⟩
        case measure => simp [intOf]; omega
    · have HE : Hid (L.any bad = false) := hide (by
        rw [List.any_eq_false]
        intro x hx
        obtain ⟨j, hj, e⟩ := List.getElem_of_mem hx
        have := HB.out j (by rw [hn.out] at hj; omega)
        unfold jbA at this
        rw [List.getD, List.getElem?_eq_getElem hj] at this
        simpa [e] using this)
      clear HB
      go_wp2_with fail
      go_ret
      exact ⟨⟨-1, rfl, by rw [HE.out]; rfl⟩, Hb.out⟩
set_option maxHeartbeats 1000000 in
theorem contains_any (L : List Jb) (v : Value) (w : World) (hR : Rws w v 3 jbC L) (hl : L.length ≤ 64) : Calls Try.prog 61 #[v, .func (.func 62) #[] #[]] w fun e w' => e = .returned (.bool (L.any bad)) ∧ Below w.heap.size w w' := by
  have IX := hide (index_any L v w hR hl)
  clear hR hl
  go_enter Try.func61, Try.ntmps61
  go_wp2_with fail
  refine IX.out.mono ?_
  rintro e w2 ⟨⟨x, rfl, hx⟩, hb2⟩
  have HX := hide hx
  have Hb := hide hb2
  clear hx hb2 IX
  go_wp2_with fail
  go_ret
  exact ⟨by rw [← HX.out]; rfl, Hb.out⟩
def tu0 (L : List Jb) (k : Nat) : Tu := ⟨(jbA L k).ph, (jbA L k).rk, k, (jbA L k).pe⟩
theorem JsOk.tu0 {L : List Jb} (h : JsOk L) {k : Nat} (hk : k < L.length) : TOk (tu0 L k) := by
  refine (h.tu (Int.le_refl 0) hk ?_).1
  have h1 := jbA_in hk
  have h2 := (h.good _ h1).2
  have h3 := (h.ok _ h1).b0.2
  unfold tuA fm
  rw [if_pos h2, if_pos h3]
  rfl
theorem range_perm (L : List Jb) (i : Nat) : ((tu0 L i) :: (List.range i).map (tu0 L)).Perm ((List.range (i + 1)).map (tu0 L)) := by
  rw [List.range_succ, List.map_append]
  exact List.perm_append_comm (l₁ := [tu0 L i])
set_option maxHeartbeats 2000000 in
theorem waiting_any (L : List Jb) (v : Value) (w : World) (hR : Rws w v 3 jbC L) (hL : JsOk L) : Calls Try.prog 63 #[v] w fun e w' => ∃ a cap l, e = .returned (slQ a l.length cap) ∧ w'.ownsRow w.heap.size 148 4 (slQ a l.length cap) l.length (tusC l) ∧ (∀ t ∈ l, TOk t) ∧ l.Perm (tuS L 0) ∧ Hp l l.length ∧ Below w.heap.size w w' := by
  have HR := hide hR
  have HL := hide hL
  obtain ⟨_, na, np, rfl, _⟩ := hR
  have hl := hL.le
  obtain ⟨n, hn⟩ : ∃ n, Hid (L.length = n) := ⟨_, hide rfl⟩
  have HQ0 : Hid (HQ (w.alloc (.cells #[.slice none 0 0] 118)) w.heap.size w.heap.size 0 [] 118 ((List.range 0).map (tu0 L))) := hide ⟨none, 0, [], ⟨rfl, by simp, Blk.new _ _ _, World.ownsRow_nil _ _ _ _, fun t ht => by simp at ht, by decide⟩, List.Perm.refl _, fun k _ hk => by simp at hk⟩
  have HK0 : Hid (KB w.heap.size w.heap.size w (w.alloc (.cells #[.slice none 0 0] 118))) := hide (KB.of_below (below_alloc _ _) (Nat.le_refl _))
  rw [hn.out] at hl ⊢
  clear hL
  go_enter Try.func63, Try.ntmps63
  go_upto_region 2 with fail
  generalize w.alloc (.cells #[.slice none 0 0] 118) = w1 at *
  go_wp2_with fail
  go_loopw [8] (fun v8 wr => ∃ i : Nat, v8 = .int .i64 (i : Int) ∧ i ≤ n ∧ Hid (HQ wr w.heap.size w.heap.size 0 [] 118 ((List.range i).map (tu0 L))) ∧ Hid (KB w.heap.size w.heap.size w wr)) (fun v8 _ => n - (intOf v8).toNat)
  case atStart => exact ⟨0, rfl, by omega, HQ0, HK0⟩
  case round =>
    clear HQ0 HK0
    obtain ⟨i, rfl, hi, HQr, HK⟩ := hrel
    by_cases hin : i < n
    · have Hb : Hid (Below w.heap.size w wr) := hide (HK.out.below (Nat.le_refl _) (Nat.le_refl _))
      obtain ⟨g, o, ena, hg, hc⟩ := jb_at HR.out i (by rw [hn.out]; exact hin)
      subst ena
      obtain ⟨c0, c1, c2⟩ := hc wr Hb.out
      have HX : Hid (jC (jbA L i).pe (jbA L i).ph (jbA L i).rk = jC (jbA L i).pe (jbA L i).ph (jbA L i).rk) := hide rfl
      have PU := hide (hpush_any (wr.alloc (.cells (jC (jbA L i).pe (jbA L i).ph (jbA L i).rk) 80)) w.heap.size w.heap.size 0 [] 118 ((List.range i).map (tu0 L)) (tu0 L i) (HQr.out.after (below_alloc _ _)) (by rw [List.length_map, List.length_range]; omega) (HL.out.tu0 (by rw [hn.out]; exact hin)))
      unfold tu0 at PU
      have HPm := hide (range_perm L i)
      unfold tu0 at HPm
      have HKa : Hid (KB w.heap.size w.heap.size w (wr.alloc (.cells (jC (jbA L i).pe (jbA L i).ph (jbA L i).rk) 80))) := hide (HK.out.trans (KB.of_below (below_alloc _ _) HK.out.size))
      generalize (jbA L i).pe = x0 at *
      generalize (jbA L i).ph = x1 at *
      generalize (jbA L i).rk = x2 at *
      clear hc HX HQr HK
      go_wp2_with fail
      refine PU.out.mono ?_
      rintro e w3 ⟨rfl, hq3, hb3⟩
      have HQ3 := hide (hq3.perm HPm.out)
      have HK3 := hide (HKa.out.trans hb3)
      clear hq3 hb3 PU HPm HKa Hb
      go_wp2_with fail
      go_roundw
      case rel => exact ⟨i + 1, by simp, by omega, HQ3, HK3⟩
      case measure => simp [intOf]; omega
    · obtain ⟨a, cap, l, hq, hp, hh⟩ := HQr.out
      have e1 : i = n := by omega
      have HF : Hid (∃ a2 cap2 l2, (.returned (.slice a l.length cap) : Ending) = .returned (slQ a2 l2.length cap2) ∧ wr.ownsRow w.heap.size 148 4 (slQ a2 l2.length cap2) l2.length (tusC l2) ∧ (∀ t ∈ l2, TOk t) ∧ l2.Perm (tuS L 0) ∧ Hp l2 l2.length ∧ Below w.heap.size w wr) := hide ⟨a, cap, l, rfl, hq.own, hq.ok, by rw [tuS_zero HL.out, hn.out, ← e1]; exact hp, hh, HK.out.below (Nat.le_refl _) (Nat.le_refl _)⟩
      have cq := hq.cellQ
      generalize l.length = ln at *
      clear hq hp hh HQr HK e1
      go_wp2_with fail
      go_ret
      exact HF.out
end Go.Proofs.Ytcjahdgppnmdkaa
