/- Package upload: a list's items, in their order; Ready. -/
import Derived.Test.YtimkfipiebppiaaUp7
import Derived.Laws.OwnMore
namespace Go.Proofs.Ytimkfipiebppiaa
open Go.RowKit Go.Great

/-- the values of rows, each in a block of its own -/
structure Urs (w : World) (base : Nat) (us : List Value) (L : List (List Int)) : Prop where
  len : us.length = L.length
  row : ∀ (i : Nat) (u : Value), us[i]? = some u → IRow w base u (L.getD i [])
  two : ∀ (i j : Nat) (u u' : Value), us[i]? = some u → us[j]? = some u' → i ≠ j → u.ownBlock ≠ u'.ownBlock
theorem Urs.nil (w : World) (base : Nat) : Urs w base [] [] := ⟨rfl, fun _ _ h => (by cases h), fun _ _ _ _ h => (by cases h)⟩
theorem Urs.below {w w' : World} {base : Nat} {us : List Value} {L : List (List Int)} (h : Urs w base us L) (hb : Below w.heap.size w w') : Urs w' base us L := ⟨h.len, fun i u hu => (h.row i u hu).below hb, h.two⟩
/-- a row of rows grows, and no row of ints does -/
theorem irow_apart {w : World} {b1 b2 n : Nat} {v u : Value} {us : List Value} {r : List Int} (ho : w.ownsRow b1 36 1 v n us) (hr : IRow w b2 u r) : u.ownBlock = none ∨ u.ownBlock ≠ v.ownBlock := by
  rcases hr.2 with ⟨e, _⟩ | ⟨g, cap, cur, e, _, hh, _⟩
  · left; rw [e]; rfl
  · right
    rw [e]
    show some g ≠ _
    intro e2
    exact blk_apart ho (show Blk w g cur 3 from hh) (by decide) e2.symm
theorem Urs.grown {w w' : World} {base b n : Nat} {v : Value} {us us' : List Value} {L : List (List Int)} (h : Urs w base us L) (ho : w.ownsRow b 36 1 v n us') (hg : w.grownBy w' v.ownBlock) : Urs w' base us L :=
  ⟨h.len, fun i u hu => World.ownsRow.kept (h.row i u hu) hg (irow_apart ho (h.row i u hu)), h.two⟩
theorem getD_app_left {α : Type} {a b : List α} {d : α} {i : Nat} (h : i < a.length) : (a ++ b).getD i d = a.getD i d := by
  rw [List.getD, List.getD, List.getElem?_append_left h]
theorem getD_app_end {α : Type} {a : List α} {x d : α} : (a ++ [x]).getD a.length d = x := by
  rw [List.getD, List.getElem?_append_right (Nat.le_refl _), Nat.sub_self]; rfl
theorem Urs.more {w : World} {base n : Nat} {us : List Value} {u : Value} {L : List (List Int)} {r : List Int} (h : Urs w base us L) (hu : IRow w n u r) (hn : base ≤ n) (hlt : ∀ (i : Nat) (x : Value), us[i]? = some x → ∀ k, x.ownBlock = some k → k < n) (h0 : 0 < r.length) : Urs w base (us ++ [u]) (L ++ [r]) := by
  have hl := h.len
  have hown : ∃ k, u.ownBlock = some k ∧ n ≤ k := by
    rcases hu.2 with ⟨_, e⟩ | ⟨g, cap, cur, e, hb, _⟩
    · omega
    · exact ⟨g, by rw [e]; rfl, hb⟩
  obtain ⟨k, hk, hkn⟩ := hown
  have hcase : ∀ i x, (us ++ [u])[i]? = some x → (i < us.length ∧ us[i]? = some x) ∨ (i = us.length ∧ x = u) := by
    intro i x hx
    by_cases hi : i < us.length
    · left; rw [List.getElem?_append_left hi] at hx; exact ⟨hi, hx⟩
    · right
      rw [List.getElem?_append_right (by omega)] at hx
      have : i - us.length = 0 := by
        refine Decidable.byContradiction fun h => ?_
        rw [List.getElem?_eq_none (by simp; omega)] at hx; cases hx
      rw [this] at hx
      simp at hx
      exact ⟨by omega, hx.symm⟩
  refine ⟨by simp [hl], ?_, ?_⟩
  · intro i x hx
    rcases hcase i x hx with ⟨hi, hx⟩ | ⟨rfl, rfl⟩
    · rw [getD_app_left (by omega)]; exact h.row i x hx
    · rw [hl, getD_app_end]; exact hu.low hn
  · intro i j x y hx hy hij
    rcases hcase i x hx with ⟨hi, hx1⟩ | ⟨hi, ex⟩ <;> rcases hcase j y hy with ⟨hj, hy1⟩ | ⟨hj, ey⟩
    · exact h.two i j x y hx1 hy1 hij
    · intro e; rw [ey, hk] at e; have := hlt i x hx1 k e; omega
    · intro e; rw [ex, hk] at e; have := hlt j y hy1 k e.symm; omega
    · omega
/-- behind k swaps -/
def revK (us : List Value) (k : Nat) : List Value := (List.range us.length).map fun i => if i < k ∨ us.length - k ≤ i then us.getD (us.length - 1 - i) undef else us.getD i undef
theorem revK_len (us : List Value) (k : Nat) : (revK us k).length = us.length := by simp [revK]
theorem revK_at (us : List Value) (k i : Nat) (h : i < us.length) : (revK us k)[i]? = some (if i < k ∨ us.length - k ≤ i then us.getD (us.length - 1 - i) undef else us.getD i undef) := by
  unfold revK
  rw [List.getElem?_map, List.getElem?_range h]
  rfl
theorem revK_zero (us : List Value) : revK us 0 = us := by
  apply List.ext_getElem?
  intro i
  by_cases h : i < us.length
  · rw [revK_at us 0 i h, if_neg (by omega), List.getD, List.getElem?_eq_getElem h]; rfl
  · rw [List.getElem?_eq_none (by rw [revK_len]; omega), List.getElem?_eq_none (by omega)]
theorem revK_end (us : List Value) (k : Nat) (h : us.length ≤ 2 * k + 1) : revK us k = us.reverse := by
  apply List.ext_getElem?
  intro i
  by_cases hi : i < us.length
  · rw [revK_at us k i hi, List.getElem?_reverse hi]
    by_cases hc : i < k ∨ us.length - k ≤ i
    · rw [if_pos hc, List.getD, List.getElem?_eq_getElem (by omega)]; rfl
    · rw [if_neg hc]
      have : i = us.length - 1 - i := by omega
      rw [← this, List.getD, List.getElem?_eq_getElem hi]; rfl
  · rw [List.getElem?_eq_none (by rw [revK_len]; omega), List.getElem?_eq_none (by simp; omega)]
theorem revK_step (us : List Value) (k : Nat) (h : 2 * k + 1 < us.length) : ((revK us k).set k (us.getD (us.length - 1 - k) undef)).set (us.length - 1 - k) (us.getD k undef) = revK us (k + 1) := by
  apply List.ext_getElem?
  intro i
  by_cases hi : i < us.length
  · rw [revK_at us (k + 1) i hi, List.getElem?_set, List.getElem?_set]
    by_cases h1 : us.length - 1 - k = i
    · rw [if_pos h1, if_pos (by simp [revK_len]; omega), if_pos (by omega)]
      have : us.length - 1 - i = k := by omega
      rw [this]
    · rw [if_neg h1]
      by_cases h2 : k = i
      · rw [if_pos h2, if_pos (by rw [revK_len]; omega), if_pos (by omega), h2]
      · rw [if_neg h2, revK_at us k i hi]
        by_cases hc : i < k ∨ us.length - k ≤ i
        · rw [if_pos hc, if_pos (by omega)]
        · rw [if_neg hc, if_neg (by omega)]
  · rw [List.getElem?_eq_none (by simp [revK_len]; omega), List.getElem?_eq_none (by rw [revK_len]; omega)]
theorem Urs.rev {w : World} {base : Nat} {us : List Value} {L : List (List Int)} (h : Urs w base us L) : Urs w base us.reverse L.reverse := by
  have hl := h.len
  have key : ∀ i x, us.reverse[i]? = some x → i < us.length ∧ us[us.length - 1 - i]? = some x := by
    intro i x hx
    have hi : i < us.length := by
      have := (List.getElem?_eq_some_iff.1 hx).1
      simpa using this
    rw [List.getElem?_reverse hi] at hx
    exact ⟨hi, hx⟩
  refine ⟨by simp [hl], ?_, ?_⟩
  · intro i x hx
    obtain ⟨hi, hx⟩ := key i x hx
    have := h.row _ x hx
    have e : L.reverse.getD i [] = L.getD (us.length - 1 - i) [] := by
      rw [List.getD, List.getD, List.getElem?_reverse (by omega), hl]
    rw [e]; exact this
  · intro i j x y hx hy hij
    obtain ⟨hi, hx⟩ := key i x hx
    obtain ⟨hj, hy⟩ := key j y hy
    exact h.two _ _ x y hx hy (by omega)
set_option maxHeartbeats 2000000 in
theorem reverse_any (w : World) (base g cap : Nat) (us : List Value) (n : Nat) (hn : us.length = n) (hn1 : n ≤ 70000) (hs : ∀ u ∈ us, ∃ a m c, u = .slice a m c) (h : w.ownsRow base 36 1 (.slice (some ⟨g, 0, none⟩) n cap) n us) : Calls Try.prog 64 #[.slice (some ⟨g, 0, none⟩) n cap] w fun e w' => e = .returned (.tuple #[]) ∧ w'.ownsRow base 36 1 (.slice (some ⟨g, 0, none⟩) n cap) n us.reverse ∧ w.grownBy w' (some g) := by
  have HO : Hid (w.ownsRow base 36 1 (.slice (some ⟨g, 0, none⟩) n cap) n (revK us 0)) := hide (by rw [revK_zero]; exact h)
  have HN := hide hn
  have HS : Hid (∀ i, i < n → ∃ a m c, us.getD i undef = .slice a m c) := hide (fun i hi => hs _ (by rw [List.getD, List.getElem?_eq_getElem (by omega)]; exact List.getElem_mem _))
  clear hn h hs
  go_enter Try.func64, Try.ntmps64
  go_wp2_with fail
  go_loopw [2, 3] (fun vi vj wx => ∃ k : Nat, vi = .int .i64 (k : Int) ∧ vj = .int .i64 ((n : Int) - 1 - (k : Int)) ∧ 2 * k ≤ n + 1 ∧ Hid (wx.ownsRow base 36 1 (.slice (some ⟨g, 0, none⟩) n cap) n (revK us k)) ∧ Hid (w.grownBy wx (some g))) (fun vi _ _ => n - (intOf vi).toNat)
  case atStart => exact ⟨0, rfl, by simp, by omega, HO, hide (grown_below (Below.refl _ _) _)⟩
  case round =>
    clear HO
    obtain ⟨k, rfl, rfl, hk, HO, HG⟩ := hrel
    by_cases hlt : 2 * k + 1 < n
    · obtain ⟨j, hj⟩ : ∃ j : Nat, Hid (n - 1 - k = j) := ⟨_, hide rfl⟩
      have ej : (n : Int) - 1 - (k : Int) = (j : Int) := by have := hj.out; omega
      have hjn : j < n ∧ k < j := by have := hj.out; omega
      have EJ : Hid (((j : Nat) : Int) = (n : Int) - 1 - (k : Int)) := hide ej.symm
      rw [ej]
      have HK1 : Hid ((revK us k)[k]? = some (us.getD k undef)) := hide (by rw [revK_at us k k (by rw [HN.out]; omega), if_neg (by rw [HN.out]; omega)])
      have HK2 : Hid ((revK us k)[j]? = some (us.getD j undef)) := hide (by rw [revK_at us k j (by rw [HN.out]; omega), if_neg (by rw [HN.out]; omega)])
      have HK3 : Hid (((revK us k).set k (us.getD j undef)).set j (us.getD k undef) = revK us (k + 1)) := hide (by have := revK_step us k (by rw [HN.out]; omega); rw [HN.out, hj.out] at this; exact this)
      obtain ⟨xa, xm, xc, ex⟩ := HS.out k (by omega)
      obtain ⟨ya, ym, yc, ey⟩ := HS.out j (by omega)
      rw [ex] at HK1 HK3
      rw [ey] at HK2 HK3
      clear ex ey
      have c1 : wr.cell? ⟨g, k, none⟩ = some (.slice xa xm xc) := (World.ownsRow.cellAt HO.out k (by omega)).trans HK1.out
      have c2 : wr.cell? ⟨g, j, none⟩ = some (.slice ya ym yc) := (World.ownsRow.cellAt HO.out j (by omega)).trans HK2.out
      obtain ⟨HO1, HG1⟩ := World.ownsRow.stored HO.out k (.slice ya ym yc)
      obtain ⟨HO2, HG2⟩ := World.ownsRow.stored HO1 j (.slice xa xm xc)
      have f1 := World.ownsRow.frozenAt HO.out k
      have f2 := World.ownsRow.frozenAt HO.out j
      rw [HK3.out] at HO2
      have HO3 := hide HO2
      have HG3 := hide (grown_more (grown_more HG.out HG1) HG2)
      clear HO1 HO2 HG1 HG2 HO HG HK1 HK2 HK3 ej hj
      go_wp2_with fail
      go_region
      all_goals go_wp2_with fail
      go_roundw
      case rel => exact ⟨k + 1, by go_num, by rw [EJ.out]; go_num, by omega, HO3, hide (grown_drew1 HG3.out)⟩
      case measure => simp [intOf]; omega
    · have HE := hide (revK_end us k (by rw [HN.out]; omega))
      rw [HE.out] at HO
      have hd : ¬ (k : Int) < (n : Int) - 1 - (k : Int) := by omega
      clear hlt
      go_wp2_with fail
      go_end0
      exact ⟨rfl, HO.out, HG.out⟩
/-- how long a slice is -/
def slN : Value → Nat
  | .slice _ n _ => n
  | _ => 0
theorem info_sl : (Try.prog.info? 36).map (fun i => (i.zero, i.size, i.bytes)) = some (some (.slice none 0 0), 1, 24) := by kernel_rfl
theorem rows_shape {w : World} {base : Nat} {v : Value} {us : List Value} {n : Nat} (h : w.ownsRow base 36 1 v n us) : ∃ a cap, v = .slice a n cap := by
  rcases h.2 with ⟨h1, h2⟩ | ⟨g, cap, cur, h1, _⟩
  · exact ⟨none, 0, by rw [h1, h2]⟩
  · exact ⟨_, cap, h1⟩
theorem Urs.slices {w : World} {base : Nat} {us : List Value} {L : List (List Int)} (h : Urs w base us L) : ∀ u ∈ us, ∃ a m c, u = .slice a m c := by
  intro u hu
  obtain ⟨i, hi⟩ := List.getElem?_of_mem hu
  obtain ⟨a, c, e⟩ := (h.row i u hi).shape
  exact ⟨a, _, c, e⟩
theorem ownsRow_low {w : World} {b b' : Nat} {e : TypeId} {size : Nat} {v : Value} {n : Nat} {xs : List Value} (h : w.ownsRow b e size v n xs) (hb : b' ≤ b) : w.ownsRow b' e size v n xs := by
  refine ⟨h.1, ?_⟩
  rcases h.2 with q | ⟨g, cap, cur, q1, q2, q3⟩
  · exact .inl q
  · exact .inr ⟨g, cap, cur, q1, Nat.le_trans hb q2, q3⟩
/-- a list of rows of the call's own -/
def OwnL (w : World) (base : Nat) (v : Value) (L : List (List Int)) : Prop := ∃ us, w.ownsRow base 36 1 v us.length us ∧ Urs w base us L
theorem OwnL.nil (w : World) (base : Nat) : OwnL w base (.slice none 0 0) [] := ⟨[], World.ownsRow_nil _ _ _ _, Urs.nil _ _⟩
theorem OwnL.below {w w' : World} {base : Nat} {v : Value} {L : List (List Int)} (h : OwnL w base v L) (hb : Below w.heap.size w w') : OwnL w' base v L := by
  obtain ⟨us, h1, h2⟩ := h
  exact ⟨us, World.ownsRow.kept h1 (grown_below hb none) (by cases v.ownBlock <;> simp), h2.below hb⟩
theorem OwnL.shape {w : World} {base : Nat} {v : Value} {L : List (List Int)} (h : OwnL w base v L) : ∃ a cap, v = .slice a L.length cap := by
  obtain ⟨us, h1, h2⟩ := h
  rw [← h2.len]
  exact rows_shape h1
theorem OwnL.low {w : World} {b b' : Nat} {v : Value} {L : List (List Int)} (h : OwnL w b v L) (hb : b' ≤ b) : OwnL w b' v L := by
  obtain ⟨us, h1, h2⟩ := h
  exact ⟨us, ownsRow_low h1 hb, h2.len, fun i u hu => (h2.row i u hu).low hb, h2.two⟩
set_option maxHeartbeats 2000000 in
theorem items_any (w : World) (ks : List Nat) (c h a g : Int) (q : Option Addr) (R : List (List Int)) (hC : Chn w ks (.pointer q) R) (h3 : ∀ k ∈ ks, k < w.heap.size) (h5 : ∀ r ∈ R, r.length = 5) (hR : R.length ≤ 65535) (hR0 : 0 < R.length) : Calls Try.prog 44 #[.agg #[.int .i64 c, .int .i64 h, .pointer q, .int .i64 a, .int .i64 g]] w fun e w' => ∃ v, e = .returned v ∧ OwnL w' w.heap.size v R.reverse ∧ Below w.heap.size w w' := by
  obtain ⟨i0, hi, hz0, hz1, hz2⟩ := info_parts info_sl
  have HC := hide hC
  have H3 := hide h3
  have H5 := hide h5
  have Hb := hide (below_alloc w (.cells #[.int .i64 c, .int .i64 h, .pointer q, .int .i64 a, .int .i64 g] 66))
  clear hC h3 h5
  go_enter Try.func44, Try.ntmps44
  go_wp2_with fail
  generalize w.alloc (.cells #[.int .i64 c, .int .i64 h, .pointer q, .int .i64 a, .int .i64 g] 66) = W1 at *
  go_loopw [3, 4] (fun v p wx => ∃ (do_ re : List (List Int)) (us : List Value) (q : Option Addr), p = .pointer q ∧ Hid (R = do_ ++ re) ∧ Hid (Chn w ks (.pointer q) re) ∧ Hid (wx.ownsRow w.heap.size 36 1 v us.length us) ∧ Hid (Urs wx w.heap.size us do_) ∧ Hid (Below w.heap.size w wx)) (fun v _ _ => R.length - slN v)
  case atStart => exact ⟨[], R, [], q, rfl, hide rfl, HC, hide (World.ownsRow_nil _ _ _ _), hide (Urs.nil _ _), Hb⟩
  case round =>
    clear HC Hb
    obtain ⟨do_, re, us, q, rfl, HR, HC, HO, HU, Hb⟩ := hrel
    obtain ⟨va, vc, rfl⟩ := rows_shape HO.out
    have hul : us.length = do_.length := HU.out.len
    cases re with
    | nil =>
      have eq : Value.pointer q = .pointer none := HC.out
      injection eq with eq
      subst eq
      have eR : R = do_ := by rw [HR.out, List.append_nil]
      subst eR
      clear HR HC hi hz0 hz1 hz2
      obtain ⟨n, hn⟩ : ∃ n, Hid (us.length = n) := ⟨_, hide rfl⟩
      rw [hn.out] at HO hul ⊢
      have hn0 : 0 < n ∧ n ≤ 65535 := by omega
      clear hul
      have hO := HO.out
      rcases hO.2 with ⟨_, e2⟩ | ⟨g2, cap2, cur2, e2, hg2, _⟩
      · omega
      · injection e2 with e3 _ e4
        subst e3 e4
        have RV := hide (reverse_any wr w.heap.size g2 vc us n hn.out (by omega) HU.out.slices HO.out)
        have HG2 := hide hg2
        clear hO hg2
        go_wp2_with fail
        refine RV.out.mono ?_
        rintro e w5 ⟨rfl, hO5, hg5⟩
        have HU5 := hide ((HU.out.grown HO.out hg5).rev)
        have HO5 := hide hO5
        have Hb5 := hide (Hb.out.grown hg5 Hb.out.size (fun k e => by injection e with e; have := HG2.out; omega))
        clear hO5 hg5 RV
        go_wp2_with fail
        go_ret
        exact ⟨_, rfl, ⟨us.reverse, by rw [List.length_reverse, hn.out]; exact HO5.out, HU5.out⟩, Hb5.out⟩
    | cons r re =>
      obtain ⟨E, u, q2, e1, hE, hEk, hr, hC2⟩ := HC.out
      injection e1 with e1
      subst e1
      have hEw := H3.out E hEk
      have r5 : r.length = 5 := H5.out r (by rw [HR.out]; simp)
      have HR2 : Hid (R = (do_ ++ [r]) ++ re) := hide (by rw [HR.out]; simp)
      have hRl : R.length = do_.length + 1 + re.length := by rw [HR.out]; simp; omega
      obtain ⟨q2, rfl⟩ := chn_ptr hC2
      have HC2 := hide hC2
      have HE := hide hE
      have hHr := hr.ints
      have CL := hide (clone_any r u wr (hHr.below Hb.out) (by omega) (by omega))
      obtain ⟨ua, uc, rfl, _⟩ := hHr
      have k0 : wr.cell? ⟨E, 0, none⟩ = some (.slice ua r.length uc) := (hE.below Hb.out hEw).cell 0 rfl
      have hws := Hb.out.size
      clear hr hC2 hE HC HR
      obtain ⟨n, hn⟩ : ∃ n, Hid (us.length = n) := ⟨_, hide rfl⟩
      rw [hn.out] at HO hul ⊢
      have R5 := hide r5
      have HUL := hide hul
      have HRl := hide hRl
      have hn1 : n < 65535 := by omega
      clear r5 hul hRl
      generalize hrl : r.length = rl at *
      have HRL := hide hrl
      clear hrl
      go_wp2_with fail
      refine CL.out.mono ?_
      rintro e w2 ⟨u', rfl, hI, hb2⟩
      have HI := hide hI
      have Hb2 := hide hb2
      obtain ⟨ia, ic, rfl⟩ := hI.shape
      rw [HRL.out] at HI ⊢
      have HO2 := hide (World.ownsRow.kept HO.out (grown_below hb2 none) (by cases (Value.slice va n vc).ownBlock <;> simp))
      have HOA : Hid ((w2.alloc (.cells #[.slice ia rl ic] 36)).ownsRow w.heap.size 36 1 (.slice va n vc) n us) := hide (HO2.out.alloc _)
      have hs2 := hb2.size
      clear hI hb2 CL
      go_wp2_with (at_builtin; refine wpList_append_own _ rfl (.tmp 13) (.tmp 19) 27 rfl w.heap.size 36 i0 _ 1 24 Try.underlying27 hi hz0 hz1 hz2 rfl (by decide) _ _ _ rfl HOA.out ⟨w2.heap.size, 0, none⟩ 1 1 [.slice ia rl ic] rfl rfl ?c1 ?c2 ?c3 ?c4 ?c5 ?_)
      case c1 => exact new_cell1 _ _ rfl _ _
      case c2 => intro u hu; simp at hu; subst hu; rfl
      case c3 => unfold maxLen; omega
      case c4 => omega
      case c5 => rw [size_alloc]; omega
      intro v' w5 hown5 hgrow5 _
      have HO5 := hide hown5
      have HU2 : Hid (Urs w2 w.heap.size (us ++ [.slice ia rl ic]) (do_ ++ [r])) := hide ((HU.out.below Hb2.out).more HI.out hws (fun i x hx k hk => (World.ownsRow.lt (HU.out.row i x hx) k hk).2) (by rw [HRL.out, R5.out]; omega))
      have HU5 := hide ((HU2.out.below (below_alloc w2 (.cells #[.slice ia rl ic] 36))).grown HOA.out hgrow5)
      have Hb5 : Hid (Below w.heap.size w w5) := hide (((Hb.out.trans (Hb2.out.mono hws)).alloc (by omega) _).grown hgrow5 (by rw [size_alloc]; omega) (fun j e => (HOA.out.lt j e).1))
      have k1 : w5.cell? ⟨E, 1, none⟩ = some (.pointer q2) := (HE.out.below Hb5.out hEw).cell 1 rfl
      obtain ⟨va5, vc5, rfl⟩ := rows_shape hown5
      clear hown5 hgrow5 HOA HO HU HO2 HU2 hi hz0 hz1 hz2 k0
      go_wp2_with fail
      go_roundw
      case rel => exact ⟨do_ ++ [r], re, us ++ [.slice ia rl ic], q2, rfl, HR2, HC2, hide (by rw [List.length_append, hn.out]; exact HO5.out), HU5, Hb5⟩
      case measure => have := HRl.out; have := HUL.out; simp only [slN]; omega
theorem readyD_nil (w : World) : Calls Try.prog 20 #[.pointer none] w fun e w' => e = .returned (.tuple #[.slice none 0 0, .bool false]) ∧ w' = w := by
  go_enter Try.func20, Try.ntmps20
  go_wp2_with fail
  go_ret2
  exact ⟨rfl, rfl⟩
/-- what Ready hands out -/
def rdL (l : Ls) : List (List Int) := if rdB l = true then l.rw else []
theorem readyD_any (w : World) (D : Nat) (wh ms : Int) (l : Ls) (ks : List Nat) (h : Dsk w D wh ms l ks) (hl : LOk ms l) (hms : ms ≤ 65535) : Calls Try.prog 20 #[dP D] w fun e w' => ∃ v, e = .returned (.tuple #[v, .bool (rdB l)]) ∧ OwnL w' w.heap.size v (rdL l) ∧ Below w.heap.size w w' := by
  obtain ⟨p, hB, hC, h3⟩ := h
  obtain ⟨q, rfl⟩ := chn_ptr hC
  have LR := hide (listready_any l.cn l.hd l.he l.ag (.pointer q) w)
  have HT : Hid ((decide (0 < l.cn) && (l.hd == l.cn)) = rdB l) := hide rfl
  rw [HT.out] at LR
  have hlen : (l.rw.length : Int) ≤ 65535 := by
    have h1 := hl.h; have h2 := hl.m
    unfold Ls.hd at h1; omega
  have IT : Hid (rdB l = true → ∀ W, Below w.heap.size w W → Calls Try.prog 44 #[.agg #[.int .i64 l.cn, .int .i64 l.hd, .pointer q, .int .i64 l.he, .int .i64 l.ag]] W fun e w' => ∃ v, e = .returned v ∧ OwnL w' W.heap.size v l.rw ∧ Below W.heap.size W w') := hide (fun hy W hb => by
    have h0 : 0 < l.rw.length := by
      unfold rdB Ls.hd at hy
      simp at hy
      omega
    have := items_any W ks l.cn l.hd l.he l.ag q l.rw.reverse (hC.keep hb.size (fun k hk => hb.block k (h3 k hk).1) (fun _ h => h)) (fun k hk => Nat.lt_of_lt_of_le (h3 k hk).1 hb.size) (fun r hr => hl.r r (List.mem_reverse.1 hr)) (by rw [List.length_reverse]; omega) (by rw [List.length_reverse]; exact h0)
    rw [List.reverse_reverse] at this
    exact this)
  have HB := hide hB
  have c2 : w.cell? ⟨D, 2, none⟩ = some (.int .i64 l.cn) := hB.cell 2 rfl
  have c3 : w.cell? ⟨D, 3, none⟩ = some (.int .i64 l.hd) := hB.cell 3 rfl
  have c4 : w.cell? ⟨D, 4, none⟩ = some (.pointer q) := hB.cell 4 rfl
  have c5 : w.cell? ⟨D, 5, none⟩ = some (.int .i64 l.he) := hB.cell 5 rfl
  have c6 : w.cell? ⟨D, 6, none⟩ = some (.int .i64 l.ag) := hB.cell 6 rfl
  have HL1 : Hid (rdL l = if rdB l = true then l.rw else []) := hide rfl
  rw [HL1.out]
  clear hB hC h3 HT HL1 hlen hms hl
  generalize rdB l = y at *
  cases y
  · rw [if_neg (by simp)]
    go_enter Try.func20, Try.ntmps20
    go_wp2_with fail
    refine LR.out.mono ?_
    rintro e w1 ⟨rfl, hb⟩
    have Hb := hide hb
    clear hb
    go_wp2_with fail
    go_ret2
    exact ⟨_, rfl, OwnL.nil _ _, Hb.out⟩
  · rw [if_pos rfl]
    go_enter Try.func20, Try.ntmps20
    go_wp2_with fail
    refine LR.out.mono ?_
    rintro e w1 ⟨rfl, hb⟩
    have Hb := hide hb
    have HB1 := hide (HB.out.after hb)
    clear hb c2 c3 c4 c5 c6
    have c2 : w1.cell? ⟨D, 2, none⟩ = some (.int .i64 l.cn) := HB1.out.cell 2 rfl
    have c3 : w1.cell? ⟨D, 3, none⟩ = some (.int .i64 l.hd) := HB1.out.cell 3 rfl
    have c4 : w1.cell? ⟨D, 4, none⟩ = some (.pointer q) := HB1.out.cell 4 rfl
    have c5 : w1.cell? ⟨D, 5, none⟩ = some (.int .i64 l.he) := HB1.out.cell 5 rfl
    have c6 : w1.cell? ⟨D, 6, none⟩ = some (.int .i64 l.ag) := HB1.out.cell 6 rfl
    go_wp2_with fail
    refine (IT.out (by trivial) _ Hb.out).mono ?_
    rintro e w2 ⟨v, rfl, hO, hb2⟩
    have HO := hide hO
    have Hb2 := hide (below_next Hb.out (Nat.le_refl _) hb2)
    obtain ⟨va, vc, rfl⟩ := hO.shape
    clear hO hb2
    go_wp2_with fail
    go_ret2
    exact ⟨_, rfl, HO.out.low Hb.out.size, Hb2.out⟩
end Go.Proofs.Ytimkfipiebppiaa
