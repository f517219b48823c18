/- Package exec: the turns of a tick are taken out. -/
import Derived.Test.YtcjahdgppnmdkaaEx7
set_option maxRecDepth 100000
namespace Go.Proofs.Ytcjahdgppnmdkaa
open Go.RowKit Go.Great

def lenV (v : Value) : Nat := match v with
  | .slice _ n _ => n
  | _ => 0
/-- the turns behind i rounds -/
def stS (d r : List Tu) (i : Nat) : List Tu := d.drop i ++ ((d.take i).filterMap nx ++ r)
theorem stS_cons {d r : List Tu} {i : Nat} (h : i < d.length) : stS d r i = d[i] :: (d.drop (i + 1) ++ ((d.take i).filterMap nx ++ r)) := by
  unfold stS
  rw [List.drop_eq_getElem_cons h, List.cons_append]
theorem stS_next {d r : List Tu} {i : Nat} (h : i < d.length) : (match nx d[i] with | some u => u :: (d.drop (i + 1) ++ ((d.take i).filterMap nx ++ r)) | none => d.drop (i + 1) ++ ((d.take i).filterMap nx ++ r)).Perm (stS d r (i + 1)) := by
  unfold stS
  rw [List.take_add_one, List.getElem?_eq_getElem h, Option.toList_some, List.filterMap_append]
  cases e : nx d[i] with
  | none =>
    simp only [List.filterMap_cons, e, List.filterMap_nil, List.append_nil]
    exact List.Perm.refl _
  | some u =>
    simp only [List.filterMap_cons, e, List.filterMap_nil]
    refine (List.perm_middle (a := u) (l₁ := d.drop (i + 1)) (l₂ := (d.take i).filterMap nx ++ r)).symm.trans (List.Perm.append_left _ ?_)
    rw [List.append_assoc]
    exact List.perm_middle.symm
/-- what is asked of the turns of a tick T (d, in order) and of the others (r) -/
structure DR (T : Int) (d r : List Tu) : Prop where
  d0 : ∀ t ∈ d, t.tk = T
  ds : d.Pairwise (fun a b => ky a < ky b)
  r0 : ∀ t ∈ r, T < t.tk
  ok : ∀ t ∈ d ++ r, TOk t
  le : d.length + r.length ≤ 64
theorem DR.okd {T : Int} {d r : List Tu} (h : DR T d r) {t : Tu} (ht : t ∈ d) : TOk t := h.ok t (List.mem_append_left _ ht)
theorem DR.rest {T : Int} {d r : List Tu} (h : DR T d r) {i : Nat} : ∀ t ∈ (d.take i).filterMap nx ++ r, T < t.tk ∧ TOk t := by
  intro t ht
  rcases List.mem_append.1 ht with ht | ht
  · obtain ⟨u, hu, e⟩ := List.mem_filterMap.1 ht
    have hm := List.mem_of_mem_take hu
    have h1 := nx_ok (h.okd hm) e
    rw [h.d0 u hm] at h1
    exact ⟨h1.2, h1.1⟩
  · exact ⟨h.r0 t ht, h.ok t (List.mem_append_right _ ht)⟩
theorem DR.least {T : Int} {d r : List Tu} (h : DR T d r) {i : Nat} (hi : i < d.length) : ∀ y ∈ d.drop (i + 1) ++ ((d.take i).filterMap nx ++ r), ky d[i] < ky y := by
  intro y hy
  have hm : d[i] ∈ d := List.getElem_mem hi
  rcases List.mem_append.1 hy with hy | hy
  · obtain ⟨j, hj, e⟩ := List.getElem_of_mem hy
    rw [List.getElem_drop] at e
    rw [← e]
    exact List.pairwise_iff_getElem.1 h.ds i (i + 1 + j) hi (by rw [List.length_drop] at hj; omega) (by omega)
  · have := h.rest y hy
    exact ky_lt (h.okd hm) this.2 (by rw [h.d0 _ hm]; exact this.1)
theorem DR.len {T : Int} {d r : List Tu} (h : DR T d r) (i : Nat) : (stS d r i).length ≤ 64 := by
  unfold stS
  rw [List.length_append, List.length_append, List.length_drop]
  have h1 := List.length_filterMap_le nx (d.take i)
  rw [List.length_take] at h1
  have := h.le
  omega
theorem DR.len' {T : Int} {d r : List Tu} (h : DR T d r) {i : Nat} (hi : i < d.length) : (d.drop (i + 1) ++ ((d.take i).filterMap nx ++ r)).length ≤ 63 := by
  have h1 := h.len i
  rw [stS_cons hi, List.length_cons] at h1
  omega
theorem HQ.lower {w : World} {b b' Q o : Nat} {pre : List Value} {ty : TypeId} {s : List Tu} (h : HQ w b Q o pre ty s) (hb : b' ≤ b) : HQ w b' Q o pre ty s := by
  obtain ⟨a, cap, l, h1, h2, h3⟩ := h
  refine ⟨a, cap, l, ⟨h1.po, Nat.le_trans hb h1.bs, h1.box, ⟨h1.own.1, ?_⟩, h1.ok, h1.ht⟩, h2, h3⟩
  rcases h1.own.2 with q | ⟨g, c, cur, q1, q2, q3⟩
  · exact .inl q
  · exact .inr ⟨g, c, cur, q1, Nat.le_trans hb q2, q3⟩
theorem HQ.blk {w : World} {b Q o : Nat} {pre : List Value} {ty : TypeId} {s : List Tu} (h : HQ w b Q o pre ty s) : ∃ a cap, Blk w Q (pre ++ [Value.slice a s.length cap]).toArray ty := by
  obtain ⟨a, cap, l, h1, h2, h3⟩ := h
  exact ⟨a, cap, by rw [← h2.length_eq]; exact h1.box⟩
theorem row_keep {w w' : World} {b P o base : Nat} {pre : List Value} {ty : TypeId} {s : List Tu} {v : Value} {L : List Int} (hK : KB b P w w') (hQ : HQ w b P o pre ty s) (hty : 3 ≠ ty) (hR : IRow w base v L) : IRow w' base v L := by
  obtain ⟨a, cap, hB⟩ := hQ.blk
  exact hK.row hR (by decide) (blk_apart hR hB hty)
theorem HQ.grown {w w' : World} {b P o base : Nat} {pre : List Value} {ty : TypeId} {s : List Tu} {v : Value} {L : List Int} (hQ : HQ w b P o pre ty s) (hty : 3 ≠ ty) (hR : IRow w base v L) (hG : w.grownBy w' v.ownBlock) : HQ w' b P o pre ty s := by
  obtain ⟨a, cap, l, h1, h2, h3⟩ := hQ
  refine ⟨a, cap, l, ⟨h1.po, Nat.le_trans h1.bs hG.size, blk_grown hR h1.box hty hG, World.ownsRow.kept h1.own hG ?_, h1.ok, h1.ht⟩, h2, h3⟩
  rcases h1.own.2 with ⟨q, _⟩ | ⟨g, c, cur, q1, q2, q3, _⟩
  · rw [q]; exact .inl rfl
  · rw [q1]
    exact .inr (fun e => blk_apart hR (show Blk w g cur 148 from q3) (by decide) e.symm)
/-- what 'take' leaves -/
def TEnd (w : World) (b P o : Nat) (pre : List Value) (ty : TypeId) (d r : List Tu) (e : Ending) (w' : World) : Prop := ∃ v, e = .returned v ∧ IRow w' w.heap.size v (d.map Tu.nu) ∧ HQ w' b P o pre ty (d.filterMap nx ++ r) ∧ w.grownBy w' (some P)
set_option maxHeartbeats 4000000 in
theorem take_any (w : World) (b P o : Nat) (pre : List Value) (ty : TypeId) (d r : List Tu) (T : Int) (h : HQ w b P o pre ty (d ++ r)) (hty : 3 ≠ ty) (hD : DR T d r) (hd0 : 0 < d.length) : Calls Try.prog 59 #[qP P o, .int .i64 T] w (TEnd w b P o pre ty d r) := by
  obtain ⟨i0, hi, hz0, hz1, hz2⟩ := info_parts info_int
  have HD := hide hD
  obtain ⟨a, cap, l, hq, hp, hh⟩ := h
  have hbs := hide hq.bs
  have hPlt := hide hq.box.lt
  have hlen : l.length = (d ++ r).length := hp.length_eq
  have hn64 : l.length ≤ 64 := by rw [hlen, List.length_append]; exact hD.le
  have hn0 : 0 < l.length := by rw [hlen, List.length_append]; omega
  have hd : te l 0 = d[0] := head_is (s := d.drop 1 ++ r) (by rw [← List.cons_append, ← List.drop_eq_getElem_cons hd0, List.drop_zero]; exact hp) hh (fun y hy => by have := hD.least (i := 0) hd0 y; rw [List.take_zero, List.filterMap_nil, List.nil_append] at this; exact this hy)
  have H1 := hide (holds_yes w b P o pre ty a cap l T hq hn0 (by rw [hd]; exact hD.d0 _ (List.getElem_mem _)))
  obtain ⟨g, cur, rfl, hB, _⟩ := hq.row hn0
  have cq := hq.cellQ
  have fq := hq.box.frozen o
  have CL := hide (clone_any w b g l.length cap l hq.own hn64)
  have HB := hide hq.box
  have Hpo := hide hq.po
  have Hok := hide hq.ok
  have Hht := hide hq.ht
  have HPm := hide hp
  have HHp := hide hh
  obtain ⟨n, hn⟩ : ∃ n, Hid (l.length = n) := ⟨_, hide rfl⟩
  rw [hn.out] at H1 cq CL HB HHp
  clear hq hp hh hB hlen hd hn64 hn0
  go_enter Try.func59, Try.ntmps59
  go_upto_region 4 with (first | (go_at_call 84; refine H1.out.mono ?_; rintro e w3 ⟨rfl, hw3⟩; obtain rfl := hw3.symm) | (go_at_call 85; refine CL.out.mono ?_; rintro e w4 ⟨a2, cap2, rfl, hR4, hb4⟩; have HR4 := hide hR4; have Hb4 := hide hb4; have c4 : w4.cell? ⟨P, o, none⟩ = some (slQ (some ⟨g, 0, none⟩) n cap) := (hb4.cell (p := ⟨P, o, none⟩) hPlt.out).trans cq; have f4 : w4.frozen? ⟨P, o, none⟩ = false := (hb4.frozen (p := ⟨P, o, none⟩) hPlt.out).trans fq; clear hR4 hb4))
  have HQ5 : Hid (HQ (w4.setCell ⟨P, o, none⟩ (.slice a2 n cap2)) w.heap.size P o pre ty (stS d r 0)) := hide ⟨a2, cap2, l, ⟨Hpo.out, by rw [setCell_size]; exact Hb4.out.size, by
    rw [hn.out, ← arr_set_last pre (slQ (some ⟨g, 0, none⟩) n cap), Hpo.out]
    exact (HB.out.after Hb4.out).set o _, by
    rw [hn.out]
    exact ownsRow_set_other HR4.out (HB.out.after Hb4.out) Hht.out o _, Hok.out, Hht.out⟩, by
    unfold stS
    rw [List.drop_zero, List.take_zero, List.filterMap_nil, List.nil_append]
    exact HPm.out, by rw [hn.out]; exact HHp.out⟩
  have HK5 : Hid (KB w.heap.size P w (w4.setCell ⟨P, o, none⟩ (.slice a2 n cap2))) := hide ((KB.of_below Hb4.out (Nat.le_refl _)).set P o _ (.inl rfl))
  clear H1 CL cq fq HR4 Hb4 c4 f4 HB Hok HPm HHp
  generalize w4.setCell ⟨P, o, none⟩ (.slice a2 n cap2) = w5 at *
  clear hi hz0 hz1 hz2
  go_wp2_with fail
  go_loopw [5] (fun v5 wr => ∃ (i : Nat) (av : Option Addr) (cv : Nat), v5 = .slice av i cv ∧ i ≤ d.length ∧ Hid (IRow wr w.heap.size v5 ((d.take i).map Tu.nu)) ∧ Hid (HQ wr w.heap.size P o pre ty (stS d r i)) ∧ Hid (w.grownBy wr (some P))) (fun v5 _ => d.length - lenV v5)
  case atStart => exact ⟨0, none, 0, rfl, Nat.zero_le _, hide (IRow.nil _ _), HQ5, hide HK5.out.grown⟩
  case round =>
    clear HQ5 HK5
    obtain ⟨i, av, cv, rfl, hi, HR, HQr, HK⟩ := hrel
    by_cases hid : i < d.length
    · have hx0 : d[i].tk = T := HD.out.d0 _ (List.getElem_mem _)
      have HPop := hide (hpop_any wr w.heap.size P o pre ty _ d[i] (by rw [← stS_cons hid]; exact HQr.out) (HD.out.least hid) (HD.out.len' hid))
      obtain ⟨a3, cap3, l3, hq3, hp3, hh3⟩ := HQr.out
      have HY := hide (holds_yes wr _ P o pre ty a3 cap3 l3 T hq3 (by rw [hp3.length_eq, stS_cons hid]; simp) (by rw [head_is (s := (d.drop (i + 1) ++ ((d.take i).filterMap nx ++ r))) (by rw [← stS_cons hid]; exact hp3) hh3 (HD.out.least hid)]; exact hx0))
      have cq := hq3.cellQ
      have HRk : Hid (∀ w', KB w.heap.size P wr w' → IRow w' w.heap.size (.slice av i cv) ((d.take i).map Tu.nu)) := hide (fun w' h => row_keep h HQr.out hty HR.out)
      have hokx := HD.out.okd (List.getElem_mem (h := hid))
      have HNx := hide (stS_next (d := d) (r := r) hid)
      have HSn : Hid ((d.take (i + 1)).map Tu.nu = (d.take i).map Tu.nu ++ [d[i].nu]) := hide (by rw [List.take_add_one, List.getElem?_eq_getElem hid, Option.toList_some, List.map_append]; rfl)
      have hlr := HD.out.len' hid
      generalize d.drop (i + 1) ++ ((d.take i).filterMap nx ++ r) = rest at *
      have HOr : Hid (∀ t, nx d[i] = some t → TOk t) := hide (fun t e => (nx_ok hokx e).1)
      generalize d[i] = x at *
      obtain ⟨x0, x1, x2, x3⟩ := x
      obtain ⟨k0, _, _, _, _, _, k6, k7⟩ := hokx
      have k0 : 0 ≤ x0 := k0
      have k6 : 1 ≤ x3 := k6
      have k7 : x3 ≤ 9223372036854775807 := k7
      have A1 := assert_one x0 x1 x2 x3
      have RC : Hid (∀ q, Calls Try.prog 87 #[.agg #[.int .i64 x0, .int .i64 x1, .int .i64 x2, .int .i64 x3]] q fun e w' => e = .returned (.bool (decide (x0 + x3 ≤ 9223372036854775807))) ∧ Below q.heap.size q w') := hide (fun q => recurs_any x0 x1 x2 x3 q k6 k7)
      generalize l3.length = n3 at *
      have Hlr := hide hlr
      clear hq3 hp3 hh3 HQr HR hx0 hlr
      go_upto_region 7 with (first | (go_at_call 84; refine HY.out.mono ?_; rintro e w3 ⟨rfl, hw3⟩; obtain rfl := hw3.symm) | (go_at_call 86; refine HPop.out.mono ?_; rintro e w4 ⟨rfl, hq4, hb4⟩; have HQ4 := hide hq4; have HB4 := hide hb4; clear hq4 hb4))
      have HX6 : Hid (Blk (w4.alloc (.cells #[.int .i64 x0, .int .i64 x1, .int .i64 x2, .int .i64 x3] 148)) w4.heap.size #[.int .i64 x0, .int .i64 x1, .int .i64 x2, .int .i64 x3] 148) := hide (Blk.new _ _ _)
      have HQ6 := hide (HQ4.out.after (below_alloc w4 (.cells #[.int .i64 x0, .int .i64 x1, .int .i64 x2, .int .i64 x3] 148)))
      have HR6 := hide (IRow.alloc (HRk.out _ HB4.out) (.cells #[.int .i64 x0, .int .i64 x1, .int .i64 x2, .int .i64 x3] 148))
      have hX : Hid (w.heap.size ≤ w4.heap.size) := hide (Nat.le_trans HK.out.size HB4.out.size)
      have HG4 : Hid (w.grownBy w4 (some P)) := hide (KB.grown ((KB.trans (⟨HK.out.os, HK.out.tape, HK.out.output, HK.out.size, fun j hj hn _ => HK.out.block j hj (fun e => by injection e with e; exact hn e)⟩ : KB w.heap.size P w wr) HB4.out)))
      replace HK := hide (grown_after HG4.out (below_alloc w4 (.cells #[.int .i64 x0, .int .i64 x1, .int .i64 x2, .int .i64 x3] 148)))
      have hz6 : Hid ((w4.alloc (.cells #[.int .i64 x0, .int .i64 x1, .int .i64 x2, .int .i64 x3] 148)).heap.size = w4.heap.size + 1) := hide (size_alloc _ _)
      clear HPop HY cq HRk A1 HB4 HQ4 HG4
      generalize w4.alloc (.cells #[.int .i64 x0, .int .i64 x1, .int .i64 x2, .int .i64 x3] 148) = w6 at *
      generalize w4.heap.size = X at *
      have cx := HX6.out.cell 2 rfl
      obtain ⟨n7, hn7⟩ : ∃ n7, Hid ((d.take (i + 1)).map Tu.nu = n7) := ⟨_, hide rfl⟩
      obtain ⟨l0, hl0⟩ : ∃ l0, Hid ((d.take i).map Tu.nu = l0) := ⟨_, hide rfl⟩
      have hll : Hid (l0.length = i) := hide (by rw [← hl0.out, List.length_map, List.length_take]; omega)
      rw [hl0.out] at HR6 HSn
      rw [hn7.out] at HSn
      have HO : Hid ((w6.alloc (.cells #[.int .i64 x2] 3)).ownsRow w.heap.size 3 1 (.slice av i cv) i (l0.map (Value.int .i64))) := hide (by have := HR6.out.alloc (.cells #[.int .i64 x2] 3); unfold IRow at this; rw [hll.out] at this; exact this)
      have HC : Hid (∀ j u, [Value.int .i64 x2][j]? = some u → (w6.alloc (.cells #[.int .i64 x2] 3)).cell? ((⟨w6.heap.size, 0, none⟩ : Addr).add j) = some u) := hide (new_cell1 w6 _ rfl (.int .i64 x2) 3)
      have hi64 : i ≤ 64 := by have := HD.out.le; omega
      obtain ⟨i1, hi1, hz10, hz11, hz12⟩ := info_parts info_int
      go_upto_region 8 with (at_builtin; refine wpList_append_own _ rfl (.tmp 28) (.tmp 31) 72 rfl w.heap.size 3 i1 _ 1 8 Try.underlying72 hi1 hz10 hz11 hz12 rfl (by decide) _ _ _ rfl HO.out ⟨w6.heap.size, 0, none⟩ 1 1 [.int .i64 x2] rfl rfl ?c1 ?c2 ?c3 ?c4 ?c5 ?_)
      case c1 => exact HC.out
      case c2 => simp [Value.oneCell']
      case c3 => unfold maxLen; omega
      case c4 => omega
      case c5 => rw [size_alloc, hz6.out]; have := hX.out; omega
      intro v' w7 hown7 hgrow7 _
      have HRa : Hid (IRow (w6.alloc (.cells #[.int .i64 x2] 3)) w.heap.size (.slice av i cv) l0) := hide (HR6.out.alloc _)
      have HR7 : Hid (IRow w7 w.heap.size v' n7) := hide (by
        rw [HSn.out]
        unfold IRow
        rw [List.length_append, hll.out, List.map_append]
        exact hown7)
      obtain ⟨av2, cv2, hv2⟩ : ∃ av2 cv2, v' = .slice av2 (i + 1) cv2 := by
        obtain ⟨av2, cv2, e⟩ := HR7.out.shape
        rw [HSn.out, List.length_append, hll.out] at e
        exact ⟨av2, cv2, e⟩
      subst hv2
      have HQ7 := hide ((HQ6.out.after (below_alloc w6 (.cells #[.int .i64 x2] 3))).grown hty HRa.out hgrow7)
      have HX7 : Hid (Blk w7 X #[.int .i64 x0, .int .i64 x1, .int .i64 x2, .int .i64 x3] 148) := hide (blk_grown HRa.out (HX6.out.alloc _) (by decide) hgrow7)
      have HK7 : Hid (w.grownBy w7 (some P)) := hide (grown_then (grown_after HK.out (below_alloc w6 (.cells #[.int .i64 x2] 3))) hgrow7 (fun k e => .inr (HO.out.lt k e).1))
      clear hown7 hgrow7 HRa HO HC hi1 hz10 hz11 hz12 HQ6 HX6 HK HR6 cx hz6 hll hl0 HSn
      have c0 := HX7.out.cell 0 rfl
      have c1 := HX7.out.cell 1 rfl
      have c2 := HX7.out.cell 2 rfl
      have c3 := HX7.out.cell 3 rfl
      have hws := hX.out
      by_cases hrec : x0 + x3 ≤ 9223372036854775807
      · have HNy : Hid ((⟨x0 + x3, x1, x2, x3⟩ :: rest : List Tu).Perm (stS d r (i + 1))) := hide (by have := HNx.out; rw [show nx ⟨x0, x1, x2, x3⟩ = some ⟨x0 + x3, x1, x2, x3⟩ from if_pos hrec] at this; exact this)
        have HOk : Hid (TOk ⟨x0 + x3, x1, x2, x3⟩) := hide (HOr.out _ (if_pos hrec))
        rw [decide_eq_true hrec] at RC
        have NE : Hid (∀ q, Calls Try.prog 89 #[.agg #[.int .i64 x0, .int .i64 x1, .int .i64 x2, .int .i64 x3]] q fun e w' => e = .returned (.agg #[.int .i64 (x0 + x3), .int .i64 x1, .int .i64 x2, .int .i64 x3]) ∧ Below q.heap.size q w') := hide (fun q => next_any x0 x1 x2 x3 q k0 k6 hrec)
        obtain ⟨y, hy⟩ : ∃ y, Hid (x0 + x3 = y) := ⟨_, hide rfl⟩
        rw [hy.out] at NE HNy HOk
        clear hrec HNx HOr
        go_upto_region 9 with (go_at_call 87; refine (RC.out _).mono ?_; rintro e w8 ⟨rfl, hb8⟩; have HX8 := hide (HX7.out.after hb8); have HQ8 := hide (HQ7.out.after hb8); have HR8 := hide (HR7.out.below hb8); have HK8 := hide (grown_after HK7.out hb8); clear hb8)
        have c0 := HX8.out.cell 0 rfl
        have c1 := HX8.out.cell 1 rfl
        have c2 := HX8.out.cell 2 rfl
        have c3 := HX8.out.cell 3 rfl
        clear RC HX7 HQ7 HR7 HK7
        go_wp2_with (go_at_call 89; refine (NE.out _).mono ?_; rintro e w9 ⟨rfl, hb9⟩; have HQ9 := hide (HQ8.out.after hb9); have HR9 := hide (HR8.out.below hb9); have HK9 := hide (grown_after HK8.out hb9); have PU := hide (hpush_any w9 w.heap.size P o pre ty rest ⟨y, x1, x2, x3⟩ HQ9.out Hlr.out HOk.out); clear hb9 HQ8 HR8 HK8 HX8)
        refine PU.out.mono ?_
        rintro e w10 ⟨rfl, hq10, hb10⟩
        have HR10 := hide (row_keep hb10 HQ9.out hty HR9.out)
        have HQ10 := hide (hq10.perm HNy.out)
        have HK10 : Hid (w.grownBy w10 (some P)) := hide (KB.grown (KB.trans (⟨HK9.out.os, HK9.out.tape, HK9.out.output, HK9.out.size, fun j hj hn _ => HK9.out.block j hj (fun e => by injection e with e; exact hn e)⟩ : KB w.heap.size P w w9) hb10))
        rw [← hn7.out] at HR10
        clear hq10 hb10 PU HQ9 HR9 HK9 NE
        go_wp2_with fail
        go_roundw
        case rel => exact ⟨i + 1, av2, cv2, rfl, by omega, HR10, HQ10, HK10⟩
        case measure => simp [lenV]; omega
      · have HNy : Hid (rest.Perm (stS d r (i + 1))) := hide (by have := HNx.out; rw [show nx ⟨x0, x1, x2, x3⟩ = none from if_neg hrec] at this; exact this)
        rw [decide_eq_false hrec] at RC
        clear hrec HNx HOr
        go_upto_region 9 with (go_at_call 87; refine (RC.out _).mono ?_; rintro e w8 ⟨rfl, hb8⟩; have HQ8 := hide ((HQ7.out.after hb8).perm HNy.out); have HR8 := hide (HR7.out.below hb8); have HK8 := hide (grown_after HK7.out hb8); clear hb8)
        rw [← hn7.out] at HR8
        go_roundw
        case rel => exact ⟨i + 1, av2, cv2, rfl, by omega, HR8, HQ8, HK8⟩
        case measure => simp [lenV]; omega
    · obtain ⟨a3, cap3, l3, hq3, hp3, hh3⟩ := HQr.out
      have HN := hide (holds_no wr _ P o pre ty a3 cap3 l3 T hq3 (fun t ht => by
        have h1 := hp3.subset ht
        unfold stS at h1
        rw [List.drop_eq_nil_of_le (by omega), List.nil_append] at h1
        have := (HD.out.rest t h1).1
        omega))
      have cq := hq3.cellQ
      have e2 : i = d.length := by omega
      have HF : Hid (TEnd w b P o pre ty d r (.returned (.slice av i cv)) wr) := hide ⟨_, rfl, by
        have := HR.out
        rw [List.take_of_length_le (by omega)] at this
        exact this, by
        have h1 := HQr.out
        unfold stS at h1
        rw [List.drop_eq_nil_of_le (by omega), List.nil_append, List.take_of_length_le (by omega)] at h1
        exact h1.lower hbs.out, HK.out⟩
      generalize l3.length = n3 at *
      clear hq3 hp3 hh3 HQr HR HK e2
      go_wp2_with (go_at_call 84; refine HN.out.mono ?_; rintro e w3 ⟨rfl, hw3⟩; obtain rfl := hw3.symm)
      go_ret
      exact HF.out
end Go.Proofs.Ytcjahdgppnmdkaa
