/- MsgsLink. -/
import Derived.Test.YtgdjphiicgiegaaLk2
import Derived.Test.YtgdjphiicgiegaaLwBk
namespace Go.Proofs.Ytgdjphiicgiegaa
open Go.RowKit Go.Great

/-- a message that was written: its frame, its kind, its list, what that list holds -/
def AccOK (w : World) (a : Fr × Int × Value × List Int) : Prop := Right a.1 ∧ decM a.1.2.1 a.1.2.2 = ((a.2.1, a.2.2.2), 0) ∧ Ints w a.2.2.1 a.2.2.2 ∧ a.2.2.2.length ≤ 7
def frA (acc : List (Fr × Int × Value × List Int)) : List Fr := acc.map fun a => a.1
def kuA (acc : List (Fr × Int × Value × List Int)) : List (Int × Value) := acc.map fun a => (a.2.1, a.2.2.1)
/-- how far the messages have been written -/
def LinkRel (w : World) (vb vw : Value) (wx : World) : Prop :=
  ∃ acc, (∀ a ∈ acc, AccOK w a) ∧ BRow wx w.heap.size vb (joinL [] (frA acc)) ∧ MRow wx w.heap.size vw (kuA acc) ∧ Below w.heap.size w wx ∧ (joinL [] (frA acc)).length ≤ 1048676
theorem decM_len7 (id : Int) (p : ByteArray) : (decM id p).1.2.length ≤ 7 := by
  unfold decM
  split
  · simp
  · split
    · simp
    · show (fieK _ _ _).length ≤ 7
      rw [fieK_len]; exact wsK_len id
theorem link_acc (w : World) (k m : Int) (u : Value) (ns : List Int) (fa fb : Int) (fp : ByteArray) (hm : 0 ≤ m ∧ m ≤ 255) (hk : 0 ≤ k ∧ k ≤ 255) (hu : Ints w u ns) (h : encM m k ns = ((fa, fb, fp), 0)) : AccOK w ((fa, fb, fp), k, u, ns) := by
  obtain ⟨d1, d2, d3, d4⟩ := dec_enc m k ns (by rw [h])
  rw [h] at d1 d2 d3 d4
  simp only [] at d1 d2 d3 d4
  subst d1 d2
  have := decM_len7 fb fp
  rw [d4] at this
  exact ⟨⟨hm.1, hm.2, hk.1, hk.2, by show fp.size ≤ 64; omega⟩, d4, hu, this⟩
theorem owns_slice6 {w : World} {base n size : Nat} {e : TypeId} {v : Value} {xs : List Value} (h : w.ownsRow base e size v n xs) : ∃ a cap, v = .slice a n cap := by
  rcases h.2 with ⟨h1, h2⟩ | ⟨g, cap, cur, h1, _⟩
  · exact ⟨none, 0, by rw [h1, h2]⟩
  · exact ⟨_, cap, h1⟩
theorem new_cells2 (w : World) (g : Nat) (hg : g = w.heap.size) (a b : Value) (t : TypeId) : ∀ j u, [a, b][j]? = some u → (w.alloc (.cells #[a, b] t)).cell? ((⟨g, 0, none⟩ : Addr).add j) = some u := by
  subst hg
  intro j u hu
  rw [show (Addr.add ⟨w.heap.size, 0, none⟩ j) = ⟨w.heap.size, j, none⟩ by simp [Addr.add]; exact fun h => h.symm, World.cell?_alloc_new]
  simpa using hu
/-- 'append' onto a row of the call's own of another row, nil or not -/
theorem wpList_append_any {P : Program} {w : World} {ops : Array Oper} {rest : List Oper} {o : Oper} {a : Act} {Q : Exit → Act → World → Prop} (hgd : o.guard = none) (s x : Operand) (t : TypeId)
    (ho : o.op = .call { callee := .builtin .append, args := #[s, x], argTypes := #[t, t] })
    (base : Nat) (e : TypeId) (i : TypeInfo) (z : Value) (size bytes : Nat) (ht : P.underlying t = some (.slice e)) (hi : P.info? e = some i) (hz : i.zero = some z)
    (hsize : i.size = size) (hby : i.bytes = bytes) (hzs : z.cells.size = size) (hsz : 0 < size)
    (v : Value) (n : Nat) (xs : List Value) (hs : a.eval s = v) (hown : w.ownsRow base e size v n xs)
    (ao : Option Addr) (m c : Nat) (news : List Value) (hx : a.eval x = .slice ao m c) (hl : news.length = m * size) (hnone : ao = none → m = 0 ∧ c = 0) (hnews : ∀ ad, ao = some ad → ∀ j u, news[j]? = some u → w.cell? (ad.add j) = some u) (h1 : ∀ u ∈ news, u.oneCell' = true)
    (h63 : n + m ≤ maxLen) (hbytes : (n + m) * bytes ≤ 140737488355328) (hbase : base ≤ w.heap.size)
    (h : ∀ v' w', w'.ownsRow base e size v' (n + m) (xs ++ news) → w.grownBy w' v.ownBlock → wpList P ops Q rest (a.put o.dst v') w') : wpList P ops Q (o :: rest) a w := by
  cases ao with
  | some ad => exact wpList_append_own w hgd s x t ho base e i z size bytes ht hi hz hsize hby hzs hsz v n xs hs hown ad m c news hx hl (hnews ad rfl) h1 h63 hbytes hbase fun v' w' h2 h3 _ => h v' w' h2 h3
  | none =>
    obtain ⟨rfl, rfl⟩ := hnone rfl
    have hn : news = [] := List.eq_nil_of_length_eq_zero (by simpa using hl)
    subst hn
    exact wpList_append_own_none hgd s x t ho base e i size ht hi v n xs hs hown hx (h v w (by simpa using hown) (World.grownBy.refl _ _))
theorem own_any {w : World} {base n : Nat} {v : Value} {fs : List Fr} (h : w.ownsRow base 28 3 v n (cellsF fs)) : ∃ ao c, v = .slice ao n c ∧ (ao = none → n = 0 ∧ c = 0) ∧ ∀ ad, ao = some ad → ∀ j u, (cellsF fs)[j]? = some u → w.cell? (ad.add j) = some u := by
  have h0 := h
  rcases h.2 with ⟨rfl, rfl⟩ | ⟨g, cap, cur, rfl, _⟩
  · exact ⟨none, 0, rfl, fun _ => ⟨rfl, rfl⟩, fun ad e => by cases e⟩
  · exact ⟨_, cap, rfl, fun e => (by cases e), fun ad e => (by injection e with e; subst e; exact h0.cells rfl)⟩
/-- how far the frames have been read -/
def GotRel (w7 : World) (acc : List (Fr × Int × Value × List Int)) (vg : Value) (j : Nat) (wx : World) : Prop :=
  ∃ ms : List (Int × Value), ms.length = j ∧ MRow wx w7.heap.size vg ms ∧ (∀ t (h : t < ms.length) (h2 : t < acc.length), ms[t].1 = acc[t].2.1 ∧ IRow wx w7.heap.size ms[t].2 acc[t].2.2.2) ∧ Below w7.heap.size w7 wx
theorem MsL.at {w : World} {v : Value} {ms : List (Int × Value × List Int)} (h : MsL w v (kuL ms)) : ∃ a cap, v = .slice a ms.length cap ∧ (0 < ms.length → ∃ g o, a = some ⟨g, o, none⟩ ∧ g < w.heap.size ∧ ∀ i (hi : i < ms.length), w.cell? ⟨g, o + i * 2, none⟩ = some (.int .u8 ms[i].1) ∧ w.cell? ⟨g, o + i * 2 + 1, none⟩ = some ms[i].2.1) := by
  obtain ⟨a, cap, e, hc⟩ := h
  rw [kuL_len] at e
  refine ⟨a, cap, e, fun h0 => ?_⟩
  obtain ⟨g, o, e2, hg, hcc⟩ := hc (by rw [kuL_len]; exact h0)
  refine ⟨g, o, e2, hg, fun i hi => ?_⟩
  have := hcc i (by rw [kuL_len]; exact hi)
  simpa [kuL] using this
set_option maxHeartbeats 4000000 in
set_option maxRecDepth 100000 in
theorem link_walk (ms : List (Int × Value × List Int)) (v0 : Value) (cut : Int) (w : World) (hms : MsgsIn w v0 ms) : Calls Try.prog 7 #[v0, .int .i64 cut] w fun e w' => e = .returned (.bool true) ∧ Below w.heap.size w w' := by
  obtain ⟨hmx, hml, hme⟩ := hms
  obtain ⟨a0, cap0, rfl, hcl⟩ := hml.at
  obtain ⟨i0, hi, hz0, hz1, hz2⟩ := info_parts info_frame
  obtain ⟨j0, gi, gz0, gz1, gz2⟩ := info_parts info_byte
  obtain ⟨m0, mi, mz0, mz1, mz2⟩ := info_parts info_msg
  have HCL := hide hcl
  have HME := hide hme
  obtain ⟨n, hn⟩ : ∃ n, ms.length = n := ⟨_, rfl⟩
  have HN := hide hn
  rw [hn] at hmx ⊢
  have hmy : (n : Int) ≤ 9223372036854775807 := by unfold maxLen at hmx; omega
  clear hml hcl hme hn hmx
  go_enter Try.func7, Try.ntmps7
  go_wp2_with fail
  go_loopw [5, 6, 7] (fun vb vw i wx => ∃ k : Nat, k ≤ n ∧ i = .int .i64 k ∧ LinkRel w vb vw wx) (fun _ _ i _ => n - (intOf i).toNat)
  case atStart => exact ⟨0, Nat.zero_le _, rfl, [], fun a h => (by simp at h), BRow.nil _ _, MRow.nil _ _, Below.refl _ _, by decide⟩
  case round =>
    obtain ⟨j, hj, rfl, acc, hac, hBR, hMR, hB, hbig⟩ := hrel
    obtain ⟨ba, bc, hvb⟩ := hBR.shape
    subst hvb
    by_cases hlt : j < n ∧ (joinL [] (frA acc)).length < 1048576
    · obtain ⟨hlt, hl20⟩ := hlt
      have hjm : j < ms.length := by rw [HN.out]; exact hlt
      obtain ⟨g, o, rfl, hg, hcc⟩ := HCL.out (by omega)
      obtain ⟨e0, e1⟩ := hcc j hjm
      obtain ⟨kk0, kk1, hII⟩ := HME.out _ (List.getElem_mem hjm)
      have c0 := (hB.cell (p := ⟨g, o + j * 2, none⟩) hg).trans e0
      have c1 := (hB.cell (p := ⟨g, o + j * 2 + 1, none⟩) hg).trans e1
      have hgr : g < wr.heap.size := Nat.lt_of_lt_of_le hg hB.size
      generalize ms[j] = mm at e0 e1 c0 c1 kk0 kk1 hII
      obtain ⟨kk, uu, ns⟩ := mm
      simp only [] at e0 e1 c0 c1 kk0 kk1 hII
      obtain ⟨hu, hnil, hlen⟩ := hII
      have HUw := hide hu
      obtain ⟨ua, uc, rfl, _⟩ := hu
      have HUr := hide (HUw.out.below hB)
      have hlt' := fun w hv => lent_any ns (.slice ua ns.length uc) w hv hnil hlen
      have hmod : (0 : Int) ≤ (j : Int) % 256 ∧ (j : Int) % 256 ≤ 255 := by omega
      have hen := fun v w hv => mencode_any ((j : Int) % 256) kk kk0 kk1 ns v w hv (by omega)
      have HAC := fun fa fb fp h => hide (link_acc w kk ((j : Int) % 256) (.slice ua ns.length uc) ns fa fb fp hmod ⟨kk0, kk1⟩ HUw.out h)
      generalize encM ((j : Int) % 256) kk ns = E at hen HAC
      obtain ⟨⟨fa, fb, fp⟩, fe⟩ := E
      simp only [] at hen
      have HQ : Hid ((joinL [] (frA acc)).length < 1048576) := hl20
      have hq20 : ((joinL [] (frA acc)).length : Int) < 1048576 := by omega
      have hjn : (j : Int) < (n : Int) := by omega
      have hj0 : (0 : Int) ≤ (j : Int) := by omega
      have HB := hide hB
      have HBR := hide hBR
      have HMR := hide hMR
      have HG := hide hac
      have hlt := hlt'
      have hne1 : g ≠ wr.heap.size := by omega
      clear hlt' e0 e1 hcc HCL hl20 hbig hB hBR hMR hac hnil hmod
      go_wp2_with fail
      go_cut [8, 9] (fun v5 v6 wx => BackMid wr fa fb fp fe v5 v6 wx)
      case first =>
        go_region_held3 (fun wx => wx.cell? ⟨g, o + j * 2, none⟩ = some (.int .u8 kk) ∧ wx.cell? ⟨g, o + j * 2 + 1, none⟩ = some (.slice ua ns.length uc)) (first | go_keep | exact ⟨(cell_set3i (by first | omega | (have := KB1.out.size; omega)) _ _ _).trans q02, (cell_set3i (by first | omega | (have := KB1.out.size; omega)) _ _ _).trans q12⟩) (first
          | (go_at_call 9; refine (hlt _ (HUr.out.below (by first | exact (Below.refl _ _).drew | exact ((Below.refl _ _).drew).alloc (Nat.le_refl _) _ | exact ((Below.refl _ _).alloc (Nat.le_refl _) _).drew))).mono ?_; rintro e w1 ⟨rfl, hR1, hB1⟩; have KB1 : Hid (Below wr.heap.size wr w1) := (by first | exact below_next (Below.refl _ _).drew (Nat.le_refl _) hB1 | exact below_next (((Below.refl _ _).drew).alloc (Nat.le_refl _) _) (Nat.le_refl _) hB1 | exact below_next (((Below.refl _ _).alloc (Nat.le_refl _) _).drew) (Nat.le_refl _) hB1); have q0 := (KB1.out.cell (p := ⟨g, o + j * 2, none⟩) hgr).trans c0; have q1 := (KB1.out.cell (p := ⟨g, o + j * 2 + 1, none⟩) hgr).trans c1; (first | (change IRow w1 (wr.alloc (.cells #[.int .i64 0, .int .i64 0, .string ⟨#[]⟩] 28)).heap.size (.slice (some ⟨(wr.alloc (.cells #[.int .i64 0, .int .i64 0, .string ⟨#[]⟩] 28)).heap.size, 0, none⟩) _ _) _ at hR1; rw [size_alloc] at hR1; have HR1 : Hid (IRow w1 (wr.heap.size + 1) (.slice (some ⟨wr.heap.size + 1, 0, none⟩) (ns.length + 4) (ns.length + 4)) (mk4 ns 4)) := hR1; have HZ1 : Hid (Frm w1 wr.heap.size (.int .i64 0) (.int .i64 0) (.string ⟨#[]⟩)) := Frm.below (show Frm (wr.alloc (.cells #[.int .i64 0, .int .i64 0, .string ⟨#[]⟩] 28)).drew wr.heap.size _ _ _ from frm_new wr (.int .i64 0) (.int .i64 0) (.string ⟨#[]⟩)) hB1; have y0 := HZ1.out.c0; have y1 := HZ1.out.c1; have y2 := HZ1.out.c2; have y3 := HZ1.out.fz) | (have HR1 : Hid (IRow w1 wr.heap.size (.slice (some ⟨wr.heap.size, 0, none⟩) (ns.length + 4) (ns.length + 4)) (mk4 ns 4)) := hR1)); clear hR1 hB1)
          | (go_at_call 10; refine (hen _ _ (by first | exact lent_ints HR1.out | exact (lent_ints HR1.out).below (below_alloc _ _) | exact (show Ints w1.drew _ _ from lent_ints HR1.out).below (below_alloc _ _))).mono ?_; rintro e w2 ⟨rfl, hB2⟩; have KB2 : Hid (Below wr.heap.size wr w2) := (by first | exact below_next KB1.out (Nat.le_refl _) hB2 | exact below_next KB1.out.drew (Nat.le_refl _) hB2 | exact below_next (KB1.out.drew.alloc KB1.out.size _) (Nat.le_refl _) hB2 | exact below_next (KB1.out.alloc KB1.out.size _) (Nat.le_refl _) hB2); have q02 := (KB2.out.cell (p := ⟨g, o + j * 2, none⟩) hgr).trans c0; have q12 := (KB2.out.cell (p := ⟨g, o + j * 2 + 1, none⟩) hgr).trans c1; (first | (have HZ2 : Hid (Frm w2 wr.heap.size (.int .i64 0) (.int .i64 0) (.string ⟨#[]⟩)) := Frm.below (HZ1.out) hB2; have y02 := HZ2.out.c0; have y12 := HZ2.out.c1; have y22 := HZ2.out.c2; have y32 := HZ2.out.fz) | (have HZ2 : Hid (Frm w2 w1.heap.size (.int .i64 0) (.int .i64 0) (.string ⟨#[]⟩)) := (by first | exact Frm.below (frm_new w1.drew (.int .i64 0) (.int .i64 0) (.string ⟨#[]⟩)) hB2 | exact Frm.below (frm_new w1 (.int .i64 0) (.int .i64 0) (.string ⟨#[]⟩)) hB2); have y02 := HZ2.out.c0; have y12 := HZ2.out.c1; have y22 := HZ2.out.c2; have y32 := HZ2.out.fz) | skip); clear hB2))
        all_goals go_wp2_with fail
        all_goals go_meet
        · exact ⟨_, rfl, rfl, frm_new w2 _ _ _, KB2.out.alloc KB2.out.size _⟩
        · exact ⟨_, rfl, rfl, HZ2.out.set _ _ _, below_set3 KB2.out KB1.out.size _ _ _⟩
        · exact ⟨_, rfl, rfl, HZ2.out.set _ _ _, below_set3 KB2.out (Nat.le_refl _) _ _ _⟩
      case rest =>
        obtain ⟨fg, rfl, rfl, hF, hB⟩ := hcut
        have HF := hide hF
        have HBc := hide (below_next HB.out (Nat.le_refl _) hB)
        have HBRc := hide (HBR.out.below hB)
        have HMRc := hide (HMR.out.below hB)
        have k0 := (hB.cell (p := ⟨g, o + j * 2, none⟩) hgr).trans c0
        have k1 := (hB.cell (p := ⟨g, o + j * 2 + 1, none⟩) hgr).trans c1
        have hgc : g < wc.heap.size := Nat.lt_of_lt_of_le hgr hB.size
        clear hF hB c0 c1 hlt hen hgr hne1 HUr HB HBR HMR hq20
        by_cases hfe : fe = 0
        · subst hfe
          have HA := HAC fa fb fp rfl
          have hen := fun wx => encode_any (fa, fb, fp) wx
          simp only [encV_right HA.out.1] at hen
          have HEZ := hide (bs_size (encF (fa, fb, fp)))
          have HEL := hide (bs_list (encF (fa, fb, fp)))
          have HE := hide (encF_length (fa, fb, fp))
          generalize bs (encF (fa, fb, fp)) = et at hen HEZ HEL
          have f0 := HF.out.c0
          have f1 := HF.out.c1
          have f2 := HF.out.c2
          have HJL := hide (joinL_len [] (frA acc))
          have HAL : Hid ((frA acc).length = acc.length) := by show _ = _; simp [frA]
          clear HAC
          go_wp2_with fail
          refine (hen _).mono ?_
          rintro e w5 ⟨rfl, hB5⟩
          have HB5 := hide (below_next HBc.out (Nat.le_refl _) hB5)
          have HBR5 := hide (HBRc.out.below hB5)
          have HMR5 := hide (HMRc.out.below hB5)
          have q0 := (hB5.cell (p := ⟨g, o + j * 2, none⟩) hgc).trans k0
          have q1 := (hB5.cell (p := ⟨g, o + j * 2 + 1, none⟩) hgc).trans k1
          clear hB5 k0 k1 hgc f0 f1 f2 HF HBc HBRc HMRc hen
          go_wp2_with (at_builtin; refine Lib.wpList_append_own_string _ rfl (.tmp 57) (.tmp 58) 42 9 rfl w.heap.size 5 j0 Try.underlying42 Try.underlying9 gi gz0 gz1 gz2 _ _ _ rfl HBR5.out et rfl ?s1 ?s2 ?s3 ?_)
          case s1 => have h1 := HQ.out; have h2 := HEZ.out; have h3 := HE.out; have h4 := HA.out.1.2.2.2.2; simp only [] at h3 h4; unfold maxLen; omega
          case s2 => have h1 := HQ.out; have h2 := HEZ.out; have h3 := HE.out; have h4 := HA.out.1.2.2.2.2; simp only [] at h3 h4; omega
          case s3 => exact HB5.out.size
          intro v6 w6 hown6 hgrow6 _
          have HBR6 : Hid (BRow w6 w.heap.size v6 (joinL [] (frA (acc ++ [((fa, fb, fp), kk, .slice ua ns.length uc, ns)])))) := by
            show World.ownsRow _ _ _ _ _ _ _
            rw [bytesV_str, HEL.out, HEZ.out] at hown6
            have e : joinL [] (frA (acc ++ [((fa, fb, fp), kk, .slice ua ns.length uc, ns)])) = joinL [] (frA acc) ++ encF (fa, fb, fp) := by
              unfold frA
              rw [List.map_append, List.map_cons, List.map_nil, joinL_snoc, List.append_nil]
            rw [e, List.length_append, bytesV_app]; exact hown6
          have HMR6 : Hid (MRow w6 w.heap.size u6 (kuA acc)) := row_kept (by decide) HMR5.out HBR5.out hgrow6
          have HB6 : Hid (Below w.heap.size w w6) := HB5.out.grown hgrow6 HB5.out.size (fun q e => (World.ownsRow.lt HBR5.out q e).1)
          have HG6 : Hid (g < w.heap.size) := hg
          have p0 := (HB6.out.cell (p := ⟨g, o + j * 2, none⟩) hg).trans ((HB5.out.cell (p := ⟨g, o + j * 2, none⟩) hg).symm.trans q0)
          have p1 := (HB6.out.cell (p := ⟨g, o + j * 2 + 1, none⟩) hg).trans ((HB5.out.cell (p := ⟨g, o + j * 2 + 1, none⟩) hg).symm.trans q1)
          obtain ⟨ba6, bc6, rfl⟩ := owns_slice6 hown6
          have HO6 : Hid ((w6.alloc (.cells #[.int .u8 kk, .slice ua ns.length uc] 25)).ownsRow w.heap.size 25 2 u6 (kuA acc).length (cellsM (kuA acc))) := HMR6.out.below (below_alloc _ _)
          have HKL : Hid ((kuA acc).length = acc.length) := by show _ = _; simp [kuA]
          clear hown6 hgrow6 q0 q1 HBR5 HMR5 HB5
          go_wp2_with (at_builtin; refine wpList_append_own _ rfl (.tmp 60) (.tmp 65) 41 rfl w.heap.size 25 m0 _ 2 32 Try.underlying41 mi mz0 mz1 mz2 rfl (by decide) _ _ _ rfl HO6.out ⟨w6.heap.size, 0, none⟩ 1 1 [.int .u8 kk, .slice ua ns.length uc] rfl rfl ?c1 ?c2 ?c3 ?c4 ?c5 ?_)
          case c1 => exact new_cells2 _ _ rfl _ _ _
          case c2 => intro u hu; simp at hu; rcases hu with rfl | rfl <;> rfl
          case c3 => have h1 := HJL.out.1; have h5 := HQ.out; have h6 := HAL.out; have h7 := HKL.out; unfold maxLen; omega
          case c4 => have h1 := HJL.out.1; have h5 := HQ.out; have h6 := HAL.out; have h7 := HKL.out; omega
          case c5 => rw [size_alloc]; exact Nat.le_succ_of_le HB6.out.size
          intro v8 w8 hown8 hgrow8 _
          have HNX : Hid (LinkRel w (.slice ba6 ((joinL [] (frA acc)).length + et.size) bc6) v8 w8) := by
            refine ⟨acc ++ [((fa, fb, fp), kk, .slice ua ns.length uc, ns)], ?_, ?_, ?_, ?_, ?_⟩
            · intro x hx
              rw [List.mem_append] at hx
              rcases hx with hx | hx
              · exact HG.out x hx
              · rw [List.mem_singleton] at hx; rw [hx]; exact HA.out
            · exact row_kept (by decide) (HBR6.out.below (below_alloc _ _)) HO6.out hgrow8
            · show World.ownsRow _ _ _ _ _ _ _
              have e : kuA (acc ++ [((fa, fb, fp), kk, .slice ua ns.length uc, ns)]) = kuA acc ++ [(kk, .slice ua ns.length uc)] := by simp [kuA]
              rw [e, cellsM_app, cellsM_one, List.length_append]; exact hown8
            · exact (HB6.out.alloc HB6.out.size _).grown hgrow8 (by rw [size_alloc]; exact Nat.le_succ_of_le HB6.out.size) (fun q e => (HO6.out.lt q e).1)
            · have h1 := HQ.out; have h3 := HE.out; have h4 := HA.out.1.2.2.2.2
              simp only [] at h3 h4
              have e : joinL [] (frA (acc ++ [((fa, fb, fp), kk, .slice ua ns.length uc, ns)])) = joinL [] (frA acc) ++ encF (fa, fb, fp) := by
                unfold frA
                rw [List.map_append, List.map_cons, List.map_nil, joinL_snoc, List.append_nil]
              rw [e, List.length_append]; omega
          clear hown8 hgrow8 HBR6 HMR6 HO6 HB6 p0 p1 hi hz0 hz1 hz2 gi gz0 gz1 gz2 mi mz0 mz1 mz2
          go_wp2_with fail
          go_roundw
          case rel => exact ⟨j + 1, by omega, by go_num, HNX.out⟩
          case measure => simp [intOf]; omega
        · have hne : (fe == 0) = false := by simpa using hfe
          have HNX : Hid (LinkRel w (.slice ba (joinL [] (frA acc)).length bc) u6 wc) := ⟨acc, HG.out, HBRc.out, HMRc.out, HBc.out, by have := HQ.out; omega⟩
          clear hfe HAC k0 k1 HF HBc HBRc HMRc hi hz0 hz1 hz2 gi gz0 gz1 gz2 mi mz0 mz1 mz2
          go_wp2_with fail
          go_roundw
          case rel => exact ⟨j + 1, by omega, by go_num, HNX.out⟩
          case measure => simp [intOf]; omega
    · have HRD := hide (rd_join [] (fun x h => by simp at h) (frA acc) (fun g h => by
        unfold frA at h
        rw [List.mem_map] at h
        obtain ⟨a, ha, rfl⟩ := h
        exact (hac a ha).1))
      have HAL : Hid ((frA acc).length = acc.length) := by show _ = _; simp [frA]
      have HJL := hide (joinL_len [] (frA acc)).1
      have HB := hide hB
      have HBR := hide hBR
      have HMR := hide hMR
      have HG := hide hac
      have HBG := hide hbig
      have HWR := hide hB.size
      have hex : n ≤ j ∨ (j < n ∧ (1048576 : Int) ≤ ((joinL [] (frA acc)).length : Int)) := by omega
      obtain ⟨kc, hkc, hkl⟩ : ∃ kc : Nat, min (max cut 0) ((joinL [] (frA acc)).length : Int) = (kc : Int) ∧ kc ≤ (joinL [] (frA acc)).length := ⟨(min (max cut 0) ((joinL [] (frA acc)).length : Int)).toNat, by omega, by omega⟩
      generalize joinL [] (frA acc) = Lb at HRD HJL HBR HBG hex hkc hkl hbig hlt hBR ⊢
      obtain ⟨lb, hlb⟩ : ∃ lb, Lb.length = lb := ⟨_, rfl⟩
      have HLB := hide hlb
      rw [hlb] at hex hkc hkl HBG HJL HBR ⊢
      clear hB hBR hMR hac hbig hlt HCL HME hlb gi gz0 gz1 gz2
      have HNB : Hid (∀ q, (Value.slice ba lb bc).ownBlock = some q → q < wr.heap.size) := fun q e => (World.ownsRow.lt HBR.out q e).2
      have HNM : Hid (∀ q, u6.ownBlock = some q → q < wr.heap.size) := fun q e => (World.ownsRow.lt HMR.out q e).2
      have hqd : n ≤ j ∨ (j < n ∧ decide ((lb : Int) < 1048576) = false) := by
        rcases hex with h | ⟨h1, h2⟩
        · exact .inl h
        · exact .inr ⟨h1, by simp only [decide_eq_false_iff_not]; omega⟩
      clear hex
      rcases hqd with hex | ⟨hex, hq20⟩
      all_goals
        go_wp2_with fail
        refine (new_any _).mono ?_
        rintro e w4 ⟨rfl, hw4⟩
        have hB4 : Below wr.heap.size wr w4 := by rw [hw4]; exact below_alloc _ _
        have HR4 : Hid (Rdr w4 wr.heap.size (bs []) 0) := by show Rdr _ _ _ _; rw [hw4]; exact heap_alloc_new _ _
        have HB4 := hide (below_next HB.out (Nat.le_refl _) hB4)
        have HBR4 := hide (HBR.out.below hB4)
        have HMR4 := hide (HMR.out.below hB4)
        clear hw4 hB4 HB HBR HMR
        obtain ⟨s1, hs1, hc1⟩ := bhead HBR4.out kc (by rw [HLB.out]; exact hkl)
        obtain ⟨s2, hs2, hc2⟩ := btail HBR4.out kc (by rw [HLB.out]; exact hkl)
        have hx1 := hc1 w4 HBR4.out
        have hct := rd_count (Lb.take kc)
        have hhl := rd_held (Lb.take kc)
        have hf1 := feed_any w4 wr.heap.size (bs []) (bs (Lb.take kc)) 0 HR4.out (by omega) (by omega) (by rw [bs_size, bs_size, List.length_take]; have := HBG.out; simp; omega) (by rw [bs_list, bs_list, List.nil_append]; rw [List.length_take] at hct; have := HBG.out; omega)
        rw [bs_list, bs_list, List.nil_append, Int.zero_add] at hf1
        have HMO := hide (rd_more (Lb.take kc) (Lb.drop kc))
        rw [List.take_append_drop, HRD.out] at HMO
        generalize rd (Lb.take kc) = r1 at hf1 HMO hct hhl
        generalize bs (Lb.take kc) = t1 at hx1 hf1
        clear hct hc1
        go_wp2_with fail
        refine hf1.mono ?_
        rintro e w5 ⟨v1, rfl, hO5, hR5, hK5⟩
        have HBR5 : Hid (BRow w5 w.heap.size (.slice ba lb bc) Lb) := World.ownsRow.kept HBR4.out hK5 (.inr fun e => by have := HNB.out _ e; omega)
        have HMR5 : Hid (MRow w5 w.heap.size u6 (kuA acc)) := World.ownsRow.kept HMR4.out hK5 (.inr fun e => by have := HNM.out _ e; omega)
        have hx2 := hc2 w5 HBR5.out
        have HB5 : Hid (Below w.heap.size w w5) := hK5.toBelow HB4.out HB4.out.size HWR.out
        have HS4 : Hid (wr.heap.size < w4.heap.size) := HR4.out.lt
        have HS5 := hide hK5.size
        have HO5 := hide hO5
        obtain ⟨hm1, hm2, hm3⟩ : (frA acc = r1.1 ++ (rd (r1.2.2 ++ Lb.drop kc)).1) ∧ 0 = r1.2.1 + (rd (r1.2.2 ++ Lb.drop kc)).2.1 ∧ [] = (rd (r1.2.2 ++ Lb.drop kc)).2.2 := by
          have := HMO.out
          simp only [Prod.mk.injEq] at this
          exact this
        have hb1 : r1.2.1 = 0 := by omega
        have hcnt : (rd (r1.2.2 ++ Lb.drop kc)).1.length ≤ acc.length := by
          have := congrArg List.length hm1
          rw [HAL.out, List.length_append] at this
          omega
        have hf2 := feed_any w5 wr.heap.size (bs r1.2.2) (bs (Lb.drop kc)) _ hR5 (by omega) (by omega) (by rw [bs_size, bs_size, List.length_drop]; have := HBG.out; have := HLB.out; omega) (by rw [bs_list, bs_list]; have := HBG.out; have := HJL.out; have := HAL.out; omega)
        rw [bs_list, bs_list] at hf2
        generalize rd (r1.2.2 ++ Lb.drop kc) = r2 at hf2 hm1 hm2 hm3 hcnt
        have hb2 : r2.2.1 = 0 := by omega
        rw [hb1, hb2] at hf2
        have HM1 := hide hm1
        generalize bs (Lb.drop kc) = t2 at hx2 hf2
        clear hc2 hO5 hR5 hK5 hf1 hm1 hm2 hm3 hb1 hb2 HBR4 HMR4 HMO HRD hx1 hs1
        go_wp2_with fail
        refine hf2.mono ?_
        rintro e w6 ⟨v2, rfl, hO6, hR6, hK6⟩
        have HO1 : Hid (w6.ownsRow w4.heap.size 28 3 v1 r1.1.length (cellsF r1.1)) := own_kept HO5.out HS4.out hK6
        have HMR6 : Hid (MRow w6 w.heap.size u6 (kuA acc)) := World.ownsRow.kept HMR5.out hK6 (.inr fun e => by have := HNM.out _ e; omega)
        have HB6 : Hid (Below w.heap.size w w6) := hK6.toBelow HB5.out HB5.out.size HWR.out
        have HR6 : Hid (Rdr w6 wr.heap.size (bs r2.2.2) 0) := hR6
        have HS6 : Hid (w4.heap.size ≤ w6.heap.size) := Nat.le_trans HS5.out hK6.size
        obtain ⟨ao, ac, rfl, hnone, hnews⟩ := own_any hO6
        have hql : (cellsF r2.1).length = r2.1.length * 3 := cellsF_length _
        have hsum : r1.1.length + r2.1.length = acc.length := by
          have := congrArg List.length HM1.out
          rw [HAL.out, List.length_append] at this
          exact this.symm
        have hle : (r1.1.length + r2.1.length) * 32 ≤ 140737488355328 := by have := HBG.out; have := HJL.out; have := HAL.out; omega
        have hle2 : r1.1.length + r2.1.length ≤ maxLen := by unfold maxLen; omega
        have HSUM := hide hsum
        have HNONE := hide hnone
        have HNEWS := hide hnews
        clear hO6 hR6 hK6 hf2 hx2 hs2 HO5 HBR5 HMR5 HB5 HR4 HB4 hsum hnone hnews hcnt
        go_wp2_with (at_builtin; refine wpList_append_any rfl (.tmp 81) (.tmp 87) 47 rfl w4.heap.size 28 i0 _ 3 32 Try.underlying47 hi hz0 hz1 hz2 rfl (by decide) _ _ _ rfl HO1.out ao r2.1.length ac (cellsF r2.1) rfl hql HNONE.out HNEWS.out (cellsF_one' _) hle2 hle HS6.out ?_)
        intro vl w7 hown7 hgrow7
        have HO7 : Hid (w7.ownsRow w4.heap.size 28 3 vl acc.length (cellsF (frA acc))) := by
          show World.ownsRow _ _ _ _ _ _ _
          rw [HM1.out, cellsF_app, ← HSUM.out]; exact hown7
        have HNV : Hid (∀ q, v1.ownBlock = some q → w4.heap.size ≤ q) := fun q e => (HO1.out.lt q e).1
        have HR7 : Hid (Rdr w7 wr.heap.size (bs r2.2.2) 0) := HR6.out.grown hgrow7 (fun e => by have := HNV.out _ e; have := HS4.out; omega)
        have HMR7 : Hid (MRow w7 w.heap.size u6 (kuA acc)) := row_kept (by decide) HMR6.out HO1.out hgrow7
        have HB7 : Hid (Below w.heap.size w w7) := HB6.out.grown hgrow7 HB6.out.size (fun q e => by have := HNV.out _ e; have := HS4.out; have := HWR.out; omega)
        obtain ⟨la, lc, rfl⟩ := owns_slice6 hown7
        rw [HSUM.out] at HO7 ⊢
        clear hown7 hgrow7 HO1 HMR6 HB6 HR6 hql hle hle2 hi hz0 hz1 hz2 HNONE HNEWS HNV HS6
        obtain ⟨N, hN⟩ : ∃ N, acc.length = N := ⟨_, rfl⟩
        have HNN := hide hN
        rw [hN] at HO7 ⊢
        have hN20 : (N : Int) ≤ 1048676 := by have := HBG.out; have := HJL.out; have := HAL.out; omega
        clear hN
        go_wp2_with fail
        go_loopw [15, 16] (fun vg i wx => ∃ t : Nat, t ≤ N ∧ i = .int .i64 t ∧ GotRel w7 acc vg t wx) (fun _ i _ => N - (intOf i).toNat)
        case atStart => exact ⟨0, Nat.zero_le _, rfl, [], rfl, MRow.nil _ _, fun t h => by simp at h, Below.refl _ _⟩
        case round =>
          obtain ⟨t, ht, rfl, got, hgl, hMg, hIg, hBg⟩ := hrel
          have HMg := hide hMg
          have HIg := hide hIg
          have HBg := hide hBg
          have HGL := hide hgl
          clear hMg hIg hgl
          by_cases hlt : t < N
          · have hta : t < acc.length := by rw [HNN.out]; exact hlt
            obtain ⟨lg, lcap, hle1, _, hlgs, hlc, _⟩ := own_row HO7.out (by omega)
            injection hle1 with hla _ hlcc
            subst hla hlcc
            obtain ⟨d0, d1, d2⟩ := cellsF_at (frA acc) t (by rw [HAL.out]; exact hta)
            have g0 := (hBg.cell (p := ⟨lg, t * 3, none⟩) hlgs).trans ((hlc (t * 3) (by omega)).trans d0)
            have g1 := (hBg.cell (p := ⟨lg, t * 3 + 1, none⟩) hlgs).trans ((hlc (t * 3 + 1) (by omega)).trans d1)
            have g2 := (hBg.cell (p := ⟨lg, t * 3 + 2, none⟩) hlgs).trans ((hlc (t * 3 + 2) (by omega)).trans d2)
            have hfr : (frA acc)[t]'(by rw [HAL.out]; exact hta) = (acc[t]'hta).1 := by simp [frA]
            rw [hfr] at g0 g1 g2
            obtain ⟨hr, hdm, _, hn7⟩ := HG.out _ (List.getElem_mem hta)
            have hd := fun wx => mdecode_any (acc[t]'hta).1.1 (acc[t]'hta).1.2.1 (acc[t]'hta).1.2.2 wx
            rw [hdm] at hd
            clear d0 d1 d2 hfr hr hdm
            have HX : Hid (∀ (vg' uu : Value) (wx : World), MRow wx w7.heap.size vg' (got ++ [((acc[t]'hta).2.1, uu)]) → (∀ s (h : s < got.length) (h2 : s < acc.length), got[s].1 = acc[s].2.1 ∧ IRow wx w7.heap.size got[s].2 acc[s].2.2.2) → IRow wx w7.heap.size uu (acc[t]'hta).2.2.2 → Below w7.heap.size w7 wx → GotRel w7 acc vg' (t + 1) wx) := by
              intro vg' uu wx h1 h2 h3 h4
              refine ⟨_, by rw [List.length_append, HGL.out]; rfl, h1, fun s hs hs2 => ?_, h4⟩
              by_cases e : s < got.length
              · rw [List.getElem_append_left e]
                exact h2 s e hs2
              · have hs' : s = got.length := by rw [List.length_append] at hs; simp at hs; omega
                subst hs'
                rw [List.getElem_append_right (Nat.le_refl _)]
                simp only [Nat.sub_self, List.getElem_cons_zero]
                have e3 : acc[got.length]'hs2 = acc[t]'hta := by simp only [HGL.out]
                rw [e3]
                exact ⟨rfl, h3⟩
            generalize acc[t]'hta = ac1 at g0 g1 g2 hd hn7 HX
            obtain ⟨⟨fa, fb, fp⟩, kk, uu, ns⟩ := ac1
            simp only [] at g0 g1 g2 hd hn7
            simp only [] at HX
            have htN : (t : Int) < (N : Int) := by omega
            have ht0 : (0 : Int) ≤ (t : Int) := by omega
            have hne0 : ((0 : Int) != 0) = false := rfl
            clear hBg hlc
            go_wp2_with fail
            refine (hd _).mono ?_
            rintro e w8 ⟨u8v, rfl, hR8, hB8⟩
            have HB8 := hide (below_next HBg.out (Nat.le_refl _) hB8)
            have HMg8 := hide (HMg.out.below hB8)
            have HIg8 : Hid (∀ s (h : s < got.length) (h2 : s < acc.length), got[s].1 = acc[s].2.1 ∧ IRow w8 w7.heap.size got[s].2 acc[s].2.2.2) := fun s h h2 => ⟨(HIg.out s h h2).1, (HIg.out s h h2).2.below hB8⟩
            have HI8 := hide (hR8.lower HBg.out.size)
            obtain ⟨xa, xc, hxv⟩ := hR8.shape
            subst hxv
            clear hB8 hR8 g0 g1 g2 HMg HIg HBg hd
            have ha1 := below_alloc w8 (.cells #[.int .u8 kk, .slice xa ns.length xc] 25)
            have hM9 := msg_new w8 (.int .u8 kk) (.slice xa ns.length xc)
            have HB9 := hide (below_next HB8.out (Nat.le_refl _) ha1)
            have HMg9 := hide (HMg8.out.below ha1)
            have HIg9 : Hid (∀ s (h : s < got.length) (h2 : s < acc.length), got[s].1 = acc[s].2.1 ∧ IRow (w8.alloc (.cells #[.int .u8 kk, .slice xa ns.length xc] 25)) w7.heap.size got[s].2 acc[s].2.2.2) := fun s h h2 => ⟨(HIg8.out s h h2).1, (HIg8.out s h h2).2.below ha1⟩
            have HI9 := hide (HI8.out.below ha1)
            have hz9 := size_alloc w8 (.cells #[.int .u8 kk, .slice xa ns.length xc] 25)
            have HZ9 := hide hz9
            have x0 := hM9.c0
            have x1 := hM9.c1
            have HO9 : Hid (((w8.alloc (.cells #[.int .u8 kk, .slice xa ns.length xc] 25)).alloc (.cells #[.int .u8 kk, .slice xa ns.length xc] 25)).ownsRow w7.heap.size 25 2 u15 got.length (cellsM got)) := HMg9.out.below (below_alloc _ _)
            have hgt : got.length ≤ 1048676 := by rw [HGL.out]; omega
            clear ha1 hM9 hz9 HMg8 HIg8 HI8 HB8 x0 x1
            go_wp2_with (at_builtin; refine wpList_append_own _ rfl (.tmp 105) (.tmp 107) 41 rfl w7.heap.size 25 m0 _ 2 32 Try.underlying41 mi mz0 mz1 mz2 rfl (by decide) _ _ _ rfl HO9.out ⟨w8.heap.size + 1, 0, none⟩ 1 1 [.int .u8 kk, .slice xa ns.length xc] rfl rfl ?c1 ?c2 ?c3 ?c4 ?c5 ?_)
            case c1 => exact new_cells2 _ _ HZ9.out.symm _ _ _
            case c2 => intro u hu; simp at hu; rcases hu with rfl | rfl <;> rfl
            case c3 => unfold maxLen; omega
            case c4 => omega
            case c5 => rw [size_alloc]; exact Nat.le_succ_of_le HB9.out.size
            intro vg' w10 hown10 hgrow10 _
            have ha2 := below_alloc (w8.alloc (.cells #[.int .u8 kk, .slice xa ns.length xc] 25)) (.cells #[.int .u8 kk, .slice xa ns.length xc] 25)
            have HNX : Hid (GotRel w7 acc vg' (t + 1) w10) := by
              refine HX.out vg' (.slice xa ns.length xc) w10 ?_ (fun s h h2 => ⟨(HIg9.out s h h2).1, ?_⟩) ?_ ?_
              · show World.ownsRow _ _ _ _ _ _ _
                rw [cellsM_app, cellsM_one, List.length_append]; exact hown10
              · exact row_kept (by decide) ((HIg9.out s h h2).2.below ha2) HO9.out hgrow10
              · exact row_kept (by decide) (HI9.out.below ha2) HO9.out hgrow10
              · exact (HB9.out.alloc HB9.out.size _).grown hgrow10 (by rw [size_alloc]; exact Nat.le_succ_of_le HB9.out.size) (fun q e => (HO9.out.lt q e).1)
            clear hown10 hgrow10 ha2 HO9 HB9 HMg9 HIg9 HI9 HX mi mz0 mz1 mz2
            go_wp2_with fail
            go_roundw
            case rel => exact ⟨t + 1, by omega, by go_num, HNX.out⟩
            case measure => simp [intOf]; omega
          · have hlN : t = N := by omega
            have hnt : N ≤ t := by omega
            have HR8 := hide (HR7.out.below hBg)
            have HMR8 := hide (HMR7.out.below hBg)
            have HB8 := hide (below_next HB7.out (Nat.le_refl _) hBg)
            obtain ⟨ga, gc, hgv⟩ := owns_slice6 HMg.out
            subst hgv
            clear hBg mi mz0 mz1 mz2 HMR7 HR7 HO7
            go_wp2_with fail
            refine (awake5_any _).mono ?_
            rintro e w9 ⟨rfl, hB9⟩
            have HB9 := hide (below_next HB8.out (Nat.le_refl _) hB9)
            have HR9 := hide (HR8.out.below hB9)
            have hKL : (kuA acc).length = acc.length := by simp [kuA]
            have hS := samelist_true got (kuA acc) (acc.map fun a => a.2.2.2) _ u6 w9 (HMg.out.below hB9).msl (HMR8.out.below hB9).msl (by rw [HGL.out, hKL, HNN.out]; exact hlN) (by rw [HGL.out, List.length_map, HNN.out]; exact hlN) (fun i hi => by
              have hia : i < acc.length := by rw [HGL.out] at hi; rw [HNN.out]; omega
              obtain ⟨q1, q2⟩ := HIg.out i hi hia
              obtain ⟨_, _, q3, q4⟩ := HG.out _ (List.getElem_mem hia)
              refine ⟨by simpa [kuA] using q1, ?_, ?_, ?_⟩
              · simpa using (q2.below hB9).ints
              · simpa [kuA] using (q3.below HB9.out)
              · simpa using q4) (by rw [HGL.out]; omega)
            clear hB9 HMg HIg HMR8 HR8 HB8
            go_wp2_with fail
            refine hS.mono ?_
            rintro e w10 ⟨rfl, hB10⟩
            have HB10 := hide (below_next HB9.out (Nat.le_refl _) hB10)
            have hR10 := HR9.out.below hB10
            clear hB10 hS
            go_wp2_with fail
            refine (bad_any _ _ _ _ hR10).mono ?_
            rintro e w11 ⟨rfl, hw11⟩
            obtain rfl : w10 = w11 := hw11.symm
            go_wp2_with fail
            go_ret
            exact ⟨rfl, HB10.out⟩
theorem MsgsLink_walk (v0 : Value) (cut : Int) (w : World) (hms : ∃ ms, MsgsIn w v0 ms) : Calls Try.prog 7 #[v0, .int .i64 cut] w fun e w' => e = .returned (.bool true) ∧ Below w.heap.size w w' := by
  obtain ⟨ms, h⟩ := hms
  exact link_walk ms v0 cut w h
end Go.Proofs.Ytgdjphiicgiegaa
