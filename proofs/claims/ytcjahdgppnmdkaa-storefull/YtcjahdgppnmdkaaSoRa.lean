/- The statements' 'raised': boots until one is not cut. -/
import Derived.Test.YtcjahdgppnmdkaaSoD
import Derived.Test.YtcjahdgppnmdkaaSo14
import Derived.Deep.RegionHeld3
set_option maxRecDepth 100000
namespace Go.Proofs.Ytcjahdgppnmdkaa
open Go.RowKit Go.Great

theorem take_at {P : Program} {ops : Array Oper} {Q : Exit → Act → World → Prop} {md : Region.Mode} {S : World → Prop} {i : Nat} {oi : Oper} {v : Value} {d : Option Tmp} {fuel : Nat} {listed : Array Bool} {a : Act} {w : World} (hi : ops[i]? = some oi) (hd : oi.dst = d)
    (hs : Region.noSelect ops = true) (hf : Region.free md ops listed i = true) (hr : (Region.ready md ops listed).contains i = true)
    (hQ : ∀ c a w, Q (.panic c) (a.put d v) w → Q (.panic c) a w) (hy : YieldsIf P ops S oi v a) (hS : S w)
    (h : wpAnyH P md ops Q S fuel (listed.setIfInBounds i true) (a.put d v) w) : wpAnyH P md ops Q S (fuel + 1) listed a w := by
  subst hd
  exact wpAnyH_take hi hs hf hr hQ hy hS h
/-- a cut: Left, Junk -/
abbrev Ct := Int × ByteArray
def ctz : Ct := (0, ⟨#[]⟩)
/-- a slice of cuts, none of them in block R -/
def Cuts (w : World) (v : Value) (cs : List Ct) (R : Nat) : Prop :=
  ∃ a cap, v = .slice a cs.length cap ∧ (∀ i, i < cs.length → (cs.getD i ctz).2.size ≤ 9223372036854775807) ∧ (0 < cs.length → ∃ g o, a = some ⟨g, o, none⟩ ∧ g < w.heap.size ∧ g ≠ R ∧ ∀ i, i < cs.length → w.cell? ⟨g, o + i * 2, none⟩ = some (.int .i64 (cs.getD i ctz).1) ∧ w.cell? ⟨g, o + i * 2 + 1, none⟩ = some (.string (cs.getD i ctz).2))
theorem Kept.cell {R : Nat} {w w' : World} (h : Kept R w w') {g o : Nat} (hg : g < w.heap.size) (hne : g ≠ R) : w'.cell? ⟨g, o, none⟩ = w.cell? ⟨g, o, none⟩ :=
  World.cell?_of_block (a := ⟨g, o, none⟩) (World.grownBy.block h g hg (fun e => hne (by injection e)))
theorem Cuts.kept {w w' : World} {v : Value} {cs : List Ct} {R : Nat} (h : Cuts w v cs R) (hk : Kept R w w') : Cuts w' v cs R := by
  obtain ⟨a, cap, e, hz, hc⟩ := h
  refine ⟨a, cap, e, hz, fun h0 => ?_⟩
  obtain ⟨g, o, e2, hg, hne, hcc⟩ := hc h0
  have hs := hk.size
  exact ⟨g, o, e2, by omega, hne, fun i hi => by rw [hk.cell hg hne, hk.cell hg hne]; exact hcc i hi⟩
def Upx (C : List UInt8) (V : Vl) : Prop := ∃ a, Up C a V
/-- what raised answers -/
def RaEnd (n : Nat) (σ : St) (R : Nat) (w : World) (e : Ending) (w' : World) : Prop :=
  ∃ (S : Nat) (τ : St) (s : Sv), e = .returned (.tuple #[fp S, .bool true]) ∧ Fl w' R τ ∧ So w' S (fp R) s.ac s.tu s.en s.k ∧ (∃ V, Live τ.C s V) ∧ (∀ V, Upx σ.C V → Live τ.C s V) ∧ (τ.off = false ∧ τ.ar = false ∧ τ.jk.size ≤ 4096) ∧ w.heap.size ≤ S ∧ S ≠ R ∧ Kept R w w' ∧ (n = 0 → ∃ τ0, bootS (onS σ) = (τ0, some s) ∧ τ.C = τ0.C)
theorem onS_C (σ : St) : (onS σ).C = σ.C := rfl
theorem cutR_on {σ : St} (ho : σ.off = false) (hj : σ.jk.size ≤ 4096) (n : Int) (j : ByteArray) : (cutR σ n j).1.C = σ.C ∧ (cutR σ n j).1.off = false ∧ (cutR σ n j).1.jk.size ≤ 4096 ∧ (n < 0 → (cutR σ n j).2 = 1) ∧ (0 ≤ n → (cutR σ n j).2 = 0) := by
  unfold cutR
  rw [ho]
  simp only [Bool.false_eq_true, if_false]
  by_cases h : n < 0
  · rw [if_pos h]; exact ⟨rfl, ho, hj, fun _ => rfl, fun h2 => by omega⟩
  · rw [if_neg h]; exact ⟨rfl, rfl, jkS_size j, fun h2 => absurd h2 h, fun _ => rfl⟩
/-- behind the boot -/
def BoIn (σ0 : St) (x : St × Option Sv) : Prop := (∀ τ s, x = (τ, some s) → (∃ V, Live τ.C s V) ∧ ∀ V, Upx σ0.C V → Live τ.C s V) ∧ (∀ τ, x = (τ, none) → ∀ V, Upx σ0.C V → Upx τ.C V)
theorem boot_in {σ0 σ : St} (hl : σ.C.length = 8192) (ho : σ.off = false) (hU : ∀ V, Upx σ0.C V → Upx σ.C V) : BoIn σ0 (bootS σ) := by
  refine ⟨fun τ s e => ⟨boot_live hl ho τ s e, fun V hV => ?_⟩, fun τ e V hV => ?_⟩
  · obtain ⟨a, ha⟩ := hU V hV
    exact (ha.boot ho).1 τ s e
  · obtain ⟨a, ha⟩ := hU V hV
    exact (ha.boot ho).2 τ e
set_option maxRecDepth 100000 in
set_option maxHeartbeats 1000000 in
theorem raised_any (w : World) (R : Nat) (σ : St) (hF : Fl w R σ) (v : Value) (cs : List Ct) (hc : Cuts w v cs R) (hlen : cs.length ≤ 9223372036854775807) : Calls Try.prog 19 #[fp R, v] w fun e w' => RaEnd cs.length σ R w e w' := by
  have HF := hide hF
  have HC := hide hc
  have HOn := hide (fun W σx h => on_any W R σx h)
  have HBo := hide (fun W σx h hj => boot_any W R σx h hj)
  obtain ⟨a, cap, rfl, HSZ, _⟩ := hc
  have HSz := hide HSZ
  obtain ⟨n, HN⟩ : ∃ n, Hid (cs.length = n) := ⟨_, rfl⟩
  rw [HN.out] at hlen HSz ⊢
  have hni : (n : Int) ≤ 9223372036854775807 := by omega
  clear hF HSZ
  unfold fp at HOn HBo ⊢
  go_enter Try.func19, Try.ntmps19
  go_wp2_with fail
  go_loopw [6] (fun i wx => ∃ (k : Nat) (σx : St), k ≤ n ∧ i = .int .i64 k ∧ Fl wx R σx ∧ (∀ V, Upx σ.C V → Upx σx.C V) ∧ Kept R w wx ∧ (k = 0 → σx = σ)) (fun i _ => n + 1 - (intOf i).toNat)
  case atStart => exact ⟨0, σ, by omega, rfl, HF.out, fun V h => h, Kept.refl _ _, fun _ => rfl⟩
  case round =>
    obtain ⟨k, σx, hk, rfl, hFx, hUx, hKx, h0x⟩ := hrel
    have H0x := hide h0x
    have HFx := hide hFx
    have HUx := hide hUx
    have HKx := hide hKx
    have d0 : decide ((k : Int) ≤ (n : Int)) = true := decide_eq_true (by omega)
    clear hFx hUx hKx h0x
    go_wp2_with fail
    refine (HOn.out _ _ HFx.out).mono ?_
    rintro e w1 ⟨rfl, hF1, hK1⟩
    have HF1 := hide hF1
    have HK1 : Hid (Kept R w w1) := HKx.out.trans hK1
    clear hF1 hK1 HFx HKx
    by_cases hlt : k < n
    · have d1 : decide ((k : Int) < (n : Int)) = true := decide_eq_true (by omega)
      have dk : ((k : Int) == (n : Int)) = false := by simp; omega
      obtain ⟨a', cap', e1, _, hcc⟩ := HC.out.kept HK1.out
      rw [HN.out] at e1 hcc
      injection e1 with e1 _ e3
      subst e1 e3
      obtain ⟨g, o, rfl, hg, hgR, hcell⟩ := hcc (by omega)
      obtain ⟨x0, x1⟩ := hcell k hlt
      have hjs := HSz.out k hlt
      obtain ⟨Lf, HLf⟩ : ∃ x, Hid ((cs.getD k ctz).1 = x) := ⟨_, rfl⟩
      obtain ⟨Jk, HJk⟩ : ∃ x, Hid ((cs.getD k ctz).2 = x) := ⟨_, rfl⟩
      rw [HLf.out] at x0
      rw [HJk.out] at x1 hjs
      obtain ⟨c1, c2, c3, c4, c5⟩ := cutR_on (σ := onS σx) rfl (show (⟨#[]⟩ : ByteArray).size ≤ 4096 from Nat.zero_le _) Lf Jk
      have HCt := hide (fun W h => cut_any W R (onS σx) h Lf Jk hjs)
      unfold fp at HCt
      obtain ⟨σ2, er, hct⟩ : ∃ σ2 er, cutR (onS σx) Lf Jk = (σ2, er) := ⟨_, _, rfl⟩
      rw [hct] at HCt c1 c2 c3 c4 c5
      simp only at HCt c1 c2 c3 c4 c5
      have hsz1 : g < w1.heap.size := hg
      clear hcc hcell hct
      go_wp2_with fail
      by_cases hneg : Lf < 0
      · obtain rfl : er = 1 := c4 hneg
        have dn : decide (0 ≤ Lf) = false := decide_eq_false (by omega)
        clear hneg c4 c5
        refine wp_region_held_drew (S := fun wx => wx.cell? ⟨g, o + k * 2, none⟩ = some (.int .i64 Lf) ∧ wx.cell? ⟨g, o + k * 2 + 1, none⟩ = some (.string Jk)) (by kernel_rfl) (by exact ⟨x0, x1⟩) (fun hHeld => ?_)
        refine take_at (i := 0) (v := .pointer (some ⟨R, 0, none⟩)) (d := some 21) rfl rfl (by kernel_rfl) (by kernel_rfl) (by kernel_rfl) (fun _ _ _ h => h) (Or.inl ⟨by rfl, fun wS ⟨hS0, hS1⟩ => by go_simp; all_goals (rw [IntKind.wrap_i64]; omega)⟩) (by assumption) ?_
        simp only [Act.put, List.setIfInBounds_toArray, List.set_cons_zero, List.set_cons_succ]
        refine take_at (i := 1) (v := .slice (some ⟨g, o, none⟩) n cap) (d := some 22) rfl rfl (by kernel_rfl) (by kernel_rfl) (by kernel_rfl) (fun _ _ _ h => h) (Or.inl ⟨by rfl, fun wS ⟨hS0, hS1⟩ => by go_simp; all_goals (rw [IntKind.wrap_i64]; omega)⟩) (by assumption) ?_
        simp only [Act.put, List.setIfInBounds_toArray, List.set_cons_zero, List.set_cons_succ]
        refine take_at (i := 2) (v := .int .i64 k) (d := some 23) rfl rfl (by kernel_rfl) (by kernel_rfl) (by kernel_rfl) (fun _ _ _ h => h) (Or.inl ⟨by rfl, fun wS ⟨hS0, hS1⟩ => by go_simp; all_goals (rw [IntKind.wrap_i64]; omega)⟩) (by assumption) ?_
        simp only [Act.put, List.setIfInBounds_toArray, List.set_cons_zero, List.set_cons_succ]
        refine take_at (i := 3) (v := .pointer (some ⟨g, o + k * 2, none⟩)) (d := some 24) rfl rfl (by kernel_rfl) (by kernel_rfl) (by kernel_rfl) (fun _ _ _ h => h) (Or.inl ⟨by rfl, fun wS ⟨hS0, hS1⟩ => by go_simp; all_goals (rw [IntKind.wrap_i64]; omega)⟩) (by assumption) ?_
        simp only [Act.put, List.setIfInBounds_toArray, List.set_cons_zero, List.set_cons_succ]
        refine take_at (i := 4) (v := .pointer (some ⟨g, o + k * 2, none⟩)) (d := some 25) rfl rfl (by kernel_rfl) (by kernel_rfl) (by kernel_rfl) (fun _ _ _ h => h) (Or.inl ⟨by rfl, fun wS ⟨hS0, hS1⟩ => by go_simp; all_goals (rw [IntKind.wrap_i64]; omega)⟩) (by assumption) ?_
        simp only [Act.put, List.setIfInBounds_toArray, List.set_cons_zero, List.set_cons_succ]
        refine take_at (i := 5) (v := .int .i64 Lf) (d := some 26) rfl rfl (by kernel_rfl) (by kernel_rfl) (by kernel_rfl) (fun _ _ _ h => h) (Or.inl ⟨by rfl, fun wS ⟨hS0, hS1⟩ => by go_simp; all_goals (rw [IntKind.wrap_i64]; omega)⟩) (by assumption) ?_
        simp only [Act.put, List.setIfInBounds_toArray, List.set_cons_zero, List.set_cons_succ]
        refine take_at (i := 6) (v := .slice (some ⟨g, o, none⟩) n cap) (d := some 27) rfl rfl (by kernel_rfl) (by kernel_rfl) (by kernel_rfl) (fun _ _ _ h => h) (Or.inl ⟨by rfl, fun wS ⟨hS0, hS1⟩ => by go_simp; all_goals (rw [IntKind.wrap_i64]; omega)⟩) (by assumption) ?_
        simp only [Act.put, List.setIfInBounds_toArray, List.set_cons_zero, List.set_cons_succ]
        refine take_at (i := 7) (v := .int .i64 k) (d := some 28) rfl rfl (by kernel_rfl) (by kernel_rfl) (by kernel_rfl) (fun _ _ _ h => h) (Or.inl ⟨by rfl, fun wS ⟨hS0, hS1⟩ => by go_simp; all_goals (rw [IntKind.wrap_i64]; omega)⟩) (by assumption) ?_
        simp only [Act.put, List.setIfInBounds_toArray, List.set_cons_zero, List.set_cons_succ]
        refine take_at (i := 8) (v := .pointer (some ⟨g, o + k * 2, none⟩)) (d := some 29) rfl rfl (by kernel_rfl) (by kernel_rfl) (by kernel_rfl) (fun _ _ _ h => h) (Or.inl ⟨by rfl, fun wS ⟨hS0, hS1⟩ => by go_simp; all_goals (rw [IntKind.wrap_i64]; omega)⟩) (by assumption) ?_
        simp only [Act.put, List.setIfInBounds_toArray, List.set_cons_zero, List.set_cons_succ]
        refine take_at (i := 9) (v := .pointer (some ⟨g, o + k * 2 + 1, none⟩)) (d := some 30) rfl rfl (by kernel_rfl) (by kernel_rfl) (by kernel_rfl) (fun _ _ _ h => h) (Or.inl ⟨by rfl, fun wS ⟨hS0, hS1⟩ => by go_simp; all_goals (rw [IntKind.wrap_i64]; omega)⟩) (by assumption) ?_
        simp only [Act.put, List.setIfInBounds_toArray, List.set_cons_zero, List.set_cons_succ]
        refine take_at (i := 10) (v := .string Jk) (d := some 31) rfl rfl (by kernel_rfl) (by kernel_rfl) (by kernel_rfl) (fun _ _ _ h => h) (Or.inl ⟨by rfl, fun wS ⟨hS0, hS1⟩ => by go_simp; all_goals (rw [IntKind.wrap_i64]; omega)⟩) (by assumption) ?_
        simp only [Act.put, List.setIfInBounds_toArray, List.set_cons_zero, List.set_cons_succ]
        refine wpAnyH_ready (rs := [11]) (by kernel_rfl) (by simp) ?_
        refine AllReadyH.cons rfl (fun K hK => ?_) AllReadyH.nil
        go_simp
        refine (HCt.out _ HF1.out.drew).mono ?_
        rintro e w2 ⟨rfl, hF2, hK2⟩
        have hK2' : Kept R w1 w2 := (Kept.drew (Kept.refl R w1)).trans hK2
        have HF2 := hide hF2
        have HK2 : Hid (Kept R w w2) := HK1.out.trans hK2'
        have y0 := (hK2'.cell hsz1 hgR (o := o + k * 2)).trans x0
        have y1 := (hK2'.cell hsz1 hgR (o := o + k * 2 + 1)).trans x1
        clear hF2 hK2 hK2' hHeld
        refine hK.out _ _ (⟨y0, y1⟩) (fun hHeld => ?_)
        clear hK K
        refine take_at (i := 12) (v := .bool true) (d := some 33) rfl rfl (by kernel_rfl) (by kernel_rfl) (by kernel_rfl) (fun _ _ _ h => h) (Or.inl ⟨by rfl, fun wS ⟨hS0, hS1⟩ => by go_simp; all_goals (rw [IntKind.wrap_i64]; omega)⟩) (by assumption) ?_
        simp only [Act.put, List.setIfInBounds_toArray, List.set_cons_zero, List.set_cons_succ]
        refine take_at (i := 13) (v := .bool true) (d := some 34) rfl rfl (by kernel_rfl) (by kernel_rfl) (by kernel_rfl) (fun _ _ _ h => h) (Or.inl ⟨by rfl, fun wS ⟨hS0, hS1⟩ => by go_simp; all_goals (rw [IntKind.wrap_i64]; omega)⟩) (by assumption) ?_
        simp only [Act.put, List.setIfInBounds_toArray, List.set_cons_zero, List.set_cons_succ]
        refine take_at (i := 14) (v := .slice (some ⟨g, o, none⟩) n cap) (d := some 35) rfl rfl (by kernel_rfl) (by kernel_rfl) (by kernel_rfl) (fun _ _ _ h => h) (Or.inl ⟨by rfl, fun wS ⟨hS0, hS1⟩ => by go_simp; all_goals (rw [IntKind.wrap_i64]; omega)⟩) (by assumption) ?_
        simp only [Act.put, List.setIfInBounds_toArray, List.set_cons_zero, List.set_cons_succ]
        refine take_at (i := 15) (v := .int .i64 k) (d := some 36) rfl rfl (by kernel_rfl) (by kernel_rfl) (by kernel_rfl) (fun _ _ _ h => h) (Or.inl ⟨by rfl, fun wS ⟨hS0, hS1⟩ => by go_simp; all_goals (rw [IntKind.wrap_i64]; omega)⟩) (by assumption) ?_
        simp only [Act.put, List.setIfInBounds_toArray, List.set_cons_zero, List.set_cons_succ]
        refine take_at (i := 16) (v := .pointer (some ⟨g, o + k * 2, none⟩)) (d := some 37) rfl rfl (by kernel_rfl) (by kernel_rfl) (by kernel_rfl) (fun _ _ _ h => h) (Or.inl ⟨by rfl, fun wS ⟨hS0, hS1⟩ => by go_simp; all_goals (rw [IntKind.wrap_i64]; omega)⟩) (by assumption) ?_
        simp only [Act.put, List.setIfInBounds_toArray, List.set_cons_zero, List.set_cons_succ]
        refine take_at (i := 17) (v := .pointer (some ⟨g, o + k * 2, none⟩)) (d := some 38) rfl rfl (by kernel_rfl) (by kernel_rfl) (by kernel_rfl) (fun _ _ _ h => h) (Or.inl ⟨by rfl, fun wS ⟨hS0, hS1⟩ => by go_simp; all_goals (rw [IntKind.wrap_i64]; omega)⟩) (by assumption) ?_
        simp only [Act.put, List.setIfInBounds_toArray, List.set_cons_zero, List.set_cons_succ]
        refine take_at (i := 18) (v := .int .i64 Lf) (d := some 39) rfl rfl (by kernel_rfl) (by kernel_rfl) (by kernel_rfl) (fun _ _ _ h => h) (Or.inl ⟨by rfl, fun wS ⟨hS0, hS1⟩ => by go_simp; all_goals (rw [IntKind.wrap_i64]; omega)⟩) (by assumption) ?_
        simp only [Act.put, List.setIfInBounds_toArray, List.set_cons_zero, List.set_cons_succ]
        refine take_at (i := 19) (v := .bool false) (d := some 40) rfl rfl (by kernel_rfl) (by kernel_rfl) (by kernel_rfl) (fun _ _ _ h => h) (Or.inl ⟨by rfl, fun wS ⟨hS0, hS1⟩ => by go_simp; all_goals (rw [IntKind.wrap_i64]; omega)⟩) (by assumption) ?_
        simp only [Act.put, List.setIfInBounds_toArray, List.set_cons_zero, List.set_cons_succ]
        refine take_at (i := 20) (v := .bool false) (d := some 41) rfl rfl (by kernel_rfl) (by kernel_rfl) (by kernel_rfl) (fun _ _ _ h => h) (Or.inl ⟨by rfl, fun wS ⟨hS0, hS1⟩ => by go_simp; all_goals (rw [IntKind.wrap_i64]; omega)⟩) (by assumption) ?_
        simp only [Act.put, List.setIfInBounds_toArray, List.set_cons_zero, List.set_cons_succ]
        refine wpAnyH_done (by kernel_rfl) ?_ _
        go_simp
        clear hHeld x0 x1 y0 y1
        have HB3 := hide (boot_in (σ0 := σ) (σ := σ2) HF2.out.len c2 (fun V hV => by rw [c1]; exact HUx.out V hV))
        have HBoo := hide (HBo.out _ _ HF2.out c3)
        generalize bootS σ2 = X at HB3 HBoo
        go_wp2_with fail
        refine HBoo.out.mono ?_
        rintro e w3 ⟨ok, τ, s', S3, he, hX, hF3, hS3, hge, hK3⟩
        cases ok
        · simp only [Bool.false_eq_true, if_false] at he hX
          subst he
          have HU3 := hide (HB3.out.2 τ hX)
          have HF3 := hide hF3
          have HK3 : Hid (Kept R w w3) := HK2.out.trans hK3
          clear hF3 hS3 hK3 hge hX
          go_wp2_with fail
          go_roundw
          case rel => exact ⟨k + 1, τ, by omega, by go_num, HF3.out, HU3.out, HK3.out, fun h => absurd h (by omega)⟩
          case measure => simp [intOf]; omega
        · simp only [if_true] at he hX hS3
          subst he
          have HKp := HK2
          have HFp := HF2
          have HZ : Hid (n = 0 → ∃ τ0, bootS (onS σ) = (τ0, some s') ∧ (onS τ).C = τ0.C) := fun h => absurd hlt (by omega)
          have HL3 := hide (HB3.out.1 τ s' hX)
          have HF3 := hide hF3
          have HS3 := hide (hS3 trivial)
          have HK3 : Hid (Kept R w w3) := HKp.out.trans hK3
          have hge2 := HKp.out.size
          have hRl := HFp.out.lt
          have HSR : Hid (w.heap.size ≤ S3 ∧ S3 ≠ R) := ⟨by omega, by omega⟩
          clear hF3 hS3 hK3 hge hX hge2 hRl
          unfold fp
          go_wp2_with fail
          refine (HOn.out _ _ HF3.out).mono ?_
          rintro e w4 ⟨rfl, hF4, hK4⟩
          have HF4 := hide hF4
          have HS4 := hide (HS3.out.kept hK4 HSR.out.2)
          have HK4 : Hid (Kept R w w4) := HK3.out.trans hK4
          clear hF4 hK4
          go_wp2_with fail
          go_ret2
          exact (show RaEnd _ _ _ _ _ _ from ⟨S3, onS τ, s', rfl, HF4.out, HS4.out, HL3.out.1, HL3.out.2, ⟨rfl, rfl, Nat.zero_le _⟩, HSR.out.1, HSR.out.2, HK4.out, HZ.out⟩)
      · obtain rfl : er = 0 := c5 (by omega)
        clear hneg c4 c5
        refine wp_region_held_drew (S := fun wx => wx.cell? ⟨g, o + k * 2, none⟩ = some (.int .i64 Lf) ∧ wx.cell? ⟨g, o + k * 2 + 1, none⟩ = some (.string Jk)) (by kernel_rfl) (by exact ⟨x0, x1⟩) (fun hHeld => ?_)
        refine take_at (i := 0) (v := .pointer (some ⟨R, 0, none⟩)) (d := some 21) rfl rfl (by kernel_rfl) (by kernel_rfl) (by kernel_rfl) (fun _ _ _ h => h) (Or.inl ⟨by rfl, fun wS ⟨hS0, hS1⟩ => by go_simp; all_goals (rw [IntKind.wrap_i64]; omega)⟩) (by assumption) ?_
        simp only [Act.put, List.setIfInBounds_toArray, List.set_cons_zero, List.set_cons_succ]
        refine take_at (i := 1) (v := .slice (some ⟨g, o, none⟩) n cap) (d := some 22) rfl rfl (by kernel_rfl) (by kernel_rfl) (by kernel_rfl) (fun _ _ _ h => h) (Or.inl ⟨by rfl, fun wS ⟨hS0, hS1⟩ => by go_simp; all_goals (rw [IntKind.wrap_i64]; omega)⟩) (by assumption) ?_
        simp only [Act.put, List.setIfInBounds_toArray, List.set_cons_zero, List.set_cons_succ]
        refine take_at (i := 2) (v := .int .i64 k) (d := some 23) rfl rfl (by kernel_rfl) (by kernel_rfl) (by kernel_rfl) (fun _ _ _ h => h) (Or.inl ⟨by rfl, fun wS ⟨hS0, hS1⟩ => by go_simp; all_goals (rw [IntKind.wrap_i64]; omega)⟩) (by assumption) ?_
        simp only [Act.put, List.setIfInBounds_toArray, List.set_cons_zero, List.set_cons_succ]
        refine take_at (i := 3) (v := .pointer (some ⟨g, o + k * 2, none⟩)) (d := some 24) rfl rfl (by kernel_rfl) (by kernel_rfl) (by kernel_rfl) (fun _ _ _ h => h) (Or.inl ⟨by rfl, fun wS ⟨hS0, hS1⟩ => by go_simp; all_goals (rw [IntKind.wrap_i64]; omega)⟩) (by assumption) ?_
        simp only [Act.put, List.setIfInBounds_toArray, List.set_cons_zero, List.set_cons_succ]
        refine take_at (i := 4) (v := .pointer (some ⟨g, o + k * 2, none⟩)) (d := some 25) rfl rfl (by kernel_rfl) (by kernel_rfl) (by kernel_rfl) (fun _ _ _ h => h) (Or.inl ⟨by rfl, fun wS ⟨hS0, hS1⟩ => by go_simp; all_goals (rw [IntKind.wrap_i64]; omega)⟩) (by assumption) ?_
        simp only [Act.put, List.setIfInBounds_toArray, List.set_cons_zero, List.set_cons_succ]
        refine take_at (i := 5) (v := .int .i64 Lf) (d := some 26) rfl rfl (by kernel_rfl) (by kernel_rfl) (by kernel_rfl) (fun _ _ _ h => h) (Or.inl ⟨by rfl, fun wS ⟨hS0, hS1⟩ => by go_simp; all_goals (rw [IntKind.wrap_i64]; omega)⟩) (by assumption) ?_
        simp only [Act.put, List.setIfInBounds_toArray, List.set_cons_zero, List.set_cons_succ]
        refine take_at (i := 6) (v := .slice (some ⟨g, o, none⟩) n cap) (d := some 27) rfl rfl (by kernel_rfl) (by kernel_rfl) (by kernel_rfl) (fun _ _ _ h => h) (Or.inl ⟨by rfl, fun wS ⟨hS0, hS1⟩ => by go_simp; all_goals (rw [IntKind.wrap_i64]; omega)⟩) (by assumption) ?_
        simp only [Act.put, List.setIfInBounds_toArray, List.set_cons_zero, List.set_cons_succ]
        refine take_at (i := 7) (v := .int .i64 k) (d := some 28) rfl rfl (by kernel_rfl) (by kernel_rfl) (by kernel_rfl) (fun _ _ _ h => h) (Or.inl ⟨by rfl, fun wS ⟨hS0, hS1⟩ => by go_simp; all_goals (rw [IntKind.wrap_i64]; omega)⟩) (by assumption) ?_
        simp only [Act.put, List.setIfInBounds_toArray, List.set_cons_zero, List.set_cons_succ]
        refine take_at (i := 8) (v := .pointer (some ⟨g, o + k * 2, none⟩)) (d := some 29) rfl rfl (by kernel_rfl) (by kernel_rfl) (by kernel_rfl) (fun _ _ _ h => h) (Or.inl ⟨by rfl, fun wS ⟨hS0, hS1⟩ => by go_simp; all_goals (rw [IntKind.wrap_i64]; omega)⟩) (by assumption) ?_
        simp only [Act.put, List.setIfInBounds_toArray, List.set_cons_zero, List.set_cons_succ]
        refine take_at (i := 9) (v := .pointer (some ⟨g, o + k * 2 + 1, none⟩)) (d := some 30) rfl rfl (by kernel_rfl) (by kernel_rfl) (by kernel_rfl) (fun _ _ _ h => h) (Or.inl ⟨by rfl, fun wS ⟨hS0, hS1⟩ => by go_simp; all_goals (rw [IntKind.wrap_i64]; omega)⟩) (by assumption) ?_
        simp only [Act.put, List.setIfInBounds_toArray, List.set_cons_zero, List.set_cons_succ]
        refine take_at (i := 10) (v := .string Jk) (d := some 31) rfl rfl (by kernel_rfl) (by kernel_rfl) (by kernel_rfl) (fun _ _ _ h => h) (Or.inl ⟨by rfl, fun wS ⟨hS0, hS1⟩ => by go_simp; all_goals (rw [IntKind.wrap_i64]; omega)⟩) (by assumption) ?_
        simp only [Act.put, List.setIfInBounds_toArray, List.set_cons_zero, List.set_cons_succ]
        refine wpAnyH_ready (rs := [11]) (by kernel_rfl) (by simp) ?_
        refine AllReadyH.cons rfl (fun K hK => ?_) AllReadyH.nil
        go_simp
        refine (HCt.out _ HF1.out.drew).mono ?_
        rintro e w2 ⟨rfl, hF2, hK2⟩
        have hK2' : Kept R w1 w2 := (Kept.drew (Kept.refl R w1)).trans hK2
        have HF2 := hide hF2
        have HK2 : Hid (Kept R w w2) := HK1.out.trans hK2'
        have y0 := (hK2'.cell hsz1 hgR (o := o + k * 2)).trans x0
        have y1 := (hK2'.cell hsz1 hgR (o := o + k * 2 + 1)).trans x1
        clear hF2 hK2 hK2' hHeld
        refine hK.out _ _ (⟨y0, y1⟩) (fun hHeld => ?_)
        clear hK K
        refine take_at (i := 12) (v := .bool false) (d := some 33) rfl rfl (by kernel_rfl) (by kernel_rfl) (by kernel_rfl) (fun _ _ _ h => h) (Or.inl ⟨by rfl, fun wS ⟨hS0, hS1⟩ => by go_simp; all_goals (rw [IntKind.wrap_i64]; omega)⟩) (by assumption) ?_
        simp only [Act.put, List.setIfInBounds_toArray, List.set_cons_zero, List.set_cons_succ]
        refine take_at (i := 13) (v := .bool false) (d := some 34) rfl rfl (by kernel_rfl) (by kernel_rfl) (by kernel_rfl) (fun _ _ _ h => h) (Or.inl ⟨by rfl, fun wS ⟨hS0, hS1⟩ => by go_simp; all_goals (rw [IntKind.wrap_i64]; omega)⟩) (by assumption) ?_
        simp only [Act.put, List.setIfInBounds_toArray, List.set_cons_zero, List.set_cons_succ]
        refine take_at (i := 14) (v := undef) (d := some 35) rfl rfl (by kernel_rfl) (by kernel_rfl) (by kernel_rfl) (fun _ _ _ h => h) (Or.inr ⟨by rfl, rfl⟩) (by assumption) ?_
        simp only [Act.put, List.setIfInBounds_toArray, List.set_cons_zero, List.set_cons_succ]
        refine take_at (i := 15) (v := undef) (d := some 36) rfl rfl (by kernel_rfl) (by kernel_rfl) (by kernel_rfl) (fun _ _ _ h => h) (Or.inr ⟨by rfl, rfl⟩) (by assumption) ?_
        simp only [Act.put, List.setIfInBounds_toArray, List.set_cons_zero, List.set_cons_succ]
        refine take_at (i := 16) (v := undef) (d := some 37) rfl rfl (by kernel_rfl) (by kernel_rfl) (by kernel_rfl) (fun _ _ _ h => h) (Or.inr ⟨by rfl, rfl⟩) (by assumption) ?_
        simp only [Act.put, List.setIfInBounds_toArray, List.set_cons_zero, List.set_cons_succ]
        refine take_at (i := 17) (v := undef) (d := some 38) rfl rfl (by kernel_rfl) (by kernel_rfl) (by kernel_rfl) (fun _ _ _ h => h) (Or.inr ⟨by rfl, rfl⟩) (by assumption) ?_
        simp only [Act.put, List.setIfInBounds_toArray, List.set_cons_zero, List.set_cons_succ]
        refine take_at (i := 18) (v := undef) (d := some 39) rfl rfl (by kernel_rfl) (by kernel_rfl) (by kernel_rfl) (fun _ _ _ h => h) (Or.inr ⟨by rfl, rfl⟩) (by assumption) ?_
        simp only [Act.put, List.setIfInBounds_toArray, List.set_cons_zero, List.set_cons_succ]
        refine take_at (i := 19) (v := undef) (d := some 40) rfl rfl (by kernel_rfl) (by kernel_rfl) (by kernel_rfl) (fun _ _ _ h => h) (Or.inr ⟨by rfl, rfl⟩) (by assumption) ?_
        simp only [Act.put, List.setIfInBounds_toArray, List.set_cons_zero, List.set_cons_succ]
        refine take_at (i := 20) (v := .bool false) (d := some 41) rfl rfl (by kernel_rfl) (by kernel_rfl) (by kernel_rfl) (fun _ _ _ h => h) (Or.inl ⟨by rfl, fun wS ⟨hS0, hS1⟩ => by go_simp; all_goals (rw [IntKind.wrap_i64]; omega)⟩) (by assumption) ?_
        simp only [Act.put, List.setIfInBounds_toArray, List.set_cons_zero, List.set_cons_succ]
        refine wpAnyH_done (by kernel_rfl) ?_ _
        go_simp
        clear hHeld x0 x1 y0 y1
        have HB3 := hide (boot_in (σ0 := σ) (σ := σ2) HF2.out.len c2 (fun V hV => by rw [c1]; exact HUx.out V hV))
        have HBoo := hide (HBo.out _ _ HF2.out c3)
        generalize bootS σ2 = X at HB3 HBoo
        go_wp2_with fail
        refine HBoo.out.mono ?_
        rintro e w3 ⟨ok, τ, s', S3, he, hX, hF3, hS3, hge, hK3⟩
        cases ok
        · simp only [Bool.false_eq_true, if_false] at he hX
          subst he
          have HU3 := hide (HB3.out.2 τ hX)
          have HF3 := hide hF3
          have HK3 : Hid (Kept R w w3) := HK2.out.trans hK3
          clear hF3 hS3 hK3 hge hX
          go_wp2_with fail
          go_roundw
          case rel => exact ⟨k + 1, τ, by omega, by go_num, HF3.out, HU3.out, HK3.out, fun h => absurd h (by omega)⟩
          case measure => simp [intOf]; omega
        · simp only [if_true] at he hX hS3
          subst he
          have HKp := HK2
          have HFp := HF2
          have HZ : Hid (n = 0 → ∃ τ0, bootS (onS σ) = (τ0, some s') ∧ (onS τ).C = τ0.C) := fun h => absurd hlt (by omega)
          have HL3 := hide (HB3.out.1 τ s' hX)
          have HF3 := hide hF3
          have HS3 := hide (hS3 trivial)
          have HK3 : Hid (Kept R w w3) := HKp.out.trans hK3
          have hge2 := HKp.out.size
          have hRl := HFp.out.lt
          have HSR : Hid (w.heap.size ≤ S3 ∧ S3 ≠ R) := ⟨by omega, by omega⟩
          clear hF3 hS3 hK3 hge hX hge2 hRl
          unfold fp
          go_wp2_with fail
          refine (HOn.out _ _ HF3.out).mono ?_
          rintro e w4 ⟨rfl, hF4, hK4⟩
          have HF4 := hide hF4
          have HS4 := hide (HS3.out.kept hK4 HSR.out.2)
          have HK4 : Hid (Kept R w w4) := HK3.out.trans hK4
          clear hF4 hK4
          go_wp2_with fail
          go_ret2
          exact (show RaEnd _ _ _ _ _ _ from ⟨S3, onS τ, s', rfl, HF4.out, HS4.out, HL3.out.1, HL3.out.2, ⟨rfl, rfl, Nat.zero_le _⟩, HSR.out.1, HSR.out.2, HK4.out, HZ.out⟩)
    · obtain rfl : k = n := by omega
      have d1 : decide ((k : Int) < (k : Int)) = false := decide_eq_false (by omega)
      have dk : ((k : Int) == (k : Int)) = true := by simp
      have HB3 := hide (boot_in (σ0 := σ) (σ := onS σx) HF1.out.len rfl HUx.out)
      have HFr := hide (bootS_free (σ := onS σx) rfl rfl)
      have HBoo := hide (HBo.out _ _ HF1.out (Nat.zero_le _))
      have H0 : Hid (k = 0 → bootS (onS σ) = bootS (onS σx)) := fun h => by rw [H0x.out h]
      generalize bootS (onS σx) = X at HB3 HFr HBoo H0
      go_wp2_with fail
      refine HBoo.out.mono ?_
      rintro e w3 ⟨ok, τ, s', S3, he, hX, hF3, hS3, hge, hK3⟩
      cases ok
      · exfalso
        have := HFr.out.1
        rw [hX] at this
        exact absurd this (by simp)
      · simp only [if_true] at he hX hS3
        subst he
        have HKp := HK1
        have HFp := HF1
        have HZ : Hid (k = 0 → ∃ τ0, bootS (onS σ) = (τ0, some s') ∧ (onS τ).C = τ0.C) := fun h => ⟨τ, by rw [H0.out h, hX], rfl⟩
        have HL3 := hide (HB3.out.1 τ s' hX)
        have HF3 := hide hF3
        have HS3 := hide (hS3 trivial)
        have HK3 : Hid (Kept R w w3) := HKp.out.trans hK3
        have hge2 := HKp.out.size
        have hRl := HFp.out.lt
        have HSR : Hid (w.heap.size ≤ S3 ∧ S3 ≠ R) := ⟨by omega, by omega⟩
        clear hF3 hS3 hK3 hge hX hge2 hRl
        unfold fp
        go_wp2_with fail
        refine (HOn.out _ _ HF3.out).mono ?_
        rintro e w4 ⟨rfl, hF4, hK4⟩
        have HF4 := hide hF4
        have HS4 := hide (HS3.out.kept hK4 HSR.out.2)
        have HK4 : Hid (Kept R w w4) := HK3.out.trans hK4
        clear hF4 hK4
        go_wp2_with fail
        go_ret2
        exact (show RaEnd _ _ _ _ _ _ from ⟨S3, onS τ, s', rfl, HF4.out, HS4.out, HL3.out.1, HL3.out.2, ⟨rfl, rfl, Nat.zero_le _⟩, HSR.out.1, HSR.out.2, HK4.out, HZ.out⟩)
theorem cuts_none (w : World) (R : Nat) : Cuts w (.slice none 0 0) [] R := ⟨none, 0, rfl, fun i h => absurd h (by simp), fun h => absurd h (by simp)⟩
end Go.Proofs.Ytcjahdgppnmdkaa
