/- SoO, SoK, SoL, SqO. -/
import Derived.Test.YtcjahdgppnmdkaaStoreRunsG11
import Derived.Deep.Strs
import Derived.WideShapes
import Derived.Lib.SmallJoins
import Derived.SizedLaws
import Derived.Deep.DeepCutAuto
set_option maxRecDepth 100000
namespace Go.Proofs.Ytcjahdgppnmdkaa
open Go.RowKit Go.Great Go.Deep Go.WideShapes Go.ChangeShapes
theorem plain_cell {w : World} {a : Addr} {v : Value} (h : w.cell? a = some v) : a = ⟨a.block, a.off, none⟩ ∧ a.block < w.heap.size := by
  obtain ⟨b, o, s⟩ := a
  have hb : b < w.heap.size := World.block_lt_of_cell? w _ h
  cases s with
  | none => exact ⟨rfl, hb⟩
  | some q =>
    exfalso
    unfold World.cell? at h
    split at h
    · simp at h
    · cases h
theorem cells2 {w : World} {a : Addr} {cs : List Value} (h : w.cells? 0 a 2 = some cs) : ∃ x y, cs = [x, y] ∧ w.cell? (a.add 0) = some x ∧ w.cell? (a.add 1) = some y := by
  unfold World.cells? at h
  rw [if_pos (Nat.zero_le _)] at h
  simp [List.range_succ] at h
  cases h0 : w.cell? (a.add 0) with
  | none => simp [h0] at h
  | some x =>
    cases h1 : w.cell? (a.add 1) with
    | none => simp [h0, h1] at h
    | some y =>
      simp [h0, h1] at h
      exact ⟨x, y, h.symm, rfl, rfl⟩
theorem add_plain' (b o i : Nat) : Addr.add ⟨b, o, none⟩ i = ⟨b, o + i, none⟩ := by
  unfold Addr.add
  split
  · subst_vars; rfl
  · rfl
theorem add_two (a : Addr) (i j : Nat) : ((⟨a.block, a.off, none⟩ : Addr).add i).add j = ⟨a.block, a.off + i + j, none⟩ := by rw [add_plain', add_plain']
theorem weights_all {H : Type} {P : Program} {e : TypeId} {q : Nat} {d : DataW H} : ∀ {l : List (DataW H)}, d ∈ l → q ∈ d.weights P e → q ∈ DataW.weightsAll P e l
  | [], h, _ => by simp at h
  | x :: r, h, hq => by
    simp only [DataW.weightsAll, List.mem_append]
    rcases List.mem_cons.1 h with rfl | h
    · exact .inl hq
    · exact .inr (weights_all h hq)
/-- a slice of cuts that came in -/
def CutsIn (w : World) (v : Value) (cs : List Ct) : Prop :=
  cs.length ≤ maxLen ∧ ∃ a cap, v = .slice a cs.length cap ∧ (∀ i, i < cs.length → (cs.getD i ctz).2.size ≤ 9223372036854775807) ∧ (0 < cs.length → ∃ g o, a = some ⟨g, o, none⟩ ∧ g < w.heap.size ∧ ∀ i, i < cs.length → w.cell? ⟨g, o + i * 2, none⟩ = some (.int .i64 (cs.getD i ctz).1) ∧ w.cell? ⟨g, o + i * 2 + 1, none⟩ = some (.string (cs.getD i ctz).2))
theorem CutsIn.cuts {w w' : World} {v : Value} {cs : List Ct} {R : Nat} (h : CutsIn w v cs) (hb : Below w.heap.size w w') (hR : w.heap.size ≤ R) : Cuts w' v cs R := by
  obtain ⟨_, a, cap, e, hz, hc⟩ := h
  refine ⟨a, cap, e, hz, fun h0 => ?_⟩
  obtain ⟨g, o, e2, hg, hcc⟩ := hc h0
  have hs := hb.size
  exact ⟨g, o, e2, by omega, by omega, fun i hi => ⟨(hb.cell (p := ⟨g, o + i * 2, none⟩) hg).trans (hcc i hi).1, (hb.cell (p := ⟨g, o + i * 2 + 1, none⟩) hg).trans (hcc i hi).2⟩⟩
set_option maxRecDepth 100000 in
theorem open_cuts {H : Type} {enc : TypeId × Value → H} {W : World} {u : Value} {y : DataW H × List MemPlace} {n : Nat} (h : DataW.trod enc Try.prog W 0 (fun _ => true) true n 45 [u] = some y) (hw : ∀ q ∈ y.1.weights Try.prog 45, q ≤ reachBytes) : ∃ cs, CutsIn W u cs := by
  have hC : Try.prog.cellsOf 44 = 2 := by kernel_rfl
  rcases open_slice (x := y) Try.underlying45 h with ⟨hcs, _⟩ | ⟨a, ln, cp, m, n, D, Pl, hcs, hb, hl, hmax, hm, hx, hel⟩
  · injection hcs with hcs _
    subst hcs
    exact ⟨[], by simp, none, 0, rfl, fun i h => absurd h (by simp), fun h => absurd h (by simp)⟩
  · injection hcs with hcs _
    subst hcs
    simp only [if_true] at hm
    have hd : y.1 = .slice ((List.range ln).map D) ((List.range (m - ln)).map fun j => D (ln + j)) := congrArg Prod.fst hx
    have each : ∀ i, i < ln → ∃ f : Ct, W.cell? ((a.add (i * 2)).add 0) = some (.int .i64 f.1) ∧ W.cell? ((a.add (i * 2)).add 1) = some (.string f.2) ∧ f.2.size ≤ 140737488351232 := by
      intro i hi
      obtain ⟨cs, hc1, hc2⟩ := hel i (by omega)
      rw [hC] at hc1
      obtain ⟨x, z, rfl, c0, c1⟩ := cells2 hc1
      obtain ⟨y0, y1, k, hxx, _, t0, t1⟩ := trod_struct2 Try.underlying44 hc2
      have t0' : DataW.trod enc Try.prog W 0 (fun _ => true) true k 3 [x] = some y0 := t0
      have t1' : DataW.trod enc Try.prog W 0 (fun _ => true) true k 9 [z] = some y1 := t1
      obtain ⟨u0, q0, _, v0⟩ := DataW.trod_int Try.underlying3 t0'
      obtain ⟨u1, q1, p1, _⟩ := DataW.trod_string Try.underlying9 t1'
      simp at q0 q1
      subst q0 q1
      have hD : D i = .agg [y0.1, y1.1] := congrArg Prod.fst hxx
      have hz : u1.data.toList.length ≤ reachBytes := hw _ (by
        rw [hd]
        simp only [DataW.weights, Try.underlying45]
        refine List.mem_cons_of_mem _ (List.mem_append.2 (.inl (weights_all (d := D i) (List.mem_map.2 ⟨i, List.mem_range.2 hi, rfl⟩) ?_)))
        rw [hD, p1]
        simp [DataW.weights, DataW.weightsEach, Try.underlying44])
      rw [list_size] at hz
      exact ⟨(u0, u1), c0, c1, hz⟩
    obtain ⟨F, hF⟩ := choose_lt each
    have hget : ∀ i, i < ln → ((List.range ln).map F).getD i ctz = F i := fun i hi => by
      rw [List.getD, List.getElem?_map, List.getElem?_range hi]; rfl
    refine ⟨(List.range ln).map F, ?_, some a, cp, ?_, ?_, ?_⟩
    · rw [List.length_map, List.length_range]; omega
    · rw [List.length_map, List.length_range]
    · intro i hi
      rw [List.length_map, List.length_range] at hi
      rw [hget i hi]
      have := (hF i hi).2.2
      omega
    · intro h0
      rw [List.length_map, List.length_range] at h0
      have hp := hF 0 h0
      have ha : a.add (0 * 2) = a := by simp [Addr.add]
      have ha0 : a.add 0 = a := by simp [Addr.add]
      rw [ha, ha0] at hp
      obtain ⟨e, hbl⟩ := plain_cell hp.1
      refine ⟨a.block, a.off, by rw [← e], hbl, fun i hi => ?_⟩
      rw [List.length_map, List.length_range] at hi
      have hq := hF i hi
      rw [e, add_two, add_two, Nat.add_zero] at hq
      rw [hget i hi]
      exact ⟨hq.1, hq.2.1⟩
set_option maxRecDepth 100000 in
/-- the same, from an argument's reading -/
theorem open_cutsA {H : Type} {enc : TypeId × Value → H} {W : World} {v : Value} {d : DataW H} {p : List MemPlace} {r : Reach} {b0 : Nat} (hok : Value.okWide Try.prog W r b0 45 v) (h : DataW.Trod enc Try.prog W 0 (fun _ => true) true 45 v d p) (hw : ∀ q ∈ d.weights Try.prog 45, q ≤ reachBytes) : ∃ cs, CutsIn W v cs := by
  obtain ⟨ad, ln, cp, rfl⟩ := okWide_slice Try.underlying45 hok
  obtain ⟨m, hm⟩ := h
  have e1 : (Value.slice ad ln cp).cells.toList = [.slice ad ln cp] := rfl
  rw [e1] at hm
  exact open_cuts hm hw
end Go.Proofs.Ytcjahdgppnmdkaa
set_option maxRecDepth 100000
namespace Go.Proofs.Ytcjahdgppnmdkaa
open Go.RowKit Go.Great
/-- a value: is, s, cut, late -/
structure Vf where
  is : Bool
  s : ByteArray
  cut : Bool
  late : ByteArray
def em : ByteArray := ⟨#[]⟩
def vfz : Vf := ⟨false, em, false, em⟩
def vfOf (o : Option (List UInt8)) : Vf := match o with | some l => ⟨true, bs l, false, em⟩ | none => vfz
def vfC (f : Vf) : List Value := [.bool f.is, .string f.s, .bool f.cut, .string f.late]
def vfV (f : Vf) : Value := .agg (vfC f).toArray
theorem getV_of (o : Option (List UInt8)) : getV o = .tuple #[.string (vfOf o).s, .bool (vfOf o).is] := by cases o <;> rfl
/-- what may be told -/
def okF (f : Vf) (o : Option (List UInt8)) : Prop := (f.is = (vfOf o).is ∧ f.s = (vfOf o).s) ∨ (f.cut = true ∧ (vfOf o).is = true ∧ f.late = (vfOf o).s)
theorem okF_bool {f : Vf} {o : Option (List UInt8)} (h : okF f o) : ((((vfOf o).is == f.is) && ((vfOf o).s.toList == f.s.toList)) || (f.cut && (vfOf o).is && ((vfOf o).s.toList == f.late.toList))) = true := by
  rcases h with ⟨h1, h2⟩ | ⟨h1, h2, h3⟩
  · rw [h1, h2]; simp
  · rw [h1, h2, h3]; simp
theorem vf_back {fn : Func} (h : fn.results = #[.cell 6 41, .tmp 7]) (tmps : Array Value) (w : World) (g : Nat) (x0 x1 x2 x3 : Value) (b : Value) (hp : tmps.getD 6 undef = .pointer (some ⟨g, 0, none⟩)) (hq : tmps.getD 7 undef = b) (hg : w.heap[g]? = some (.cells #[x0, x1, x2, x3] 41 (0, 0))) : (results fn tmps).run Try.prog w = .ok (.tuple #[.agg #[x0, x1, x2, x3], b]) w := by
  rw [results_cell_tmp h]
  have := run_loadVar_row (P := Try.prog) w g 41 41 #[x0, x1, x2, x3] (0, 0) _ hg Try.underlying41 rfl (by kernel_rfl)
  rw [hp, hq]
  simp [asAddr, this, Result.andThen]
/-- a block of four cells -/
def B4 (w : World) (g : Nat) (x0 x1 x2 x3 : Value) : Prop := w.heap[g]? = some (.cells #[x0, x1, x2, x3] 41 (0, 0))
theorem B4.c0 {w : World} {g : Nat} {x0 x1 x2 x3 : Value} (h : B4 w g x0 x1 x2 x3) : w.cell? ⟨g, 0, none⟩ = some x0 := by unfold B4 at h; simp [World.cell?, h]
theorem B4.c1 {w : World} {g : Nat} {x0 x1 x2 x3 : Value} (h : B4 w g x0 x1 x2 x3) : w.cell? ⟨g, 1, none⟩ = some x1 := by unfold B4 at h; simp [World.cell?, h]
theorem B4.c2 {w : World} {g : Nat} {x0 x1 x2 x3 : Value} (h : B4 w g x0 x1 x2 x3) : w.cell? ⟨g, 2, none⟩ = some x2 := by unfold B4 at h; simp [World.cell?, h]
theorem B4.c3 {w : World} {g : Nat} {x0 x1 x2 x3 : Value} (h : B4 w g x0 x1 x2 x3) : w.cell? ⟨g, 3, none⟩ = some x3 := by unfold B4 at h; simp [World.cell?, h]
theorem B4.fz {w : World} {g : Nat} {x0 x1 x2 x3 : Value} (h : B4 w g x0 x1 x2 x3) (i : Nat) : w.frozen? ⟨g, i, none⟩ = false := by unfold B4 at h; simp [World.frozen?, h]
theorem B4.below {w w' : World} {g : Nat} {x0 x1 x2 x3 : Value} (h : B4 w g x0 x1 x2 x3) (hb : Below w.heap.size w w') : B4 w' g x0 x1 x2 x3 := by
  unfold B4 at h ⊢; rw [hb.block g (lt_of_block h), h]
theorem cells_set {w : World} {g : Nat} {cs : Array Value} {t : TypeId} {fr : Nat × Nat} (h : w.heap[g]? = some (.cells cs t fr)) (i : Nat) (u : Value) : (w.setCell ⟨g, i, none⟩ u).heap[g]? = some (.cells (cs.setIfInBounds i u) t fr) := by
  have hlt := lt_of_block h
  have h' : w.heap[g] = .cells cs t fr := by simpa [Array.getElem?_eq_getElem hlt] using h
  show (w.heap.modify g _)[g]? = _
  rw [Array.getElem?_eq_getElem (by simpa using hlt), Array.getElem_modify_self, h']
  rfl
theorem B4.set {w : World} {g : Nat} {x0 x1 x2 x3 : Value} (h : B4 w g x0 x1 x2 x3) (a b c d : Value) : B4 ((((w.setCell ⟨g, 0, none⟩ a).setCell ⟨g, 1, none⟩ b).setCell ⟨g, 2, none⟩ c).setCell ⟨g, 3, none⟩ d) g a b c d := by
  have := cells_set (cells_set (cells_set (cells_set h 0 a) 1 b) 2 c) 3 d
  simpa [B4] using this
theorem below_set4 {B : Nat} {w w1 : World} {g : Nat} (h : Below B w w1) (hg : B ≤ g) (a b c d : Value) : Below B w ((((w1.setCell ⟨g, 0, none⟩ a).setCell ⟨g, 1, none⟩ b).setCell ⟨g, 2, none⟩ c).setCell ⟨g, 3, none⟩ d) :=
  (((h.setCell (p := ⟨g, 0, none⟩) hg a).setCell (p := ⟨g, 1, none⟩) hg b).setCell (p := ⟨g, 2, none⟩) hg c).setCell (p := ⟨g, 3, none⟩) hg d
set_option maxRecDepth 100000 in
set_option maxHeartbeats 2000000 in
theorem tell_any (w : World) (S R : Nat) (σ : St) (hon : On σ) (s : Sv) (ha : Ask s) (hF : Fl w R σ) (h : So w S (fp R) s.ac s.tu s.en s.k) (id : Int) (f : Vf) (hk : okF f (getS σ.C s id)) : Calls Try.prog 22 #[fp S, .int .i64 id, .agg #[.bool f.is, .string f.s, .bool f.cut, .string f.late]] w fun e w' => e = .returned (.tuple #[.agg #[.bool (vfOf (getS σ.C s id)).is, .string (vfOf (getS σ.C s id)).s, .bool false, .string ⟨#[]⟩], .bool true]) ∧ Below w.heap.size w w' := by
  have HB0 : Hid (Below w.heap.size w ((w.alloc (.cells #[.bool f.is, .string f.s, .bool f.cut, .string f.late] 41)).alloc (.cells #[.bool false, .string ⟨#[]⟩, .bool false, .string ⟨#[]⟩] 41))) := below_next (below_alloc _ _) (Nat.le_refl _) (below_alloc _ _)
  have HV0 : Hid (B4 ((w.alloc (.cells #[.bool f.is, .string f.s, .bool f.cut, .string f.late] 41)).alloc (.cells #[.bool false, .string ⟨#[]⟩, .bool false, .string ⟨#[]⟩] 41)) w.heap.size (.bool f.is) (.string f.s) (.bool f.cut) (.string f.late)) := B4.below (show B4 (w.alloc (.cells #[.bool f.is, .string f.s, .bool f.cut, .string f.late] 41)) _ _ _ _ _ from heap_alloc_new _ _) (below_alloc _ _)
  have HR0 : Hid (B4 ((w.alloc (.cells #[.bool f.is, .string f.s, .bool f.cut, .string f.late] 41)).alloc (.cells #[.bool false, .string ⟨#[]⟩, .bool false, .string ⟨#[]⟩] 41)) (w.heap.size + 1) (.bool false) (.string ⟨#[]⟩) (.bool false) (.string ⟨#[]⟩)) := by
    have := heap_alloc_new (w.alloc (.cells #[.bool f.is, .string f.s, .bool f.cut, .string f.late] 41)) (.cells #[.bool false, .string ⟨#[]⟩, .bool false, .string ⟨#[]⟩] 41)
    rw [show (w.alloc (.cells #[.bool f.is, .string f.s, .bool f.cut, .string f.late] 41)).heap.size = w.heap.size + 1 by simp] at this
    exact this
  have HG := hide (fun W h1 h2 => get_any W S R σ hon s ha h1 h2 id)
  have hb := okF_bool hk
  have HF := hide hF
  have HS := hide h
  rw [getV_of] at HG
  generalize vfOf (getS σ.C s id) = o at HG hb ⊢
  obtain ⟨ois, og, oc, ol⟩ := o
  obtain ⟨fis, fs, fc, fl⟩ := f
  simp only at HG hb HB0 HV0 HR0 ⊢
  obtain ⟨b1, q1⟩ : ∃ b1, (og.toList == fs.toList) = b1 := ⟨_, rfl⟩
  obtain ⟨b2, q2⟩ : ∃ b2, (og.toList == fl.toList) = b2 := ⟨_, rfl⟩
  rw [q1, q2] at hb
  unfold fp at HG ⊢
  clear hk hF h ha hon
  cases ois <;> cases fis <;> cases fc <;> cases b1 <;> cases b2 <;> first
    | (exfalso; revert hb; simp; done)
    | (clear hb
       go_enter Try.func22, Try.ntmps22
       go_upto_region 1 with fail
       generalize (w.alloc (.cells #[.bool _, .string fs, .bool _, .string fl] 41)).alloc (.cells #[.bool false, .string ⟨#[]⟩, .bool false, .string ⟨#[]⟩] 41) = w1 at HB0 HV0 HR0 ⊢
       go_wp2_with fail
       refine (HG.out _ (HF.out.below HB0.out) (HS.out.below HB0.out)).mono ?_
       rintro e w2 ⟨rfl, hB2⟩
       have HB2 : Hid (Below w.heap.size w w2) := below_next HB0.out (Nat.le_refl _) hB2
       have HV2 := hide (HV0.out.below hB2)
       have HR2 := hide (HR0.out.below hB2)
       have v0 := HV2.out.c0
       have v1 := HV2.out.c1
       have v2 := HV2.out.c2
       have v3 := HV2.out.c3
       have r0 := HR2.out.c0
       have r1 := HR2.out.c1
       have r2 := HR2.out.c2
       have r3 := HR2.out.c3
       have rf := HR2.out.fz
       clear hB2
       go_wp2_with fail
       refine bodyPost_ret (vf_back Try.results22 _ _ (w.heap.size + 1) _ _ _ _ _ rfl rfl (HR2.out.set _ _ _ _)) rfl ?_
       exact ⟨rfl, below_set4 HB2.out (by omega) _ _ _ _⟩)
end Go.Proofs.Ytcjahdgppnmdkaa
set_option maxRecDepth 100000
namespace Go.Proofs.Ytcjahdgppnmdkaa
open Go.RowKit Go.Great
theorem move_on {σ : St} {s : Sv} {id : Int} {v : List UInt8} (h : On σ) : ∀ τ s', moveS σ s id v = (τ, some s') → On τ := by
  intro τ s' e
  unfold moveS at e
  cases hb : (eraseS σ (1 - s.ac)).2
  · rw [hb] at e; simp only [Bool.false_eq_true, if_false] at e; injection e with _ e; cases e
  · rw [hb] at e
    simp only [if_true] at e
    have h1 := eraseS_on h hb
    cases hb2 : (eachS s.ac s.k id v 0 3 ⟨(eraseS σ (1 - s.ac)).1, 1, kz⟩).2
    · rw [hb2] at e; simp only [Bool.false_eq_true, if_false] at e; injection e with _ e; cases e
    · rw [hb2] at e
      simp only [if_true] at e
      have h2 := eachS_on s.ac s.k id v 3 0 ⟨(eraseS σ (1 - s.ac)).1, 1, kz⟩ h1 hb2
      split at e
      · rename_i hb3
        injection e with e1 _
        rw [← e1]
        exact progS_on _ _ _ h2 hb3
      · injection e with _ e; cases e
theorem wri_on {σ : St} {s : Sv} {i : Nat} {v : List UInt8} (h : On σ) : ∀ τ s', wriS σ s i v = (τ, some s') → On τ := by
  intro τ s' e
  unfold wriS at e
  split at e
  · cases hb : (addS s.ac i v ⟨σ, s.en, s.k⟩).2
    · rw [hb] at e; simp only [Bool.false_eq_true, if_false] at e; injection e with _ e; cases e
    · rw [hb] at e
      simp only [if_true] at e
      injection e with e1 _
      rw [← e1, addS_σ]
      rw [addS_2] at hb
      exact progS_on _ _ _ h hb
  · exact move_on h τ s' e
/-- what a put leaves of what lives -/
def PutK (σ : St) (s : Sv) (V : Vl) (id : Int) (v : List UInt8) (x : St × Option Sv × Int) : Prop :=
  ((¬ (0 ≤ id ∧ id < 3) ∨ 2000 < v.length) ∧ x = (σ, some s, 1)) ∨
  ∃ i : Nat, i < 3 ∧ id = (i : Int) ∧ v.length ≤ 2000 ∧ (x = (σ, some s, 70) ∨ (∃ τ s', x = (τ, some s', 0) ∧ Live τ.C s' (updV V i v) ∧ On τ) ∨ ∃ τ, x = (τ, none, 60) ∧ (Upx τ.C V ∨ Upx τ.C (updV V i v)))
theorem put_live {σ : St} {s : Sv} {V : Vl} (h : Live σ.C s V) (hon : On σ) (id : Int) (v : List UInt8) : PutK σ s V id v (putS σ s id v) := by
  by_cases hb : ¬ (0 ≤ id ∧ id < 3) ∨ 2000 < v.length
  · left
    refine ⟨hb, ?_⟩
    unfold putS
    rw [if_pos hb]
  · right
    refine ⟨id.toNat, by omega, by omega, by omega, ?_⟩
    by_cases hn : needN s.k id.toNat v.length ≤ 4096
    · obtain ⟨w1, w2⟩ := h.write id.toNat (by omega) v (by omega) hn
      have e := wri_put σ s id.toNat (by omega) v (by omega) hn
      rw [show ((id.toNat : Nat) : Int) = id by omega] at e
      rw [e]
      right
      obtain ⟨⟨τ, so⟩, hx⟩ : ∃ x, wriS σ s id.toNat v = x := ⟨_, rfl⟩
      rw [hx]
      cases so with
      | some s' => exact .inl ⟨τ, s', rfl, w1 τ s' hx, wri_on hon τ s' hx⟩
      | none =>
        obtain ⟨ac, hu⟩ := w2 τ hx
        exact .inr ⟨τ, rfl, hu.elim (fun h => .inl ⟨ac, h⟩) (fun h => .inr ⟨ac, h⟩)⟩
    · left
      unfold putS
      rw [if_neg hb, if_pos (by omega)]
/-- the block of what is known of three objects -/
def knC (f : Nat → Vf) : Array Value := #[.bool (f 0).is, .string (f 0).s, .bool (f 0).cut, .string (f 0).late, .bool (f 1).is, .string (f 1).s, .bool (f 1).cut, .string (f 1).late, .bool (f 2).is, .string (f 2).s, .bool (f 2).cut, .string (f 2).late]
def Kn (w : World) (K : Nat) (f : Nat → Vf) : Prop := w.heap[K]? = some (.cells (knC f) 42 (0, 0))
theorem Kn.at {w : World} {K : Nat} {f : Nat → Vf} (h : Kn w K f) (i : Nat) (v : Value) (hc : (knC f)[i]? = some v) : w.cell? ⟨K, i, none⟩ = some v := by
  unfold Kn at h; simp [World.cell?, h, hc]
theorem Kn.fz {w : World} {K : Nat} {f : Nat → Vf} (h : Kn w K f) (i : Nat) : w.frozen? ⟨K, i, none⟩ = false := by unfold Kn at h; simp [World.frozen?, h]
theorem Kn.lt {w : World} {K : Nat} {f : Nat → Vf} (h : Kn w K f) : K < w.heap.size := lt_of_block h
theorem Kn.below {w w' : World} {K : Nat} {f : Nat → Vf} (h : Kn w K f) (hb : Below w.heap.size w w') : Kn w' K f := by
  unfold Kn at h ⊢; rw [hb.block K (lt_of_block h), h]
theorem Kn.kept {w w' : World} {K R : Nat} {f : Nat → Vf} (h : Kn w K f) (hk : Kept R w w') (hne : K ≠ R) : Kn w' K f := hk.other h hne
theorem Kn.kep2 {w w' : World} {K R S : Nat} {f : Nat → Vf} (h : Kn w K f) (hk : Kep2 R S w w') (h1 : K ≠ R) (h2 : K ≠ S) : Kn w' K f := hk.other h h1 h2
def updf (f : Nat → Vf) (i : Nat) (x : Vf) : Nat → Vf := fun j => if j = i then x else f j
theorem Kn.put0 {w : World} {K : Nat} {f : Nat → Vf} (h : Kn w K f) (x : Vf) : Kn ((((w.setCell ⟨K, 0, none⟩ (.bool x.is)).setCell ⟨K, 1, none⟩ (.string x.s)).setCell ⟨K, 2, none⟩ (.bool x.cut)).setCell ⟨K, 3, none⟩ (.string x.late)) K (updf f 0 x) := by
  have := cells_set (cells_set (cells_set (cells_set h 0 (.bool x.is)) 1 (.string x.s)) 2 (.bool x.cut)) 3 (.string x.late)
  exact this
theorem Kn.put1 {w : World} {K : Nat} {f : Nat → Vf} (h : Kn w K f) (x : Vf) : Kn ((((w.setCell ⟨K, 4, none⟩ (.bool x.is)).setCell ⟨K, 5, none⟩ (.string x.s)).setCell ⟨K, 6, none⟩ (.bool x.cut)).setCell ⟨K, 7, none⟩ (.string x.late)) K (updf f 1 x) := by
  have := cells_set (cells_set (cells_set (cells_set h 4 (.bool x.is)) 5 (.string x.s)) 6 (.bool x.cut)) 7 (.string x.late)
  exact this
theorem Kn.put2 {w : World} {K : Nat} {f : Nat → Vf} (h : Kn w K f) (x : Vf) : Kn ((((w.setCell ⟨K, 8, none⟩ (.bool x.is)).setCell ⟨K, 9, none⟩ (.string x.s)).setCell ⟨K, 10, none⟩ (.bool x.cut)).setCell ⟨K, 11, none⟩ (.string x.late)) K (updf f 2 x) := by
  have := cells_set (cells_set (cells_set (cells_set h 8 (.bool x.is)) 9 (.string x.s)) 10 (.bool x.cut)) 11 (.string x.late)
  exact this
def lateF (x : Vf) (t : ByteArray) : Vf := ⟨x.is, x.s, true, t⟩
theorem Kn.late0 {w : World} {K : Nat} {f : Nat → Vf} (h : Kn w K f) (t : ByteArray) : Kn ((w.setCell ⟨K, 2, none⟩ (.bool true)).setCell ⟨K, 3, none⟩ (.string t)) K (updf f 0 (lateF (f 0) t)) := by
  have := cells_set (cells_set h 2 (.bool true)) 3 (.string t)
  exact this
theorem Kn.late1 {w : World} {K : Nat} {f : Nat → Vf} (h : Kn w K f) (t : ByteArray) : Kn ((w.setCell ⟨K, 6, none⟩ (.bool true)).setCell ⟨K, 7, none⟩ (.string t)) K (updf f 1 (lateF (f 1) t)) := by
  have := cells_set (cells_set h 6 (.bool true)) 7 (.string t)
  exact this
theorem Kn.late2 {w : World} {K : Nat} {f : Nat → Vf} (h : Kn w K f) (t : ByteArray) : Kn ((w.setCell ⟨K, 10, none⟩ (.bool true)).setCell ⟨K, 11, none⟩ (.string t)) K (updf f 2 (lateF (f 2) t)) := by
  have := cells_set (cells_set h 10 (.bool true)) 11 (.string t)
  exact this
theorem kept_set {R : Nat} (w : World) (i : Nat) (u : Value) : Kept R w (w.setCell ⟨R, i, none⟩ u) := Kept.set (Kept.refl R w) i u
end Go.Proofs.Ytcjahdgppnmdkaa
set_option maxRecDepth 100000
namespace Go.Proofs.Ytcjahdgppnmdkaa
open Go.RowKit Go.Great Go.Deep Go.WideShapes Go.ChangeShapes
theorem cells3 {w : World} {a : Addr} {cs : List Value} (h : w.cells? 0 a 3 = some cs) : ∃ x y z, cs = [x, y, z] ∧ w.cell? (a.add 0) = some x ∧ w.cell? (a.add 1) = some y ∧ w.cell? (a.add 2) = some z := by
  unfold World.cells? at h
  rw [if_pos (Nat.zero_le _)] at h
  simp [List.range_succ] at h
  cases h0 : w.cell? (a.add 0) with
  | none => simp [h0] at h
  | some x =>
    cases h1 : w.cell? (a.add 1) with
    | none => simp [h0, h1] at h
    | some y =>
      cases h2 : w.cell? (a.add 2) with
      | none => simp [h0, h1, h2] at h
      | some z =>
        simp [h0, h1, h2] at h
        exact ⟨x, y, z, h.symm, rfl, rfl, rfl⟩
/-- a call: What, N, Value -/
abbrev Cl7 := Int × Int × ByteArray
/-- a slice of calls that came in -/
def CallsL7 (w : World) (v : Value) (cs : List Cl7) : Prop :=
  cs.length ≤ maxLen ∧ (∃ a cap, v = .slice a cs.length cap ∧ (0 < cs.length → ∃ g o, a = some ⟨g, o, none⟩ ∧ g < w.heap.size ∧ ∀ (i : Nat) (h : i < cs.length), w.cell? ⟨g, o + i * 3, none⟩ = some (.int .i64 cs[i].1) ∧ w.cell? ⟨g, o + i * 3 + 1, none⟩ = some (.int .i64 cs[i].2.1) ∧ w.cell? ⟨g, o + i * 3 + 2, none⟩ = some (.string cs[i].2.2))) ∧
  ∀ c ∈ cs, I64 c.1 ∧ I64 c.2.1 ∧ c.2.2.size ≤ 140737488351232
set_option maxRecDepth 100000 in
theorem open_calls {H : Type} {enc : TypeId × Value → H} {W : World} {v : Value} {d : DataW H} {p : List MemPlace} {r : Reach} {b0 : Nat} (hok : Value.okWide Try.prog W r b0 22 v) (h : DataW.Trod enc Try.prog W 0 (fun _ => true) true 22 v d p) (hw : ∀ q ∈ d.weights Try.prog 22, q ≤ reachBytes) : ∃ cs, CallsL7 W v cs := by
  obtain ⟨ad, ln, cp, rfl⟩ := okWide_slice Try.underlying22 hok
  obtain ⟨fuel, hf⟩ := h
  have e1 : (Value.slice ad ln cp).cells.toList = [.slice ad ln cp] := rfl
  rw [e1] at hf
  have hC : Try.prog.cellsOf 34 = 3 := by kernel_rfl
  rcases open_slice Try.underlying22 hf with ⟨hcs, _⟩ | ⟨a, len, cap, m, n, D, Pl, hcs, hb, hl, hmax, hm, hx, hel⟩
  · injection hcs with hcs _
    injection hcs with h1 h2 h3
    subst h1 h2 h3
    exact ⟨[], by simp, ⟨none, 0, rfl, fun h => absurd h (by simp)⟩, fun m hm => by simp at hm⟩
  · injection hcs with hcs _
    injection hcs with h1 h2 h3
    subst h1 h2 h3
    simp only [if_true] at hm
    have hd : d = .slice ((List.range ln).map D) ((List.range (m - ln)).map fun j => D (ln + j)) := congrArg Prod.fst hx
    have each : ∀ i, i < ln → ∃ f : Cl7, W.cell? ((a.add (i * 3)).add 0) = some (.int .i64 f.1) ∧ W.cell? ((a.add (i * 3)).add 1) = some (.int .i64 f.2.1) ∧ W.cell? ((a.add (i * 3)).add 2) = some (.string f.2.2) ∧ I64 f.1 ∧ I64 f.2.1 ∧ f.2.2.size ≤ 140737488351232 := by
      intro i hi
      obtain ⟨cs, hc1, hc2⟩ := hel i (by omega)
      rw [hC] at hc1
      obtain ⟨x, y, z, rfl, c0, c1, c2⟩ := cells3 hc1
      obtain ⟨y0, y1, y2, k, hxx, _, t0, t1, t2⟩ := trod_struct3 Try.underlying34 hc2
      have t0' : DataW.trod enc Try.prog W 0 (fun _ => true) true k 3 [x] = some y0 := t0
      have t1' : DataW.trod enc Try.prog W 0 (fun _ => true) true k 3 [y] = some y1 := t1
      have t2' : DataW.trod enc Try.prog W 0 (fun _ => true) true k 9 [z] = some y2 := t2
      obtain ⟨u0, q0, _, v0⟩ := DataW.trod_int Try.underlying3 t0'
      obtain ⟨u1, q1, _, v1⟩ := DataW.trod_int Try.underlying3 t1'
      obtain ⟨u2, q2, p2, _⟩ := DataW.trod_string Try.underlying9 t2'
      simp at q0 q1 q2
      subst q0 q1 q2
      have hD : D i = .agg [y0.1, y1.1, y2.1] := congrArg Prod.fst hxx
      have hz : u2.data.toList.length ≤ reachBytes := hw _ (by
        rw [hd]
        simp only [DataW.weights, Try.underlying22]
        refine List.mem_cons_of_mem _ (List.mem_append.2 (.inl (weights_all (d := D i) (List.mem_map.2 ⟨i, List.mem_range.2 hi, rfl⟩) ?_)))
        rw [hD, p2]
        simp [DataW.weights, DataW.weightsEach, Try.underlying34])
      rw [list_size] at hz
      exact ⟨(u0, u1, u2), c0, c1, c2, wf_i64 v0, wf_i64 v1, hz⟩
    obtain ⟨F, hF⟩ := choose_lt each
    refine ⟨(List.range ln).map F, ?_, ⟨some a, cp, ?_, ?_⟩, ?_⟩
    · rw [List.length_map, List.length_range]; omega
    · rw [List.length_map, List.length_range]
    · intro h0
      rw [List.length_map, List.length_range] at h0
      have hp := hF 0 h0
      have ha : a.add (0 * 3) = a := by simp [Addr.add]
      have ha0 : a.add 0 = a := by simp [Addr.add]
      rw [ha, ha0] at hp
      obtain ⟨e, hbl⟩ := plain_cell hp.1
      refine ⟨a.block, a.off, by rw [← e], hbl, fun i hi => ?_⟩
      rw [List.length_map, List.length_range] at hi
      have hq := hF i hi
      rw [e, add_two, add_two, add_two, Nat.add_zero] at hq
      simp only [List.getElem_map, List.getElem_range]
      exact ⟨hq.1, hq.2.1, hq.2.2.1⟩
    · intro f hf
      rw [List.mem_map] at hf
      obtain ⟨i, hi, rfl⟩ := hf
      exact (hF i (List.mem_range.1 hi)).2.2.2
end Go.Proofs.Ytcjahdgppnmdkaa
