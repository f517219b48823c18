/- What is known of the objects: the statements' values, and told. -/
import Derived.Test.YtcjahdgppnmdkaaSoO
import Derived.Deep.DeepCutAuto
set_option maxRecDepth 100000
namespace Go.Proofs.Ytcjahdgppnmdkaa
open Go.RowKit Go.Great

/-- a value: is, s, cut, late -/
structure Vf where
  is : Bool
  s : ByteArray
  cut : Bool
  late : ByteArray
def em : ByteArray := ⟨#[]⟩
def vfz : Vf := ⟨false, em, false, em⟩
def vfOf (o : Option (List UInt8)) : Vf := match o with | some l => ⟨true, bs l, false, em⟩ | none => vfz
def vfC (f : Vf) : List Value := [.bool f.is, .string f.s, .bool f.cut, .string f.late]
def vfV (f : Vf) : Value := .agg (vfC f).toArray
theorem getV_of (o : Option (List UInt8)) : getV o = .tuple #[.string (vfOf o).s, .bool (vfOf o).is] := by cases o <;> rfl
/-- what may be told -/
def okF (f : Vf) (o : Option (List UInt8)) : Prop := (f.is = (vfOf o).is ∧ f.s = (vfOf o).s) ∨ (f.cut = true ∧ (vfOf o).is = true ∧ f.late = (vfOf o).s)
theorem okF_bool {f : Vf} {o : Option (List UInt8)} (h : okF f o) : ((((vfOf o).is == f.is) && ((vfOf o).s.toList == f.s.toList)) || (f.cut && (vfOf o).is && ((vfOf o).s.toList == f.late.toList))) = true := by
  rcases h with ⟨h1, h2⟩ | ⟨h1, h2, h3⟩
  · rw [h1, h2]; simp
  · rw [h1, h2, h3]; simp
theorem vf_back {fn : Func} (h : fn.results = #[.cell 6 41, .tmp 7]) (tmps : Array Value) (w : World) (g : Nat) (x0 x1 x2 x3 : Value) (b : Value) (hp : tmps.getD 6 undef = .pointer (some ⟨g, 0, none⟩)) (hq : tmps.getD 7 undef = b) (hg : w.heap[g]? = some (.cells #[x0, x1, x2, x3] 41 (0, 0))) : (results fn tmps).run Try.prog w = .ok (.tuple #[.agg #[x0, x1, x2, x3], b]) w := by
  rw [results_cell_tmp h]
  have := run_loadVar_row (P := Try.prog) w g 41 41 #[x0, x1, x2, x3] (0, 0) _ hg Try.underlying41 rfl (by kernel_rfl)
  rw [hp, hq]
  simp [asAddr, this, Result.andThen]
/-- a block of four cells -/
def B4 (w : World) (g : Nat) (x0 x1 x2 x3 : Value) : Prop := w.heap[g]? = some (.cells #[x0, x1, x2, x3] 41 (0, 0))
theorem B4.c0 {w : World} {g : Nat} {x0 x1 x2 x3 : Value} (h : B4 w g x0 x1 x2 x3) : w.cell? ⟨g, 0, none⟩ = some x0 := by unfold B4 at h; simp [World.cell?, h]
theorem B4.c1 {w : World} {g : Nat} {x0 x1 x2 x3 : Value} (h : B4 w g x0 x1 x2 x3) : w.cell? ⟨g, 1, none⟩ = some x1 := by unfold B4 at h; simp [World.cell?, h]
theorem B4.c2 {w : World} {g : Nat} {x0 x1 x2 x3 : Value} (h : B4 w g x0 x1 x2 x3) : w.cell? ⟨g, 2, none⟩ = some x2 := by unfold B4 at h; simp [World.cell?, h]
theorem B4.c3 {w : World} {g : Nat} {x0 x1 x2 x3 : Value} (h : B4 w g x0 x1 x2 x3) : w.cell? ⟨g, 3, none⟩ = some x3 := by unfold B4 at h; simp [World.cell?, h]
theorem B4.fz {w : World} {g : Nat} {x0 x1 x2 x3 : Value} (h : B4 w g x0 x1 x2 x3) (i : Nat) : w.frozen? ⟨g, i, none⟩ = false := by unfold B4 at h; simp [World.frozen?, h]
theorem B4.below {w w' : World} {g : Nat} {x0 x1 x2 x3 : Value} (h : B4 w g x0 x1 x2 x3) (hb : Below w.heap.size w w') : B4 w' g x0 x1 x2 x3 := by
  unfold B4 at h ⊢; rw [hb.block g (lt_of_block h), h]
theorem cells_set {w : World} {g : Nat} {cs : Array Value} {t : TypeId} {fr : Nat × Nat} (h : w.heap[g]? = some (.cells cs t fr)) (i : Nat) (u : Value) : (w.setCell ⟨g, i, none⟩ u).heap[g]? = some (.cells (cs.setIfInBounds i u) t fr) := by
  have hlt := lt_of_block h
  have h' : w.heap[g] = .cells cs t fr := by simpa [Array.getElem?_eq_getElem hlt] using h
  show (w.heap.modify g _)[g]? = _
  rw [Array.getElem?_eq_getElem (by simpa using hlt), Array.getElem_modify_self, h']
  rfl
theorem B4.set {w : World} {g : Nat} {x0 x1 x2 x3 : Value} (h : B4 w g x0 x1 x2 x3) (a b c d : Value) : B4 ((((w.setCell ⟨g, 0, none⟩ a).setCell ⟨g, 1, none⟩ b).setCell ⟨g, 2, none⟩ c).setCell ⟨g, 3, none⟩ d) g a b c d := by
  have := cells_set (cells_set (cells_set (cells_set h 0 a) 1 b) 2 c) 3 d
  simpa [B4] using this
theorem below_set4 {B : Nat} {w w1 : World} {g : Nat} (h : Below B w w1) (hg : B ≤ g) (a b c d : Value) : Below B w ((((w1.setCell ⟨g, 0, none⟩ a).setCell ⟨g, 1, none⟩ b).setCell ⟨g, 2, none⟩ c).setCell ⟨g, 3, none⟩ d) :=
  (((h.setCell (p := ⟨g, 0, none⟩) hg a).setCell (p := ⟨g, 1, none⟩) hg b).setCell (p := ⟨g, 2, none⟩) hg c).setCell (p := ⟨g, 3, none⟩) hg d
set_option maxRecDepth 100000 in
set_option maxHeartbeats 2000000 in
theorem tell_any (w : World) (S R : Nat) (σ : St) (hon : On σ) (s : Sv) (ha : Ask s) (hF : Fl w R σ) (h : So w S (fp R) s.ac s.tu s.en s.k) (id : Int) (f : Vf) (hk : okF f (getS σ.C s id)) : Calls Try.prog 22 #[fp S, .int .i64 id, .agg #[.bool f.is, .string f.s, .bool f.cut, .string f.late]] w fun e w' => e = .returned (.tuple #[.agg #[.bool (vfOf (getS σ.C s id)).is, .string (vfOf (getS σ.C s id)).s, .bool false, .string ⟨#[]⟩], .bool true]) ∧ Below w.heap.size w w' := by
  have HB0 : Hid (Below w.heap.size w ((w.alloc (.cells #[.bool f.is, .string f.s, .bool f.cut, .string f.late] 41)).alloc (.cells #[.bool false, .string ⟨#[]⟩, .bool false, .string ⟨#[]⟩] 41))) := below_next (below_alloc _ _) (Nat.le_refl _) (below_alloc _ _)
  have HV0 : Hid (B4 ((w.alloc (.cells #[.bool f.is, .string f.s, .bool f.cut, .string f.late] 41)).alloc (.cells #[.bool false, .string ⟨#[]⟩, .bool false, .string ⟨#[]⟩] 41)) w.heap.size (.bool f.is) (.string f.s) (.bool f.cut) (.string f.late)) := B4.below (show B4 (w.alloc (.cells #[.bool f.is, .string f.s, .bool f.cut, .string f.late] 41)) _ _ _ _ _ from heap_alloc_new _ _) (below_alloc _ _)
  have HR0 : Hid (B4 ((w.alloc (.cells #[.bool f.is, .string f.s, .bool f.cut, .string f.late] 41)).alloc (.cells #[.bool false, .string ⟨#[]⟩, .bool false, .string ⟨#[]⟩] 41)) (w.heap.size + 1) (.bool false) (.string ⟨#[]⟩) (.bool false) (.string ⟨#[]⟩)) := by
    have := heap_alloc_new (w.alloc (.cells #[.bool f.is, .string f.s, .bool f.cut, .string f.late] 41)) (.cells #[.bool false, .string ⟨#[]⟩, .bool false, .string ⟨#[]⟩] 41)
    rw [show (w.alloc (.cells #[.bool f.is, .string f.s, .bool f.cut, .string f.late] 41)).heap.size = w.heap.size + 1 by simp] at this
    exact this
  have HG := hide (fun W h1 h2 => get_any W S R σ hon s ha h1 h2 id)
  have hb := okF_bool hk
  have HF := hide hF
  have HS := hide h
  rw [getV_of] at HG
  generalize vfOf (getS σ.C s id) = o at HG hb ⊢
  obtain ⟨ois, og, oc, ol⟩ := o
  obtain ⟨fis, fs, fc, fl⟩ := f
  simp only at HG hb HB0 HV0 HR0 ⊢
  obtain ⟨b1, q1⟩ : ∃ b1, (og.toList == fs.toList) = b1 := ⟨_, rfl⟩
  obtain ⟨b2, q2⟩ : ∃ b2, (og.toList == fl.toList) = b2 := ⟨_, rfl⟩
  rw [q1, q2] at hb
  unfold fp at HG ⊢
  clear hk hF h ha hon
  cases ois <;> cases fis <;> cases fc <;> cases b1 <;> cases b2 <;> first
    | (exfalso; revert hb; simp; done)
    | (clear hb
       go_enter Try.func22, Try.ntmps22
       go_upto_region 1 with fail
       generalize (w.alloc (.cells #[.bool _, .string fs, .bool _, .string fl] 41)).alloc (.cells #[.bool false, .string ⟨#[]⟩, .bool false, .string ⟨#[]⟩] 41) = w1 at HB0 HV0 HR0 ⊢
       go_wp2_with fail
       refine (HG.out _ (HF.out.below HB0.out) (HS.out.below HB0.out)).mono ?_
       rintro e w2 ⟨rfl, hB2⟩
       have HB2 : Hid (Below w.heap.size w w2) := below_next HB0.out (Nat.le_refl _) hB2
       have HV2 := hide (HV0.out.below hB2)
       have HR2 := hide (HR0.out.below hB2)
       have v0 := HV2.out.c0
       have v1 := HV2.out.c1
       have v2 := HV2.out.c2
       have v3 := HV2.out.c3
       have r0 := HR2.out.c0
       have r1 := HR2.out.c1
       have r2 := HR2.out.c2
       have r3 := HR2.out.c3
       have rf := HR2.out.fz
       clear hB2
       go_wp2_with fail
       refine bodyPost_ret (vf_back Try.results22 _ _ (w.heap.size + 1) _ _ _ _ _ rfl rfl (HR2.out.set _ _ _ _)) rfl ?_
       exact ⟨rfl, below_set4 HB2.out (by omega) _ _ _ _⟩)
end Go.Proofs.Ytcjahdgppnmdkaa
