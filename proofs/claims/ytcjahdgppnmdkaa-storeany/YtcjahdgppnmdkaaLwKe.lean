/- StoreKeeps. -/
import Derived.Test.YtcjahdgppnmdkaaSoL
set_option maxRecDepth 100000
namespace Go.Proofs.Ytcjahdgppnmdkaa
open Go.RowKit Go.Great

/-- the world within the loop over deeds -/
structure KeW (w : World) (R S K : Nat) (σ : St) (s : Sv) (V : Vl) (f : Nat → Vf) (wx : World) : Prop where
  bel : Below w.heap.size w wx
  fl : Fl wx R σ
  so : So wx S (fp R) s.ac s.tu s.en s.k
  kn : Kn wx K f
  live : Live σ.C s V
  on : On σ
  ge : w.heap.size ≤ R ∧ w.heap.size ≤ S ∧ w.heap.size ≤ K
  ne : K ≠ R ∧ S ≠ R ∧ K ≠ S
theorem KeW.next {w : World} {R S K : Nat} {σ : St} {s : Sv} {V : Vl} {f : Nat → Vf} {wx wy : World} (h : KeW w R S K σ s V f wx) (hb : Below wx.heap.size wx wy) : KeW w R S K σ s V f wy :=
  ⟨below_next h.bel (Nat.le_refl _) hb, h.fl.below hb, h.so.below hb, h.kn.below hb, h.live, h.on, h.ge, h.ne⟩
/-- only block K is turned -/
theorem KeW.known {w : World} {R S K : Nat} {σ : St} {s : Sv} {V : Vl} {f f2 : Nat → Vf} {wx wy : World} (h : KeW w R S K σ s V f wx) (hk : Kept K wx wy) (h2 : Kn wy K f2) : KeW w R S K σ s V f2 wy :=
  ⟨Kept.toBelow h.bel hk h.bel.size h.ge.2.2, h.fl.kept hk (Ne.symm h.ne.1), h.so.kept hk (Ne.symm h.ne.2.2), h2, h.live, h.on, h.ge, h.ne⟩
/-- a cut is armed -/
theorem KeW.armed {w : World} {R S K : Nat} {σ : St} {s : Sv} {V : Vl} {f : Nat → Vf} {wx wy : World} (h : KeW w R S K σ s V f wx) (n : Int) (j : ByteArray) (hF : Fl wy R (cutR σ n j).1) (hk : Kept R wx wy) : KeW w R S K (cutR σ n j).1 s V f wy := by
  obtain ⟨c1, c2, c3, _⟩ := cutR_on h.on.off h.on.jk n j
  exact ⟨Kept.toBelow h.bel hk h.bel.size h.ge.1, hF, h.so.kept hk h.ne.2.1, h.kn.kept hk h.ne.1, by rw [c1]; exact h.live, ⟨by rw [c1]; exact h.on.len, c2, c3⟩, h.ge, h.ne⟩
/-- a deed -/
structure Dd where
  id : Int
  val : ByteArray
  arm : Bool
  lf : Int
  jk : ByteArray
  bv : Value
  cs : List Ct
def ddz : Dd := ⟨0, em, false, 0, em, .slice none 0 0, []⟩
/-- a slice of deeds that came in -/
def DeedsIn (w : World) (v : Value) (ds : List Dd) : Prop :=
  ds.length ≤ 9223372036854775807 ∧ (∃ a cap, v = .slice a ds.length cap ∧ (0 < ds.length → ∃ g o, a = some ⟨g, o, none⟩ ∧ g < w.heap.size ∧ ∀ i, i < ds.length → w.cell? ⟨g, o + i * 6, none⟩ = some (.int .i64 (ds.getD i ddz).id) ∧ w.cell? ⟨g, o + i * 6 + 1, none⟩ = some (.string (ds.getD i ddz).val) ∧ w.cell? ⟨g, o + i * 6 + 2, none⟩ = some (.bool (ds.getD i ddz).arm) ∧ w.cell? ⟨g, o + i * 6 + 3, none⟩ = some (.int .i64 (ds.getD i ddz).lf) ∧ w.cell? ⟨g, o + i * 6 + 4, none⟩ = some (.string (ds.getD i ddz).jk) ∧ w.cell? ⟨g, o + i * 6 + 5, none⟩ = some (ds.getD i ddz).bv)) ∧
  ∀ i, i < ds.length → (ds.getD i ddz).val.size ≤ 140737488351232 ∧ (ds.getD i ddz).jk.size ≤ 140737488351232 ∧ CutsIn w (ds.getD i ddz).bv (ds.getD i ddz).cs
theorem vfOf_form (o : Option (List UInt8)) : vfOf o = ⟨(vfOf o).is, (vfOf o).s, false, em⟩ := by cases o <;> rfl
theorem ok_same {f : Nat → Vf} {V : Vl} (h : ∀ i, i < 3 → f i = vfOf (V i)) : ∀ i, i < 3 → okF (f i) (V i) := fun i hi => .inl ⟨by rw [h i hi], by rw [h i hi]⟩
theorem ok_put {f : Nat → Vf} {V : Vl} (h : ∀ i, i < 3 → f i = vfOf (V i)) (k : Nat) (b : ByteArray) : ∀ i, i < 3 → okF (updf f k ⟨true, b, false, em⟩ i) (updV V k b.data.toList i) := by
  intro i hi
  unfold updf updV
  by_cases e : i = k
  · rw [if_pos e, if_pos e]; exact .inl ⟨rfl, (bs_of b).symm⟩
  · rw [if_neg e, if_neg e]; exact ok_same h i hi
theorem ok_late1 {f : Nat → Vf} {V : Vl} (h : ∀ i, i < 3 → f i = vfOf (V i)) (k : Nat) (b : ByteArray) : ∀ i, i < 3 → okF (updf f k (lateF (f k) b) i) (V i) := by
  intro i hi
  unfold updf
  by_cases e : i = k
  · subst e; rw [if_pos rfl]; exact .inl ⟨by rw [← h i hi]; rfl, by rw [← h i hi]; rfl⟩
  · rw [if_neg e]; exact ok_same h i hi
theorem ok_late2 {f : Nat → Vf} {V : Vl} (h : ∀ i, i < 3 → f i = vfOf (V i)) (k : Nat) (b : ByteArray) : ∀ i, i < 3 → okF (updf f k (lateF (f k) b) i) (updV V k b.data.toList i) := by
  intro i hi
  unfold updf updV
  by_cases e : i = k
  · rw [if_pos e, if_pos e]; exact .inr ⟨rfl, rfl, (bs_of b).symm⟩
  · rw [if_neg e, if_neg e]; exact ok_same h i hi
/-- a variable that holds a deed -/
def Db (w : World) (g : Nat) (id : Int) (val : ByteArray) (arm : Bool) (lf : Int) (jk : ByteArray) (bv : Value) : Prop := w.heap[g]? = some (.cells #[.int .i64 id, .string val, .bool arm, .int .i64 lf, .string jk, bv] 47 (0, 0))
theorem Db.at {w : World} {g : Nat} {id : Int} {val : ByteArray} {arm : Bool} {lf : Int} {jk : ByteArray} {bv : Value} (h : Db w g id val arm lf jk bv) (i : Nat) (v : Value) (hc : (#[.int .i64 id, .string val, .bool arm, .int .i64 lf, .string jk, bv] : Array Value)[i]? = some v) : w.cell? ⟨g, i, none⟩ = some v := by
  unfold Db at h; simp [World.cell?, h, hc]
theorem Db.below {w w' : World} {g : Nat} {id : Int} {val : ByteArray} {arm : Bool} {lf : Int} {jk : ByteArray} {bv : Value} (h : Db w g id val arm lf jk bv) (hb : Below w.heap.size w w') : Db w' g id val arm lf jk bv := by
  unfold Db at h ⊢; rw [hb.block g (lt_of_block h), h]
theorem Db.kept {w w' : World} {g R : Nat} {id : Int} {val : ByteArray} {arm : Bool} {lf : Int} {jk : ByteArray} {bv : Value} (h : Db w g id val arm lf jk bv) (hk : Kept R w w') (hne : g ≠ R) : Db w' g id val arm lf jk bv := hk.other h hne
theorem Db.kep2 {w w' : World} {g R S : Nat} {id : Int} {val : ByteArray} {arm : Bool} {lf : Int} {jk : ByteArray} {bv : Value} (h : Db w g id val arm lf jk bv) (hk : Kep2 R S w w') (h1 : g ≠ R) (h2 : g ≠ S) : Db w' g id val arm lf jk bv := hk.other h h1 h2
/-- a put that left a store -/
theorem KeW.put {w : World} {R S K : Nat} {σ τ : St} {s s' : Sv} {V V' : Vl} {f : Nat → Vf} {wx wy : World} (h : KeW w R S K σ s V f wx) (hk : Kep2 R S wx wy) (hF : Fl wy R τ) (hS : So wy S (fp R) s'.ac s'.tu s'.en s'.k) (hL : Live τ.C s' V') (ho : On τ) : KeW w R S K τ s' V' f wy :=
  ⟨Kep2.toBelow h.bel hk h.bel.size h.ge.1 h.ge.2.1, hF, hS, h.kn.kep2 hk h.ne.1 h.ne.2.2, hL, ho, h.ge, h.ne⟩
theorem new_live (τ0 : St) (s : Sv) (h : bootS (onS (st0 (List.replicate 8192 255))) = (τ0, some s)) : Live τ0.C s noV := by
  have hl : (onS (st0 (List.replicate 8192 255))).C.length = 8192 := by show (List.replicate 8192 (255 : UInt8)).length = 8192; rw [List.length_replicate]
  have g : ∀ j, j < 8192 → (onS (st0 (List.replicate 8192 255))).C.getD j 0 = 255 := fun j hj => by
    show (List.replicate 8192 (255 : UInt8)).getD j 0 = 255
    rw [List.getD, List.getElem?_replicate, if_pos hj]; rfl
  generalize onS (st0 (List.replicate 8192 255)) = σ at h hl g
  unfold bootS at h
  split at h
  · injection h with _ h; cases h
  · have h0 : (secL σ.C 0).getD 0 0 = 255 := by rw [sec_at σ.C hl 0 (by omega) 0 (by omega)]; exact g _ (by omega)
    have h1 : (secL σ.C 1).getD 0 0 = 255 := by rw [sec_at σ.C hl 1 (by omega) 0 (by omega)]; exact g _ (by omega)
    rw [h0, h1, if_pos (by decide)] at h
    refine fmt_live hl τ0 s ?_
    rw [g 4096 (by omega)]
    exact h
end Go.Proofs.Ytcjahdgppnmdkaa
