/- Points on segments, sides to the right, lists of points that may be; Orient, Meet, Far. -/
import Derived.Test.YtohepelnbmojiaaGeB
namespace Go.Proofs.Ytohepelnbmojiaa
open Go.RowKit Go.Great

set_option maxHeartbeats 1000000 in
theorem on_any (a b p : Pt) (ha : Fit a) (hb : Fit b) (hp : Fit p) (w : World) : Calls Try.prog 48 #[sV a b, pV p] w fun e w' => e = .returned (.bool (meetB a b p p)) ∧ Below w.heap.size w w' := by
  have m := meet_any a b p p ha hb hp hp
  generalize meetB a b p p = x at m ⊢
  obtain ⟨ax, ay⟩ := a
  obtain ⟨bx, by'⟩ := b
  obtain ⟨px, py⟩ := p
  clear ha hb hp
  simp only [sV, pV] at *
  go_enter Try.func48, Try.ntmps48
  go_wp2_with fail
  refine (m _).mono ?_
  rintro e w1 ⟨rfl, hb⟩
  go_wp2_with fail
  go_ret
  exact ⟨rfl, below_next (b2 _ _ _) (Nat.le_refl _) hb⟩
set_option maxHeartbeats 1000000 in
theorem foldsBack_any (a b c d : Pt) (ha : Fit a) (hb : Fit b) (hc : Fit c) (hd : Fit d) (w : World) : Calls Try.prog 56 #[sV a b, sV c d] w fun e w' => e = .returned (.bool (meetB a b d d || meetB c d a a)) ∧ Below w.heap.size w w' := by
  have m1 := on_any a b d ha hb hd
  have m2 := on_any c d a hc hd ha
  generalize meetB a b d d = x1 at m1 ⊢
  generalize meetB c d a a = x2 at m2 ⊢
  obtain ⟨ax, ay⟩ := a
  obtain ⟨bx, by'⟩ := b
  obtain ⟨cx, cy⟩ := c
  obtain ⟨dx, dy⟩ := d
  clear ha hb hc hd
  simp only [sV, pV] at *
  go_enter Try.func56, Try.ntmps56
  go_wp2_with fail
  obtain ⟨W0, hW0, hB, B1, B2, hz⟩ := two_boxes w #[.int .i64 ax, .int .i64 ay, .int .i64 bx, .int .i64 by'] #[.int .i64 cx, .int .i64 cy, .int .i64 dx, .int .i64 dy] 60 60
  rw [hW0]
  refine (m1 _).mono ?_
  rintro e w1 ⟨rfl, hb⟩
  have hz1 := hb.size
  have B1' := B1.below hb B1.lt
  have B2' := B2.below hb B2.lt
  have a0 := B1'.cell 0 rfl
  have a1 := B1'.cell 1 rfl
  have c0 := B2'.cell 0 rfl
  have c1 := B2'.cell 1 rfl
  have c2 := B2'.cell 2 rfl
  have c3 := B2'.cell 3 rfl
  have hb1 := below_next hB (Nat.le_refl _) hb
  clear hW0 B1 B2 B1' B2' hB hb
  cases x1
  · go_wp2_with fail
    refine (m2 _).mono ?_
    rintro e w2 ⟨rfl, hb2⟩
    go_wp2_with fail
    go_ret
    exact ⟨by simp, below_next hb1 (Nat.le_refl _) hb2⟩
  · go_wp2_with fail
    go_ret
    exact ⟨by simp, hb1⟩
/-- a side lies across the ray from a point to the right -/
def upB (a b p : Pt) : Bool := decide (a.2 ≤ p.2) && decide (p.2 < b.2) && decide (0 < cross a b p)
def rightB (a b p : Pt) : Bool := if b.2 < a.2 then upB b a p else upB a b p
theorem sg_pos (n : Int) : decide (0 < sg n) = decide (0 < n) := by
  unfold sg
  split
  · simp [*]
  · split <;> simp [*]
set_option maxHeartbeats 2000000 in
theorem isRightOf_any (a b p : Pt) (ha : Fit a) (hb : Fit b) (hp : Fit p) (w : World) : Calls Try.prog 49 #[sV a b, pV p] w fun e w' => e = .returned (.bool (rightB a b p)) ∧ Below w.heap.size w w' := by
  have t1 := turn_any a b p ha hb hp
  have t2 := turn_any b a p hb ha hp
  unfold rightB upB
  rw [← sg_pos (cross a b p), ← sg_pos (cross b a p)]
  generalize sg (cross a b p) = x1 at t1 ⊢
  generalize sg (cross b a p) = x2 at t2 ⊢
  obtain ⟨ax, ay⟩ := a
  obtain ⟨bx, by'⟩ := b
  obtain ⟨px, py⟩ := p
  clear ha hb hp
  simp only [sV, pV] at *
  go_enter Try.func49, Try.ntmps49
  by_cases h : by' < ay
  · rw [if_pos h]
    go_wp2_with (go_at_call 35; refine (t2 _).mono ?_; rintro e w1 ⟨rfl, hb⟩)
    all_goals (go_ret; refine ⟨ret_bool ?_, ?_⟩)
    all_goals first
      | (rw [Bool.eq_iff_iff]; simp only [Bool.and_eq_true, decide_eq_true_eq, Bool.false_eq_true]; omega)
      | exact b2 _ _ _
      | exact below_next (b2 _ _ _) (Nat.le_refl _) hb
      | (simp; omega)
  · rw [if_neg h]
    go_wp2_with (go_at_call 35; refine (t1 _).mono ?_; rintro e w1 ⟨rfl, hb⟩)
    all_goals (go_ret; refine ⟨ret_bool ?_, ?_⟩)
    all_goals first
      | (rw [Bool.eq_iff_iff]; simp only [Bool.and_eq_true, decide_eq_true_eq, Bool.false_eq_true]; omega)
      | exact b2 _ _ _
      | exact below_next (b2 _ _ _) (Nat.le_refl _) hb
      | (simp; omega)
/-- a slice of points, as it reads -/
def Pts (w : World) (v : Value) (l : List Pt) : Prop :=
  ∃ a cap, v = .slice a l.length cap ∧ (0 < l.length → ∃ g o, a = some ⟨g, o, none⟩ ∧ g < w.heap.size ∧ ∀ i, i < l.length → w.cell? ⟨g, o + i * 2, none⟩ = some (.int .i64 (l.getD i (0, 0)).1) ∧ w.cell? ⟨g, o + i * 2 + 1, none⟩ = some (.int .i64 (l.getD i (0, 0)).2))
theorem Pts.below {w w' : World} {v : Value} {l : List Pt} (h : Pts w v l) (hb : Below w.heap.size w w') : Pts w' v l := by
  obtain ⟨a, cap, e, h1⟩ := h
  refine ⟨a, cap, e, fun h0 => ?_⟩
  obtain ⟨g, o, e2, hg, hc⟩ := h1 h0
  have hs := hb.size
  exact ⟨g, o, e2, by omega, fun i hi => ⟨(hb.cell (p := ⟨g, o + i * 2, none⟩) hg).trans (hc i hi).1, (hb.cell (p := ⟨g, o + i * 2 + 1, none⟩) hg).trans (hc i hi).2⟩⟩
def fitB (p : Pt) : Bool := inB (-536870912, 536870912) (-536870912, 536870912) p
theorem fit_of {p : Pt} (h : fitB p = true) : Fit p := by
  simp [fitB, inB] at h
  exact ⟨by omega, by omega, by omega, by omega⟩
theorem fit_iff (p : Pt) : fitB p = true ↔ Fit p := by
  constructor
  · exact fit_of
  · intro h
    obtain ⟨h1, h2, h3, h4⟩ := h
    simp [fitB, inB]
    omega
theorem all_at {l : List Pt} {f : Pt → Bool} : (∀ j, j < l.length → f (l.getD j (0, 0)) = true) → l.all f = true := by
  intro h
  rw [List.all_eq_true]
  intro x hx
  obtain ⟨j, hj, rfl⟩ := List.getElem_of_mem hx
  have := h j hj
  rwa [List.getD, List.getElem?_eq_getElem hj] at this
theorem at_all {l : List Pt} {f : Pt → Bool} (h : l.all f = true) {j : Nat} (hj : j < l.length) : f (l.getD j (0, 0)) = true := by
  rw [List.getD, List.getElem?_eq_getElem hj]
  exact List.all_eq_true.1 h _ (List.getElem_mem hj)
theorem all_not {l : List Pt} {f : Pt → Bool} {j : Nat} (hj : j < l.length) (h : f (l.getD j (0, 0)) = false) : l.all f = false := by
  cases e : l.all f with
  | false => rfl
  | true => rw [at_all e hj] at h; cases h
set_option maxHeartbeats 2000000 in
theorem mayBe_any (l : List Pt) (v : Value) (w : World) (hv : Pts w v l) (hl : l.length ≤ 4611686018427387904) : Calls Try.prog 34 #[v] w fun e w' => e = .returned (.bool (l.all fitB)) ∧ Below w.heap.size w w' := by
  obtain ⟨a, cap, rfl, hc⟩ := hv
  obtain ⟨n, hn⟩ : ∃ n, l.length = n := ⟨_, rfl⟩
  have HA := hide hc
  have HN := hide hn
  rw [hn] at hl ⊢
  clear hc hn
  have HH := fun x => holds_any (-536870912, 536870912) (-536870912, 536870912) x
  simp only [pV] at HH
  go_enter Try.func34, Try.ntmps34
  go_wp2_with fail
  have hb0 : Blk (w.alloc (.cells #[.int .i64 (-536870912), .int .i64 536870912] 44)) w.heap.size #[.int .i64 (-536870912), .int .i64 536870912] 44 := Blk.new _ _ _
  go_loopw [9] (fun i wx => ∃ k : Nat, k ≤ n ∧ i = .int .i64 k ∧ Hid (∀ j, j < k → fitB (l.getD j (0, 0)) = true) ∧ Below w.heap.size w wx ∧ Hid (Blk wx w.heap.size #[.int .i64 (-536870912), .int .i64 536870912] 44)) (fun i _ => n - (intOf i).toNat)
  case atStart => exact ⟨0, by omega, rfl, hide (by intro j h; omega), below_alloc _ _, hide hb0⟩
  case round =>
    obtain ⟨k, hk, rfl, hf, hb, hB⟩ := hrel
    by_cases hlt : k < n
    · obtain ⟨g, o, rfl, hg, hcc⟩ := HA.out (by rw [HN.out]; omega)
      obtain ⟨c0, c1⟩ := hcc k (by rw [HN.out]; exact hlt)
      have d0 := (hb.cell (p := ⟨g, o + k * 2, none⟩) hg).trans c0
      have d1 := (hb.cell (p := ⟨g, o + k * 2 + 1, none⟩) hg).trans c1
      have s0 := hB.out.cell 0 rfl
      have s1 := hB.out.cell 1 rfl
      have hsz := hb.size
      have HP := HH (l.getD k (0, 0))
      have HE : Hid (fitB (l.getD k (0, 0)) = inB (-536870912, 536870912) (-536870912, 536870912) (l.getD k (0, 0))) := rfl
      have hB2 := hB.out.lt
      generalize inB (-536870912, 536870912) (-536870912, 536870912) (l.getD k (0, 0)) = r at HP HE
      generalize (l.getD k (0, 0)).1 = x at HP d0
      generalize (l.getD k (0, 0)).2 = y at HP d1
      clear c0 c1 hcc HA HH hb0
      cases r
      · go_wp2_with (go_at_call 51; refine (HP _).mono ?_; rintro e w1 ⟨rfl, hb1⟩)
        go_ret
        refine ⟨ret_bool ?_, ?_⟩
        · exact (all_not (by rw [HN.out]; exact hlt) HE.out).symm
        · exact below_next (below_next hb (Nat.le_refl _) (below_alloc _ _)) (Nat.le_refl _) hb1
      · go_wp2_with (go_at_call 51; refine (HP _).mono ?_; rintro e w1 ⟨rfl, hb1⟩)
        go_roundw
        case rel =>
          have hb2 := below_next (below_next (Below.refl _ _) (Nat.le_refl _) (below_alloc _ _)) (Nat.le_refl _) hb1
          exact ⟨k + 1, by omega, by go_num, hide (fun j hj => by
            by_cases e : j = k
            · rw [e]; exact HE.out
            · exact hf.out j (by omega)), below_next hb (Nat.le_refl _) hb2, hide (hB.out.below hb2 hB2)⟩
        case measure => simp [intOf]; omega
    · go_wp2_with fail
      go_ret
      obtain rfl : k = n := by omega
      exact ⟨ret_bool (all_at (fun j hj => hf.out j (by rw [← HN.out]; exact hj))).symm, hb⟩
/-- points that were laid as a slice -/
theorem pts_new {W : World} {g : Nat} {cs : Array Value} {t : TypeId} (h : Blk W g cs t) (l : List Pt) (hcs : cs = (l.flatMap fun p => [Value.int .i64 p.1, .int .i64 p.2]).toArray) (n c : Nat) (hn : n = l.length) : Pts W (.slice (some ⟨g, 0, none⟩) n c) l := by
  subst hn
  refine ⟨_, c, rfl, fun _ => ⟨g, 0, rfl, h.lt, fun i hi => ?_⟩⟩
  have key : ∀ (l : List Pt) (i : Nat), i < l.length → (l.flatMap fun p => [Value.int .i64 p.1, .int .i64 p.2])[i * 2]? = some (.int .i64 (l.getD i (0, 0)).1) ∧ (l.flatMap fun p => [Value.int .i64 p.1, .int .i64 p.2])[i * 2 + 1]? = some (.int .i64 (l.getD i (0, 0)).2) := by
    intro l
    induction l with
    | nil => intro i h; simp at h
    | cons p l ih =>
      intro i h
      cases i with
      | zero => simp
      | succ i =>
        have := ih i (by simpa using h)
        rw [show (i + 1) * 2 = i * 2 + 1 + 1 by omega]
        simpa using this
  have := key l i hi
  subst hcs
  exact ⟨h.cell _ (by rw [Nat.zero_add, List.getElem?_toArray]; exact this.1), h.cell _ (by rw [Nat.zero_add, List.getElem?_toArray]; exact this.2)⟩
/-- blocks that are laid one behind the other -/
def lay : World → List (Array Value × TypeId) → World
  | w, [] => w
  | w, x :: r => lay (w.alloc (.cells x.1 x.2)) r
theorem lay_below : ∀ (l : List (Array Value × TypeId)) (w : World), Below w.heap.size w (lay w l)
  | [], _ => Below.refl _ _
  | _ :: r, w => below_over (lay_below r (w.alloc _))
theorem lay_size : ∀ (l : List (Array Value × TypeId)) (w : World), (lay w l).heap.size = w.heap.size + l.length
  | [], _ => rfl
  | _ :: r, w => by rw [lay, lay_size r, size_alloc]; simp; omega
theorem lay_blk : ∀ (l : List (Array Value × TypeId)) (w : World) (i : Nat) (A : Array Value) (t : TypeId), l[i]? = some (A, t) → Blk (lay w l) (w.heap.size + i) A t
  | [], _, _, _, _, h => by simp at h
  | x :: r, w, 0, A, t, h => by
    simp at h
    subst h
    exact (Blk.new w A t).below (lay_below r _) (by simp)
  | x :: r, w, i + 1, A, t, h => by
    have := lay_blk r (w.alloc (.cells x.1 x.2)) i A t (by simpa using h)
    rw [size_alloc] at this
    rw [show w.heap.size + (i + 1) = w.heap.size + 1 + i by omega]
    exact this
theorem Blk.after {W W1 : World} {B : Nat} {cs : Array Value} {t : TypeId} (h : Blk W B cs t) (hb : Below W.heap.size W W1) : Blk W1 B cs t := h.below hb h.lt
end Go.Proofs.Ytohepelnbmojiaa
