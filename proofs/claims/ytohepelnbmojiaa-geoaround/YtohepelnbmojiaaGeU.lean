/- Pure: the turned list's sides stand in the list as 'Same' asks. -/
import Derived.Test.YtohepelnbmojiaaGeR
namespace Go.Proofs.Ytohepelnbmojiaa

theorem nxt_mod (m i k : Nat) : (nxt m i + k) % m = nxt m ((i + k) % m) := by
  unfold nxt
  rw [Nat.mod_add_mod, Nat.mod_add_mod]
  congr 1
  omega
theorem nxt_pair {m i j : Nat} (hi : i < m) (hj : j < m) : nxt m (m - 1 - nxt m i) = m - 1 - i ∧ (j = nxt m i ↔ m - 1 - i = nxt m (m - 1 - j)) := by
  by_cases a : i + 1 < m
  · rw [nxt_succ a, nxt_succ (show m - 1 - (i + 1) + 1 < m by omega)]
    refine ⟨by omega, ?_⟩
    by_cases b : j = 0
    · rw [b, nxt_last (by omega)]; omega
    · rw [nxt_succ (by omega)]; omega
  · rw [nxt_last (show i + 1 = m by omega), nxt_last (show m - 1 - 0 + 1 = m by omega)]
    refine ⟨by omega, ?_⟩
    by_cases b : j = 0
    · rw [b, nxt_last (by omega)]; omega
    · rw [nxt_succ (by omega)]; omega
theorem add_mod_inj {m k i j : Nat} (hi : i < m) (hj : j < m) (h : (i + k) % m = (j + k) % m) : i = j := by
  have e : ∀ x, x < m → (x + k) % m = if x + k % m < m then x + k % m else x + k % m - m := fun x hx => by
    rw [← Nat.add_mod_mod]
    have := Nat.mod_lt k (show 0 < m by omega)
    split
    · exact Nat.mod_eq_of_lt (by omega)
    · rw [Nat.mod_eq_sub_mod (by omega)]; exact Nat.mod_eq_of_lt (by omega)
  have := Nat.mod_lt k (show 0 < m by omega)
  rw [e i hi, e j hj] at h
  split at h <;> split at h <;> omega
theorem add_mod_surj {m k j : Nat} (hj : j < m) : ∃ i, i < m ∧ (i + k) % m = j := by
  refine ⟨(j + (m - k % m)) % m, Nat.mod_lt _ (by omega), ?_⟩
  have := Nat.mod_lt k (show 0 < m by omega)
  rw [Nat.mod_add_mod, ← Nat.add_mod_mod, show j + (m - k % m) + k % m = j + m by omega, Nat.add_mod_right, Nat.mod_eq_of_lt hj]
theorem trnL_pt (l : List Pt) (k : Nat) (back : Bool) {n i : Nat} (hi : i < n) : pt (trnL l k back n) i = pt l (trnJ l.length k back i) := by
  have e : ∀ (l : List Pt) i, pt l i = l.getD i (0, 0) := fun _ _ => rfl
  rw [e, trnL, List.getD_eq_getElem?_getD, List.getElem?_map, List.getElem?_range hi]
  rfl
theorem same_on (l : List Pt) (k : Nat) : Same l (trnL l k false l.length) l.length (fun i => (i + k) % l.length) false where
  lt := fun i hi => Nat.mod_lt _ (by omega)
  on := fun j hj => add_mod_surj hj
  inj := fun i j hi hj h => add_mod_inj hi hj h
  at0 := fun i hi => by rw [trnL_pt l k false hi]; rfl
  at1 := fun i hi => by
    rw [trnL_pt l k false (nxt_lt (by omega))]
    simp only [trnJ, Bool.false_eq_true, if_false]
    rw [nxt_mod]
  nx := fun i j hi hj => by
    simp only [Bool.false_eq_true, if_false]
    rw [← nxt_mod]
    exact ⟨fun h => by rw [h], fun h => add_mod_inj hj (nxt_lt (by omega)) h⟩
theorem same_back (l : List Pt) (k : Nat) : Same l (trnL l k true l.length) l.length (fun i => l.length - 1 - nxt l.length ((i + k) % l.length)) true where
  lt := fun i hi => by omega
  on := fun j hj => by
    obtain ⟨r, hr, e⟩ := nxt_surj (show l.length - 1 - j < l.length by omega)
    obtain ⟨i, hi, e'⟩ := add_mod_surj (k := k) hr
    exact ⟨i, hi, by simp only [e', e]; omega⟩
  inj := fun i j hi hj h => by
    have h0 : 0 < l.length := by omega
    have a := nxt_lt (k := (i + k) % l.length) h0
    have b := nxt_lt (k := (j + k) % l.length) h0
    have c : nxt l.length ((i + k) % l.length) = nxt l.length ((j + k) % l.length) := by
      have h' : l.length - 1 - nxt l.length ((i + k) % l.length) = l.length - 1 - nxt l.length ((j + k) % l.length) := h
      omega
    exact add_mod_inj hi hj (nxt_inj (Nat.mod_lt _ h0) (Nat.mod_lt _ h0) c)
  at0 := fun i hi => by
    rw [trnL_pt l k true hi]
    simp only [trnJ, if_true]
    rw [(nxt_pair (Nat.mod_lt (i + k) (show 0 < l.length by omega)) hi).1]
  at1 := fun i hi => by
    rw [trnL_pt l k true (nxt_lt (by omega))]
    simp only [trnJ, if_true]
    rw [nxt_mod]
  nx := fun i j hi hj => by
    have h0 : 0 < l.length := by omega
    have c := (nxt_pair (i := nxt l.length ((i + k) % l.length)) (j := nxt l.length ((j + k) % l.length)) (nxt_lt h0) (nxt_lt h0)).2
    simp only [if_true]
    rw [← c]
    constructor
    · intro h
      rw [h, nxt_mod]
    · intro h
      have := nxt_inj (Nat.mod_lt _ h0) (nxt_lt h0) h
      rw [← nxt_mod] at this
      exact add_mod_inj hj (nxt_lt h0) this
/-- the sides, in another order -/
theorem Same.perm {l l' : List Pt} {m : Nat} {t : Nat → Nat} {back : Bool} (S : Same l l' m t back) : List.Perm ((List.finRange m).map fun i => (⟨t i.1, S.lt i.1 i.2⟩ : Fin m)) (List.finRange m) := by
  refine (List.perm_ext_iff_of_nodup ?_ (List.nodup_finRange m)).2 ?_
  · refine List.Pairwise.map _ ?_ (List.nodup_finRange m)
    intro a b h e
    exact h (Fin.ext (S.inj a.1 b.1 a.2 b.2 (congrArg Fin.val e)))
  · intro a
    refine ⟨fun _ => List.mem_finRange _, fun _ => ?_⟩
    obtain ⟨i, hi, e⟩ := S.on a.1 a.2
    exact List.mem_map.2 ⟨⟨i, hi⟩, List.mem_finRange _, Fin.ext e⟩
theorem Same.par {l l' : List Pt} {m : Nat} {t : Nat → Nat} {back : Bool} (S : Same l l' m t back) (p : Pt) : parI l' m p (List.finRange m) = parI l m p (List.finRange m) := by
  have h := S.perm.foldl_eq' (f := fun (s : Int) (k : Fin m) => if rtK l m p k.1 then -s else s) (fun x _ y _ z => by
    by_cases a : rtK l m p x.1 = true <;> by_cases b : rtK l m p y.1 = true <;> simp [a, b]) (-1)
  unfold parI
  rw [← h, List.foldl_map]
  have e : ∀ (q : List (Fin m)) (s : Int), q.foldl (fun s k => if rtK l' m p k.1 then -s else s) s = q.foldl (fun s k => if rtK l m p (t k.1) then -s else s) s := fun q => by
    induction q with
    | nil => intro s; rfl
    | cons x q ih => intro s; rw [List.foldl_cons, List.foldl_cons, ih, S.rtk p x.2]
  exact e _ _
theorem Same.sid {l l' : List Pt} {m : Nat} {t : Nat → Nat} {back : Bool} (S : Same l l' m t back) (p : Pt) : sidI l' m p = sidI l m p := by
  unfold sidI
  rw [S.ons p, S.par p]
end Go.Proofs.Ytohepelnbmojiaa
