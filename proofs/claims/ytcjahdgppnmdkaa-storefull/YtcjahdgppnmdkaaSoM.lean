/- The store: what its functions answer, over plain lists. -/
import Derived.Test.YtcjahdgppnmdkaaNo7
set_option maxRecDepth 100000
namespace Go.Proofs.Ytcjahdgppnmdkaa
open Go.RowKit Go.Great

/-- where a value lies -/
structure Sg where
  th : Bool
  lo : Nat
  n : Nat
def sgz : Sg := ⟨false, 0, 0⟩
abbrev Kp := Nat → Sg
def kz : Kp := fun _ => sgz
def upd (k : Kp) (i : Nat) (v : Sg) : Kp := fun j => if j = i then v else k j
theorem upd_at (k : Kp) (i : Nat) (v : Sg) : upd k i v i = v := if_pos rfl
theorem upd_ne (k : Kp) {i j : Nat} (v : Sg) (h : j ≠ i) : upd k i v j = k j := if_neg h
/-- codes -/
def turnI (b : UInt8) : Int := if b = 15 then 0 else if b = 51 then 1 else if b = 85 then 2 else -1
def codeN (t : Nat) : UInt8 := [15, 51, 85].getD t 0
def folN (t : Nat) : Nat := (t + 1) % 3
def actI (a b : UInt8) : Int := ([[(-1 : Int), 1, 1, 1], [0, 0, 1, 0], [0, 0, 0, 1], [0, 1, 0, 0]].getD (1 + turnI a).toNat []).getD (1 + turnI b).toNat 0
/-- records -/
def blankB (l : List UInt8) (a : Nat) : Bool := (l.drop a).all (fun b => b == 255)
def lenAt (l : List UInt8) (a : Nat) : Nat := (l.getD (a + 1) 0).toNat + 256 * (l.getD (a + 2) 0).toNat
def wholeB (l : List UInt8) (a : Nat) : Bool := decide (a + 4 ≤ l.length) && decide ((l.getD a 0).toNat < 3) && decide (lenAt l a ≤ 2000) && decide (a + 4 + lenAt l a ≤ l.length) && (l.getD (a + 3 + lenAt l a) 0 == 0)
def idAt (l : List UInt8) (a : Nat) : Nat := (l.getD a 0).toNat
def sgAt (l : List UInt8) (a : Nat) : Sg := ⟨true, a + 3, lenAt l a⟩
def rd (l : List UInt8) : Nat → Nat → Kp → Kp × Nat × Bool
  | 0, a, k => (k, a, true)
  | f + 1, a, k => if blankB l a then (k, a, true) else if wholeB l a then rd l f (a + 4 + lenAt l a) (upd k (idAt l a) (sgAt l a)) else (k, a, false)
def szK (k : Kp) (i : Nat) : Nat := if (k i).th then 4 + (k i).n else 0
def sizeK (k : Kp) : Nat := szK k 0 + szK k 1 + szK k 2
/-- what lies within e -/
def KOk (k : Kp) (e : Nat) : Prop := (∀ i, (k i).th = true → (k i).lo + (k i).n + 1 ≤ e ∧ (k i).n ≤ 2000) ∧ 1 + sizeK k ≤ e
theorem wholeB_true {l : List UInt8} {a : Nat} (h : wholeB l a = true) : a + 4 ≤ l.length ∧ idAt l a < 3 ∧ lenAt l a ≤ 2000 ∧ a + 4 + lenAt l a ≤ l.length ∧ l.getD (a + 3 + lenAt l a) 0 = 0 := by
  unfold wholeB at h
  simp only [Bool.and_eq_true, decide_eq_true_eq, beq_iff_eq] at h
  exact ⟨h.1.1.1.1, h.1.1.1.2, h.1.1.2, h.1.2, h.2⟩
theorem szK_upd (k : Kp) (i j : Nat) (a n : Nat) : szK (upd k i ⟨true, a, n⟩) j = if j = i then 4 + n else szK k j := by
  unfold szK upd
  by_cases h : j = i
  · simp [h]
  · simp [h]
theorem sizeK_upd (k : Kp) (i : Nat) (hi : i < 3) (a n : Nat) : sizeK (upd k i ⟨true, a, n⟩) + szK k i = sizeK k + 4 + n := by
  unfold sizeK
  rw [szK_upd, szK_upd, szK_upd]
  obtain rfl | rfl | rfl : i = 0 ∨ i = 1 ∨ i = 2 := by omega
  all_goals simp; omega
theorem KOk.upd {k : Kp} {e : Nat} (h : KOk k e) (i : Nat) (hi : i < 3) (n : Nat) (hn : n ≤ 2000) : KOk (upd k i ⟨true, e + 3, n⟩) (e + 4 + n) := by
  refine ⟨fun j hj => ?_, ?_⟩
  · by_cases c : j = i
    · subst c
      rw [upd_at] at hj ⊢
      exact ⟨by show e + 3 + n + 1 ≤ _; omega, hn⟩
    · rw [upd_ne _ _ c] at hj ⊢
      have := h.1 j hj
      omega
  · have := sizeK_upd k i hi (e + 3) n
    have := h.2
    omega
theorem rd_ok (l : List UInt8) : ∀ (f a : Nat) (k : Kp), a ≤ l.length → KOk k a → a ≤ (rd l f a k).2.1 ∧ (rd l f a k).2.1 ≤ l.length ∧ KOk (rd l f a k).1 (rd l f a k).2.1 := by
  intro f
  induction f with
  | zero => intro a k h1 h2; exact ⟨Nat.le_refl _, h1, h2⟩
  | succ f ih =>
    intro a k h1 h2
    rw [rd]
    by_cases hb : blankB l a = true
    · rw [if_pos hb]; exact ⟨Nat.le_refl _, h1, h2⟩
    · rw [if_neg hb]
      by_cases hw : wholeB l a = true
      · rw [if_pos hw]
        obtain ⟨c1, c2, c3, c4, c5⟩ := wholeB_true hw
        obtain ⟨i1, i2, i3⟩ := ih (a + 4 + lenAt l a) (upd k (idAt l a) (sgAt l a)) c4 (h2.upd _ c2 _ c3)
        exact ⟨by omega, i2, i3⟩
      · rw [if_neg hw]; exact ⟨Nat.le_refl _, h1, h2⟩
theorem KOk.kz : KOk kz 1 := ⟨fun i h => by simp [Go.Proofs.Ytcjahdgppnmdkaa.kz, sgz] at h, by show 1 + 0 ≤ 1; omega⟩
theorem blankB_iff (l : List UInt8) (a : Nat) : blankB l a = true ↔ ∀ j, a ≤ j → j < l.length → l.getD j 0 = 255 := by
  unfold blankB
  rw [List.all_eq_true]
  constructor
  · intro h j h1 h2
    have := h (l[j]) (by
      rw [List.mem_iff_getElem]
      exact ⟨j - a, by rw [List.length_drop]; omega, by rw [List.getElem_drop]; congr 1; omega⟩)
    rw [getD_at _ _ h2]
    simpa using this
  · intro h x hx
    rw [List.mem_iff_getElem] at hx
    obtain ⟨i, hi, rfl⟩ := hx
    rw [List.length_drop] at hi
    rw [List.getElem_drop]
    have := h (a + i) (by omega) (by omega)
    rw [getD_at _ _ (by omega)] at this
    simpa using this
/-- a record's bytes -/
def recB (i : Nat) (t : List UInt8) : List UInt8 := UInt8.ofNat i :: UInt8.ofNat t.length :: UInt8.ofNat (t.length / 256) :: (t ++ [0])
theorem recB_length (i : Nat) (t : List UInt8) : (recB i t).length = 4 + t.length := by simp [recB]; omega
/-- what a move writes of object i -/
def txt (C : List UInt8) (ac : Nat) (s : Sg) : List UInt8 := (C.drop (ac * 4096 + s.lo)).take s.n
def mvL (C : List UInt8) (ac : Nat) (k : Kp) (id : Int) (v : List UInt8) (i : Nat) : Option (List UInt8) :=
  if (i : Int) = id then some v else if (k i).th then some (txt C ac (k i)) else none
/-- a flash, and a store's end and records -/
structure Mv where
  σ : St
  en : Nat
  k : Kp
/-- a record that is added in sector s -/
def addS (s i : Nat) (t : List UInt8) (m : Mv) : Mv × Bool :=
  if (progS m.σ (s * 4096 + m.en) (recB i t)).2 then (⟨(progS m.σ (s * 4096 + m.en) (recB i t)).1, m.en + 4 + t.length, upd m.k i ⟨true, m.en + 3, t.length⟩⟩, true)
  else (⟨(progS m.σ (s * 4096 + m.en) (recB i t)).1, m.en, m.k⟩, false)
def step1 (ac : Nat) (k : Kp) (id : Int) (v : List UInt8) (i : Nat) (m : Mv) : Mv × Bool :=
  match mvL m.σ.C ac k id v i with
  | none => (m, true)
  | some t => addS (1 - ac) i t m
def eachS (ac : Nat) (k : Kp) (id : Int) (v : List UInt8) : Nat → Nat → Mv → Mv × Bool
  | _, 0, m => (m, true)
  | i, n + 1, m => if (step1 ac k id v i m).2 then eachS ac k id v (i + 1) n (step1 ac k id v i m).1 else ((step1 ac k id v i m).1, false)
/-- a store -/
structure Sv where
  ac : Nat
  tu : Nat
  en : Nat
  k : Kp
def moveS (σ : St) (s : Sv) (id : Int) (v : List UInt8) : St × Option Sv :=
  if (eraseS σ (1 - s.ac)).2 then
    if (eachS s.ac s.k id v 0 3 ⟨(eraseS σ (1 - s.ac)).1, 1, kz⟩).2 then
      if (progS (eachS s.ac s.k id v 0 3 ⟨(eraseS σ (1 - s.ac)).1, 1, kz⟩).1.σ ((1 - s.ac) * 4096) [codeN (folN s.tu)]).2 then
        ((progS (eachS s.ac s.k id v 0 3 ⟨(eraseS σ (1 - s.ac)).1, 1, kz⟩).1.σ ((1 - s.ac) * 4096) [codeN (folN s.tu)]).1, some ⟨1 - s.ac, folN s.tu, (eachS s.ac s.k id v 0 3 ⟨(eraseS σ (1 - s.ac)).1, 1, kz⟩).1.en, (eachS s.ac s.k id v 0 3 ⟨(eraseS σ (1 - s.ac)).1, 1, kz⟩).1.k⟩)
      else ((progS (eachS s.ac s.k id v 0 3 ⟨(eraseS σ (1 - s.ac)).1, 1, kz⟩).1.σ ((1 - s.ac) * 4096) [codeN (folN s.tu)]).1, none)
    else ((eachS s.ac s.k id v 0 3 ⟨(eraseS σ (1 - s.ac)).1, 1, kz⟩).1.σ, none)
  else ((eraseS σ (1 - s.ac)).1, none)
/-- a flash without a code -/
def fmt2 (σ : St) : St × Option Sv :=
  if (eraseS σ 0).2 then ((progS (eraseS σ 0).1 0 [15]).1, if (progS (eraseS σ 0).1 0 [15]).2 then some ⟨0, 0, 1, kz⟩ else none)
  else ((eraseS σ 0).1, none)
def fmtS (σ : St) (b : UInt8) : St × Option Sv :=
  if b = 255 then fmt2 σ else if (eraseS σ 1).2 then fmt2 (eraseS σ 1).1 else ((eraseS σ 1).1, none)
def secL (C : List UInt8) (s : Nat) : List UInt8 := (C.drop (s * 4096)).take 4096
/-- the store that an image's active sector holds -/
def svOf (C : List UInt8) (ac : Nat) : Sv × Bool :=
  (⟨ac, (turnI ((secL C ac).getD 0 0)).toNat, (rd (secL C ac) 4096 1 kz).2.1, (rd (secL C ac) 4096 1 kz).1⟩, (rd (secL C ac) 4096 1 kz).2.2)
def bootIn (σ : St) (ac : Nat) : St × Option Sv :=
  if (svOf σ.C ac).2 then
    if (secL σ.C (1 - ac)).getD 0 0 ≠ 255 ∧ turnI ((secL σ.C (1 - ac)).getD 0 0) = -1 then ((eraseS σ (1 - ac)).1, if (eraseS σ (1 - ac)).2 then some (svOf σ.C ac).1 else none)
    else (σ, some (svOf σ.C ac).1)
  else moveS σ (svOf σ.C ac).1 (-1) []
/-- what Boot leaves; no store: ErrPower -/
def bootS (σ : St) : St × Option Sv :=
  if σ.off then (σ, none)
  else if actI ((secL σ.C 0).getD 0 0) ((secL σ.C 1).getD 0 0) = -1 then fmtS σ ((secL σ.C 1).getD 0 0)
  else bootIn σ (actI ((secL σ.C 0).getD 0 0) ((secL σ.C 1).getD 0 0)).toNat
def needN (k : Kp) (i n : Nat) : Nat := 5 + n + (if 0 ≠ i ∧ (k 0).th then 4 + (k 0).n else 0) + (if 1 ≠ i ∧ (k 1).th then 4 + (k 1).n else 0) + (if 2 ≠ i ∧ (k 2).th then 4 + (k 2).n else 0)
/-- what Put leaves of a store that does not stand -/
def putS (σ : St) (s : Sv) (id : Int) (v : List UInt8) : St × Option Sv × Int :=
  if ¬ (0 ≤ id ∧ id < 3) ∨ 2000 < v.length then (σ, some s, 1)
  else if 4096 < needN s.k id.toNat v.length then (σ, some s, 70)
  else if s.en + 4 + v.length ≤ 4096 then
    if (addS s.ac id.toNat v ⟨σ, s.en, s.k⟩).2 then ((addS s.ac id.toNat v ⟨σ, s.en, s.k⟩).1.σ, some ⟨s.ac, s.tu, (addS s.ac id.toNat v ⟨σ, s.en, s.k⟩).1.en, (addS s.ac id.toNat v ⟨σ, s.en, s.k⟩).1.k⟩, 0)
    else ((addS s.ac id.toNat v ⟨σ, s.en, s.k⟩).1.σ, none, 60)
  else ((moveS σ s id v).1, (moveS σ s id v).2, if (moveS σ s id v).2.isSome then 0 else 60)
def getS (C : List UInt8) (s : Sv) (id : Int) : Option (List UInt8) :=
  if 0 ≤ id ∧ id < 3 ∧ (s.k id.toNat).th then some (txt C s.ac (s.k id.toNat)) else none
end Go.Proofs.Ytcjahdgppnmdkaa
