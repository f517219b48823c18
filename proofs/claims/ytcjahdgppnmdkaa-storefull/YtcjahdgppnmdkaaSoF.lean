/- Puts and gets where no cut is armed. -/
import Derived.Test.YtcjahdgppnmdkaaLwKe
set_option maxRecDepth 100000
namespace Go.Proofs.Ytcjahdgppnmdkaa
open Go.RowKit Go.Great

/-- a record's bytes -/
def szV (o : Option (List UInt8)) : Nat := match o with | some l => 4 + l.length | none => 0
/-- the bytes of all records -/
def needV (V : Vl) (i n : Nat) : Nat := 5 + n + (if 0 ≠ i then szV (V 0) else 0) + (if 1 ≠ i then szV (V 1) else 0) + (if 2 ≠ i then szV (V 2) else 0)
theorem Live.size {C : List UInt8} {s : Sv} {V : Vl} (h : Live C s V) (j : Nat) (hj : j < 3) : (if (s.k j).th then 4 + (s.k j).n else 0) = szV (V j) := by
  obtain ⟨g1, _, g3⟩ := h.en.kok (secL_len h.up.len h.up.a2)
  rw [h.val j hj]
  unfold cont
  by_cases e : (s.k j).th = true
  · rw [if_pos e, if_pos e]
    have := g3.1 j e
    show _ = 4 + (txt C s.ac (s.k j)).length
    rw [txt_len C h.up.len s.ac h.up.a2 (s.k j) (by omega)]
  · rw [if_neg e, if_neg e]; rfl
theorem Live.need {C : List UInt8} {s : Sv} {V : Vl} (h : Live C s V) (i n : Nat) : needN s.k i n = needV V i n := by
  unfold needN needV
  rw [← h.size 0 (by omega), ← h.size 1 (by omega), ← h.size 2 (by omega)]
  by_cases a : 0 ≠ i <;> by_cases b : 1 ≠ i <;> by_cases c : 2 ≠ i <;> simp [a, b, c]
theorem wri_free {σ : St} (h : σ.ar = false) (s : Sv) (i : Nat) (v : List UInt8) : (wriS σ s i v).2.isSome = true ∧ (wriS σ s i v).1.ar = false := by
  unfold wriS
  by_cases hc : s.en + 4 + v.length ≤ 4096
  · rw [if_pos hc]
    obtain ⟨a1, a2⟩ := addS_free (m := ⟨σ, s.en, s.k⟩) h s.ac i v
    rw [a1]
    exact ⟨rfl, a2⟩
  · rw [if_neg hc]
    exact moveS_free h s i v
/-- the world within StoreFull -/
structure FuW (w : World) (R S : Nat) (σ : St) (s : Sv) (V : Vl) (wx : World) : Prop where
  bel : Below w.heap.size w wx
  fl : Fl wx R σ
  so : So wx S (fp R) s.ac s.tu s.en s.k
  live : Live σ.C s V
  on : On σ
  ar : σ.ar = false
  ge : w.heap.size ≤ R ∧ w.heap.size ≤ S
theorem FuW.next {w : World} {R S : Nat} {σ : St} {s : Sv} {V : Vl} {wx wy : World} (h : FuW w R S σ s V wx) (hb : Below wx.heap.size wx wy) : FuW w R S σ s V wy :=
  ⟨below_next h.bel (Nat.le_refl _) hb, h.fl.below hb, h.so.below hb, h.live, h.on, h.ar, h.ge⟩
theorem full_put {w : World} {R S : Nat} {σ : St} {s : Sv} {V : Vl} {wx : World} (h : FuW w R S σ s V wx) (i : Nat) (hi : i < 3) (tv : ByteArray) (ht : tv.size ≤ 2000) (hn : needV V i tv.size ≤ 4096) : Calls Try.prog 21 #[fp S, .int .i64 (i : Int), .string tv] wx fun e w' => e = .returned (.int .i64 0) ∧ ∃ τ s', FuW w R S τ s' (updV V i tv.data.toList) w' := by
  refine (put_any wx S R σ h.on s h.live.ask h.fl h.so (i : Int) tv).mono ?_
  rintro e w' ⟨τ, o, r, rfl, hx, hF, hS, _, hk⟩
  have hl : tv.data.toList.length = tv.size := Array.length_toList
  have hn2 : needN s.k i tv.data.toList.length ≤ 4096 := by rw [h.live.need, hl]; exact hn
  rw [wri_put σ s i hi _ (by omega) hn2] at hx
  obtain ⟨f1, f2⟩ := wri_free h.ar s i tv.data.toList
  obtain ⟨w1, _⟩ := h.live.write i hi tv.data.toList (by omega) hn2
  have w3 := wri_on (s := s) (i := i) (v := tv.data.toList) h.on
  obtain ⟨⟨τ0, so⟩, hy⟩ : ∃ x, wriS σ s i tv.data.toList = x := ⟨_, rfl⟩
  rw [hy] at hx f1 f2
  cases so with
  | none => cases f1
  | some s' =>
    simp only [Option.isSome_some, if_true, Prod.mk.injEq] at hx
    obtain ⟨rfl, rfl, rfl⟩ := hx
    exact ⟨rfl, τ0, s', Kep2.toBelow h.bel hk h.bel.size h.ge.1 h.ge.2, hF, hS s' rfl, w1 τ0 s' hy, w3 τ0 s' hy, f2, h.ge⟩
theorem full_no {w : World} {R S : Nat} {σ : St} {s : Sv} {V : Vl} {wx : World} (h : FuW w R S σ s V wx) (i : Nat) (hi : i < 3) (tv : ByteArray) (ht : tv.size ≤ 2000) (hn : 4096 < needV V i tv.size) : Calls Try.prog 21 #[fp S, .int .i64 (i : Int), .string tv] wx fun e w' => e = .returned (.int .i64 70) ∧ FuW w R S σ s V w' := by
  refine (put_any wx S R σ h.on s h.live.ask h.fl h.so (i : Int) tv).mono ?_
  rintro e w' ⟨τ, o, r, rfl, hx, hF, hS, _, hk⟩
  have hl : tv.data.toList.length = tv.size := Array.length_toList
  unfold putS at hx
  rw [if_neg (by omega), if_pos (by rw [h.live.need, hl]; exact hn)] at hx
  simp only [Prod.mk.injEq] at hx
  obtain ⟨rfl, rfl, rfl⟩ := hx
  exact ⟨rfl, Kep2.toBelow h.bel hk h.bel.size h.ge.1 h.ge.2, hF, hS s rfl, h.live, h.on, h.ar, h.ge⟩
theorem full_bad {w : World} {R S : Nat} {σ : St} {s : Sv} {V : Vl} {wx : World} (h : FuW w R S σ s V wx) (id : Int) (tv : ByteArray) (hb : ¬ (0 ≤ id ∧ id < 3) ∨ 2000 < tv.size) : Calls Try.prog 21 #[fp S, .int .i64 id, .string tv] wx fun e w' => e = .returned (.int .i64 1) ∧ FuW w R S σ s V w' := by
  refine (put_any wx S R σ h.on s h.live.ask h.fl h.so id tv).mono ?_
  rintro e w' ⟨τ, o, r, rfl, hx, hF, hS, _, hk⟩
  have hl : tv.data.toList.length = tv.size := Array.length_toList
  unfold putS at hx
  rw [if_pos (by rw [hl]; exact hb)] at hx
  simp only [Prod.mk.injEq] at hx
  obtain ⟨rfl, rfl, rfl⟩ := hx
  exact ⟨rfl, Kep2.toBelow h.bel hk h.bel.size h.ge.1 h.ge.2, hF, hS s rfl, h.live, h.on, h.ar, h.ge⟩
theorem full_get {w : World} {R S : Nat} {σ : St} {s : Sv} {V : Vl} {wx : World} (h : FuW w R S σ s V wx) (i : Nat) (hi : i < 3) : Calls Try.prog 24 #[fp S, .int .i64 (i : Int)] wx fun e w' => e = .returned (.tuple #[.string (vfOf (V i)).s, .bool (vfOf (V i)).is]) ∧ Below wx.heap.size wx w' := by
  refine (get_any wx S R σ h.on s h.live.ask h.fl h.so (i : Int)).mono ?_
  rintro e w' ⟨rfl, hb⟩
  rw [h.live.get i hi, getV_of]
  exact ⟨rfl, hb⟩
theorem full_is {w : World} {R S : Nat} {σ : St} {s : Sv} {V : Vl} {wx : World} (h : FuW w R S σ s V wx) (id : Int) (i : Nat) (hi : i < 3) (he : id = (i : Int)) (t : ByteArray) (hV : V i = some t.data.toList) : Calls Try.prog 24 #[fp S, .int .i64 id] wx fun e w' => e = .returned (.tuple #[.string t, .bool true]) ∧ Below wx.heap.size wx w' := by
  subst he
  have G := full_get h i hi
  rw [hV] at G
  unfold vfOf at G
  simp only [bs_of] at G
  exact G
theorem full_none {w : World} {R S : Nat} {σ : St} {s : Sv} {V : Vl} {wx : World} (h : FuW w R S σ s V wx) (id : Int) (i : Nat) (hi : i < 3) (he : id = (i : Int)) (hV : V i = none) : Calls Try.prog 24 #[fp S, .int .i64 id] wx fun e w' => e = .returned (.tuple #[.string ⟨#[]⟩, .bool false]) ∧ Below wx.heap.size wx w' := by
  subst he
  have G := full_get h i hi
  rw [hV] at G
  exact G
theorem full_put' {w : World} {R S : Nat} {σ : St} {s : Sv} {V : Vl} {wx : World} (h : FuW w R S σ s V wx) (id : Int) (i : Nat) (hi : i < 3) (he : id = (i : Int)) (tv : ByteArray) (ht : tv.size ≤ 2000) (hn : needV V i tv.size ≤ 4096) : Calls Try.prog 21 #[fp S, .int .i64 id, .string tv] wx fun e w' => e = .returned (.int .i64 0) ∧ ∃ τ s', FuW w R S τ s' (updV V i tv.data.toList) w' := by
  subst he; exact full_put h i hi tv ht hn
theorem full_no' {w : World} {R S : Nat} {σ : St} {s : Sv} {V : Vl} {wx : World} (h : FuW w R S σ s V wx) (id : Int) (i : Nat) (hi : i < 3) (he : id = (i : Int)) (tv : ByteArray) (ht : tv.size ≤ 2000) (hn : 4096 < needV V i tv.size) : Calls Try.prog 21 #[fp S, .int .i64 id, .string tv] wx fun e w' => e = .returned (.int .i64 70) ∧ FuW w R S σ s V w' := by
  subst he; exact full_no h i hi tv ht hn
theorem full_steps {w : World} {R S : Nat} {σ : St} {s : Sv} {V : Vl} {wx : World} (h : FuW w R S σ s V wx) : Calls Try.prog 25 #[fp R] wx fun e w' => e = .returned (.int .i64 σ.st) ∧ w' = wx := steps_any wx R σ h.fl
theorem full_image {w : World} {R S : Nat} {σ : St} {s : Sv} {V : Vl} {wx : World} (h : FuW w R S σ s V wx) : Calls Try.prog 26 #[fp R] wx fun e w' => e = .returned (.string (bs σ.C)) ∧ w' = wx := image_any wx R σ h.fl
/-- three values that are kept -/
theorem need0 (a : ByteArray) (h : a.size ≤ 2000) : needV noV 0 a.size ≤ 4096 := by unfold needV noV szV; simp; omega
theorem need1 (a b : ByteArray) (h : a.size ≤ 2000) (h2 : b.size ≤ 2000) : needV (updV noV 0 a.data.toList) 1 b.size ≤ 4096 := by
  have hl : a.data.toList.length = a.size := Array.length_toList
  unfold needV updV noV szV; simp only [if_true, hl]; simp; omega
theorem need2 (a b : ByteArray) (i n : Nat) : needV (updV (updV noV 0 a.data.toList) 1 b.data.toList) i n = 5 + n + (if 0 ≠ i then 4 + a.size else 0) + (if 1 ≠ i then 4 + b.size else 0) := by
  have hl : a.data.toList.length = a.size := Array.length_toList
  have hl2 : b.data.toList.length = b.size := Array.length_toList
  unfold needV updV noV szV
  simp only [if_true, hl, hl2, show (0 : Nat) ≠ 1 by omega, show (2 : Nat) ≠ 1 by omega, show (2 : Nat) ≠ 0 by omega, if_false]
  simp
end Go.Proofs.Ytcjahdgppnmdkaa
