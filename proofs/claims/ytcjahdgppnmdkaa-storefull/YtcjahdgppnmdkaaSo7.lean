/- Package store: add by its bytes, sign. -/
import Derived.Test.YtcjahdgppnmdkaaSo6
set_option maxRecDepth 100000
namespace Go.Proofs.Ytcjahdgppnmdkaa
open Go.RowKit Go.Great

/-- power is on -/
structure On (σ : St) : Prop where
  len : σ.C.length = 8192
  off : σ.off = false
  jk : σ.jk.size ≤ 4096
theorem stepS_off {σ : St} (h : (stepS σ).2.2 = true) : (stepS σ).1.off = σ.off := by
  unfold stepS at h ⊢
  split at h
  · cases h
  · rename_i hc; rw [if_neg hc]
theorem progB_off {σ : St} {a : Nat} {b : UInt8} (h : (progB σ a b).2 = true) : (progB σ a b).1.off = σ.off := by
  unfold progB at h ⊢
  by_cases hc : (stepS σ).2.2 = true
  · rw [if_pos hc]; exact stepS_off hc
  · rw [if_neg hc] at h; cases h
theorem progB_len (σ : St) (a : Nat) (b : UInt8) : (progB σ a b).1.C.length = σ.C.length := by
  unfold progB; split
  · show (List.set _ _ _).length = _; rw [List.length_set, stepS_C]
  · show (List.set _ _ _).length = _; rw [List.length_set, stepS_C]
theorem progS_len (d : List UInt8) : ∀ (σ : St) (a : Nat), (progS σ a d).1.C.length = σ.C.length := by
  induction d with
  | nil => intro σ a; rfl
  | cons b t ih =>
    intro σ a
    rw [progS]; split
    · rw [ih, progB_len]
    · exact progB_len _ _ _
theorem progS_jk (d : List UInt8) : ∀ (σ : St) (a : Nat), σ.jk.size ≤ 4096 → (progS σ a d).1.jk.size ≤ 4096 := by
  induction d with
  | nil => intro σ a h; exact h
  | cons b t ih =>
    intro σ a h
    rw [progS]; split
    · exact ih _ _ (progB_jk σ a b h)
    · exact progB_jk σ a b h
theorem progS_on (d : List UInt8) : ∀ (σ : St) (a : Nat), On σ → (progS σ a d).2 = true → On (progS σ a d).1 := by
  induction d with
  | nil => intro σ a h _; exact h
  | cons b t ih =>
    intro σ a h h2
    rw [progS] at h2 ⊢
    by_cases hc : (progB σ a b).2 = true
    · rw [if_pos hc] at h2 ⊢
      exact ih _ _ ⟨by rw [progB_len, h.len], by rw [progB_off hc, h.off], progB_jk σ a b h.jk⟩ h2
    · rw [if_neg hc] at h2; cases h2
theorem eraseS_len (σ : St) (s : Nat) : (eraseS σ s).1.C.length = σ.C.length := by
  unfold eraseS; split
  · simp only [onL_length, stepS_C]
  · simp only [onL_length, stepS_C]
theorem eraseS_jk (σ : St) (s : Nat) (h : σ.jk.size ≤ 4096) : (eraseS σ s).1.jk.size ≤ 4096 := by
  unfold eraseS; split
  · exact (stepS_jk σ h).2
  · exact (stepS_jk σ h).2
theorem eraseS_on {σ : St} {s : Nat} (h : On σ) (h2 : (eraseS σ s).2 = true) : On (eraseS σ s).1 := by
  refine ⟨by rw [eraseS_len, h.len], ?_, eraseS_jk σ s h.jk⟩
  unfold eraseS at h2 ⊢
  by_cases hc : (stepS σ).2.2 = true
  · rw [if_pos hc]
    show (stepS σ).1.off = false
    rw [stepS_off hc, h.off]
  · rw [if_neg hc] at h2; cases h2
theorem add_any (w : World) (S R : Nat) (σ : St) (ho : On σ) (ac : Nat) (tu : Int) (en : Nat) (k : Kp) (i : Nat) (t : ByteArray)
    (hF : Fl w R σ) (h : So w S (fp R) ac tu en k) (hac : ac < 2) (hi : i < 3) (ht : t.size ≤ 2000) (he : en + 4 + t.size ≤ 4096) :
    Calls Try.prog 75 #[fp S, .int .i64 (i : Int), .string t] w fun e w' => e = .returned (.int .i64 (if (addS ac i t.data.toList ⟨σ, en, k⟩).2 then 0 else 60)) ∧ Fl w' R (addS ac i t.data.toList ⟨σ, en, k⟩).1.σ ∧ So w' S (fp R) ac tu (addS ac i t.data.toList ⟨σ, en, k⟩).1.en (addS ac i t.data.toList ⟨σ, en, k⟩).1.k ∧ Kep2 R S w w' := by
  have A : ∀ wx, Fl wx R σ → Calls Try.prog 96 #[fp R, .int .i64 ((ac * 4096 + en : Nat) : Int), .string (bs (recB i t.data.toList))] wx fun e w' => e = .returned (.int .i64 (if (progS σ (ac * 4096 + en) (recB i t.data.toList)).2 then 0 else 60)) ∧ Fl w' R (progS σ (ac * 4096 + en) (recB i t.data.toList)).1 ∧ Kept R wx w' := fun wx hx => by
    have := prog_in wx R σ hx ho.jk ho.off (ac * 4096 + en) (bs (recB i t.data.toList)) (by rw [bs_size, recB_length, list_size]; omega)
    rw [bs_list] at this
    exact this
  have C := add_core w S R σ _ _ ac tu en k i t t.size (ac * 4096 + en) _ hF h hac hi rfl (by omega) (hide rfl) (fun wx => recOf_any wx i t ht) A (by
    cases (progS σ (ac * 4096 + en) (recB i t.data.toList)).2
    · exact .inr rfl
    · exact .inl ⟨rfl, he⟩)
  refine C.mono ?_
  rintro e w1 ⟨rfl, f1, s1, k1⟩
  unfold addS
  cases hb : (progS σ (ac * 4096 + en) (recB i t.data.toList)).2
  · rw [hb, if_neg (by simp)] at s1
    exact ⟨rfl, f1, s1, k1⟩
  · rw [hb, if_pos (by simp)] at s1
    simp only [if_true]
    rw [list_size]
    exact ⟨trivial, f1, s1, k1⟩
/-- the closure of move -/
theorem put1_any (w : World) (B S R : Nat) (hB : w.heap[B]? = some (.cells #[fp S] 24 (0, 0))) (σ : St) (ho : On σ) (ac : Nat) (tu : Int) (en : Nat) (k : Kp) (i : Nat) (t : ByteArray)
    (hF : Fl w R σ) (h : So w S (fp R) ac tu en k) (hac : ac < 2) (hi : i < 3) (ht : t.size ≤ 2000) (he : en + 4 + t.size ≤ 4096) :
    Calls Try.prog 100 #[.int .i64 (i : Int), .string t, fp B] w fun e w' => e = .returned (.int .i64 (if (addS ac i t.data.toList ⟨σ, en, k⟩).2 then 0 else 60)) ∧ Fl w' R (addS ac i t.data.toList ⟨σ, en, k⟩).1.σ ∧ So w' S (fp R) ac tu (addS ac i t.data.toList ⟨σ, en, k⟩).1.en (addS ac i t.data.toList ⟨σ, en, k⟩).1.k ∧ Kep2 R S w w' := by
  have A := add_any w S R σ ho ac tu en k i t hF h hac hi ht he
  have cB := cell_of_one hB
  obtain ⟨⟨m, ok⟩, hm⟩ : ∃ x, addS ac i t.data.toList ⟨σ, en, k⟩ = x := ⟨_, rfl⟩
  rw [hm] at A ⊢
  clear hm
  simp only at A ⊢
  obtain ⟨v, hv⟩ : ∃ v : Int, (if ok then 0 else 60) = v := ⟨_, rfl⟩
  rw [hv] at A ⊢
  clear hv
  go_enter Try.func100, Try.ntmps100
  go_wp2_with fail
  refine A.mono ?_
  rintro e w1 ⟨rfl, f1, s1, k1⟩
  go_wp2_with fail
  go_ret
  exact ⟨rfl, f1, s1, k1⟩
end Go.Proofs.Ytcjahdgppnmdkaa
