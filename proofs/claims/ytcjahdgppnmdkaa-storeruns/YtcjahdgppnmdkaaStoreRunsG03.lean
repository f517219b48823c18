/- No7, No8, SoM, So1, So2, So3, So4. -/
import Derived.Test.YtcjahdgppnmdkaaStoreRunsG02
import Derived.Laws.Externs
import Derived.Shelf.Strconv.Clone
set_option maxRecDepth 100000
namespace Go.Proofs.Ytcjahdgppnmdkaa
open Go.RowKit Go.Great
/-- the library's contract of internal/stringslite.Clone, at this dump's numbers -/
def cloneRen : Go.Shelf.Ren := ⟨fun | 316 => 74 | n => n, fun | 0 => 0 | 3 => 3 | 4 => 4 | 9 => 9 | 37 => 93 | 127 => 156 | 5 => 5 | n => n, fun | n => n⟩
theorem cloneLays : Go.Proofs.LaysM.n316 Try.prog cloneRen := {
  mixed := by kernel_rfl
  f316 := Try.func74.trans (congrArg some (by kernel_rfl))
  t0 := Try.underlying0
  a0 := Try.isAgg0
  z0 := Try.sizeOf0
  v0 := Try.zeroValue0
  t3 := Try.underlying3
  a3 := Try.isAgg3
  z3 := Try.sizeOf3
  v3 := Try.zeroValue3
  t4 := Try.underlying4
  a4 := Try.isAgg4
  z4 := Try.sizeOf4
  v4 := Try.zeroValue4
  t9 := Try.underlying9
  a9 := Try.isAgg9
  z9 := Try.sizeOf9
  v9 := Try.zeroValue9
  t37 := Try.underlying93
  a37 := Try.isAgg93
  z37 := Try.sizeOf93
  v37 := Try.zeroValue93
  t127 := Try.underlying156
  a127 := Try.isAgg156
  z127 := Try.sizeOf156
  v127 := Try.zeroValue156
  t5 := Try.underlying5
  a5 := Try.isAgg5
  z5 := Try.sizeOf5
  v5 := Try.zeroValue5
  i0 := by kernel_rfl
  i3 := by kernel_rfl
  i4 := by kernel_rfl
  i9 := by kernel_rfl
  i37 := by kernel_rfl
  i127 := by kernel_rfl
  i5 := by kernel_rfl }
theorem clone_own (s : ByteArray) (w : World) (hlim : s.size ≤ 281474976710656) : Calls Try.prog 74 #[.string s] w fun e w' => e = .returned (.string s) ∧ Below w.heap.size w w' := Any.stringslite_Clone cloneLays s w hlim
theorem clone_any (s : ByteArray) (w : World) (hlim : s.size ≤ 281474976710656) : Calls Try.prog 49 #[.string s] w fun e w' => e = .returned (.string s) ∧ Below w.heap.size w w' := by
  go_enter Try.func49, Try.ntmps49
  go_wp2_with fail
  refine (clone_own s _ hlim).mono ?_
  rintro e w1 ⟨rfl, h1⟩
  go_wp2_with fail
  go_ret
  exact ⟨rfl, h1⟩
/-- what is kept of a cut's junk -/
def jkS (j : ByteArray) : ByteArray := j.extract 0 (min j.size 4096)
theorem jkS_size (j : ByteArray) : (jkS j).size ≤ 4096 := by
  unfold jkS; rw [ByteArray.size_extract]; omega
def cutR (σ : St) (n : Int) (j : ByteArray) : St × Int :=
  if σ.off then (σ, 60) else if n < 0 then (σ, 1) else ({ σ with ar := true, lf := n, jk := jkS j }, 0)
theorem cut_nil (w : World) (n : Int) (j : ByteArray) : Calls Try.prog 20 #[.pointer none, .int .i64 n, .string j] w fun e w' => e = .returned (.int .i64 2) ∧ w' = w := by
  go_enter Try.func20, Try.ntmps20
  go_wp2_with fail
  refine (ready_nil w).mono ?_
  rintro e w1 ⟨rfl, rfl⟩
  go_wp2_with fail
  go_ret
  exact ⟨rfl, rfl⟩
theorem cut_off (w : World) (R : Nat) (σ : St) (h : Fl w R σ) (ho : σ.off = true) (n : Int) (j : ByteArray) : Calls Try.prog 20 #[fp R, .int .i64 n, .string j] w fun e w' => e = .returned (.int .i64 60) ∧ w' = w := by
  have S := ready_any w R σ h
  rw [ho] at S
  go_enter Try.func20, Try.ntmps20
  go_wp2_with fail
  refine S.mono ?_
  rintro e w1 ⟨rfl, rfl⟩
  go_wp2_with fail
  go_ret
  exact ⟨rfl, rfl⟩
theorem cut_out (w : World) (R : Nat) (σ : St) (h : Fl w R σ) (ho : σ.off = false) (n : Int) (hn : n < 0) (j : ByteArray) : Calls Try.prog 20 #[fp R, .int .i64 n, .string j] w fun e w' => e = .returned (.int .i64 1) ∧ w' = w := by
  have S := ready_any w R σ h
  rw [ho] at S
  go_enter Try.func20, Try.ntmps20
  go_wp2_with fail
  refine S.mono ?_
  rintro e w1 ⟨rfl, rfl⟩
  go_wp2_with fail
  go_ret
  exact ⟨rfl, rfl⟩
theorem cut_in (w : World) (R : Nat) (σ : St) (h : Fl w R σ) (ho : σ.off = false) (n : Int) (hn : 0 ≤ n) (j : ByteArray) (hj : j.size ≤ 9223372036854775807) : Calls Try.prog 20 #[fp R, .int .i64 n, .string j] w fun e w' => e = .returned (.int .i64 0) ∧ Fl w' R { σ with ar := true, lf := n, jk := jkS j } ∧ Kept R w w' := by
  obtain ⟨t, ht⟩ : ∃ t, Hid (jkS j = t) := ⟨_, hide rfl⟩
  rw [ht.out]
  have S := ready_any w R σ h
  rw [ho] at S
  go_enter Try.func20, Try.ntmps20
  go_wp2_with fail
  refine S.mono ?_
  rintro e w1 ⟨rfl, hw⟩
  obtain rfl := hw.symm
  clear hw S
  go_wp2_with fail
  have e1 : j.extract 0 (min (j.size : Int) 4096).toNat = t := by
    rw [← ht.out, jkS, show (min (j.size : Int) 4096).toNat = min j.size 4096 by omega]
  have hts : t.size ≤ 4096 := by rw [← ht.out]; exact jkS_size j
  rw [e1]
  refine (clone_any t w (by omega)).mono ?_
  rintro e w1 ⟨rfl, b1⟩
  have hF := h.below b1
  have h2 := hF.c2
  have h3 := hF.c3
  have h4 := hF.c4
  have f2 := hF.frozen 8194
  have f3 := hF.frozen 8195
  have f4 := hF.frozen 8196
  go_wp2_with fail
  go_ret
  exact ⟨rfl, ((hF.s2 true).s3 n).s4 t, ((((Kept.refl _ _).below b1).set _ _).set _ _).set _ _⟩
theorem cut_any (w : World) (R : Nat) (σ : St) (h : Fl w R σ) (n : Int) (j : ByteArray) (hj : j.size ≤ 9223372036854775807) : Calls Try.prog 20 #[fp R, .int .i64 n, .string j] w fun e w' => e = .returned (.int .i64 (cutR σ n j).2) ∧ Fl w' R (cutR σ n j).1 ∧ Kept R w w' := by
  unfold cutR
  cases ho : σ.off
  · by_cases hi : n < 0
    · simp only [if_pos hi, Bool.false_eq_true, if_false]
      refine (cut_out w R σ h ho n hi j).mono ?_
      rintro e w1 ⟨rfl, rfl⟩
      exact ⟨rfl, h, Kept.refl _ _⟩
    · simp only [if_neg hi, Bool.false_eq_true, if_false]
      have := cut_in w R σ h ho n (by omega) j hj
      rw [ho] at this
      exact this
  · refine (cut_off w R σ h ho n j).mono ?_
    rintro e w1 ⟨rfl, rfl⟩
    exact ⟨rfl, h, Kept.refl _ _⟩
end Go.Proofs.Ytcjahdgppnmdkaa
set_option maxRecDepth 100000
namespace Go.Proofs.Ytcjahdgppnmdkaa
open Go.RowKit Go.Great
def s0 : St := st0 (List.replicate 8192 255)
def s1 : St := (progR s0 0 ⟨#[15, 240]⟩).1
def s2 : St := (cutR s1 1 ⟨#[60]⟩).1
def s3 : St := (progR s2 4096 ⟨#[0, 0, 0]⟩).1
def s4 : St := onS s3
theorem k1 : (progR s0 0 ⟨#[15, 240]⟩).2 = 0 := by kernel_rfl
theorem k2 : (cutR s1 1 ⟨#[60]⟩).2 = 0 := by kernel_rfl
theorem k3 : (progR s2 4096 ⟨#[0, 0, 0]⟩).2 = 60 := by kernel_rfl
theorem k4 : readR s3 0 1 = (⟨#[]⟩, 60) := by kernel_rfl
theorem k5 : readR s4 4096 3 = (⟨#[0, 60, 255]⟩, 0) := by kernel_rfl
theorem k6 : readR s4 0 3 = (⟨#[15, 240, 255]⟩, 0) := by kernel_rfl
theorem k7 : s4.st = 3 := by kernel_rfl
theorem k8 : s0.jk.size = 0 := by kernel_rfl
theorem k9 : s2.jk.size = 1 := by kernel_rfl
theorem i64_small (a : Int) (h : 0 ≤ a ∧ a ≤ 1000000) : I64 a := by unfold I64; omega
theorem aw1 (w : World) (R : Nat) (h : Fl w R s0) : Calls Try.prog 96 #[fp R, .int .i64 0, .string ⟨#[15, 240]⟩] w fun e w' => e = .returned (.int .i64 0) ∧ Fl w' R s1 ∧ Kept R w w' := by
  have := prog_any w R s0 h (by rw [k8]; omega) 0 (i64_small 0 (by omega)) ⟨#[15, 240]⟩
  rw [k1] at this
  exact this
theorem aw2 (w : World) (R : Nat) (h : Fl w R s1) : Calls Try.prog 20 #[fp R, .int .i64 1, .string ⟨#[60]⟩] w fun e w' => e = .returned (.int .i64 0) ∧ Fl w' R s2 ∧ Kept R w w' := by
  have := cut_any w R s1 h 1 ⟨#[60]⟩ (by show (1 : Nat) ≤ _; omega)
  rw [k2] at this
  exact this
theorem aw3 (w : World) (R : Nat) (h : Fl w R s2) : Calls Try.prog 96 #[fp R, .int .i64 4096, .string ⟨#[0, 0, 0]⟩] w fun e w' => e = .returned (.int .i64 60) ∧ Fl w' R s3 ∧ Kept R w w' := by
  have := prog_any w R s2 h (by rw [k9]; omega) 4096 (i64_small _ (by omega)) ⟨#[0, 0, 0]⟩
  rw [k3] at this
  exact this
theorem aw4 (w : World) (R : Nat) (h : Fl w R s3) : Calls Try.prog 39 #[fp R, .int .i64 0, .int .i64 1] w fun e w' => e = .returned (.tuple #[.string ⟨#[]⟩, .int .i64 60]) ∧ w' = w := by
  have := read_any w R s3 h 0 1 (i64_small _ (by omega))
  rw [k4] at this
  exact this
theorem aw5 (w : World) (R : Nat) (h : Fl w R s4) : Calls Try.prog 39 #[fp R, .int .i64 4096, .int .i64 3] w fun e w' => e = .returned (.tuple #[.string ⟨#[0, 60, 255]⟩, .int .i64 0]) ∧ w' = w := by
  have := read_any w R s4 h 4096 3 (i64_small _ (by omega))
  rw [k5] at this
  exact this
theorem aw6 (w : World) (R : Nat) (h : Fl w R s4) : Calls Try.prog 39 #[fp R, .int .i64 0, .int .i64 3] w fun e w' => e = .returned (.tuple #[.string ⟨#[15, 240, 255]⟩, .int .i64 0]) ∧ w' = w := by
  have := read_any w R s4 h 0 3 (i64_small _ (by omega))
  rw [k6] at this
  exact this
theorem aw7 (w : World) (R : Nat) (h : Fl w R s4) : Calls Try.prog 25 #[fp R] w fun e w' => e = .returned (.int .i64 3) ∧ w' = w := by
  have := steps_any w R s4 h
  rw [k7] at this
  exact this
theorem aw8 (w : World) (R : Nat) (σ : St) (h : Fl w R σ) : ∃ t : ByteArray, ((t.size : Int) == 8192) = true ∧ bs σ.C = t ∧ Calls Try.prog 26 #[fp R] w fun e w' => e = .returned (.string t) ∧ w' = w := by
  refine ⟨bs σ.C, ?_, rfl, image_any w R σ h⟩
  rw [bs_size, h.len]
  rfl
end Go.Proofs.Ytcjahdgppnmdkaa
set_option maxRecDepth 100000
namespace Go.Proofs.Ytcjahdgppnmdkaa
open Go.RowKit Go.Great
/-- where a value lies -/
structure Sg where
  th : Bool
  lo : Nat
  n : Nat
def sgz : Sg := ⟨false, 0, 0⟩
abbrev Kp := Nat → Sg
def kz : Kp := fun _ => sgz
def upd (k : Kp) (i : Nat) (v : Sg) : Kp := fun j => if j = i then v else k j
theorem upd_at (k : Kp) (i : Nat) (v : Sg) : upd k i v i = v := if_pos rfl
theorem upd_ne (k : Kp) {i j : Nat} (v : Sg) (h : j ≠ i) : upd k i v j = k j := if_neg h
/-- codes -/
def turnI (b : UInt8) : Int := if b = 15 then 0 else if b = 51 then 1 else if b = 85 then 2 else -1
def codeN (t : Nat) : UInt8 := [15, 51, 85].getD t 0
def folN (t : Nat) : Nat := (t + 1) % 3
def actI (a b : UInt8) : Int := ([[(-1 : Int), 1, 1, 1], [0, 0, 1, 0], [0, 0, 0, 1], [0, 1, 0, 0]].getD (1 + turnI a).toNat []).getD (1 + turnI b).toNat 0
/-- records -/
def blankB (l : List UInt8) (a : Nat) : Bool := (l.drop a).all (fun b => b == 255)
def lenAt (l : List UInt8) (a : Nat) : Nat := (l.getD (a + 1) 0).toNat + 256 * (l.getD (a + 2) 0).toNat
def wholeB (l : List UInt8) (a : Nat) : Bool := decide (a + 4 ≤ l.length) && decide ((l.getD a 0).toNat < 3) && decide (lenAt l a ≤ 2000) && decide (a + 4 + lenAt l a ≤ l.length) && (l.getD (a + 3 + lenAt l a) 0 == 0)
def idAt (l : List UInt8) (a : Nat) : Nat := (l.getD a 0).toNat
def sgAt (l : List UInt8) (a : Nat) : Sg := ⟨true, a + 3, lenAt l a⟩
def rd (l : List UInt8) : Nat → Nat → Kp → Kp × Nat × Bool
  | 0, a, k => (k, a, true)
  | f + 1, a, k => if blankB l a then (k, a, true) else if wholeB l a then rd l f (a + 4 + lenAt l a) (upd k (idAt l a) (sgAt l a)) else (k, a, false)
def szK (k : Kp) (i : Nat) : Nat := if (k i).th then 4 + (k i).n else 0
def sizeK (k : Kp) : Nat := szK k 0 + szK k 1 + szK k 2
/-- what lies within e -/
def KOk (k : Kp) (e : Nat) : Prop := (∀ i, (k i).th = true → (k i).lo + (k i).n + 1 ≤ e ∧ (k i).n ≤ 2000) ∧ 1 + sizeK k ≤ e
theorem wholeB_true {l : List UInt8} {a : Nat} (h : wholeB l a = true) : a + 4 ≤ l.length ∧ idAt l a < 3 ∧ lenAt l a ≤ 2000 ∧ a + 4 + lenAt l a ≤ l.length ∧ l.getD (a + 3 + lenAt l a) 0 = 0 := by
  unfold wholeB at h
  simp only [Bool.and_eq_true, decide_eq_true_eq, beq_iff_eq] at h
  exact ⟨h.1.1.1.1, h.1.1.1.2, h.1.1.2, h.1.2, h.2⟩
theorem szK_upd (k : Kp) (i j : Nat) (a n : Nat) : szK (upd k i ⟨true, a, n⟩) j = if j = i then 4 + n else szK k j := by
  unfold szK upd
  by_cases h : j = i
  · simp [h]
  · simp [h]
theorem sizeK_upd (k : Kp) (i : Nat) (hi : i < 3) (a n : Nat) : sizeK (upd k i ⟨true, a, n⟩) + szK k i = sizeK k + 4 + n := by
  unfold sizeK
  rw [szK_upd, szK_upd, szK_upd]
  obtain rfl | rfl | rfl : i = 0 ∨ i = 1 ∨ i = 2 := by omega
  all_goals simp; omega
theorem KOk.upd {k : Kp} {e : Nat} (h : KOk k e) (i : Nat) (hi : i < 3) (n : Nat) (hn : n ≤ 2000) : KOk (upd k i ⟨true, e + 3, n⟩) (e + 4 + n) := by
  refine ⟨fun j hj => ?_, ?_⟩
  · by_cases c : j = i
    · subst c
      rw [upd_at] at hj ⊢
      exact ⟨by show e + 3 + n + 1 ≤ _; omega, hn⟩
    · rw [upd_ne _ _ c] at hj ⊢
      have := h.1 j hj
      omega
  · have := sizeK_upd k i hi (e + 3) n
    have := h.2
    omega
theorem rd_ok (l : List UInt8) : ∀ (f a : Nat) (k : Kp), a ≤ l.length → KOk k a → a ≤ (rd l f a k).2.1 ∧ (rd l f a k).2.1 ≤ l.length ∧ KOk (rd l f a k).1 (rd l f a k).2.1 := by
  intro f
  induction f with
  | zero => intro a k h1 h2; exact ⟨Nat.le_refl _, h1, h2⟩
  | succ f ih =>
    intro a k h1 h2
    rw [rd]
    by_cases hb : blankB l a = true
    · rw [if_pos hb]; exact ⟨Nat.le_refl _, h1, h2⟩
    · rw [if_neg hb]
      by_cases hw : wholeB l a = true
      · rw [if_pos hw]
        obtain ⟨c1, c2, c3, c4, c5⟩ := wholeB_true hw
        obtain ⟨i1, i2, i3⟩ := ih (a + 4 + lenAt l a) (upd k (idAt l a) (sgAt l a)) c4 (h2.upd _ c2 _ c3)
        exact ⟨by omega, i2, i3⟩
      · rw [if_neg hw]; exact ⟨Nat.le_refl _, h1, h2⟩
theorem KOk.kz : KOk kz 1 := ⟨fun i h => by simp [Go.Proofs.Ytcjahdgppnmdkaa.kz, sgz] at h, by show 1 + 0 ≤ 1; omega⟩
theorem blankB_iff (l : List UInt8) (a : Nat) : blankB l a = true ↔ ∀ j, a ≤ j → j < l.length → l.getD j 0 = 255 := by
  unfold blankB
  rw [List.all_eq_true]
  constructor
  · intro h j h1 h2
    have := h (l[j]) (by
      rw [List.mem_iff_getElem]
      exact ⟨j - a, by rw [List.length_drop]; omega, by rw [List.getElem_drop]; congr 1; omega⟩)
    rw [getD_at _ _ h2]
    simpa using this
  · intro h x hx
    rw [List.mem_iff_getElem] at hx
    obtain ⟨i, hi, rfl⟩ := hx
    rw [List.length_drop] at hi
    rw [List.getElem_drop]
    have := h (a + i) (by omega) (by omega)
    rw [getD_at _ _ (by omega)] at this
    simpa using this
/-- a record's bytes -/
def recB (i : Nat) (t : List UInt8) : List UInt8 := UInt8.ofNat i :: UInt8.ofNat t.length :: UInt8.ofNat (t.length / 256) :: (t ++ [0])
theorem recB_length (i : Nat) (t : List UInt8) : (recB i t).length = 4 + t.length := by simp [recB]; omega
/-- what a move writes of object i -/
def txt (C : List UInt8) (ac : Nat) (s : Sg) : List UInt8 := (C.drop (ac * 4096 + s.lo)).take s.n
def mvL (C : List UInt8) (ac : Nat) (k : Kp) (id : Int) (v : List UInt8) (i : Nat) : Option (List UInt8) :=
  if (i : Int) = id then some v else if (k i).th then some (txt C ac (k i)) else none
/-- a flash, and a store's end and records -/
structure Mv where
  σ : St
  en : Nat
  k : Kp
/-- a record that is added in sector s -/
def addS (s i : Nat) (t : List UInt8) (m : Mv) : Mv × Bool :=
  if (progS m.σ (s * 4096 + m.en) (recB i t)).2 then (⟨(progS m.σ (s * 4096 + m.en) (recB i t)).1, m.en + 4 + t.length, upd m.k i ⟨true, m.en + 3, t.length⟩⟩, true)
  else (⟨(progS m.σ (s * 4096 + m.en) (recB i t)).1, m.en, m.k⟩, false)
def step1 (ac : Nat) (k : Kp) (id : Int) (v : List UInt8) (i : Nat) (m : Mv) : Mv × Bool :=
  match mvL m.σ.C ac k id v i with
  | none => (m, true)
  | some t => addS (1 - ac) i t m
def eachS (ac : Nat) (k : Kp) (id : Int) (v : List UInt8) : Nat → Nat → Mv → Mv × Bool
  | _, 0, m => (m, true)
  | i, n + 1, m => if (step1 ac k id v i m).2 then eachS ac k id v (i + 1) n (step1 ac k id v i m).1 else ((step1 ac k id v i m).1, false)
/-- a store -/
structure Sv where
  ac : Nat
  tu : Nat
  en : Nat
  k : Kp
def moveS (σ : St) (s : Sv) (id : Int) (v : List UInt8) : St × Option Sv :=
  if (eraseS σ (1 - s.ac)).2 then
    if (eachS s.ac s.k id v 0 3 ⟨(eraseS σ (1 - s.ac)).1, 1, kz⟩).2 then
      if (progS (eachS s.ac s.k id v 0 3 ⟨(eraseS σ (1 - s.ac)).1, 1, kz⟩).1.σ ((1 - s.ac) * 4096) [codeN (folN s.tu)]).2 then
        ((progS (eachS s.ac s.k id v 0 3 ⟨(eraseS σ (1 - s.ac)).1, 1, kz⟩).1.σ ((1 - s.ac) * 4096) [codeN (folN s.tu)]).1, some ⟨1 - s.ac, folN s.tu, (eachS s.ac s.k id v 0 3 ⟨(eraseS σ (1 - s.ac)).1, 1, kz⟩).1.en, (eachS s.ac s.k id v 0 3 ⟨(eraseS σ (1 - s.ac)).1, 1, kz⟩).1.k⟩)
      else ((progS (eachS s.ac s.k id v 0 3 ⟨(eraseS σ (1 - s.ac)).1, 1, kz⟩).1.σ ((1 - s.ac) * 4096) [codeN (folN s.tu)]).1, none)
    else ((eachS s.ac s.k id v 0 3 ⟨(eraseS σ (1 - s.ac)).1, 1, kz⟩).1.σ, none)
  else ((eraseS σ (1 - s.ac)).1, none)
/-- a flash without a code -/
def fmt2 (σ : St) : St × Option Sv :=
  if (eraseS σ 0).2 then ((progS (eraseS σ 0).1 0 [15]).1, if (progS (eraseS σ 0).1 0 [15]).2 then some ⟨0, 0, 1, kz⟩ else none)
  else ((eraseS σ 0).1, none)
def fmtS (σ : St) (b : UInt8) : St × Option Sv :=
  if b = 255 then fmt2 σ else if (eraseS σ 1).2 then fmt2 (eraseS σ 1).1 else ((eraseS σ 1).1, none)
def secL (C : List UInt8) (s : Nat) : List UInt8 := (C.drop (s * 4096)).take 4096
/-- the store that an image's active sector holds -/
def svOf (C : List UInt8) (ac : Nat) : Sv × Bool :=
  (⟨ac, (turnI ((secL C ac).getD 0 0)).toNat, (rd (secL C ac) 4096 1 kz).2.1, (rd (secL C ac) 4096 1 kz).1⟩, (rd (secL C ac) 4096 1 kz).2.2)
def bootIn (σ : St) (ac : Nat) : St × Option Sv :=
  if (svOf σ.C ac).2 then
    if (secL σ.C (1 - ac)).getD 0 0 ≠ 255 ∧ turnI ((secL σ.C (1 - ac)).getD 0 0) = -1 then ((eraseS σ (1 - ac)).1, if (eraseS σ (1 - ac)).2 then some (svOf σ.C ac).1 else none)
    else (σ, some (svOf σ.C ac).1)
  else moveS σ (svOf σ.C ac).1 (-1) []
/-- what Boot leaves; no store: ErrPower -/
def bootS (σ : St) : St × Option Sv :=
  if σ.off then (σ, none)
  else if actI ((secL σ.C 0).getD 0 0) ((secL σ.C 1).getD 0 0) = -1 then fmtS σ ((secL σ.C 1).getD 0 0)
  else bootIn σ (actI ((secL σ.C 0).getD 0 0) ((secL σ.C 1).getD 0 0)).toNat
def needN (k : Kp) (i n : Nat) : Nat := 5 + n + (if 0 ≠ i ∧ (k 0).th then 4 + (k 0).n else 0) + (if 1 ≠ i ∧ (k 1).th then 4 + (k 1).n else 0) + (if 2 ≠ i ∧ (k 2).th then 4 + (k 2).n else 0)
/-- what Put leaves of a store that does not stand -/
def putS (σ : St) (s : Sv) (id : Int) (v : List UInt8) : St × Option Sv × Int :=
  if ¬ (0 ≤ id ∧ id < 3) ∨ 2000 < v.length then (σ, some s, 1)
  else if 4096 < needN s.k id.toNat v.length then (σ, some s, 70)
  else if s.en + 4 + v.length ≤ 4096 then
    if (addS s.ac id.toNat v ⟨σ, s.en, s.k⟩).2 then ((addS s.ac id.toNat v ⟨σ, s.en, s.k⟩).1.σ, some ⟨s.ac, s.tu, (addS s.ac id.toNat v ⟨σ, s.en, s.k⟩).1.en, (addS s.ac id.toNat v ⟨σ, s.en, s.k⟩).1.k⟩, 0)
    else ((addS s.ac id.toNat v ⟨σ, s.en, s.k⟩).1.σ, none, 60)
  else ((moveS σ s id v).1, (moveS σ s id v).2, if (moveS σ s id v).2.isSome then 0 else 60)
def getS (C : List UInt8) (s : Sv) (id : Int) : Option (List UInt8) :=
  if 0 ≤ id ∧ id < 3 ∧ (s.k id.toNat).th then some (txt C s.ac (s.k id.toNat)) else none
end Go.Proofs.Ytcjahdgppnmdkaa
set_option maxRecDepth 100000
namespace Go.Proofs.Ytcjahdgppnmdkaa
open Go.RowKit Go.Great
def soRow (p : Value) (ac tu en : Int) (k : Kp) : List Value := [p, .int .i64 ac, .int .i64 tu, .int .i64 en, .bool (k 0).th, .int .i64 (k 0).lo, .int .i64 (k 0).n, .bool (k 1).th, .int .i64 (k 1).lo, .int .i64 (k 1).n, .bool (k 2).th, .int .i64 (k 2).lo, .int .i64 (k 2).n]
/-- block S is a store on the flash p -/
structure So (w : World) (S : Nat) (p : Value) (ac tu en : Int) (k : Kp) : Prop where
  blk : w.heap[S]? = some (.cells (soRow p ac tu en k).toArray 108 (0, 0))
theorem So.frozen {w : World} {S : Nat} {p : Value} {ac tu en : Int} {k : Kp} (h : So w S p ac tu en k) (i : Nat) : w.frozen? ⟨S, i, none⟩ = false := by
  simp [World.frozen?, h.blk]
theorem So.lt {w : World} {S : Nat} {p : Value} {ac tu en : Int} {k : Kp} (h : So w S p ac tu en k) : S < w.heap.size := lt_of_block h.blk
theorem So.c0 {w : World} {S : Nat} {p : Value} {ac tu en : Int} {k : Kp} (h : So w S p ac tu en k) : w.cell? ⟨S, 0, none⟩ = some (p) := by rw [cell_of_list h.blk]; rfl
theorem So.c1 {w : World} {S : Nat} {p : Value} {ac tu en : Int} {k : Kp} (h : So w S p ac tu en k) : w.cell? ⟨S, 1, none⟩ = some (.int .i64 ac) := by rw [cell_of_list h.blk]; rfl
theorem So.c2 {w : World} {S : Nat} {p : Value} {ac tu en : Int} {k : Kp} (h : So w S p ac tu en k) : w.cell? ⟨S, 2, none⟩ = some (.int .i64 tu) := by rw [cell_of_list h.blk]; rfl
theorem So.c3 {w : World} {S : Nat} {p : Value} {ac tu en : Int} {k : Kp} (h : So w S p ac tu en k) : w.cell? ⟨S, 3, none⟩ = some (.int .i64 en) := by rw [cell_of_list h.blk]; rfl
theorem So.c4 {w : World} {S : Nat} {p : Value} {ac tu en : Int} {k : Kp} (h : So w S p ac tu en k) : w.cell? ⟨S, 4, none⟩ = some (.bool (k 0).th) := by rw [cell_of_list h.blk]; rfl
theorem So.c5 {w : World} {S : Nat} {p : Value} {ac tu en : Int} {k : Kp} (h : So w S p ac tu en k) : w.cell? ⟨S, 5, none⟩ = some (.int .i64 (k 0).lo) := by rw [cell_of_list h.blk]; rfl
theorem So.c6 {w : World} {S : Nat} {p : Value} {ac tu en : Int} {k : Kp} (h : So w S p ac tu en k) : w.cell? ⟨S, 6, none⟩ = some (.int .i64 (k 0).n) := by rw [cell_of_list h.blk]; rfl
theorem So.c7 {w : World} {S : Nat} {p : Value} {ac tu en : Int} {k : Kp} (h : So w S p ac tu en k) : w.cell? ⟨S, 7, none⟩ = some (.bool (k 1).th) := by rw [cell_of_list h.blk]; rfl
theorem So.c8 {w : World} {S : Nat} {p : Value} {ac tu en : Int} {k : Kp} (h : So w S p ac tu en k) : w.cell? ⟨S, 8, none⟩ = some (.int .i64 (k 1).lo) := by rw [cell_of_list h.blk]; rfl
theorem So.c9 {w : World} {S : Nat} {p : Value} {ac tu en : Int} {k : Kp} (h : So w S p ac tu en k) : w.cell? ⟨S, 9, none⟩ = some (.int .i64 (k 1).n) := by rw [cell_of_list h.blk]; rfl
theorem So.c10 {w : World} {S : Nat} {p : Value} {ac tu en : Int} {k : Kp} (h : So w S p ac tu en k) : w.cell? ⟨S, 10, none⟩ = some (.bool (k 2).th) := by rw [cell_of_list h.blk]; rfl
theorem So.c11 {w : World} {S : Nat} {p : Value} {ac tu en : Int} {k : Kp} (h : So w S p ac tu en k) : w.cell? ⟨S, 11, none⟩ = some (.int .i64 (k 2).lo) := by rw [cell_of_list h.blk]; rfl
theorem So.c12 {w : World} {S : Nat} {p : Value} {ac tu en : Int} {k : Kp} (h : So w S p ac tu en k) : w.cell? ⟨S, 12, none⟩ = some (.int .i64 (k 2).n) := by rw [cell_of_list h.blk]; rfl
theorem So.s0 {w : World} {S : Nat} {p : Value} {ac tu en : Int} {k : Kp} (h : So w S p ac tu en k) (x : Value) : So (w.setCell ⟨S, 0, none⟩ x) S x ac tu en k := ⟨by rw [set_list h.blk]; rfl⟩
theorem So.s1 {w : World} {S : Nat} {p : Value} {ac tu en : Int} {k : Kp} (h : So w S p ac tu en k) (x : Int) : So (w.setCell ⟨S, 1, none⟩ (.int .i64 x)) S p x tu en k := ⟨by rw [set_list h.blk]; rfl⟩
theorem So.s2 {w : World} {S : Nat} {p : Value} {ac tu en : Int} {k : Kp} (h : So w S p ac tu en k) (x : Int) : So (w.setCell ⟨S, 2, none⟩ (.int .i64 x)) S p ac x en k := ⟨by rw [set_list h.blk]; rfl⟩
theorem So.s3 {w : World} {S : Nat} {p : Value} {ac tu en : Int} {k : Kp} (h : So w S p ac tu en k) (x : Int) : So (w.setCell ⟨S, 3, none⟩ (.int .i64 x)) S p ac tu x k := ⟨by rw [set_list h.blk]; rfl⟩
theorem So.k0 {w : World} {S : Nat} {p : Value} {ac tu en : Int} {k : Kp} (h : So w S p ac tu en k) (t : Bool) (a n : Nat) : So (((w.setCell ⟨S, 4, none⟩ (.bool t)).setCell ⟨S, 5, none⟩ (.int .i64 a)).setCell ⟨S, 6, none⟩ (.int .i64 n)) S p ac tu en (upd k 0 ⟨t, a, n⟩) := ⟨by rw [set_list (set_list (set_list h.blk _) _) _]; rfl⟩
theorem So.k1 {w : World} {S : Nat} {p : Value} {ac tu en : Int} {k : Kp} (h : So w S p ac tu en k) (t : Bool) (a n : Nat) : So (((w.setCell ⟨S, 7, none⟩ (.bool t)).setCell ⟨S, 8, none⟩ (.int .i64 a)).setCell ⟨S, 9, none⟩ (.int .i64 n)) S p ac tu en (upd k 1 ⟨t, a, n⟩) := ⟨by rw [set_list (set_list (set_list h.blk _) _) _]; rfl⟩
theorem So.k2 {w : World} {S : Nat} {p : Value} {ac tu en : Int} {k : Kp} (h : So w S p ac tu en k) (t : Bool) (a n : Nat) : So (((w.setCell ⟨S, 10, none⟩ (.bool t)).setCell ⟨S, 11, none⟩ (.int .i64 a)).setCell ⟨S, 12, none⟩ (.int .i64 n)) S p ac tu en (upd k 2 ⟨t, a, n⟩) := ⟨by rw [set_list (set_list (set_list h.blk _) _) _]; rfl⟩
theorem So.drew {w : World} {S : Nat} {p : Value} {ac tu en : Int} {k : Kp} (h : So w S p ac tu en k) : So w.drew S p ac tu en k := ⟨h.blk⟩
theorem So.below {w w' : World} {S : Nat} {p : Value} {ac tu en : Int} {k : Kp} (h : So w S p ac tu en k) (hb : Below w.heap.size w w') : So w' S p ac tu en k := ⟨by rw [hb.block S h.lt, h.blk]⟩
theorem So.kept {w w' : World} {S X : Nat} {p : Value} {ac tu en : Int} {k : Kp} (h : So w S p ac tu en k) (hb : Kept X w w') (hne : S ≠ X) : So w' S p ac tu en k := ⟨hb.other h.blk hne⟩
/-- a block of a flash is none of a store -/
theorem Fl.ne {w : World} {R S : Nat} {σ : St} {p : Value} {ac tu en : Int} {k : Kp} (h : Fl w R σ) (g : So w S p ac tu en k) : R ≠ S := by
  intro e
  subst e
  have := h.blk.symm.trans g.blk
  simp at this
/-- what is kept but for two blocks -/
structure Kep2 (X D : Nat) (w w' : World) : Prop where
  os : w'.os = w.os
  tape : w'.tape = w.tape
  output : w'.output = w.output
  size : w.heap.size ≤ w'.heap.size
  block : ∀ k, k < w.heap.size → k ≠ X → k ≠ D → w'.heap[k]? = w.heap[k]?
theorem Kep2.refl (X D : Nat) (w : World) : Kep2 X D w w := ⟨rfl, rfl, rfl, Nat.le_refl _, fun _ _ _ _ => rfl⟩
theorem Kep2.trans {X D : Nat} {w w1 w2 : World} (h : Kep2 X D w w1) (g : Kep2 X D w1 w2) : Kep2 X D w w2 :=
  ⟨g.os.trans h.os, g.tape.trans h.tape, g.output.trans h.output, Nat.le_trans h.size g.size, fun k hk h1 h2 => (g.block k (Nat.lt_of_lt_of_le hk h.size) h1 h2).trans (h.block k hk h1 h2)⟩
theorem Kept.l2 {X : Nat} {w w' : World} (h : Kept X w w') (D : Nat) : Kep2 X D w w' := ⟨World.grownBy.os h, World.grownBy.tape h, World.grownBy.output h, Kept.size h, fun k hk h1 _ => World.grownBy.block h k hk (by intro e; injection e with e; exact h1 e)⟩
theorem Kept.r2 {D : Nat} {w w' : World} (h : Kept D w w') (X : Nat) : Kep2 X D w w' := ⟨World.grownBy.os h, World.grownBy.tape h, World.grownBy.output h, Kept.size h, fun k hk _ h1 => World.grownBy.block h k hk (by intro e; injection e with e; exact h1 e)⟩
theorem Kep2.below {X D : Nat} {w w1 w2 : World} (h : Kep2 X D w w1) (g : Below w1.heap.size w1 w2) : Kep2 X D w w2 := h.trans ((Kept.below (Kept.refl X w1) g).l2 D)
theorem Kep2.toBelow {X D B : Nat} {a w w1 : World} (h : Below B a w) (g : Kep2 X D w w1) (hB : B ≤ w.heap.size) (h1 : B ≤ X) (h2 : B ≤ D) : Below B a w1 :=
  ⟨g.os.trans h.os, g.tape.trans h.tape, g.output.trans h.output, Nat.le_trans h.size g.size, fun k hk => (g.block k (by omega) (by omega) (by omega)).trans (h.block k hk)⟩
theorem Kep2.other {X D k : Nat} {w w1 : World} {o : Obj} (h : Kep2 X D w w1) (hk : w.heap[k]? = some o) (h1 : k ≠ X) (h2 : k ≠ D) : w1.heap[k]? = some o := by
  rw [h.block k (lt_of_block hk) h1 h2, hk]
theorem Kep2.toKept {X D : Nat} {w w1 : World} (h : Kep2 X D w w1) (hD : w.heap.size ≤ D) : Kept X w w1 := ⟨h.os, h.tape, h.output, h.size, fun k hk h1 => h.block k hk (fun e => h1 (by rw [e])) (by omega)⟩
theorem Fl.kep2 {w w' : World} {R X D : Nat} {σ : St} (h : Fl w R σ) (hb : Kep2 X D w w') (h1 : R ≠ X) (h2 : R ≠ D) : Fl w' R σ := ⟨h.len, hb.other h.blk h1 h2⟩
theorem So.kep2 {w w' : World} {S X D : Nat} {p : Value} {ac tu en : Int} {k : Kp} (h : So w S p ac tu en k) (hb : Kep2 X D w w') (h1 : S ≠ X) (h2 : S ≠ D) : So w' S p ac tu en k := ⟨hb.other h.blk h1 h2⟩
theorem below_kept {w w' : World} (h : Below w.heap.size w w') (R : Nat) : Kept R w w' := Kept.below (Kept.refl R w) h
/-- small functions -/
theorem obj_any (w : World) (i : Int) : Calls Try.prog 50 #[.int .i64 i] w fun e w' => e = .returned (.bool (decide (0 ≤ i) && decide (i < 3))) ∧ w' = w := by
  go_enter Try.func50, Try.ntmps50
  go_wp2
  all_goals
    go_ret
    refine ⟨?_, rfl⟩
    apply ret_bool
    simp
    try omega
theorem other_any (w : World) (s : Nat) (hs : s < 2) : Calls Try.prog 83 #[.int .i64 (s : Int)] w fun e w' => e = .returned (.int .i64 ((1 - s : Nat) : Int)) ∧ w' = w := by
  obtain rfl | rfl : s = 0 ∨ s = 1 := by omega
  all_goals
    go_enter Try.func83, Try.ntmps83
    go_wp2
    go_ret
    exact ⟨rfl, rfl⟩
theorem place_any (w : World) (S : Nat) (p : Value) (ac a : Nat) (tu en : Int) (k : Kp) (h : So w S p ac tu en k) (hac : ac < 2) (ha : a ≤ 4096) : Calls Try.prog 77 #[fp S, .int .i64 (a : Int)] w fun e w' => e = .returned (.int .i64 ((ac * 4096 + a : Nat) : Int)) ∧ w' = w := by
  have c1 := h.c1
  go_enter Try.func77, Try.ntmps77
  go_wp2
  go_ret
  refine ⟨?_, rfl⟩
  apply ret_int
  omega
/-- the codes -/
theorem codes_any (w : World) : Calls Try.prog 103 #[] w fun e w' => e = .returned (.slice (some ⟨w.heap.size, 0, none⟩) 3 3) ∧ w' = w.alloc (.cells #[.int .u8 15, .int .u8 51, .int .u8 85] 5) := by
  go_enter Try.func103, Try.ntmps103
  go_wp2
  go_ret
  exact ⟨rfl, rfl⟩
end Go.Proofs.Ytcjahdgppnmdkaa
set_option maxRecDepth 100000
namespace Go.Proofs.Ytcjahdgppnmdkaa
open Go.RowKit Go.Great
theorem nat_u8 (b : UInt8) (n : Nat) (hn : n < 256) : ((b.toNat : Int) == (n : Int)) = decide (b = UInt8.ofNat n) := by
  by_cases h : b = UInt8.ofNat n
  · subst h
    rw [decide_eq_true rfl, UInt8.toNat_ofNat']
    simp
    omega
  · rw [decide_eq_false h]
    simp only [beq_eq_false_iff_ne, ne_eq]
    intro e
    apply h
    apply UInt8.toNat_inj.1
    rw [UInt8.toNat_ofNat']
    omega
def codesO : Obj := .cells #[.int .u8 15, .int .u8 51, .int .u8 85] 5
theorem index_any (w : World) (A : Nat) (b : UInt8) (h : w.heap[A]? = some codesO) : Calls Try.prog 102 #[.slice (some ⟨A, 0, none⟩) 3 3, .int .u8 (b.toNat : Int)] w fun e w' => e = .returned (.int .i64 (turnI b)) ∧ w' = w := by
  have c0 : w.cell? ⟨A, 0, none⟩ = some (.int .u8 15) := by simp [World.cell?, h, codesO]
  have c1 : w.cell? ⟨A, 1, none⟩ = some (.int .u8 51) := by simp [World.cell?, h, codesO]
  have c2 : w.cell? ⟨A, 2, none⟩ = some (.int .u8 85) := by simp [World.cell?, h, codesO]
  have e0 : ((b.toNat : Int) == 15) = decide (b = 15) := nat_u8 b 15 (by omega)
  have e1 : ((b.toNat : Int) == 51) = decide (b = 51) := nat_u8 b 51 (by omega)
  have e2 : ((b.toNat : Int) == 85) = decide (b = 85) := nat_u8 b 85 (by omega)
  obtain ⟨t, ht⟩ : ∃ t, Hid (turnI b = t) := ⟨_, hide rfl⟩
  rw [ht.out]
  go_enter Try.func102, Try.ntmps102
  go_wp2_with fail
  refine wp_loop_rounds 4 ?_
  by_cases h0 : b = 15
  · rw [decide_eq_true h0] at e0
    have : t = 0 := by rw [← ht.out]; simp [turnI, h0]
    subst this
    clear e1 e2
    rw [rounds_succ]; go_wp2_with fail
    go_ret
    exact ⟨rfl, rfl⟩
  · rw [decide_eq_false h0] at e0
    by_cases h1 : b = 51
    · rw [decide_eq_true h1] at e1
      have : t = 1 := by rw [← ht.out]; simp [turnI, h1]
      subst this
      clear e2
      rw [rounds_succ]; go_wp2_with fail
      rw [rounds_succ]; go_wp2_with fail
      go_ret
      exact ⟨rfl, rfl⟩
    · rw [decide_eq_false h1] at e1
      by_cases h2 : b = 85
      · rw [decide_eq_true h2] at e2
        have : t = 2 := by rw [← ht.out]; simp [turnI, h2]
        subst this
        rw [rounds_succ]; go_wp2_with fail
        rw [rounds_succ]; go_wp2_with fail
        rw [rounds_succ]; go_wp2_with fail
        go_ret
        exact ⟨rfl, rfl⟩
      · rw [decide_eq_false h2] at e2
        have : t = -1 := by rw [← ht.out]; simp [turnI, h0, h1, h2]
        subst this
        rw [rounds_succ]; go_wp2_with fail
        rw [rounds_succ]; go_wp2_with fail
        rw [rounds_succ]; go_wp2_with fail
        rw [rounds_succ]; go_wp2_with fail
        go_ret
        exact ⟨rfl, rfl⟩
theorem turn_any (w : World) (b : UInt8) : Calls Try.prog 80 #[.int .u8 (b.toNat : Int)] w fun e w' => e = .returned (.int .i64 (turnI b)) ∧ Below w.heap.size w w' := by
  have I := index_any (w.alloc codesO) w.heap.size b (by rw [heap_alloc_new])
  go_enter Try.func80, Try.ntmps80
  go_wp2_with fail
  refine (codes_any w).mono ?_
  rintro e w1 ⟨rfl, rfl⟩
  go_wp2_with fail
  refine I.mono ?_
  rintro e w1 ⟨rfl, rfl⟩
  go_wp2_with fail
  go_ret
  exact ⟨rfl, below_alloc _ _⟩
theorem fol_any (w : World) (t : Nat) (ht : t < 3) : Calls Try.prog 98 #[.int .i64 (t : Int)] w fun e w' => e = .returned (.int .i64 ((folN t : Nat) : Int)) ∧ Below w.heap.size w w' := by
  go_enter Try.func98, Try.ntmps98
  go_wp2_with fail
  refine (codes_any w).mono ?_
  rintro e w1 ⟨rfl, rfl⟩
  obtain rfl | rfl | rfl : t = 0 ∨ t = 1 ∨ t = 2 := by omega
  all_goals
    go_wp2_with fail
    go_ret
    exact ⟨rfl, below_alloc _ _⟩
theorem turnI_cases (b : UInt8) : turnI b = -1 ∨ turnI b = 0 ∨ turnI b = 1 ∨ turnI b = 2 := by
  unfold turnI; split
  · simp
  · split
    · simp
    · split <;> simp
def actR : Array Value := #[.int .i64 (-1), .int .i64 1, .int .i64 1, .int .i64 1, .int .i64 0, .int .i64 0, .int .i64 1, .int .i64 0, .int .i64 0, .int .i64 0, .int .i64 0, .int .i64 1, .int .i64 0, .int .i64 1, .int .i64 0, .int .i64 0]
def actT : Obj := .cells actR 159
theorem tab_cell {w : World} {A i : Nat} {v : Value} (h : w.heap[A]? = some actT) (hi : actR[i]? = some v) : w.cell? ⟨A, i, none⟩ = some v := by
  simp [World.cell?, h, actT, hi]
set_option maxHeartbeats 4000000 in
theorem act_any (w : World) (a b : UInt8) : Calls Try.prog 78 #[.int .u8 (a.toNat : Int), .int .u8 (b.toNat : Int)] w fun e w' => e = .returned (.int .i64 (actI a b)) ∧ Below w.heap.size w w' := by
  have A := fun wx => turn_any wx a
  have B := fun wx => turn_any wx b
  obtain ⟨s, hs⟩ : ∃ s, turnI a = s := ⟨_, rfl⟩
  obtain ⟨t, ht⟩ : ∃ t, turnI b = t := ⟨_, rfl⟩
  obtain ⟨i, hi, hi4⟩ : ∃ i : Nat, 1 + s = (i : Int) ∧ i < 4 := ⟨(1 + s).toNat, by have := turnI_cases a; omega, by have := turnI_cases a; omega⟩
  obtain ⟨j, hj, hj4⟩ : ∃ j : Nat, 1 + t = (j : Int) ∧ j < 4 := ⟨(1 + t).toNat, by have := turnI_cases b; omega, by have := turnI_cases b; omega⟩
  obtain ⟨v, hv⟩ : ∃ v, Hid (actI a b = v) := ⟨_, hide rfl⟩
  have hT : Hid (actR[i * 4 + j]? = some (.int .i64 v)) := by
    show _ = _
    rw [← hv.out]
    unfold actI
    rw [hs, ht, hi, hj]
    obtain rfl | rfl | rfl | rfl : i = 0 ∨ i = 1 ∨ i = 2 ∨ i = 3 := by omega
    all_goals
      obtain rfl | rfl | rfl | rfl : j = 0 ∨ j = 1 ∨ j = 2 ∨ j = 3 := by omega
      all_goals rfl
  rw [hs] at A
  rw [ht] at B
  rw [hv.out]
  clear hs ht hv
  obtain ⟨o, ho⟩ : ∃ o, Hid (actT = o) := ⟨_, hide rfl⟩
  have HA : (w.alloc o).drew.heap[w.heap.size]? = some actT := by
    show (w.alloc o).heap[w.heap.size]? = some actT
    rw [heap_alloc_new, ho.out]
  have HL := lt_of_block HA
  have HB : Below w.heap.size w (w.alloc o).drew := Kept.toBelow (Below.refl _ _) ((Kept.refl w.heap.size w).alloc o).drew (Nat.le_refl _) (Nat.le_refl _)
  obtain ⟨W0, hW0⟩ : ∃ W0, Hid (w.alloc o = W0) := ⟨_, hide rfl⟩
  obtain ⟨X, hX⟩ : ∃ X, Hid (w.heap.size = X) := ⟨_, hide rfl⟩
  rw [hX.out] at HA HL HB ⊢
  rw [hW0.out] at HA HL HB
  have hi4' : (i : Int) < 4 := by omega
  have hj4' : (j : Int) < 4 := by omega
  have h1s : IntKind.i64.wrap (i : Int) = (i : Int) := by rw [IntKind.wrap_i64]; omega
  have h1t : IntKind.i64.wrap (j : Int) = (j : Int) := by rw [IntKind.wrap_i64]; omega
  go_enter Try.func78, Try.ntmps78
  go_wp2_with fail
  rw [show w.alloc _ = W0 from by rw [← hW0.out, ← ho.out]; rfl, hX.out]
  go_region_with (go_at_call 80; first | (refine (A _).mono ?_; rintro e w1 ⟨rfl, b1⟩; have H1 := (b1.block X HL).trans HA; have L1 := lt_of_block H1; have N1 := below_next HB (Nat.le_of_eq hX.out.symm) b1) | (refine (B _).mono ?_; rintro e w2 ⟨rfl, b2⟩; have H2 := (b2.block X L1).trans H1; have c := tab_cell H2 hT.out; have N2 := below_next N1 (Nat.le_of_eq hX.out.symm) b2))
  all_goals
    go_wp2_with fail
    go_ret
    exact ⟨by rfl, N2⟩
end Go.Proofs.Ytcjahdgppnmdkaa
set_option maxRecDepth 100000
namespace Go.Proofs.Ytcjahdgppnmdkaa
open Go.RowKit Go.Great
theorem getD_ba (s : ByteArray) (j : Nat) (h : j < s.size) : s.data.toList.getD j 0 = s[j] := by
  rw [getD_at _ _ (by rw [list_size]; exact h)]; rfl
theorem used_any (w : World) (s : ByteArray) (hs : s.size ≤ 4096) : Calls Try.prog 111 #[.string s] w fun e w' => ∃ u : Nat, e = .returned (.int .i64 (u : Int)) ∧ w' = w ∧ u ≤ s.size ∧ ∀ a, (a < u ↔ blankB s.data.toList a = false) := by
  go_enter Try.func111, Try.ntmps111
  go_wp2_with fail
  go_loopw [3] (fun v wr => ∃ i : Nat, v = .int .i64 (i : Int) ∧ i ≤ s.size ∧ wr = w ∧ Hid (∀ j, i ≤ j → j < s.size → s.data.toList.getD j 0 = 255)) (fun v _ => (intOf v).toNat)
  case atStart => exact ⟨s.size, rfl, Nat.le_refl _, rfl, hide (fun j h1 h2 => by omega)⟩
  case round =>
    obtain ⟨i, rfl, hi, hw, hA⟩ := hrel
    obtain rfl := hw
    by_cases h0 : i = 0
    · subst h0
      go_wp2_with fail
      go_ret
      refine ⟨0, rfl, rfl, Nat.zero_le _, fun a => ⟨fun h => by omega, fun h => ?_⟩⟩
      rw [(blankB_iff _ _).2 (fun j h1 h2 => hA.out j (Nat.zero_le _) (by rw [list_size] at h2; exact h2))] at h
      cases h
    · obtain ⟨c, rfl⟩ : ∃ c, i = c + 1 := ⟨i - 1, by omega⟩
      have hm : ((c + 1 : Nat) : Int) - 1 = (c : Int) := by omega
      have hp : (0 : Int) < ((c + 1 : Nat) : Int) := by omega
      have hc : c < s.size := by omega
      have hg := getD_ba s c hc
      have e0 : ((s[c].toNat : Int) == 255) = decide (s[c] = 255) := nat_u8 _ 255 (by omega)
      by_cases h1 : s[c] = 255
      · rw [decide_eq_true h1] at e0
        clear h1
        have HG : Hid (s.data.toList.getD c 0 = 255) := by
          show _ = _
          rw [hg]
          exact of_decide_eq_true ((nat_u8 s[c] 255 (by omega)).symm.trans e0)
        clear hg
        go_wp2_with fail
        go_roundw
        case rel =>
          refine ⟨c, by go_num, by omega, trivial, hide (fun j h1 h2 => ?_)⟩
          by_cases e : j = c
          · subst e; exact HG.out
          · exact hA.out j (by omega) h2
        case measure => simp [intOf]
      · rw [decide_eq_false h1] at e0
        have HG : Hid (¬ s.data.toList.getD c 0 = 255) := by
          show ¬ _
          rw [hg]; exact h1
        clear hg h1
        go_wp2_with fail
        go_ret
        refine ⟨c + 1, rfl, rfl, by omega, fun a => ⟨fun h => ?_, fun h => ?_⟩⟩
        · cases hb : blankB s.data.toList a
          · rfl
          · exact absurd ((blankB_iff _ _).1 hb c (by omega) (by rw [list_size]; exact hc)) HG.out
        · refine Nat.lt_of_not_le fun hle => ?_
          rw [(blankB_iff _ _).2 (fun j h1 h2 => hA.out j (by omega) (by rw [list_size] at h2; exact h2))] at h
          cases h
theorem or_len (a b : UInt8) : bits .or .i64 (a.toNat : Int) ((b.toNat : Int) * 256) = ((a.toNat + 256 * b.toNat : Nat) : Int) := by
  have ha := a.toNat_lt
  have hb := b.toNat_lt
  have e1 : BitVec.ofInt 64 (a.toNat : Int) = BitVec.ofNat 64 a.toNat := rfl
  have e2 : BitVec.ofInt 64 ((b.toNat : Int) * 256) = BitVec.ofNat 64 (256 * b.toNat) := by
    rw [show (b.toNat : Int) * 256 = ((256 * b.toNat : Nat) : Int) by omega]; rfl
  show IntKind.i64.wrap ((BitVec.ofInt 64 (a.toNat : Int) ||| BitVec.ofInt 64 ((b.toNat : Int) * 256)).toNat : Int) = _
  rw [e1, e2, BitVec.toNat_or, BitVec.toNat_ofNat, BitVec.toNat_ofNat, Nat.mod_eq_of_lt (by omega), Nat.mod_eq_of_lt (by omega)]
  have e3 : a.toNat ||| 256 * b.toNat = a.toNat + 256 * b.toNat := by
    have := Nat.shiftLeft_add_eq_or_of_lt (b := a.toNat) (i := 8) (by omega) b.toNat
    rw [Nat.shiftLeft_eq] at this
    rw [Nat.or_comm, show 256 * b.toNat = b.toNat * 2 ^ 8 by omega, ← this]
    omega
  rw [e3, IntKind.wrap_i64]
  omega
/-- what recordAt answers -/
def recV (l : List UInt8) (a : Nat) : Value :=
  if wholeB l a then .tuple #[.int .i64 (idAt l a), .agg #[.bool true, .int .i64 ((a + 3 : Nat) : Int), .int .i64 (lenAt l a)], .bool true]
  else .tuple #[.int .i64 0, .agg #[.bool false, .int .i64 0, .int .i64 0], .bool false]
theorem ext_at (s : ByteArray) (a i : Nat) (h : a + i < s.size) (h2 : i < (s.extract a s.size).size) : (s.extract a s.size)[i] = s.data.toList.getD (a + i) 0 := by
  rw [getD_ba s (a + i) h, ByteArray.getElem_extract]
theorem results_tct {fn : Func} {t p u : Tmp} {ty : TypeId} (h : fn.results = #[.tmp t, .cell p ty, .tmp u]) (tmps : Array Value) (P : Program) (w : World) :
    (results fn tmps).run P w =
      ((asAddr (tmps.getD p undef)).run P w).andThen fun a w₁ => ((loadVar ty a).run P w₁).andThen fun v w₂ => .ok (.tuple #[tmps.getD t undef, v, tmps.getD u undef]) w₂ := by
  simp only [results, h]
  simp [Sem.run_bind, Result.andThen]
theorem rec_back (tmps : Array Value) (w : World) (g : Nat) (x y z a b : Value) (fr : Nat × Nat) (h4 : tmps.getD 4 undef = a) (h5 : tmps.getD 5 undef = .pointer (some ⟨g, 0, none⟩)) (h6 : tmps.getD 6 undef = b) (hg : w.heap[g]? = some (.cells #[x, y, z] 105 fr)) : (results Try.f112 tmps).run Try.prog w = .ok (.tuple #[a, .agg #[x, y, z], b]) w := by
  rw [results_tct (by kernel_rfl : Try.f112.results = #[.tmp 4, .cell 5 105, .tmp 6])]
  have := run_loadVar_row (P := Try.prog) w g 105 105 #[x, y, z] fr _ hg Try.underlying105 rfl (by kernel_rfl)
  rw [h4, h5, h6]
  simp [asAddr, this, Result.andThen]
/-- a variable that holds a stretch -/
def Sgv (w : World) (g : Nat) (x y z : Value) : Prop := w.heap[g]? = some (.cells #[x, y, z] 105 (0, 0))
theorem Sgv.set {w : World} {g : Nat} {x y z : Value} (h : Sgv w g x y z) (x' y' z' : Value) : Sgv (((w.setCell ⟨g, 0, none⟩ x').setCell ⟨g, 1, none⟩ y').setCell ⟨g, 2, none⟩ z') g x' y' z' := by
  have h1 : w.heap[g]? = some (.cells [x, y, z].toArray 105 (0, 0)) := h
  unfold Sgv
  rw [set_list (set_list (set_list h1 _) _) _]
  rfl
theorem Sgv.drew {w : World} {g : Nat} {x y z : Value} (h : Sgv w g x y z) : Sgv w.drew g x y z := h
theorem sgv_new (w : World) (x y z : Value) : Sgv (w.alloc (.cells #[x, y, z] 105)) w.heap.size x y z := heap_alloc_new _ _
theorem below_set3 {B : Nat} {w w1 : World} {g : Nat} (h : Below B w w1) (hg : B ≤ g) (a b c : Value) : Below B w (((w1.setCell ⟨g, 0, none⟩ a).setCell ⟨g, 1, none⟩ b).setCell ⟨g, 2, none⟩ c) :=
  ((h.setCell (p := ⟨g, 0, none⟩) hg a).setCell (p := ⟨g, 1, none⟩) hg b).setCell (p := ⟨g, 2, none⟩) hg c
theorem below_drew1 {B : Nat} {w w1 : World} (h : Below B w w1) : Below B w w1.drew := ⟨h.os, h.tape, h.output, h.size, h.block⟩
theorem rec_short (w : World) (s : ByteArray) (a : Nat) (ha : a ≤ s.size) (h4 : s.size < a + 4) : Calls Try.prog 112 #[.string s, .int .i64 (a : Int)] w fun e w' => e = .returned (.tuple #[.int .i64 0, .agg #[.bool false, .int .i64 0, .int .i64 0], .bool false]) ∧ Below w.heap.size w w' := by
  obtain ⟨t, ht⟩ : ∃ t, s.extract a s.size = t := ⟨_, rfl⟩
  have hz : t.size < 4 := by rw [← ht, ByteArray.size_extract]; omega
  have hz' : (t.size : Int) < 4 := by omega
  go_enter Try.func112, Try.ntmps112
  go_wp2_with fail
  refine bodyPost_ret (rec_back _ _ w.heap.size _ _ _ _ _ _ rfl rfl rfl (sgv_new w _ _ _)) rfl ?_
  exact ⟨rfl, below_alloc _ _⟩
theorem rec_long (w : World) (s : ByteArray) (a : Nat) (hs : s.size ≤ 4096) (ha : a + 4 ≤ s.size) : Calls Try.prog 112 #[.string s, .int .i64 (a : Int)] w fun e w' => e = .returned (recV s.data.toList a) ∧ Below w.heap.size w w' := by
  obtain ⟨t, ht⟩ : ∃ t, s.extract a s.size = t := ⟨_, rfl⟩
  have hz : t.size = s.size - a := by rw [← ht, ByteArray.size_extract]; omega
  have hz4 : 4 ≤ t.size := by omega
  have hz4' : decide ((t.size : Int) < 4) = false := decide_eq_false (by omega)
  have hzm : t.size ≤ 4096 := by omega
  obtain ⟨b0, h0⟩ : ∃ b, Hid (s.data.toList.getD a 0 = b) := ⟨_, hide rfl⟩
  obtain ⟨b1, h1⟩ : ∃ b, Hid (s.data.toList.getD (a + 1) 0 = b) := ⟨_, hide rfl⟩
  obtain ⟨b2, h2⟩ : ∃ b, Hid (s.data.toList.getD (a + 2) 0 = b) := ⟨_, hide rfl⟩
  have i0 : ∀ h : 0 < t.size, t[0]'h = b0 := fun h => by subst ht; rw [ext_at s a 0 (by omega), ← h0.out]; rfl
  have i1 : ∀ h : 1 < t.size, t[1]'h = b1 := fun h => by subst ht; rw [ext_at s a 1 (by omega), ← h1.out]
  have i2 : ∀ h : 2 < t.size, t[2]'h = b2 := fun h => by subst ht; rw [ext_at s a 2 (by omega), ← h2.out]
  obtain ⟨n, hn⟩ : ∃ n, Hid (lenAt s.data.toList a = n) := ⟨_, hide rfl⟩
  have hnv : Hid (n = b1.toNat + 256 * b2.toNat) := by
    show _ = _
    rw [← hn.out, lenAt, h1.out, h2.out]
  have ho : bits .or .i64 (b1.toNat : Int) ((b2.toNat : Int) * 256) = (n : Int) := by
    rw [or_len, hnv.out]
  have hb0 : (b0.toNat : Int) ≤ 255 := by have := b0.toNat_lt; omega
  have hb1 : (b1.toNat : Int) ≤ 255 := by have := b1.toNat_lt; omega
  have hb2 : (b2.toNat : Int) ≤ 255 := by have := b2.toNat_lt; omega
  have hnb : n ≤ 65535 := by have := hnv.out; omega
  obtain ⟨m, hm⟩ : ∃ m : Nat, (3 : Int) + (n : Int) = (m : Int) := ⟨3 + n, by omega⟩
  have hmn : Hid (m = 3 + n) := by show _ = _; omega
  have hm1 : (m : Int) ≤ 65538 := by omega
  obtain ⟨q, hq⟩ : ∃ q : Nat, (4 : Int) + (n : Int) = (q : Int) := ⟨4 + n, by omega⟩
  have hq1 : (q : Int) ≤ 65539 := by omega
  obtain ⟨V, hV⟩ : ∃ V, Hid (recV s.data.toList a = V) := ⟨_, hide rfl⟩
  rw [hV.out]
  have hno : (¬ ((b0.toNat < 3 ∧ n ≤ 2000) ∧ a + 4 + n ≤ s.size) ∨ s.data.toList.getD (a + 3 + n) 0 ≠ 0) → V = .tuple #[.int .i64 0, .agg #[.bool false, .int .i64 0, .int .i64 0], .bool false] := by
    intro hc
    rw [← hV.out, recV, if_neg]
    intro hw
    obtain ⟨c1, c2, c3, c4, c5⟩ := wholeB_true hw
    rw [hn.out] at c3 c4 c5
    rw [idAt, h0.out] at c2
    rw [list_size] at c4
    rcases hc with hc | hc
    · exact hc ⟨⟨c2, c3⟩, c4⟩
    · exact hc c5
  have O := fun wx => obj_any wx (b0.toNat : Int)
  have HZ := hide hz
  clear hz
  by_cases d0 : b0.toNat < 3
  · have e0 : (decide (0 ≤ (b0.toNat : Int)) && decide ((b0.toNat : Int) < 3)) = true := by simp; omega
    rw [e0] at O
    by_cases d1 : n ≤ 2000
    · by_cases d2 : a + 4 + n ≤ s.size
      · have hq2 : (q : Int) ≤ (t.size : Int) := by have := HZ.out; omega
        have hm2 : m < t.size := by have := HZ.out; omega
        obtain ⟨c, hc⟩ : ∃ c, Hid (s.data.toList.getD (a + 3 + n) 0 = c) := ⟨_, hide rfl⟩
        have i3 : ∀ h : m < t.size, t[m]'h = c := fun h => by
          subst ht
          rw [ext_at s a m (by have := hmn.out; omega), ← hc.out, hmn.out, Nat.add_assoc]
        have e3 : ((c.toNat : Int) != 0) = !decide (c = 0) := congrArg (!·) (nat_u8 c 0 (by omega))
        by_cases d3 : c = 0
        · rw [decide_eq_true d3] at e3
          have hyes : V = .tuple #[.int .i64 (b0.toNat : Int), .agg #[.bool true, .int .i64 ((a : Int) + 3), .int .i64 (n : Int)], .bool true] := by
            rw [← hV.out, recV, if_pos, hn.out, idAt, h0.out]
            · rfl
            · unfold wholeB
              simp only [Bool.and_eq_true, decide_eq_true_eq, beq_iff_eq]
              rw [hn.out, list_size]
              refine ⟨⟨⟨⟨ha, ?_⟩, d1⟩, d2⟩, ?_⟩
              · rw [h0.out]; exact d0
              · rw [hc.out, d3]
          subst hyes
          clear hno hV d3
          go_enter Try.func112, Try.ntmps112
          go_wp2_with fail
          go_region
          go_wp2_with (go_at_call 50; refine (O _).mono ?_; rintro e w1 ⟨rfl, rfl⟩)
          refine bodyPost_ret (rec_back _ _ w.heap.size _ _ _ _ _ _ rfl rfl rfl (sgv_new w _ _ _).drew) rfl ?_
          exact ⟨rfl, below_drew1 (below_alloc _ _)⟩
        · rw [decide_eq_false d3] at e3
          obtain rfl := hno (.inr (by rw [hc.out]; exact d3))
          clear hno hV d3
          go_enter Try.func112, Try.ntmps112
          go_wp2_with fail
          go_region
          go_wp2_with (go_at_call 50; refine (O _).mono ?_; rintro e w1 ⟨rfl, rfl⟩)
          refine bodyPost_ret (rec_back _ _ w.heap.size _ _ _ _ _ _ rfl rfl rfl (sgv_new w _ _ _).drew) rfl ?_
          exact ⟨rfl, below_drew1 (below_alloc _ _)⟩
      · have hq2 : (t.size : Int) < (q : Int) := by have := HZ.out; omega
        obtain rfl := hno (.inl (by omega))
        clear hno hV
        go_enter Try.func112, Try.ntmps112
        go_wp2_with fail
        go_region
        go_wp2_with (go_at_call 50; refine (O _).mono ?_; rintro e w1 ⟨rfl, rfl⟩)
        refine bodyPost_ret (rec_back _ _ w.heap.size _ _ _ _ _ _ rfl rfl rfl (sgv_new w _ _ _).drew) rfl ?_
        exact ⟨rfl, below_drew1 (below_alloc _ _)⟩
    · obtain rfl := hno (.inl (by omega))
      clear hno hV
      go_enter Try.func112, Try.ntmps112
      go_wp2_with fail
      go_region
      go_wp2_with (go_at_call 50; refine (O _).mono ?_; rintro e w1 ⟨rfl, rfl⟩)
      refine bodyPost_ret (rec_back _ _ w.heap.size _ _ _ _ _ _ rfl rfl rfl (sgv_new w _ _ _).drew) rfl ?_
      exact ⟨rfl, below_drew1 (below_alloc _ _)⟩
  · obtain rfl := hno (.inl (by omega))
    have e0 : (decide (0 ≤ (b0.toNat : Int)) && decide ((b0.toNat : Int) < 3)) = false := by simp; omega
    rw [e0] at O
    clear hno hV
    go_enter Try.func112, Try.ntmps112
    go_wp2_with fail
    go_region
    go_wp2_with (go_at_call 50; refine (O _).mono ?_; rintro e w1 ⟨rfl, rfl⟩)
    refine bodyPost_ret (rec_back _ _ w.heap.size _ _ _ _ _ _ rfl rfl rfl (sgv_new w _ _ _).drew) rfl ?_
    exact ⟨rfl, below_drew1 (below_alloc _ _)⟩
theorem rec_any (w : World) (s : ByteArray) (a : Nat) (hs : s.size ≤ 4096) (ha : a ≤ s.size) : Calls Try.prog 112 #[.string s, .int .i64 (a : Int)] w fun e w' => e = .returned (recV s.data.toList a) ∧ Below w.heap.size w w' := by
  by_cases h4 : a + 4 ≤ s.size
  · exact rec_long w s a hs h4
  · have : recV s.data.toList a = .tuple #[.int .i64 0, .agg #[.bool false, .int .i64 0, .int .i64 0], .bool false] := by
      rw [recV, if_neg]
      intro hw
      have := (wholeB_true hw).1
      rw [list_size] at this
      omega
    rw [this]
    exact rec_short w s a ha (by omega)
/-- the closure of find -/
theorem note_any (w : World) (B S : Nat) (p : Value) (ac tu en : Int) (k : Kp) (h : So w S p ac tu en k) (hB : w.heap[B]? = some (.cells #[fp S] 24 (0, 0))) (i : Nat) (hi : i < 3) (t : Bool) (lo n : Nat) : Calls Try.prog 105 #[.int .i64 (i : Int), .agg #[.bool t, .int .i64 (lo : Int), .int .i64 (n : Int)], fp B] w fun e w' => e = .returned (.tuple #[]) ∧ So w' S p ac tu en (upd k i ⟨t, lo, n⟩) ∧ Kept S w w' := by
  have hlt := lt_of_block hB
  have hls := h.lt
  have cB : w.cell? ⟨B, 0, none⟩ = some (fp S) := by simp [World.cell?, hB]
  obtain rfl | rfl | rfl : i = 0 ∨ i = 1 ∨ i = 2 := by omega
  · have f4 := h.frozen 4
    have f5 := h.frozen 5
    have f6 := h.frozen 6
    have c4 := h.c4
    have c5 := h.c5
    have c6 := h.c6
    go_enter Try.func105, Try.ntmps105
    go_wp2_with fail
    go_region
    go_wp2_with fail
    go_end0
    exact ⟨rfl, ((h.k0 t lo n).below (below_alloc _ _)).drew, (((((Kept.refl S w).set _ _).set _ _).set _ _).alloc _).drew⟩
  · have f4 := h.frozen 7
    have f5 := h.frozen 8
    have f6 := h.frozen 9
    have c4 := h.c7
    have c5 := h.c8
    have c6 := h.c9
    go_enter Try.func105, Try.ntmps105
    go_wp2_with fail
    go_region
    go_wp2_with fail
    go_end0
    exact ⟨rfl, ((h.k1 t lo n).below (below_alloc _ _)).drew, (((((Kept.refl S w).set _ _).set _ _).set _ _).alloc _).drew⟩
  · have f4 := h.frozen 10
    have f5 := h.frozen 11
    have f6 := h.frozen 12
    have c4 := h.c10
    have c5 := h.c11
    have c6 := h.c12
    go_enter Try.func105, Try.ntmps105
    go_wp2_with fail
    go_region
    go_wp2_with fail
    go_end0
    exact ⟨rfl, ((h.k2 t lo n).below (below_alloc _ _)).drew, (((((Kept.refl S w).set _ _).set _ _).set _ _).alloc _).drew⟩
theorem box_ne {w : World} {B S : Nat} {v p : Value} {ac tu en : Int} {k : Kp} (h : So w S p ac tu en k) (hB : w.heap[B]? = some (.cells #[v] 24 (0, 0))) : B ≠ S := by
  intro e
  subst e
  have := hB.symm.trans h.blk
  simp at this
theorem recs_any (w : World) (B S : Nat) (p : Value) (ac tu en : Int) (k : Kp) (h : So w S p ac tu en k) (hB : w.heap[B]? = some (.cells #[fp S] 24 (0, 0))) (s : ByteArray) (hs : s.size = 4096) : Calls Try.prog 104 #[.string s, .func (.func 105) #[] #[fp B]] w fun e w' => e = .returned (.tuple #[.int .i64 ((rd s.data.toList 4096 1 k).2.1 : Int), .bool (rd s.data.toList 4096 1 k).2.2]) ∧ So w' S p ac tu en (rd s.data.toList 4096 1 k).1 ∧ Kept S w w' := by
  have hne := box_ne h hB
  obtain ⟨l, hl⟩ : ∃ l, Hid (s.data.toList = l) := ⟨_, hide rfl⟩
  have hll : Hid (l.length = 4096) := by show _ = _; rw [← hl.out, list_size]; exact hs
  obtain ⟨⟨K, E, c⟩, hr⟩ : ∃ r, Hid (rd l 4096 1 k = r) := ⟨_, hide rfl⟩
  rw [hl.out, hr.out]
  simp only
  have U := used_any w s (by omega)
  have R := fun wx a ha => rec_any wx s a (by omega) ha
  rw [hl.out] at U
  simp only [hl.out] at R
  have HS := hide hs
  clear hs
  go_enter Try.func104, Try.ntmps104
  go_wp2_with fail
  refine U.mono ?_
  rintro e w1 ⟨u, rfl, hw, hu, hub⟩
  obtain rfl := hw.symm
  clear hw U
  go_wp2_with fail
  go_loopw [7] (fun v wr => ∃ (a f : Nat) (kk : Kp), v = .int .i64 (a : Int) ∧ a ≤ 4096 ∧ So wr S p ac tu en kk ∧ wr.heap[B]? = some (.cells #[fp S] 24 (0, 0)) ∧ Kept S w wr ∧ Hid (4096 < a + f) ∧ Hid (rd l 4096 1 k = rd l f a kk)) (fun v _ => 4096 - (intOf v).toNat)
  case atStart => exact ⟨1, 4096, k, rfl, by omega, h, hB, Kept.refl _ _, hide (by omega), hide rfl⟩
  case round =>
    obtain ⟨a, f, kk, rfl, ha, hS, hBr, hK, hf, hE⟩ := hrel
    obtain ⟨g, rfl⟩ : ∃ g, f = g + 1 := ⟨f - 1, by have := hf.out; omega⟩
    by_cases hlt : a < u
    · have hbl := (hub a).1 hlt
      have hlt' : (a : Int) < (u : Int) := by omega
      have Ra := R wr a (by have := HS.out; omega)
      unfold recV at Ra
      cases hw : wholeB l a
      · rw [hw] at Ra
        simp only [Bool.false_eq_true, if_false] at Ra
        have HE : Hid ((K, E, c) = (kk, a, false)) := by
          show _ = _
          rw [← hr.out, hE.out, rd, hbl, hw]; rfl
        clear hE hr hw hub
        go_wp2_with fail
        refine Ra.mono ?_
        rintro e w2 ⟨rfl, b2⟩
        go_wp2_with fail
        go_ret2
        have := HE.out
        injection this with e1 e2
        injection e2 with e2 e3
        subst e1 e2 e3
        exact ⟨rfl, (hS.below b2).below (below_alloc _ _), (hK.below b2).below (below_alloc _ _)⟩
      · rw [hw] at Ra
        simp only [if_true] at Ra
        obtain ⟨c1, c2, c3, c4, c5⟩ := wholeB_true hw
        rw [hll.out] at c4
        have HE : Hid (rd l 4096 1 k = rd l g (a + 4 + lenAt l a) (upd kk (idAt l a) (sgAt l a))) := by
          show _ = _
          rw [hE.out, rd, hbl, hw]; rfl
        unfold sgAt at HE
        obtain ⟨i, hi⟩ : ∃ i, Hid (idAt l a = i) := ⟨_, hide rfl⟩
        obtain ⟨n, hn⟩ : ∃ n, Hid (lenAt l a = n) := ⟨_, hide rfl⟩
        rw [hi.out, hn.out] at Ra
        rw [hi.out, hn.out] at HE
        rw [hi.out] at c2
        rw [hn.out] at c3 c4
        clear hE hw hub c1 c5
        go_wp2_with fail
        refine Ra.mono ?_
        rintro e w2 ⟨rfl, b2⟩
        have hB2 : w2.heap[B]? = some (.cells #[fp S] 24 (0, 0)) := by rw [b2.block B (lt_of_block hBr)]; exact hBr
        have b3 := below_alloc w2 (Obj.cells #[.bool true, .int .i64 ((a : Int) + 3), .int .i64 (n : Int)] 105)
        have N := note_any _ B S p ac tu en kk ((hS.below b2).below b3) (by rw [b3.block B (lt_of_block hB2)]; exact hB2) i c2 true (a + 3) n
        rw [show ((a + 3 : Nat) : Int) = (a : Int) + 3 by omega] at N
        have hSl := (hS.below b2).lt
        have hv : (w2.alloc (Obj.cells #[.bool true, .int .i64 ((a : Int) + 3), .int .i64 (n : Int)] 105)).heap[w2.heap.size]? = some (.cells #[.bool true, .int .i64 ((a : Int) + 3), .int .i64 (n : Int)] 105) := heap_alloc_new _ _
        go_wp2_with fail
        refine N.mono ?_
        rintro e w3 ⟨rfl, h3, k3⟩
        have hv3 := k3.other hv (by omega)
        have cn : w3.cell? ⟨w2.heap.size, 2, none⟩ = some (.int .i64 (n : Int)) := by simp [World.cell?, hv3]
        have hB3 := k3.other (by rw [b3.block B (lt_of_block hB2)]; exact hB2) hne
        have K3 : Hid (Kept S w w3) := hide (((hK.below b2).below b3).trans k3)
        clear hv hv3 k3 N
        go_wp2_with fail
        go_roundw
        case rel => exact ⟨a + 4 + n, g, _, by go_num, by omega, h3, hB3, K3.out, hide (by have := hf.out; omega), HE⟩
        case measure => simp [intOf]; omega
    · have hlt' : decide ((a : Int) < (u : Int)) = false := decide_eq_false (by omega)
      have hbl : blankB l a = true := by
        cases hb : blankB l a
        · exact absurd ((hub a).2 hb) hlt
        · rfl
      have HE : Hid ((K, E, c) = (kk, a, true)) := by
        show _ = _
        rw [← hr.out, hE.out, rd, hbl]; rfl
      clear hE hr hub hbl
      go_wp2_with fail
      go_ret2
      have := HE.out
      injection this with e1 e2
      injection e2 with e2 e3
      subst e1 e2 e3
      exact ⟨rfl, hS, hK⟩
end Go.Proofs.Ytcjahdgppnmdkaa
set_option maxRecDepth 100000
namespace Go.Proofs.Ytcjahdgppnmdkaa
open Go.RowKit Go.Great
theorem find_any (w : World) (S : Nat) (p : Value) (ac tu en : Int) (k : Kp) (h : So w S p ac tu en k) (s : ByteArray) (hs : s.size = 4096) : Calls Try.prog 81 #[fp S, .string s] w fun e w' => e = .returned (.bool (rd s.data.toList 4096 1 k).2.2) ∧ So w' S p ac tu ((rd s.data.toList 4096 1 k).2.1 : Int) (rd s.data.toList 4096 1 k).1 ∧ Kept S w w' := by
  have b1 := below_alloc w (.cells #[fp S] 24)
  have hls := h.lt
  have hB : (w.alloc (.cells #[fp S] 24)).drew.heap[w.heap.size]? = some (.cells #[fp S] 24 (0, 0)) := by
    show (w.alloc (.cells #[fp S] 24)).heap[w.heap.size]? = _
    exact heap_alloc_new _ _
  have A := recs_any _ w.heap.size S p ac tu en k (h.below b1).drew hB s hs
  obtain ⟨⟨K, E, c⟩, hr⟩ : ∃ r, Hid (rd s.data.toList 4096 1 k = r) := ⟨_, hide rfl⟩
  rw [hr.out] at A ⊢
  simp only at A ⊢
  have hmf : ∀ (fn : Fn) (first cap : Array Value) (w : World), (Instr.makeFunc fn first cap).run Try.prog w = .ok (.func fn first cap) w := fun _ _ _ _ => rfl
  have cB : (w.alloc (.cells #[fp S] 24)).drew.cell? ⟨w.heap.size, 0, none⟩ = some (fp S) := cell_of_one hB
  go_enter Try.func81, Try.ntmps81
  go_wp2_with fail
  go_region_with (go_at_call 104; refine A.mono ?_; rintro e w2 ⟨rfl, h2, k2⟩; have c3 := h2.c3; have f3 := h2.frozen 3; have cB2 := cell_of_one (k2.other hB (Nat.ne_of_gt hls)))
  all_goals
    go_wp2_with fail
    go_ret
    exact ⟨rfl, h2.s3 E, ((((Kept.refl S w).alloc _).drew).trans k2).set _ _⟩
end Go.Proofs.Ytcjahdgppnmdkaa
